import Derived.Test.YteciabdjkaackaaGreatPUL1ToUA1
namespace Go.Proofs.YteciabdjkaackaaGreat
set_option linter.unusedVariables false
open Go.RowKit
structure TwR {α β : Type} (τ : TypeId) (k : Nat) (f : α -> List Value) (σ : TypeId) (l : Nat) (g : β -> List Value) (w : World) (O : List α) (S : List β) (vo vs : Value) (wr : World) : Prop where
 o : RO τ k f wr vo O
 s : RO σ l g wr vs S
 oo : ∀ j, vo.ownBlock = some j -> w.heap.size <= j
 so : ∀ j, vs.ownBlock = some j -> w.heap.size <= j
 ne : ∀ j, vo.ownBlock = some j -> vs.ownBlock ≠ some j
 bel : Below w.heap.size w wr
section
variable {α β : Type} {τ σ : TypeId} {k l : Nat} {f : α -> List Value} {g : β -> List Value} {w wr w1 w4 : World} {O O' : List α} {S S' : List β} {vo vs v' : Value}
theorem TwR.any (h : TwR τ k f σ l g w O S vo vs wr) (hb : Below wr.heap.size wr w1) : TwR τ k f σ l g w O S vo vs w1 :=
 ⟨h.o.later hb, h.s.later hb, h.oo, h.so, h.ne, h.bel.trans (hb.mono h.bel.size)⟩
theorem TwR.swap (h : TwR τ k f σ l g w O S vo vs wr) : TwR σ l g τ k f w S O vs vo wr := ⟨h.s, h.o, h.so, h.oo, fun j hj hj' => h.ne j hj' hj, h.bel⟩
theorem TwR.out (h : TwR τ k f σ l g w O S vo vs wr) (hb : Below wr.heap.size wr w1) (hg : Grew w1 w4 vo v') (hi : RO τ k f w4 v' O') : TwR τ k f σ l g w O' S v' vs w4 := by
 have h1 := h.any hb
 refine ⟨hi, h1.s.kept (fun j hj => hg.grown.block j (h1.s.lt j hj) (fun e => h.ne j e.symm hj)), fun j hj => hg.own h1.bel.size h.oo j hj, h.so, fun j hj e => ?_, hg.below h1.bel (Nat.le_refl _) (fun j hj => h.oo j hj)⟩
 rcases hg.moved with q | ⟨i, q, hq⟩
 ·exact h.ne j (by rw [<- q]; exact hj) e
 ·rw [q] at hj
  have := h1.s.lt j e
  simp at hj
  omega
theorem TwR.push (h : TwR τ k f σ l g w O S vo vs wr) (hb : Below wr.heap.size wr w1) (hg : Grew w1 w4 vs v') (hi : RO σ l g w4 v' S') : TwR τ k f σ l g w O S' vo v' w4 := (h.swap.out hb hg hi).swap
end
theorem slice_trU (b lc len i : Nat) (hi : i <= lc) (w : World) : (Instr.slice 24 (.slice (some ⟨b, 0, none⟩) len lc) none (some (.int .i64 (i : Int))) none).run Tryz.prog w = .ok (.slice (some ⟨b, 0, none⟩) i lc) w := by
 have hu : Tryz.prog.underlying 24 = some (.slice (Tryz.prog.elem 24)) := by kernel_rfl
 have he : Tryz.prog.elem 24 = 26 := by kernel_rfl
 obtain ⟨i0, z, hinf, _, hz1, _⟩ := rkTree.info
 have := run_slice_h (P := Tryz.prog) (w := w) 24 (some ⟨b, 0, none⟩) len lc hu .i64 (i : Int) (by omega) (by omega)
 rw [this, he]
 simp [sizeOf, typeInfo, hinf, hz1]
 unfold sliced
 split <;> simp [add_none]
def ndB (t : TV) : List Int := (nodP (posT t)).reverse
def ndK (S : List TV) : List Int := S.reverse.flatMap ndB
theorem nodP_posL : ∀ l : List TV, nodP (posL l) = l.flatMap fun x => nodP (posT x)
 | [] => rfl
 | a :: l => by rw [posL, List.flatMap_cons, nodP_app, List.flatMap_cons, <- nodP_posL l]; rfl
theorem ndB_eq (t : TV) : ndB t = (if t.prod = -1 then [] else [t.prod]) ++ ndK t.kids := by
 unfold ndB ndK
 rw [posT_eq, nodP_app, nodP_posL, List.reverse_append]
 congr 1
 ·by_cases h : t.prod = -1
  ·rw [if_pos h]; simp [nodP, h]
  ·rw [if_neg h]; simp [nodP, h]
 ·rw [List.reverse_flatMap]
  rfl
theorem ndK_app (l m : List TV) : ndK (l ++ m) = ndK m ++ ndK l := by
 unfold ndK
 rw [List.reverse_append, List.flatMap_append]
theorem ndK_one (t : TV) : ndK [t] = ndB t := by simp [ndK]
theorem ndK_top (S : List TV) (x : TV) : ndK (S ++ [x]) = (if x.prod = -1 then [] else [x.prod]) ++ ndK (S ++ x.kids) := by
 rw [ndK_app, ndK_one, ndB_eq, ndK_app, List.append_assoc]
set_option linter.unusedSimpArgs false in
set_option maxRecDepth 100000 in
set_option maxHeartbeats 8000000 in
theorem rright_S (t : TV) (w : World) (ht : TAt w t) (hsz : szT t <= 100000000) : Calls Tryz.prog 21 #[t.val] w fun e w' => ∃ a c, e = .returned (.slice a (nodP (posT t)).length c) /\ ILo w' (.slice a (nodP (posT t)).length c) (nodP (posT t)) /\ Below w.heap.size w w' := by
 obtain ⟨k1, k2, k3⟩ := two_allocT w (tBox t) (tBox t)
 have T0 : Hid (TwR 3 1 inC8 26 4 trCells w [] [t] (.slice none 0 0) (.slice (some ⟨w.heap.size + 1, 0, none⟩) 1 1) ((w.alloc (tBox t)).alloc (tBox t))) := ⟨RO.nil _, tro_one k3, fun j hj => by simp [Value.ownBlock] at hj, fun j hj => by simp [Value.ownBlock] at hj; omega, fun j hj => by simp [Value.ownBlock] at hj, k1⟩
 have L0 : Hid ([] ++ ndK [t] = (nodP (posT t)).reverse) := by
  show _ = _
  rw [ndK_one]; rfl
 have HX : Hid (∀ x ∈ [t], TAt w x) := fun x hx => by
  obtain rfl := List.mem_singleton.1 hx
  exact ht
 have HZ : Hid (szL [t] <= 100000000) := by show _ <= _; simpa [szL] using hsz
 obtain ⟨x0, x1, x2, x3⟩ := tb_cells k2
 generalize nodP (posT t) = R at *
 clear ht hsz k1 k2 k3
 go_enter Tryz.func21, Tryz.ntmps21
 go_upto_region 3 with fail
 clear x0 x1 x2 x3
 go_loopg [3, 4] (szL [t] + 1) (fun gk vb vs wr => ∃ B S, TwR 3 1 inC8 26 4 trCells w B S vb vs wr /\ B ++ ndK S = R.reverse /\ szL S < gk /\ (∀ x ∈ S, TAt w x) /\ B.length + szL S <= 100000000)
 case atStart => exact ⟨[], [t], T0.out, L0.out, Nat.lt_succ_self _, HX.out, by have := HZ.out; simpa using this⟩
 case round =>
  clear T0 L0 HX HZ
  obtain ⟨B, S, hT, hL, hg, hX, hz⟩ := hrel
  by_cases hD : S = []
  ·subst hD
   obtain ⟨sa, sc, rfl, _⟩ := RO.len hT.s
   obtain ⟨ba, bc, rfl, _⟩ := RO.len hT.o
   have e : R = B.reverse := by
    rw [show ndK [] = [] from rfl, List.append_nil] at hL
    rw [hL, List.reverse_reverse]
   have HB : Hid (TwR 3 1 inC8 3 1 inC8 w B [] (.slice ba B.length bc) (.slice none 0 0) wr) := ⟨hT.o, RO.nil _, hT.oo, fun j hj => by simp [Value.ownBlock] at hj, fun j _ e => by simp [Value.ownBlock] at e, hT.bel⟩
   have HBL : Hid (B.length <= 100000000) := by show _ <= _; omega
   have HE : Hid (R = B.reverse) := e
   have o1 : IntKind.i64.wrap ((B.length : Int) - 1) = (B.length : Int) - 1 := IntWalk.i64_in _ ⟨by omega, by omega⟩
   clear hT hL hg hX hz e
   simp only [List.length_nil] at *
   go_wp2
   go_loopw [6, 7] (fun vo z wq => ∃ k : Nat, k <= B.length /\ z = .int .i64 ((k : Int) - 1) /\ TwR 3 1 inC8 3 1 inC8 w B (B.drop k).reverse (.slice ba B.length bc) vo wq) (fun _ z _ => (intOf z + 1).toNat)
   case atStart => exact ⟨B.length, Nat.le_refl _, by go_num, by rw [List.drop_length, List.reverse_nil]; exact HB.out⟩
   case round =>
    clear HB o1
    obtain ⟨k, hk, rfl, hT⟩ := hrel
    rcases Nat.eq_zero_or_pos k with rfl | hpos
    ·obtain ⟨oa, oc, rfl, _⟩ := RO.len hT.s
     rw [List.drop_zero] at hT
     have F : Hid (ILo wr (.slice oa B.reverse.length oc) B.reverse /\ Below w.heap.size w wr) := ⟨hT.s, hT.bel⟩
     clear hT hk
     go_wp2
     go_ret
     rw [HE.out]
     exact ⟨oa, oc, rfl, F.out⟩
    ·obtain ⟨m, rfl⟩ : ∃ m, k = m + 1 := ⟨k - 1, by omega⟩
     have hlt : m < B.length := by omega
     obtain ⟨b, c, hv, hc, hcell⟩ := RO.cell (f := inC8) (k := 1) (fun _ => rfl) hT.o hlt
     simp only [Value.slice.injEq, true_and] at hv
     obtain ⟨hba, -⟩ := hv
     have c0 := hcell 0 (by omega)
     simp only [inC8, List.getElem?_cons_zero, Nat.mul_one, Nat.add_zero] at c0
     obtain ⟨z, hzz⟩ : ∃ z, B[m] = z := ⟨_, rfl⟩
     rw [hzz] at c0
     obtain ⟨oa, oc, rfl, _⟩ := RO.len hT.s
     have HN : Hid ((B.drop m).reverse = (B.drop (m + 1)).reverse ++ [z]) := by
      show _ = _
      rw [List.drop_eq_getElem_cons hlt, List.reverse_cons, hzz]
     have LN : Hid ((B.drop (m + 1)).reverse.length <= 1000000000) := by
      show _ <= _
      have := HBL.out
      simp only [List.length_reverse, List.length_drop]
      omega
     have HT : Hid (TwR 3 1 inC8 3 1 inC8 w B (B.drop (m + 1)).reverse (.slice ba B.length bc) (.slice oa (B.drop (m + 1)).reverse.length oc) wr) := hT
     have NC : Hid (∀ j u, (inC8 z)[j]? = some u -> (wr.alloc (.cells #[.int .i64 z] 3)).cell? ⟨wr.heap.size, j, none⟩ = some u) := fun j u hu => by
      rw [cellq_any (heap_alloc_new wr (.cells #[.int .i64 z] 3)), <- hu]
      simp [inC8]
     have g1 : (m : Int) < (B.length : Int) := by omega
     have e0 : ((m + 1 : Nat) : Int) - 1 = (m : Int) := by omega
     rw [e0]
     have o2 : IntKind.i64.wrap ((m : Int) - 1) = (m : Int) - 1 := IntWalk.i64_in _ ⟨by omega, by have := HBL.out; omega⟩
     clear hT hcell hc hk hpos hlt hzz e0
     subst hba
     generalize (B.drop (m + 1)).reverse = D at *
     obtain ⟨L, hLB⟩ : ∃ L, B.length = L := ⟨_, rfl⟩
     rw [hLB] at HT g1 ⊢
     have HLB : Hid (B.length = L) := hLB
     clear hLB
     go_wp2_with (at_builtin; refine wpList_ro_append rkInt8 rfl _ _ rfl (.slice oa D.length oc) D rfl (HT.out.s.later (below_alloc _ _)) wr.heap.size 1 z rfl NC.out LN.out ?_; intro a5 n5 c5 w5 ho5 hg5; have W5 : Hid (TwR 3 1 inC8 3 1 inC8 w B (D ++ [z]) (.slice (some ⟨b, 0, none⟩) L bc) (.slice a5 n5 c5) w5) := HT.out.push (below_alloc _ _) hg5 ho5; clear ho5 hg5 c0)
     go_roundw
     case rel => exact ⟨m, by have := HLB.out; omega, by go_num, by rw [HN.out]; exact W5.out⟩
     case measure => simp [intOf]
  ·obtain ⟨S', x, rfl⟩ : ∃ d x, S = d ++ [x] := ⟨S.dropLast, S.getLast hD, (List.dropLast_concat_getLast hD).symm⟩
   obtain ⟨b, c, rfl, hc, hcell, hP⟩ := RO.pop (f := trCells) (fun _ => rfl) hT.s
   have c0 := hcell 0 (by omega)
   have c1 := hcell 1 (by omega)
   have c2 := hcell 2 (by omega)
   have c3 := hcell 3 (by omega)
   simp only [trCells, List.getElem?_cons_zero, List.getElem?_cons_succ, Nat.add_zero] at c0 c1 c2 c3
   obtain ⟨ba, bc, rfl, _⟩ := RO.len hT.o
   have HT : Hid (TwR 3 1 inC8 26 4 trCells w B S' (.slice ba B.length bc) (.slice (some ⟨b, 0, none⟩) S'.length c) wr) := ⟨hT.o, hP, hT.oo, hT.so, hT.ne, hT.bel⟩
   have HB : Hid (b < wr.heap.size) := hT.s.lt b rfl
   have hx := hX x (by simp)
   have e1 : szL (S' ++ [x]) = szL (S' ++ x.kids) + 1 := by
    have h1 := szT_eq x
    rw [szL_app, szL_app, szL_cons, h1]
    have : szL [] = 0 := rfl
    omega
   have hlen : S'.length + x.kids.length <= szL (S' ++ x.kids) := by
    have := szL_len (S' ++ x.kids)
    rwa [List.length_append] at this
   rw [ndK_top] at hL
   rw [e1] at hg hz
   have HXX : Hid (∀ y ∈ S' ++ x.kids, TAt w y) := fun y hy => by
    rcases List.mem_append.1 hy with hy | hy
    ·exact hX y (List.mem_append_left _ hy)
    ·exact hx.kid y hy
   have SRC : Hid (∀ w', Below w.heap.size w w' -> x.kids ≠ [] -> ∃ b off, x.ka = some ⟨b, off, none⟩ /\ ∀ j u, (x.kids.flatMap trCells)[j]? = some u -> w'.cell? ⟨b, off + j, none⟩ = some u) := fun w' hb hne => (hx.later hb).row.src hne
   have HG : Hid (szL (S' ++ x.kids) + 1 < gk /\ B.length + (szL (S' ++ x.kids) + 1) <= 100000000) := ⟨hg, hz⟩
   have HLN : Hid (S'.length + x.kids.length <= 1000000000 /\ B.length <= 1000000000) := ⟨by omega, by omega⟩
   have HL : Hid (B ++ ((if x.prod = -1 then [] else [x.prod]) ++ ndK (S' ++ x.kids)) = R.reverse) := hL
   have hs1 := slice_trU b c (S'.length + 1) S'.length (by omega)
   have hnb : S'.length <= 100000000 := by omega
   have g0 : (S'.length : Int) < (S'.length : Int) + 1 := by omega
   have g3 : (0 : Int) < (S'.length : Int) + 1 := by omega
   have BA : Hid (Below wr.heap.size wr (wr.alloc (tBox x))) := below_alloc _ _
   have XB : Hid ((wr.alloc (tBox x)).heap[wr.heap.size]? = some (tBox x)) := heap_alloc_new _ _
   clear hT hP hL hX hg hz hcell hx e1 hlen hD
   obtain ⟨n, hn⟩ : ∃ n, S'.length = n := ⟨_, rfl⟩
   rw [hn] at c0 c1 c2 c3 hs1 HT hc HLN hnb g0 g3 ⊢
   have HN : Hid (S'.length = n) := hn
   clear hn
   go_upto_region 6 with fail
   clear c0 c1 c2 c3 hs1 hc g0 g3 hnb
   refine wp_world (fun w' => ∃ b5, b5 = wr.heap.size /\ w'.heap[b5]? = some (tBox x) /\ TwR 3 1 inC8 26 4 trCells w B S' (.slice ba B.length bc) (.slice (some ⟨b, 0, none⟩) n c) w') ⟨_, rfl, XB.out, HT.out.any BA.out⟩ fun w2 h2 => ?_
   obtain ⟨b5, e5, h3, h4⟩ := h2
   rw [<- e5]
   have W2 : Hid (w2.heap[b5]? = some (tBox x) /\ TwR 3 1 inC8 26 4 trCells w B S' (.slice ba B.length bc) (.slice (some ⟨b, 0, none⟩) n c) w2) := ⟨h3, h4⟩
   have NB : Hid ((∀ j, (Value.slice ba B.length bc).ownBlock = some j -> j ≠ b5) /\ b ≠ b5) := ⟨fun j hj => by have := HT.out.o.lt j hj; omega, by have := HB.out; omega⟩
   clear e5 h3 h4 XB BA HT HB
   obtain ⟨y0, y1, y2, y3⟩ := tb_cells W2.out.1
   by_cases hp : x.prod = -1
   ·have q0 : (x.prod != -1) = false := by simpa using hp
    have HL2 : Hid (B ++ ndK (S' ++ x.kids) = R.reverse) := by
     have := HL.out
     rwa [if_pos hp, List.nil_append] at this
    clear hp HL
    go_wp2_with (at_builtin; refine wpList_ro_cat rkTree rfl _ _ rfl (.slice (some ⟨b, 0, none⟩) n c) S' rfl W2.out.2.s x.ka x.kc x.kids rfl (SRC.out _ W2.out.2.bel) (by rw [HN.out]; exact HLN.out.1) ?_; intro a9 n9 c9 w9 ho9 hg9; have H9 : Hid (TwR 3 1 inC8 26 4 trCells w B (S' ++ x.kids) (.slice ba B.length bc) (.slice a9 n9 c9) w9) := W2.out.2.push (Below.refl _ _) hg9 ho9; clear ho9 hg9 y0 y1 y2 y3)
    go_roundg (gk - 1)
    case measure => have := HG.out.1; omega
    case rel => exact ⟨B, S' ++ x.kids, H9.out, HL2.out, by have := HG.out.1; omega, HXX.out, by have := HG.out.2; omega⟩
   ·have q0 : (x.prod != -1) = true := by simpa using hp
    have HL2 : Hid ((B ++ [x.prod]) ++ ndK (S' ++ x.kids) = R.reverse) := by
     have := HL.out
     rwa [if_neg hp, <- List.append_assoc] at this
    have NC : Hid (∀ j u, (inC8 x.prod)[j]? = some u -> (w2.alloc (.cells #[.int .i64 x.prod] 3)).cell? ⟨w2.heap.size, j, none⟩ = some u) := fun j u hu => by
     rw [cellq_any (heap_alloc_new w2 (.cells #[.int .i64 x.prod] 3)), <- hu]
     simp [inC8]
    clear hp HL
    go_upto_region 8 with (at_builtin; refine wpList_ro_append rkInt8 rfl _ _ rfl (.slice ba B.length bc) B rfl (W2.out.2.o.later (below_alloc _ _)) w2.heap.size 1 x.prod rfl NC.out HLN.out.2 ?_; intro a7 n7 c7 w7 ho7 hg7; have W7 : Hid (w7.heap[b5]? = some (tBox x) /\ TwR 3 1 inC8 26 4 trCells w (B ++ [x.prod]) S' (.slice a7 n7 c7) (.slice (some ⟨b, 0, none⟩) n c) w7) := ⟨(hg7.grown.block _ (by have := lt_of_block W2.out.1; simp; omega) (fun e => NB.out.1 b5 e.symm rfl)).trans (((below_alloc w2 _).block _ (lt_of_block W2.out.1)).trans W2.out.1), W2.out.2.out (below_alloc _ _) hg7 ho7⟩; clear ho7 hg7 y0 y1 y2 y3)
    clear NC W2
    obtain ⟨y0, y1, y2, y3⟩ := tb_cells W7.out.1
    go_wp2_with (at_builtin; refine wpList_ro_cat rkTree rfl _ _ rfl (.slice (some ⟨b, 0, none⟩) n c) S' rfl W7.out.2.s x.ka x.kc x.kids rfl (SRC.out _ W7.out.2.bel) (by rw [HN.out]; exact HLN.out.1) ?_; intro a9 n9 c9 w9 ho9 hg9; have H9 : Hid (TwR 3 1 inC8 26 4 trCells w (B ++ [x.prod]) (S' ++ x.kids) (.slice a7 n7 c7) (.slice a9 n9 c9) w9) := W7.out.2.push (Below.refl _ _) hg9 ho9; clear ho9 hg9 y0 y1 y2 y3)
    go_roundg (gk - 1)
    case measure => have := HG.out.1; omega
    case rel => exact ⟨B ++ [x.prod], S' ++ x.kids, H9.out, HL2.out, by have := HG.out.1; omega, HXX.out, by have := HG.out.2; rw [List.length_append]; simp only [List.length_singleton]; omega⟩
theorem pl_split (t : TV) : ∀ (d : Int) (k : Nat) (h : k < (plT d t).length), ∃ A B, plT d t = A ++ (plT (plT d t)[k].d (plT d t)[k].t ++ B) /\ A.length = k /\ (plT d t)[k].s = (0, 0) /\ (plT d t)[k].u = false := by
 induction t using TV.ind with
 | _ t ih =>
  intro d k h
  have hL : ∀ l : List TV, (∀ x ∈ l, x ∈ t.kids) -> ∀ (e : Int) (j : Nat) (hj : j < (plL e l).length), ∃ A B, plL e l = A ++ (plT (plL e l)[j].d (plL e l)[j].t ++ B) /\ A.length = j /\ (plL e l)[j].s = (0, 0) /\ (plL e l)[j].u = false := fun l => by
   induction l with
   | nil => intro _ e j hj; rw [plL_nil] at hj; simp at hj
   | cons a l il =>
    intro hm e j hj
    have e0 : plL e (a :: l) = plT e a ++ plL e l := plL_cons ..
    by_cases hja : j < (plT e a).length
    ·obtain ⟨A, B, q1, q2, q3, q4⟩ := ih a (hm a (List.mem_cons_self ..)) e j hja
     have eg : (plL e (a :: l))[j] = (plT e a)[j] := by
      simp only [e0]
      exact List.getElem_append_left hja
     refine ⟨A, B ++ plL e l, ?_, q2, by rw [eg]; exact q3, by rw [eg]; exact q4⟩
     rw [eg, e0]
     conv => lhs; rw [q1]
     simp
    ·have hl2 : j - (plT e a).length < (plL e l).length := by
      rw [e0, List.length_append] at hj; omega
     obtain ⟨A, B, q1, q2, q3, q4⟩ := il (fun x hx => hm x (List.mem_cons_of_mem _ hx)) e _ hl2
     have eg : (plL e (a :: l))[j] = (plL e l)[j - (plT e a).length] := by
      simp only [e0]
      exact List.getElem_append_right (by omega)
     refine ⟨plT e a ++ A, B, ?_, by rw [List.length_append, q2]; omega, by rw [eg]; exact q3, by rw [eg]; exact q4⟩
     rw [eg, e0]
     conv => lhs; rw [q1]
     simp
  have e0 : plT d t = ⟨t, d, (0, 0), false⟩ :: plL (d + 1) t.kids := plT_eq d t
  cases k with
  | zero =>
   have eg : (plT d t)[0] = ⟨t, d, (0, 0), false⟩ := by simp only [e0]; rfl
   refine ⟨[], [], ?_, rfl, by rw [eg], by rw [eg]⟩
   rw [eg]
   simp
  | succ k =>
   have hj : k < (plL (d + 1) t.kids).length := by rw [e0] at h; simpa using h
   obtain ⟨A, B, q1, q2, q3, q4⟩ := hL t.kids (fun x hx => hx) (d + 1) k hj
   have eg : (plT d t)[k + 1] = (plL (d + 1) t.kids)[k] := by
    simp only [e0]
    exact List.getElem_cons_succ ..
   refine ⟨⟨t, d, (0, 0), false⟩ :: A, B, ?_, by rw [List.length_cons, q2], by rw [eg]; exact q3, by rw [eg]; exact q4⟩
   rw [eg, e0]
   conv => lhs; rw [q1]
   simp
theorem kidS_ok (x : SP) : ∀ y ∈ kidS x, y.s = (0, 0) /\ y.u = false := fun y hy => by
 obtain ⟨k, -, rfl⟩ := List.mem_map.1 hy
 exact ⟨rfl, rfl⟩
theorem kidS_len (x : SP) : (kidS x).length = x.t.kids.length := by simp [kidS]
set_option linter.unusedSimpArgs false in
set_option maxRecDepth 100000 in
set_option maxHeartbeats 4000000 in
theorem span_S (A B : List SP) (x : SP) (hx : x.s = (0, 0) /\ x.u = false) (P : List SP) (hP : P = A ++ (plT x.d x.t ++ B)) (w : World) (a : Option Addr) (c : Nat) (hr : FLo w (.slice a P.length c) P) (hl : P.length <= 100000000) :
  Calls Tryz.prog 42 #[.slice a P.length c, .int .i64 (A.length : Int)] w fun e w' => e = .returned (.int .i64 ((plT x.d x.t).length : Int)) /\ ∃ d, w' = w.drewN d := by
 obtain ⟨N, hN⟩ : ∃ N, (plT x.d x.t).length = N := ⟨_, rfl⟩
 obtain ⟨m, hm⟩ : ∃ m, A.length = m := ⟨_, rfl⟩
 have S0 : Hid (P.drop (m + 0) = plS [x] ++ B /\ 0 + (plS [x]).length = N /\ ∀ y ∈ [x], y.s = (0, 0) /\ y.u = false) := by
  refine ⟨?_, ?_, fun y hy => ?_⟩
  ·rw [hP, <- hm]
   simp [plS]
  ·rw [<- hN]; simp [plS]
  ·obtain rfl := List.mem_singleton.1 hy
   exact hx
 have HM : Hid (m + N <= P.length /\ P.length <= 100000000) := by
  refine ⟨?_, hl⟩
  rw [hP, List.length_append, List.length_append, hm, hN]
  omega
 have HR : Hid (FLo w (.slice a P.length c) P) := hr
 rw [hN, hm]
 clear hN hm hP hl hr
 go_enter Tryz.func42, Tryz.ntmps42
 go_wp2
 go_loopw [5, 6] (fun o z wr => ∃ (Q : List SP) (n d : Nat), o = .int .i64 (Q.length : Int) /\ z = .int .i64 (n : Int) /\ wr = w.drewN d /\ P.drop (m + n) = plS Q ++ B /\ n + (plS Q).length = N /\ ∀ y ∈ Q, y.s = (0, 0) /\ y.u = false) (fun _ z _ => N + 1 - (intOf z).toNat)
 case atStart => exact ⟨[x], 0, 0, rfl, rfl, rfl, S0.out⟩
 case round =>
  clear S0 hx
  obtain ⟨Q, n, d, rfl, rfl, rfl, h1, h2, h3⟩ := hrel
  cases Q with
  | nil =>
   have e : n = N := by
    rw [show plS [] = [] from rfl] at h2
    simpa using h2
   subst e
   clear h1 h2 h3
   go_wp2
   go_ret
   exact ⟨rfl, _, rfl⟩
  | cons y Q =>
   have e1 : plS (y :: Q) = y :: (plS (kidS y) ++ plS Q) := by
    have := plS_app [y] Q
    rw [plS_one y (h3 y (List.mem_cons_self ..))] at this
    exact this
   rw [e1] at h1 h2
   have hlt : m + n < P.length := by
    by_cases h : m + n < P.length
    ·exact h
    ·rw [List.drop_eq_nil_of_le (by omega)] at h1
     cases h1
   have hg : P[m + n] = y := by
    have := List.drop_eq_getElem_cons hlt
    rw [this] at h1
    injection h1
   have hd : P.drop (m + (n + 1)) = plS (kidS y ++ Q) ++ B := by
    have := List.drop_eq_getElem_cons hlt
    rw [this] at h1
    injection h1 with _ h1
    rw [plS_app]
    exact h1
   obtain ⟨b, c', hv, hc, hcell⟩ := RO.cell (f := flCells) (k := 4) (fun _ => rfl) HR.out hlt
   simp only [Value.slice.injEq, true_and] at hv
   obtain ⟨rfl, -⟩ := hv
   rw [hg] at hcell
   have c3 := hcell 3 (by omega)
   simp only [flCells, List.getElem?_cons_zero, List.getElem?_cons_succ] at c3
   have NX : Hid (P.drop (m + (n + 1)) = plS (kidS y ++ Q) ++ B /\ (n + 1) + (plS (kidS y ++ Q)).length = N /\ ∀ z ∈ kidS y ++ Q, z.s = (0, 0) /\ z.u = false) := ⟨hd, by rw [plS_app, List.length_append]; rw [List.length_cons, List.length_append] at h2; omega, fun z hz => by
    rcases List.mem_append.1 hz with hz | hz
    ·exact kidS_ok y z hz
    ·exact h3 z (List.mem_cons_of_mem _ hz)⟩
   have HK : Hid ((kidS y ++ Q).length = Q.length + y.t.kids.length /\ n < N) := ⟨by rw [List.length_append, kidS_len]; omega, by rw [List.length_cons] at h2; omega⟩
   have hb1 : Q.length + y.t.kids.length <= 100000000 := by
    have q1 := plS_len (kidS y ++ Q)
    have q2 := HM.out
    have q3 := NX.out.2.1
    have q4 := HK.out
    omega
   have hb2 : m + n < 100000000 := by have := HM.out; omega
   have hlt2 : (m : Int) + (n : Int) < (P.length : Int) := by omega
   obtain ⟨ln, hln⟩ : ∃ ln, y.t.kids.length = ln := ⟨_, rfl⟩
   rw [hln] at c3 hb1 HK
   clear h1 h2 h3 e1 hg hd hcell hc hln hlt
   generalize P.length = pl at *
   rw [show (y :: Q).length = Q.length + 1 from rfl]
   go_wp2
   go_roundw
   case rel => exact ⟨kidS y ++ Q, n + 1, _, by rw [HK.out.1]; go_num, by go_num, rfl, NX.out⟩
   case measure => simp [intOf]; have := HK.out; omega
end Go.Proofs.YteciabdjkaackaaGreat
