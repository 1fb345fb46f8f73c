import Derived.Test.YteciabdjkaackaaGreatPFSetToTT6
import Derived.Test.YteciabdjkaackaaGreatPTL1
import Derived.Test.YteciabdjkaackaaGreatPTDcToTDe
namespace Go.Proofs.YteciabdjkaackaaGreat
set_option linter.unusedVariables false
open Go.RowKit
def ndS (l : List SP) : List Int := nodP (l.map (·.t))
theorem ndS_len (l : List SP) : (ndS l).length <= l.length := by
 have := nodP_len (l.map (·.t))
 rw [List.length_map] at this
 exact this
theorem ndS_take {l : List SP} {k : Nat} {x : SP} (h : l[k]? = some x) : ndS (l.take (k + 1)) = ndS (l.take k) ++ if x.t.prod = -1 then [] else [x.t.prod] := by
 unfold ndS
 rw [List.take_add_one, h, List.map_append, nodP_app]
 congr 1
 by_cases q : x.t.prod = -1
 ·rw [if_pos q]; simp [nodP, q]
 ·rw [if_neg q]; simp [nodP, q]
structure NdW (w : World) (P : List SP) (O : List Int) (vp vo : Value) (wr : World) : Prop where
 p : SPo wr vp P
 o : ILo wr vo O
 po : ∀ j, vp.ownBlock = some j -> w.heap.size < j
 oo : ∀ j, vo.ownBlock = some j -> w.heap.size < j
 ne : ∀ j, vp.ownBlock = some j -> vo.ownBlock ≠ some j
 big : w.heap.size < wr.heap.size
 bel : Below w.heap.size w wr
theorem NdW.any {w wr w' : World} {P : List SP} {O : List Int} {vp vo : Value} (h : NdW w P O vp vo wr) (hb : Below wr.heap.size wr w') : NdW w P O vp vo w' :=
 ⟨h.p.later hb, h.o.later hb, h.po, h.oo, h.ne, Nat.lt_of_lt_of_le h.big hb.size, h.bel.trans (hb.mono (Nat.le_of_lt h.big))⟩
theorem NdW.out {w wr w1 w4 : World} {P : List SP} {O : List Int} {vp vo v' : Value} {y : Int} (h : NdW w P O vp vo wr) (hb : Below wr.heap.size wr w1) (hg : Grew w1 w4 vo v') (hi : ILo w4 v' (O ++ [y])) : NdW w P (O ++ [y]) vp v' w4 := by
 have h1 := h.any hb
 have hbig := h1.big
 refine ⟨h1.p.kept (fun j hj => hg.grown.block j (h1.p.lt j hj) (fun e => h.ne j hj e.symm)), hi, h.po, fun j hj => hg.own (n := w.heap.size + 1) hbig h.oo j hj, fun j hj e => ?_, Nat.lt_of_lt_of_le hbig hg.grown.size, hg.below h1.bel (Nat.le_refl _) (fun j hj => Nat.le_of_lt (h.oo j hj))⟩
 rcases hg.moved with q | ⟨i, q, hq⟩
 ·exact h.ne j hj (by rw [<- q]; exact e)
 ·rw [q] at e
  have := h1.p.lt j hj
  simp at e
  omega
set_option linter.unusedSimpArgs false in
set_option maxRecDepth 100000 in
set_option maxHeartbeats 8000000 in
theorem rleft_S (t : TV) (w : World) (ht : TAt w t) (hsz : (plT 0 t).length <= 100000000) : Calls Tryz.prog 19 #[t.val] w fun e w' => ∃ a c, e = .returned (.slice a (ndS (plT 0 t)).length c) /\ ILo w' (.slice a (ndS (plT 0 t)).length c) (ndS (plT 0 t)) /\ Below w.heap.size w w' := by
 have PC : Hid (Calls Tryz.prog 38 #[t.val] (w.alloc (tBox t)) fun e w' => ∃ a c, e = .returned (.slice a (plT 0 t).length c) /\ SPo w' (.slice a (plT 0 t).length c) (plT 0 t) /\ (∀ j, (Value.slice a (plT 0 t).length c).ownBlock = some j -> (w.alloc (tBox t)).heap.size < j) /\ Below (w.alloc (tBox t)).heap.size (w.alloc (tBox t)) w') := places_S t _ (ht.later (below_alloc _ _)) hsz
 have BA : Hid (Below w.heap.size w (w.alloc (tBox t))) := below_alloc _ _
 have HZ : Hid ((w.alloc (tBox t)).heap.size = w.heap.size + 1) := by simp [Hid]
 have HSZ : Hid ((plT 0 t).length <= 100000000) := hsz
 generalize plT 0 t = P at *
 clear ht
 go_enter Tryz.func19, Tryz.ntmps19
 go_wp2_with (go_at_call 38; refine PC.out.mono ?_; rintro e w1 ⟨pa, pc, rfl, hp1, ho1, b1⟩; have W1 : Hid (NdW w P [] (.slice pa P.length pc) (.slice none 0 0) w1) := ⟨hp1, RO.nil _, fun j hj => by have := ho1 j hj; have := HZ.out; omega, fun j hj => by simp [Value.ownBlock] at hj, fun j _ e => by simp [Value.ownBlock] at e, by have := b1.size; have := HZ.out; omega, BA.out.trans (b1.mono BA.out.size)⟩; clear hp1 ho1 b1)
 clear PC BA HZ
 go_loopw [3, 5] (fun vo z wr => ∃ k : Nat, k <= P.length /\ z = .int .i64 k /\ NdW w P (ndS (P.take k)) (.slice pa P.length pc) vo wr) (fun _ z _ => P.length - (intOf z).toNat)
 case atStart => exact ⟨0, Nat.zero_le _, rfl, by rw [List.take_zero]; exact W1.out⟩
 case round =>
  clear W1
  obtain ⟨k, hk, rfl, hF⟩ := hrel
  obtain ⟨oa, oc, rfl, _⟩ := hF.o.len
  by_cases hlt : k < P.length
  ·have klt : (k : Int) < (P.length : Int) := by omega
   obtain ⟨b, c, hv, hc, hcell⟩ := RO.cell (f := spCells) (fun _ => rfl) hF.p hlt
   simp only [Value.slice.injEq, true_and] at hv
   obtain ⟨hpa, -⟩ := hv
   obtain ⟨x, hx⟩ : ∃ x, P[k] = x := ⟨_, rfl⟩
   rw [hx] at hcell
   have c0 := hcell 0 (by omega)
   have c1 := hcell 1 (by omega)
   have c2 := hcell 2 (by omega)
   simp only [spCells, List.getElem?_cons_zero, List.getElem?_cons_succ, Nat.add_zero] at c0 c1 c2
   have hPk : P[k]? = some x := by rw [<- hx]; exact List.getElem?_eq_getElem hlt
   have HT : Hid (ndS (P.take (k + 1)) = ndS (P.take k) ++ if x.t.prod = -1 then [] else [x.t.prod]) := ndS_take hPk
   have HTL : Hid ((ndS (P.take k)).length <= 1000000000) := by
    have h1 := ndS_len (P.take k)
    have h2 := HSZ.out
    rw [List.length_take] at h1
    show (ndS _).length <= _
    omega
   have HF : Hid (NdW w P (ndS (P.take k)) (.slice pa P.length pc) (.slice oa (ndS (P.take k)).length oc) wr) := hF
   have hsz2 := HSZ.out
   clear hF hcell hc hx hPk
   subst hpa
   by_cases hp : ¬ x.t.prod = -1
   ·have e0 : (x.t.prod != -1) = true := by simpa using hp
    rw [if_neg hp] at HT
    have HNX : Hid (∀ j u, (inC8 x.t.prod)[j]? = some u -> (wr.alloc (.cells #[.int .i64 x.t.prod] 3)).cell? ⟨wr.heap.size, j, none⟩ = some u) := fun j u hu => by
     rw [cellq_any (heap_alloc_new wr (.cells #[.int .i64 x.t.prod] 3)), <- hu]
     simp [inC8]
    clear hp
    generalize ndS (P.take k) = T at *
    go_wp2_with (at_builtin; refine wpList_ro_append rkInt8 rfl _ _ rfl (.slice oa T.length oc) T rfl (HF.out.o.later (below_alloc _ _)) wr.heap.size 1 x.t.prod rfl HNX.out HTL.out ?_; intro a5 n5 c5 w5 ho5 hg5; have W5 : Hid (NdW w P (T ++ [x.t.prod]) (.slice (some ⟨b, 0, none⟩) P.length pc) (.slice a5 n5 c5) w5) := HF.out.out (below_alloc _ _) hg5 ho5; clear ho5 hg5 c0 c1 c2)
    go_roundw
    case rel => exact ⟨k + 1, by omega, by go_num, by rw [HT.out]; exact W5.out⟩
    case measure => simp [intOf]; omega
   ·have e0 : (x.t.prod != -1) = false := by simpa using hp
    rw [if_pos (Decidable.of_not_not hp), List.append_nil] at HT
    clear hp
    go_wp2
    go_roundw
    case rel => exact ⟨k + 1, by omega, by go_num, by rw [HT.out]; exact HF.out⟩
    case measure => simp [intOf]; omega
  ·obtain rfl : k = P.length := by omega
   rw [List.take_length] at hF
   have HF : Hid (ILo wr (.slice oa (ndS P).length oc) (ndS P) /\ Below w.heap.size w wr) := ⟨hF.o, hF.bel⟩
   have klt : ¬ (P.length : Int) < (P.length : Int) := by omega
   clear hF
   go_wp2
   go_ret
   exact ⟨oa, oc, by simp, HF.out⟩
theorem pl_at {w : World} (t : TV) : TAt w t -> ∀ d, ∀ x ∈ plT d t, TAt w x.t /\ szT x.t <= szT t := by
 induction t using TV.ind with
 | _ t ih =>
  intro h d x hx
  rw [plT_eq] at hx
  rcases List.mem_cons.1 hx with rfl | hx
  ·exact ⟨h, Nat.le_refl _⟩
  ·obtain ⟨k, hk, hx⟩ := List.mem_flatMap.1 hx
   obtain ⟨q1, q2⟩ := ih k hk (h.kid k hk) (d + 1) x hx
   have h1 := szL_mem hk
   have h2 := szT_eq t
   exact ⟨q1, by omega⟩
def rAtR (t : TV) (place : Int) (T : TV) (e : Int) : Prop := if 0 <= place /\ place < szT t then e = 0 /\ samV ((preT t).getD place.toNat .none) T else e = 4 /\ T = .none
set_option linter.unusedSimpArgs false in
set_option maxRecDepth 100000 in
set_option maxHeartbeats 8000000 in
theorem rat_S (t : TV) (place : Int) (w : World) (hpl : -9223372036854775808 <= place /\ place <= 9223372036854775807) (ht : TAt w t) (hsz : szT t <= 100000000) : Calls Tryz.prog 9 #[t.val, .int .i64 place] w fun e w' => ∃ T e1, e = .returned (.tuple #[T.val, .int .i64 e1]) /\ rAtR t place T e1 /\ TAt w' T /\ Below w.heap.size w w' := by
 have hz : ((w.alloc (tBox t)).alloc zTree).heap.size = w.heap.size + 1 + 1 := by simp
 obtain ⟨k1, k2, k3⟩ := two_allocT w (tBox t) zTree
 have X0 : Hid (Below w.heap.size w ((w.alloc (tBox t)).alloc zTree) /\ ((w.alloc (tBox t)).alloc zTree).heap[w.heap.size]? = some (tBox t) /\ ((w.alloc (tBox t)).alloc zTree).heap[w.heap.size + 1]? = some zTree) := ⟨k1, k2, k3⟩
 have PC : Hid (Calls Tryz.prog 38 #[t.val] ((w.alloc (tBox t)).alloc zTree) fun e w' => ∃ a c, e = .returned (.slice a (plT 0 t).length c) /\ SPo w' (.slice a (plT 0 t).length c) (plT 0 t) /\ (∀ j, (Value.slice a (plT 0 t).length c).ownBlock = some j -> ((w.alloc (tBox t)).alloc zTree).heap.size < j) /\ Below ((w.alloc (tBox t)).alloc zTree).heap.size ((w.alloc (tBox t)).alloc zTree) w') := places_S t _ (ht.later k1) hsz
 obtain ⟨x0, x1, x2, x3⟩ := tb_cells k2
 go_enter Tryz.func9, Tryz.ntmps9
 go_upto_region 2 with (go_at_call 38; refine PC.out.mono ?_; rintro e w1 ⟨pa, pc, rfl, hp1, ho1, b1⟩; have W1 : Hid (SPo w1 (.slice pa (plT 0 t).length pc) (plT 0 t) /\ Below w.heap.size w w1 /\ w1.heap[w.heap.size + 1]? = some zTree) := ⟨hp1, k1.trans (b1.mono k1.size), (b1.block _ (lt_of_block k3)).trans k3⟩; clear hp1 ho1 b1 x0 x1 x2 x3)
 clear PC X0 k1 k2 k3 hz
 have hP : (plT 0 t).length = szT t := rfl
 by_cases hin : 0 <= place /\ place < szT t
 ·obtain ⟨n, hn⟩ : ∃ n : Nat, place = n := ⟨place.toNat, by omega⟩
  subst hn
  have hlt : n < (plT 0 t).length := by omega
  obtain ⟨x, hx⟩ : ∃ x, (plT 0 t)[n] = x := ⟨_, rfl⟩
  have hm : x ∈ plT 0 t := by rw [<- hx]; exact List.getElem_mem hlt
  obtain ⟨q1, q2⟩ := pl_at t ht 0 x hm
  obtain ⟨b, c, hv, hc, hcell⟩ := RO.cell (f := spCells) (fun _ => rfl) W1.out.1 hlt
  simp only [Value.slice.injEq, true_and] at hv
  obtain ⟨hpa, -⟩ := hv
  rw [hx] at hcell
  have c0 := hcell 0 (by omega)
  have c1 := hcell 1 (by omega)
  have c2 := hcell 2 (by omega)
  have c3 := hcell 3 (by omega)
  simp only [spCells, List.getElem?_cons_zero, List.getElem?_cons_succ, Nat.add_zero] at c0 c1 c2 c3
  have RA : Hid (∀ T, samV x.t T -> rAtR t n T 0) := fun T hs => by
   unfold rAtR
   rw [if_pos ⟨by omega, by omega⟩]
   refine ⟨rfl, ?_⟩
   have e : (preT t).getD (n : Int).toNat .none = x.t := by
    rw [<- pre_depth 0 t, <- hx]
    simp [List.getD, hlt]
   rw [e]
   exact hs
  have H2 : Hid (Below w.heap.size w w1 /\ w1.heap[w.heap.size + 1]? = some zTree) := W1.out.2
  have CC : Hid (Calls Tryz.prog 33 #[x.t.val] w1 fun e w' => ∃ T, e = .returned T.val /\ Below w1.heap.size w1 w' /\ samV x.t T /\ OwT w1.heap.size w' T) := copyTree_W x.t w1 (q1.later W1.out.2.1) (by omega)
  have FIN : Hid (∀ w3 T, Below w1.heap.size w1 w3 -> OwT w1.heap.size w3 T -> w3.heap[w.heap.size + 1]? = some zTree /\ Below w.heap.size w w3 /\ TBx (set4 w3 (w.heap.size + 1) 0 T) (w.heap.size + 1) 0 T /\ Below w.heap.size w (set4 w3 (w.heap.size + 1) 0 T) /\ TAt (set4 w3 (w.heap.size + 1) 0 T) T) := fun w3 T b3 o3 => by
   have hz : w3.heap[w.heap.size + 1]? = some zTree := (b3.block _ (lt_of_block H2.out.2)).trans H2.out.2
   have hb : Below w.heap.size w w3 := H2.out.1.trans (b3.mono H2.out.1.size)
   have hl := lt_of_block H2.out.2
   refine ⟨hz, hb, set4_tbx (v0 := .int .i64 0) (v1 := .int .i64 0) (v2 := .string ByteArray.empty) (v3 := .slice none 0 0) T ((cellq_any hz).trans rfl) ((cellq_any hz).trans rfl) ((cellq_any hz).trans rfl) ((cellq_any hz).trans rfl) (lt_of_block hz), set4_below hb 0 T (by omega), (((o3.mono H2.out.1.size).kept (fun a ha => set4_other _ _ _ _ _ ?_) (by rw [set4_size]; exact Nat.le_refl _)).ta)⟩
   have := (o3.ty a ha).1
   omega
  have g1 : decide ((n : Int) < 0) = false := by simp
  have g2 : decide ((n : Int) ≥ ((plT 0 t).length : Int)) = false := by simp; omega
  have g3 : (n : Int) < ((plT 0 t).length : Int) := by omega
  have g4 : (0 : Int) <= (n : Int) := by omega
  obtain ⟨k, hk⟩ : ∃ k, x.t = k := ⟨_, rfl⟩
  rw [hk] at c0 c1 c2 c3 RA CC
  clear hcell hc hin hm q1 q2 hx hlt hpl ht hsz H2 hP W1 hk
  generalize (plT 0 t).length = L at *
  subst hpa
  go_wp2_with (go_at_call 33; refine CC.out.mono ?_; rintro e w3 ⟨T, rfl, b3, s3, o3⟩; obtain ⟨z3, F⟩ := FIN.out w3 T b3 o3; have F3 : Hid (Below w.heap.size w w3 /\ TBx (set4 w3 (w.heap.size + 1) 0 T) (w.heap.size + 1) 0 T /\ Below w.heap.size w (set4 w3 (w.heap.size + 1) 0 T) /\ TAt (set4 w3 (w.heap.size + 1) 0 T) T) := F; have SM : Hid (samV k T) := s3; obtain ⟨d0, d1, d2, d3, f0, f1, f2, f3⟩ := z_cells z3; clear F s3 b3 o3 z3 c0 c1 c2 c3)
  change bodyPost _ _ _ _ _ (set4 w3 (w.heap.size + 1) 0 T)
  generalize set4 w3 (w.heap.size + 1) 0 T = w4 at *
  have x0 := F3.out.2.1.c0
  have x1 := F3.out.2.1.c1
  have x2 := F3.out.2.1.c2
  have x3 := F3.out.2.1.c3
  simp only [Nat.zero_add] at x1 x2 x3
  refine bodyPost_ret (v := .tuple #[T.val, .int .i64 0]) (by simp [results, Tryz.results9, go_sem, x0, x1, x2, x3]) rfl ?_
  exact ⟨T, 0, rfl, RA.out T SM.out, F3.out.2.2.2, F3.out.2.2.1⟩
 ·have RA : Hid (rAtR t place .none 4) := by
   unfold rAtR
   rw [if_neg hin]
   exact ⟨rfl, rfl⟩
  have H2 : Hid (Below w.heap.size w w1 /\ w1.heap[w.heap.size + 1]? = some zTree) := W1.out.2
  have z3 := H2.out.2
  obtain ⟨d0, d1, d2, d3, f0, f1, f2, f3⟩ := z_cells z3
  have F3 : Hid (TBx (set4 w1 (w.heap.size + 1) 0 .none) (w.heap.size + 1) 0 .none /\ Below w.heap.size w (set4 w1 (w.heap.size + 1) 0 .none)) := ⟨set4_tbx .none d0 d1 d2 d3 (lt_of_block z3), set4_below H2.out.1 0 .none (by omega)⟩
  have hor : decide (place < 0) = true ∨ (decide (place < 0) = false /\ decide (place ≥ ((plT 0 t).length : Int)) = true) := by
   by_cases h : place < 0
   ·exact .inl (by simpa using h)
   ·exact .inr ⟨by simpa using h, by simp; omega⟩
  clear z3 H2 W1 hin hpl ht hsz hP
  generalize (plT 0 t).length = L at *
  have END : Hid (∃ T e1, Value.tuple #[TV.none.val, .int .i64 4] = .tuple #[TV.val T, .int .i64 e1] /\ rAtR t place T e1 /\ ∀ w', TAt w' T) := ⟨.none, 4, rfl, RA.out, fun w' => TAt.mk _ (fun h => absurd rfl h) (fun x hx => by cases hx)⟩
  rcases hor with g1 | ⟨g1, g2⟩
  all_goals
   go_wp2
   change bodyPost _ _ _ _ _ (set4 w1 (w.heap.size + 1) 0 .none)
   generalize set4 w1 (w.heap.size + 1) 0 .none = w4 at *
   have x0 := F3.out.1.c0
   have x1 := F3.out.1.c1
   have x2 := F3.out.1.c2
   have x3 := F3.out.1.c3
   simp only [Nat.zero_add] at x1 x2 x3
   refine bodyPost_ret (v := .tuple #[TV.none.val, .int .i64 4]) (by simp [results, Tryz.results9, go_sem, x0, x1, x2, x3]) rfl ?_
   obtain ⟨T, e1, q1, q2, q3⟩ := END.out
   exact ⟨T, e1, by rw [q1], q2, q3 _, F3.out.2⟩
end Go.Proofs.YteciabdjkaackaaGreat
