import Derived.Test.YtfgdpmcpjpceoaaPTT4
namespace Go.Proofs.Ytfgdpmcpjpceoaa
set_option linter.unusedVariables false
set_option maxRecDepth 100000
set_option maxHeartbeats 16000000
open Go.RowKit
def tkCells (x : SP) : List Value := [.int .i64 x.t.kind, .string x.t.tx]
theorem rkTok : RK 28 47 2 tkCells := by
 refine ⟨Try.underlying47, ?_, by decide, fun _ => rfl, fun x u hu => ?_⟩
 ·have h : (Try.prog.info? 28).map (fun i => (i.zero, i.size, i.bytes)) = some (some (.agg #[.int .i64 0, .string ByteArray.empty]), 2, 24) := by kernel_rfl
  cases e : Try.prog.info? 28 with
  | none => rw [e] at h; cases h
  | some i =>
   rw [e] at h
   simp at h
   exact ⟨i, _, rfl, h.1, h.2.1, by rw [h.2.2]; decide, rfl⟩
 ·simp [tkCells] at hu
  rcases hu with rfl | rfl <;> rfl
abbrev TKo := RO 28 2 tkCells
def leafs (l : List SP) : List SP := l.filter fun x => decide (x.t.prod = -1)
theorem leafs_lv (l : List SP) : (leafs l).map (·.t.kind) = lv l := rfl
theorem leafs_take {l : List SP} {k : Nat} {x : SP} (h : l[k]? = some x) : leafs (l.take (k + 1)) = leafs (l.take k) ++ if x.t.prod = -1 then [x] else [] := by
 rw [List.take_add_one, h]
 unfold leafs
 rw [List.filter_append]
 congr 1
 by_cases q : x.t.prod = -1
 ·rw [if_pos q]; simp [q]
 ·rw [if_neg q]; simp [q]
structure YWs (w : World) (P O : List SP) (vp vo : Value) (wr : World) : Prop where
 p : SPo wr vp P
 o : TKo wr vo O
 po : ∀ j, vp.ownBlock = some j -> w.heap.size < j
 oo : ∀ j, vo.ownBlock = some j -> w.heap.size < j
 ne : ∀ j, vp.ownBlock = some j -> vo.ownBlock ≠ some j
 big : w.heap.size < wr.heap.size
 bel : Below w.heap.size w wr
theorem YWs.any {w wr w' : World} {P O : List SP} {vp vo : Value} (h : YWs w P O vp vo wr) (hb : Below wr.heap.size wr w') : YWs w P O vp vo w' :=
 ⟨h.p.later hb, h.o.later hb, h.po, h.oo, h.ne, Nat.lt_of_lt_of_le h.big hb.size, h.bel.trans (hb.mono (Nat.le_of_lt h.big))⟩
theorem YWs.out {w wr w1 w4 : World} {P O : List SP} {vp vo v' : Value} {y : SP} (h : YWs w P O vp vo wr) (hb : Below wr.heap.size wr w1) (hg : Grew w1 w4 vo v') (hi : TKo w4 v' (O ++ [y])) : YWs w P (O ++ [y]) vp v' w4 := by
 have h1 := h.any hb
 have hbig := h1.big
 refine ⟨h1.p.kept (fun j hj => hg.grown.block j (h1.p.lt j hj) (fun e => h.ne j hj e.symm)), hi, h.po, fun j hj => hg.own (n := w.heap.size + 1) hbig h.oo j hj, fun j hj e => ?_, Nat.lt_of_lt_of_le hbig hg.grown.size, hg.below h1.bel (Nat.le_refl _) (fun j hj => Nat.le_of_lt (h.oo j hj))⟩
 rcases hg.moved with q | ⟨i, q, hq⟩
 ·exact h.ne j hj (by rw [<- q]; exact e)
 ·rw [q] at e
  have := h1.p.lt j hj
  simp at e
  omega
set_option linter.unusedSimpArgs false in
theorem yield_S (t : TV) (w : World) (ht : TAt w t) (hsz : (plT 0 t).length <= 100000000) : Calls Try.prog 10 #[t.val] w fun e w' => ∃ a c, e = .returned (.slice a (leafs (plT 0 t)).length c) /\ TKo w' (.slice a (leafs (plT 0 t)).length c) (leafs (plT 0 t)) /\ Below w.heap.size w w' := by
 have PC : Hid (Calls Try.prog 26 #[t.val] (w.alloc (tBox t)) fun e w' => ∃ a c, e = .returned (.slice a (plT 0 t).length c) /\ SPo w' (.slice a (plT 0 t).length c) (plT 0 t) /\ (∀ j, (Value.slice a (plT 0 t).length c).ownBlock = some j -> (w.alloc (tBox t)).heap.size < j) /\ Below (w.alloc (tBox t)).heap.size (w.alloc (tBox t)) w') := places_S t _ (ht.later (below_alloc _ _)) hsz
 have BA : Hid (Below w.heap.size w (w.alloc (tBox t))) := below_alloc _ _
 have HZ : Hid ((w.alloc (tBox t)).heap.size = w.heap.size + 1) := by simp [Hid]
 have HSZ : Hid ((plT 0 t).length <= 100000000) := hsz
 generalize plT 0 t = P at *
 clear ht
 go_enter Try.func10, Try.ntmps10
 go_wp2_with (go_at_call 26; refine PC.out.mono ?_; rintro e w1 ⟨pa, pc, rfl, hp1, ho1, b1⟩; have W1 : Hid (YWs w P [] (.slice pa P.length pc) (.slice none 0 0) w1) := ⟨hp1, RO.nil _, fun j hj => by have := ho1 j hj; have := HZ.out; omega, fun j hj => by simp [Value.ownBlock] at hj, fun j _ e => by simp [Value.ownBlock] at e, by have := b1.size; have := HZ.out; omega, BA.out.trans (b1.mono BA.out.size)⟩; clear hp1 ho1 b1)
 clear PC BA HZ
 go_loopw [3, 5] (fun vo z wr => ∃ k : Nat, k <= P.length /\ z = .int .i64 k /\ YWs w P (leafs (P.take k)) (.slice pa P.length pc) vo wr) (fun _ z _ => P.length - (intOf z).toNat)
 case atStart => exact ⟨0, Nat.zero_le _, rfl, by rw [List.take_zero]; exact W1.out⟩
 case round =>
  clear W1
  obtain ⟨k, hk, rfl, hF⟩ := hrel
  obtain ⟨oa, oc, rfl, _⟩ := hF.o.len
  by_cases hlt : k < P.length
  ·have klt : (k : Int) < (P.length : Int) := by omega
   obtain ⟨b, c, hv, hc, hcell⟩ := RO.cell (f := spCells) (fun _ => rfl) hF.p hlt
   simp only [Value.slice.injEq, true_and] at hv
   obtain ⟨hpa, -⟩ := hv
   obtain ⟨x, hx⟩ : ∃ x, P[k] = x := ⟨_, rfl⟩
   rw [hx] at hcell
   have c0 := hcell 0 (by omega)
   have c1 := hcell 1 (by omega)
   have c2 := hcell 2 (by omega)
   simp only [spCells, List.getElem?_cons_zero, List.getElem?_cons_succ, Nat.add_zero] at c0 c1 c2
   have hPk : P[k]? = some x := by rw [<- hx]; exact List.getElem?_eq_getElem hlt
   have HT : Hid (leafs (P.take (k + 1)) = leafs (P.take k) ++ if x.t.prod = -1 then [x] else []) := leafs_take hPk
   have HTL : Hid ((leafs (P.take k)).length <= 1000000000) := by
    have h1 := List.length_filter_le (fun x : SP => decide (x.t.prod = -1)) (P.take k)
    have h2 := HSZ.out
    rw [List.length_take] at h1
    show (List.filter _ _).length <= _
    omega
   have HF : Hid (YWs w P (leafs (P.take k)) (.slice pa P.length pc) (.slice oa (leafs (P.take k)).length oc) wr) := hF
   have hsz2 := HSZ.out
   clear hF hcell hc hx hPk
   subst hpa
   by_cases hp : x.t.prod = -1
   ·have e0 : (x.t.prod == -1) = true := by simpa using hp
    rw [if_pos hp] at HT
    have HNX : Hid (∀ j u, (tkCells x)[j]? = some u -> (wr.alloc (.cells #[.int .i64 x.t.kind, .string x.t.tx] 28)).cell? ⟨wr.heap.size, j, none⟩ = some u) := fun j u hu => by
     rw [cellq_any (heap_alloc_new wr (.cells #[.int .i64 x.t.kind, .string x.t.tx] 28)), <- hu]
     simp [tkCells]
    clear hp
    generalize leafs (P.take k) = T at *
    go_wp2_with (at_builtin; refine wpList_ro_append rkTok rfl _ _ rfl (.slice oa T.length oc) T rfl (HF.out.o.later (below_alloc _ _)) wr.heap.size 1 x rfl HNX.out HTL.out ?_; intro a5 n5 c5 w5 ho5 hg5; have W5 : Hid (YWs w P (T ++ [x]) (.slice (some ⟨b, 0, none⟩) P.length pc) (.slice a5 n5 c5) w5) := HF.out.out (below_alloc _ _) hg5 ho5; clear ho5 hg5 c0 c1 c2)
    go_roundw
    case rel => exact ⟨k + 1, by omega, by go_num, by rw [HT.out]; exact W5.out⟩
    case measure => simp [intOf]; omega
   ·have e0 : (x.t.prod == -1) = false := by simpa using hp
    rw [if_neg hp, List.append_nil] at HT
    clear hp
    go_wp2
    go_roundw
    case rel => exact ⟨k + 1, by omega, by go_num, by rw [HT.out]; exact HF.out⟩
    case measure => simp [intOf]; omega
  ·obtain rfl : k = P.length := by omega
   rw [List.take_length] at hF
   have HF : Hid (TKo wr (.slice oa (leafs P).length oc) (leafs P) /\ Below w.heap.size w wr) := ⟨hF.o, hF.bel⟩
   have klt : ¬ (P.length : Int) < (P.length : Int) := by omega
   clear hF
   go_wp2
   go_ret
   exact ⟨oa, oc, by simp, HF.out⟩
def maxU : List Nat -> Nat
 | [] => 0
 | n :: l => max n (maxU l)
def hgF : Nat -> TV -> Nat
 | 0, _ => 0
 | n + 1, t => if t.prod = -1 then 0 else maxU (t.kids.map (hgF n)) + 1
def hgT (t : TV) : Nat := hgF (tsz t) t
def hgL (l : List TV) : Nat := maxU (l.map hgT)
theorem map_congr' {α β : Type} {f f' : α -> β} : ∀ (l : List α), (∀ x ∈ l, f x = f' x) -> l.map f = l.map f'
 | [], _ => rfl
 | x :: l, h => by rw [List.map_cons, List.map_cons, h x (List.mem_cons_self ..), map_congr' l (fun y hy => h y (List.mem_cons_of_mem _ hy))]
theorem hgF_any : ∀ (n m : Nat) (t : TV), tsz t <= n -> tsz t <= m -> hgF n t = hgF m t
 | 0, _, t, h, _ => by have := tsz_pos t; omega
 | _ + 1, 0, t, _, h => by have := tsz_pos t; omega
 | n + 1, m + 1, t, h, h' => by
  rw [hgF, hgF, map_congr' t.kids (fun k hk => hgF_any n m k (by have := kid_lt hk; omega) (by have := kid_lt hk; omega))]
theorem hgT_eq (t : TV) : hgT t = if t.prod = -1 then 0 else hgL t.kids + 1 := by
 obtain ⟨n, hn⟩ : ∃ n, tsz t = n + 1 := ⟨tsz t - 1, by have := tsz_pos t; omega⟩
 unfold hgT hgL
 rw [hn, hgF, map_congr' t.kids (fun k hk => hgF_any n (tsz k) k (by have := kid_lt hk; omega) (Nat.le_refl _))]
 rfl
theorem hgL_mem : ∀ (l : List TV) (k : TV), k ∈ l -> hgT k <= hgL l
 | [], _, h => by cases h
 | t :: l, k, h => by
  show hgT k <= max (hgT t) (hgL l)
  rcases List.mem_cons.1 h with rfl | h
  ·exact Nat.le_max_left _ _
  ·exact Nat.le_trans (hgL_mem l k h) (Nat.le_max_right _ _)
theorem lv_kids {d : Int} : ∀ (l : List TV), lv (plL d l) = [] -> ∀ k ∈ l, lv (plT d k) = []
 | [], _, _, h => by cases h
 | t :: l, e, k, h => by
  rw [plL_cons, lv_append] at e
  obtain ⟨e1, e2⟩ := List.append_eq_nil_iff.1 e
  rcases List.mem_cons.1 h with rfl | h
  ·exact e1
  ·exact lv_kids l e2 k h
theorem RT.high {g : GV} (hg : GP g) (t : TV) (h : RT g t) : ∀ d, lv (plT d t) = [] -> (rootU g t).1 = 2 /\ (htU g.ps g.ns.length g.ns.length).getD (rootU g t).2.toNat 0 ≠ 0 /\ (htU g.ps g.ns.length g.ns.length).getD (rootU g t).2.toNat 0 <= (hgT t : Int) := by
 induction h using RT.ind with
 | leaf t hp h0 h1 hk =>
  intro d e
  rw [plT_eq, lv_cons, if_pos hp] at e
  cases e
 | node t h0 h1 hr hk ih =>
  intro d e
  have hm : g.ps.getD t.prod.toNat .none ∈ g.ps := psD (by omega)
  rw [plT_eq, lv_cons, if_neg (by show ¬ t.prod = -1; omega)] at e
  have hks := lv_kids t.kids e
  rw [root_node h0 h1]
  have hall : ∀ s ∈ (g.ps.getD t.prod.toNat .none).right, s.1 = 2 /\ (htU g.ps g.ns.length g.ns.length).getD s.2.toNat 0 ≠ 0 /\ (htU g.ps g.ns.length g.ns.length).getD s.2.toNat 0 <= (hgL t.kids : Int) := fun s hs => by
   have hs' : s ∈ t.kids.map (rootU g) := by rw [hr]; exact hs
   obtain ⟨k, hkm, rfl⟩ := List.mem_map.1 hs'
   obtain ⟨q1, q2, q3⟩ := ih k hkm (d + 1) (hks k hkm)
   have := hgL_mem t.kids k hkm
   exact ⟨q1, q2, by omega⟩
  have hl := hg.left _ hm
  refine ⟨rfl, htU_closed g.ps g.ns.length hg.left _ hm (fun s hs => ⟨(hall s hs).1, (hall s hs).2.1⟩), ?_⟩
  show (htU g.ps g.ns.length g.ns.length).getD (g.ps.getD t.prod.toNat .none).left.toNat 0 <= _
  rw [hgT_eq, if_neg (by omega)]
  by_cases hH : hgL t.kids + 1 <= g.ns.length
  ·obtain ⟨r, hr2⟩ : ∃ r, g.ns.length = hgL t.kids + 1 + r := ⟨g.ns.length - (hgL t.kids + 1), by omega⟩
   have hf : fitU (htU g.ps g.ns.length (hgL t.kids + 1)) (g.ps.getD t.prod.toNat .none).right (hgL t.kids) = true := by
    rw [fitU_iff]
    intro s hs
    obtain ⟨q1, q2, q3⟩ := hall s hs
    have e2 := htU_back g.ps g.ns.length (hgL t.kids + 1) s.2.toNat r (by rw [<- hr2]; exact q2) (by rw [<- hr2]; omega)
    rw [<- hr2] at e2
    exact ⟨q1, by rw [e2]; exact q2, by rw [e2]; exact q3⟩
   have h2 := htU_fit g.ps g.ns.length (hgL t.kids) _ hm hl.1 hl.2 hf
   have h3 := htU_keep g.ps g.ns.length (hgL t.kids + 1) _ h2 r
   rw [<- hr2] at h3
   rw [h3]
   have := (htU_bd g.ps g.ns.length (hgL t.kids + 1) (g.ps.getD t.prod.toNat .none).left.toNat).2
   omega
  ·have := (htU_bd g.ps g.ns.length g.ns.length (g.ps.getD t.prod.toNat .none).left.toNat).2
   omega
end Go.Proofs.Ytfgdpmcpjpceoaa
