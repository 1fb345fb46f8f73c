import Derived.Test.YteciabdjkaackaaGreatPTW5ToTT2
namespace Go.Proofs.YteciabdjkaackaaGreat
set_option linter.unusedVariables false
open Go.RowKit
def inC8 (z : Int) : List Value := [.int .i64 z]
theorem rkInt8 : RK 3 55 1 inC8 := by
 refine ⟨Tryz.underlying55, ?_, by decide, fun _ => rfl, fun x u hu => ?_⟩
 ·have h : (Tryz.prog.info? 3).map (fun i => (i.zero, i.size, i.bytes)) = some (some (.int .i64 0), 1, 8) := by kernel_rfl
  cases e : Tryz.prog.info? 3 with
  | none => rw [e] at h; cases h
  | some i =>
   rw [e] at h
   simp at h
   exact ⟨i, _, rfl, h.1, h.2.1, by rw [h.2.2]; decide, rfl⟩
 ·simp [inC8] at hu
  subst hu
  rfl
abbrev ILo := RO 3 1 inC8
theorem ILo.row {w : World} {a : Option Addr} {n c : Nat} {l : List Int} (h : ILo w (.slice a n c) l) : n = l.length /\ InRow w a l := by
 obtain ⟨a', c', e, _⟩ := RO.len h
 simp only [Value.slice.injEq] at e
 obtain ⟨rfl, rfl, rfl⟩ := e
 refine ⟨rfl, fun hne => ?_⟩
 obtain ⟨b, cb, e, -, -⟩ := RO.cell (f := inC8) (k := 1) (fun _ => rfl) h (List.length_pos_iff.2 hne)
 simp only [Value.slice.injEq, true_and] at e
 obtain ⟨rfl, rfl⟩ := e
 refine ⟨b, 0, rfl, h.lt b rfl, fun i hi => ?_⟩
 obtain ⟨b', c', e, _, hc⟩ := RO.cell (f := inC8) (k := 1) (fun _ => rfl) h hi
 simp only [Value.slice.injEq, Option.some.injEq, Addr.mk.injEq, true_and, and_true] at e
 obtain ⟨rfl, rfl⟩ := e
 have := hc 0 (by omega)
 simp only [inC8, List.getElem?_cons_zero, Nat.mul_one, Nat.add_zero] at this
 rw [Nat.zero_add, this]
 simp [List.getD, hi]
def nodP (l : List TV) : List Int := (l.filter fun t => decide (t.prod ≠ -1)).map (·.prod)
theorem nodP_app (l m : List TV) : nodP (l ++ m) = nodP l ++ nodP m := by simp [nodP]
def adN (L : List Int) (t : TV) : List Int := if t.prod = -1 then L else L ++ [t.prod]
theorem nodP_snoc (l : List TV) (t : TV) : nodP (l ++ [t]) = adN (nodP l) t := by
 rw [nodP_app]
 unfold adN nodP
 by_cases h : t.prod = -1
 ·rw [if_pos h]; simp [h]
 ·rw [if_neg h]; simp [h]
def exE (D : List EV) : List TV := (D.filter fun x => !x.en).map (·.t)
theorem exE_app (D R : List EV) : exE (D ++ R) = exE D ++ exE R := by simp [exE]
theorem exE_in (p q : Nat) (t : TV) : exE [⟨true, p, q, t⟩] = [] := rfl
theorem exE_out (p q : Nat) (t : TV) : exE [⟨false, p, q, t⟩] = [t] := rfl
theorem exE_len (D : List EV) : (exE D).length <= D.length := by
 unfold exE
 rw [List.length_map]
 exact List.length_filter_le _ _
theorem nodP_len (l : List TV) : (nodP l).length <= l.length := by
 unfold nodP
 rw [List.length_map]
 exact List.length_filter_le _ _
def poF : Nat -> TV -> List TV
 | 0, _ => []
 | n + 1, t => (t.kids.flatMap (poF n)) ++ [t]
def posT (t : TV) : List TV := poF (tsz t) t
def posL (l : List TV) : List TV := l.flatMap posT
theorem poF_any : ∀ (n m : Nat) (t : TV), tsz t <= n -> tsz t <= m -> poF n t = poF m t
 | 0, _, t, h, _ => by have := tsz_pos t; omega
 | _ + 1, 0, t, _, h => by have := tsz_pos t; omega
 | n + 1, m + 1, t, h, h' => by
  rw [poF, poF]
  congr 1
  exact fm_congr _ fun k hk => poF_any n m k (by have := kid_lt hk; omega) (by have := kid_lt hk; omega)
theorem posT_eq (t : TV) : posT t = posL t.kids ++ [t] := by
 obtain ⟨n, hn⟩ : ∃ n, tsz t = n + 1 := ⟨tsz t - 1, by have := tsz_pos t; omega⟩
 unfold posT posL
 rw [hn, poF]
 congr 1
 exact fm_congr _ fun k hk => poF_any _ _ k (by have := kid_lt hk; omega) (Nat.le_refl _)
theorem evL_pos (b o : Nat) : ∀ (i : Nat) (l : List TV), (∀ k ∈ l, ∀ p q, exE (evT p q k) = posT k) -> exE (evL (kidF b o i l)) = posL l
 | _, [], _ => rfl
 | i, k :: l, h => by
  rw [kidF, evL_cons, exE_app, h k List.mem_cons_self, evL_pos b o (i + 1) l (fun k' hk => h k' (List.mem_cons_of_mem _ hk))]
  rfl
theorem ev_pos (t : TV) : ∀ p q, exE (evT p q t) = posT t := by
 induction t using TV.ind with
 | _ t ih =>
  intro p q
  rw [evT_eq, <- List.singleton_append, exE_app, exE_app, exE_in, exE_out, List.nil_append, posT_eq]
  unfold kidsA
  rw [evL_pos _ _ _ _ ih]
structure ISt (w0 : World) (yb : Nat) (L : List Int) (w : World) : Prop where
 bel : Below w0.heap.size w0 w
 yn : w0.heap.size <= yb
 bx : ∃ vo, w.heap[yb]? = some (.cells #[vo] 55) /\ ILo w vo L /\ ∀ j, vo.ownBlock = some j -> w0.heap.size <= j
theorem ISt.still {w0 : World} {yb : Nat} {L : List Int} {w w' : World} (h : ISt w0 yb L w) (hn : NoStp w0.heap.size w w') : ISt w0 yb L w' := by
 obtain ⟨vo, h1, h2, h3⟩ := h.bx
 exact ⟨hn.bel h.bel, h.yn, vo, hn.keep _ _ h1 (fun ⟨_, s⟩ => not_stp (by decide) s), h2.noStp hn (by decide), h3⟩
theorem il_ty8 {w : World} {v : Value} {l : List Int} {j : Nat} {cs : Array Value} (h : ILo w v l) (hj : v.ownBlock = some j) (hb : w.heap[j]? = some (.cells cs 55)) : False := by
 rcases h.2 with ⟨rfl, _⟩ | ⟨g, cap, cur, rfl, _, h2, _⟩
 ·simp [Value.ownBlock] at hj
 ·simp [Value.ownBlock] at hj
  subst hj
  rw [h2] at hb
  simp at hb
def inS8 (yb : Nat) (vo : Value) (p q : Nat) (z : Int) (w : World) : Prop := w.cell? ⟨yb, 0, none⟩ = some vo /\ w.cell? ⟨p, q, none⟩ = some (.int .i64 z)
theorem inS8.later {yb : Nat} {vo : Value} {p q : Nat} {z : Int} {w w' : World} (h : inS8 yb vo p q z w) (hb : Below w.heap.size w w') : inS8 yb vo p q z w' := ⟨cellW hb h.1, cellW hb h.2⟩
theorem ent_left1 : EntW 46 := fun _ _ => by kernel_rfl
theorem ent_right1 : EntW 48 := fun _ _ => by kernel_rfl
theorem ent_goOn : EntW 47 := fun _ _ => by kernel_rfl
theorem goOn_W (p q : Nat) (w : World) : Calls Tryz.prog 47 #[.pointer (some ⟨p, q, none⟩)] w fun e w' => e = .returned (.bool true) /\ w' = w := by
 go_enter Tryz.func47, Tryz.ntmps47
 go_wp2
 go_ret
 exact ⟨rfl, rfl⟩
set_option linter.unusedSimpArgs false in
set_option maxRecDepth 100000 in
set_option maxHeartbeats 4000000 in
theorem left1_W (w0 : World) (yb : Nat) (L : List Int) (p q : Nat) (t : TV) (w : World) (h : ISt w0 yb L w) (ht : TBx w0 p q t) (hl : L.length <= 200000000) :
  Calls Tryz.prog 46 #[.pointer (some ⟨p, q, none⟩), .pointer (some ⟨yb, 0, none⟩)] w fun e w' => e = .returned (.bool true) /\ OnStp w0.heap.size w w' /\ ISt w0 yb (adN L t) w' := by
 have htw := ht.later h.bel
 have CI : Hid (Calls Tryz.prog 36 #[.pointer (some ⟨p, q, none⟩)] w fun e w' => e = .returned (.bool (t.prod == -1)) /\ w' = w) := isLeaf_W p q t w htw
 have HH : Hid (ISt w0 yb L w) := h
 obtain ⟨vo, hb, ho, hw⟩ := h.bx
 have HB : Hid (w.heap[yb]? = some (.cells #[vo] 55) /\ ILo w vo L /\ ∀ j, vo.ownBlock = some j -> w0.heap.size <= j) := ⟨hb, ho, hw⟩
 by_cases hp : t.prod = -1
 ·have t1 : (t.prod == -1) = true := by simpa using hp
  rw [t1] at CI
  have e0 : adN L t = L := by unfold adN; rw [if_pos hp]
  have R : Hid (ISt w0 yb (adN L t) w) := by rw [e0]; exact h
  clear e0
  clear h htw hb ho hw t1 hp
  go_enter Tryz.func46, Tryz.ntmps46
  go_wp2_with (go_at_call 36; refine CI.out.mono ?_; rintro e w1 ⟨rfl, rfl⟩)
  go_ret
  exact ⟨rfl, OnStp.refl _ _, R.out⟩
 ·have t1 : (t.prod == -1) = false := by simpa using hp
  rw [t1] at CI
  have k1 := htw.c0
  have y0 : w.cell? ⟨yb, 0, none⟩ = some vo := (cellq_any hb).trans rfl
  obtain ⟨z, hz⟩ : ∃ z, t.prod = z := ⟨_, rfl⟩
  have e0 : adN L t = L ++ [z] := by unfold adN; rw [if_neg hp, hz]
  rw [hz] at k1
  have OA : Hid (∀ wd, Below w.heap.size w wd -> ILo (wd.alloc (.cells #[.int .i64 z] 3)) vo L) := fun wd hd => (ho.later hd).later (below_alloc _ _)
  have NX : Hid (∀ wd : World, ∀ j u, (inC8 z)[j]? = some u -> (wd.alloc (.cells #[.int .i64 z] 3)).cell? ⟨wd.heap.size, j, none⟩ = some u) := fun wd j u hu => by
   rw [cellq_any (heap_alloc_new wd (.cells #[.int .i64 z] 3)), <- hu]
   simp [inC8]
  have LN : Hid (L.length <= 1000000000) := by show _ <= _; omega
  have YL : Hid (∀ wd w5 a5 n5 c5, Below w.heap.size w wd -> ILo w5 (.slice a5 n5 c5) (L ++ [z]) -> Grew (wd.alloc (.cells #[.int .i64 z] 3)) w5 vo (.slice a5 n5 c5) -> inS8 yb vo p q z w5 /\ w5.cell? ⟨yb, 0, none⟩ = some vo /\ w5.frozen? ⟨yb, 0, none⟩ = false /\ OnStp w0.heap.size w (w5.setCell ⟨yb, 0, none⟩ (.slice a5 n5 c5)) /\ ISt w0 yb (adN L t) (w5.setCell ⟨yb, 0, none⟩ (.slice a5 n5 c5))) := fun wd w5 a5 n5 c5 hd ho5 hg5 => by
   have hbA : Below w.heap.size w (wd.alloc (.cells #[.int .i64 z] 3)) := hd.trans ((below_alloc _ _).mono hd.size)
   have hne : ∀ j, vo.ownBlock = some j -> j ≠ yb := fun j hj e => by
    subst e
    exact il_ty8 ho hj hb
   have hbl : ∀ (j : Nat) (o : Obj), w.heap[j]? = some o -> (some j ≠ vo.ownBlock) -> w5.heap[j]? = some o := fun j o hj hn => by
    rw [hg5.grown.block j (Nat.lt_of_lt_of_le (lt_of_block hj) hbA.size) hn, hbA.block j (lt_of_block hj), hj]
   have hyb : w5.heap[yb]? = some (.cells #[vo] 55) := hbl yb _ hb (fun e => hne yb e.symm rfl)
   have hset := heap_setCell_same w5 yb 0 _ _ (.slice a5 n5 c5) hyb
   have hB5 : Below w0.heap.size w0 w5 := hg5.below (HH.out.bel.trans (hbA.mono HH.out.bel.size)) (Nat.le_refl _) hw
   have hBs : Below w0.heap.size w0 (w5.setCell ⟨yb, 0, none⟩ (.slice a5 n5 c5)) := hB5.setCell (p := ⟨yb, 0, none⟩) HH.out.yn _
   have ht5 := ht.later hB5
   have hob : ∀ j, (Value.slice a5 n5 c5).ownBlock = some j -> j ≠ yb /\ w0.heap.size <= j := fun j hj => by
    refine ⟨fun e => ?_, hg5.own (n := w0.heap.size) (Nat.le_trans HH.out.bel.size (Nat.le_trans hbA.size (Nat.le_refl _))) hw j hj⟩
    subst e
    exact il_ty8 ho5 hj hyb
   have k0 := ht5.c0
   rw [hz] at k0
   refine ⟨⟨(cellq_any hyb).trans rfl, k0⟩, (cellq_any hyb).trans rfl, by simp [World.frozen?, hyb], ⟨?_, fun j o hj hN hs => ?_⟩, hBs, HH.out.yn, .slice a5 n5 c5, hset, ?_, fun j hj => (hob j hj).2⟩
   ·have h1 := hbA.size
    have h2 := hg5.grown.size
    have h3 : (w5.setCell ⟨yb, 0, none⟩ (.slice a5 n5 c5)).heap.size = w5.heap.size := by simp [World.setCell]
    omega
   ·have hjy : j ≠ yb := fun e => by
     subst e
     rw [hb] at hj
     cases hj
     exact not_stp (by decide) hs
    rw [Below.heap_setCell _ _ _ _ (show j ≠ yb from hjy)]
    refine hbl j o hj (fun e => ?_)
    rcases ho.2 with ⟨rfl, _⟩ | ⟨g, cap, cur, rfl, _, h2, _⟩
    ·simp [Value.ownBlock] at e
    ·simp [Value.ownBlock] at e
     subst e
     rw [h2] at hj
     cases hj
     exact not_stp (by decide) hs
   ·rw [e0]
    exact ho5.kept fun j hj => Below.heap_setCell _ _ _ _ (hob j hj).1
  clear h htw hb ho hw t1 e0 hp hz
  go_enter Tryz.func46, Tryz.ntmps46
  go_upto_region 2 with (go_at_call 36; refine CI.out.mono ?_; rintro e w1 ⟨rfl, rfl⟩)
  obtain ⟨wd, hwd⟩ : ∃ wd : World, wd = w1.drew := ⟨_, rfl⟩
  have BD : Hid (Below w1.heap.size w1 wd) := by rw [hwd]; exact (Below.refl _ _).drew
  have hs : Hid (inS8 yb vo p q z wd) := ⟨cellW BD.out y0, cellW BD.out k1⟩
  clear y0 k1
  refine wp_region_x (S := SX 7 (fun _ => True) (inS8 yb vo p q z)) (by kernel_rfl) ?_
  rw [<- hwd]
  clear hwd
  refine wpAnyX_take (m := 7) (i := 0) (v := ?_) rfl (by kernel_rfl) (by kernel_rfl) (by decide) (by decide +kernel) (by decide +kernel) (fun _ _ _ h => h) (by kernel_rfl) (Or.inl ⟨by rfl, ?_⟩) (SX.both trivial hs.out) ?_
  rotate_left
  ·(intro w hSw; obtain ⟨_, z0, z1⟩ := hSw; go_simp; try (with_reducible rfl))
  (try simp only [Act.put, List.setIfInBounds_toArray, List.set_cons_zero, List.set_cons_succ])
  refine wpAnyX_take (m := 7) (i := 1) (v := ?_) rfl (by kernel_rfl) (by kernel_rfl) (by decide) (by decide +kernel) (by decide +kernel) (fun _ _ _ h => h) (by kernel_rfl) (Or.inl ⟨by rfl, ?_⟩) (SX.both trivial hs.out) ?_
  rotate_left
  ·(intro w hSw; obtain ⟨_, z0, z1⟩ := hSw; go_simp; try (with_reducible rfl))
  (try simp only [Act.put, List.setIfInBounds_toArray, List.set_cons_zero, List.set_cons_succ])
  refine wpAnyX_take (m := 7) (i := 2) (v := ?_) rfl (by kernel_rfl) (by kernel_rfl) (by decide) (by decide +kernel) (by decide +kernel) (fun _ _ _ h => h) (by kernel_rfl) (Or.inl ⟨by rfl, ?_⟩) (SX.both trivial hs.out) ?_
  rotate_left
  ·(intro w hSw; obtain ⟨_, z0, z1⟩ := hSw; go_simp; try (with_reducible rfl))
  (try simp only [Act.put, List.setIfInBounds_toArray, List.set_cons_zero, List.set_cons_succ])
  refine wpAnyX_take (m := 7) (i := 3) (v := ?_) rfl (by kernel_rfl) (by kernel_rfl) (by decide) (by decide +kernel) (by decide +kernel) (fun _ _ _ h => h) (by kernel_rfl) (Or.inl ⟨by rfl, ?_⟩) (SX.both trivial hs.out) ?_
  rotate_left
  ·(intro w hSw; obtain ⟨_, z0, z1⟩ := hSw; go_simp; try (with_reducible rfl))
  (try simp only [Act.put, List.setIfInBounds_toArray, List.set_cons_zero, List.set_cons_succ])
  refine wpAnyX_take (m := 7) (i := 4) (v := ?_) rfl (by kernel_rfl) (by kernel_rfl) (by decide) (by decide +kernel) (by decide +kernel) (fun _ _ _ h => h) (by kernel_rfl) (Or.inl ⟨by rfl, ?_⟩) (SX.both trivial hs.out) ?_
  rotate_left
  ·(intro w hSw; obtain ⟨_, z0, z1⟩ := hSw; go_simp; try (with_reducible rfl))
  (try simp only [Act.put, List.setIfInBounds_toArray, List.set_cons_zero, List.set_cons_succ])
  refine wpAnyX_one (j := 5) (by decide +kernel) rfl (fun K' hK => ?_)
  go_simp
  have hs2 : Hid (inS8 yb vo p q z (wd.alloc (.cells #[.int .i64 z] 3))) := hs.out.later (below_alloc _ _)
  refine hK.out _ _ (SX.both trivial hs2.out) ?_
  clear hK K'
  (try simp only [Act.put, List.setIfInBounds_toArray, List.set_cons_zero, List.set_cons_succ])
  refine wpAnyX_one (j := 6) (by decide +kernel) rfl (fun K' hK => ?_)
  refine step_ro_append rkInt8 rfl (.tmp 7) (.tmp 12) rfl vo L rfl (OA.out wd BD.out) wd.heap.size 1 z rfl (NX.out wd) LN.out ?_
  intro a5 n5 c5 w5 ho5 hg5
  have W5 := YL.out wd w5 a5 n5 c5 BD.out ho5 hg5
  obtain ⟨q1, q2, q3, q4, q5⟩ := W5
  have Q4 : Hid (OnStp w0.heap.size w1 (w5.setCell ⟨yb, 0, none⟩ (.slice a5 n5 c5)) /\ ISt w0 yb (adN L t) (w5.setCell ⟨yb, 0, none⟩ (.slice a5 n5 c5))) := ⟨q4, q5⟩
  refine hK.out _ _ (SX.both trivial q1) ?_
  clear hK K' q1 q4 q5 ho5 hg5
  (try simp only [Act.put, List.setIfInBounds_toArray, List.set_cons_zero, List.set_cons_succ])
  refine wpAnyX_one (j := 7) (by decide +kernel) rfl (fun K' hK => ?_)
  go_simp
  refine hK.out _ _ (SX.one trivial (by kernel_rfl)) ?_
  clear hK K'
  (try simp only [Act.put, List.setIfInBounds_toArray, List.set_cons_zero, List.set_cons_succ])
  refine wpAnyX_done (by decide +kernel) ?_
  go_wp2
  go_ret
  exact ⟨rfl, Q4.out⟩
set_option linter.unusedSimpArgs false in
set_option maxRecDepth 100000 in
set_option maxHeartbeats 4000000 in
theorem right1_W (w0 : World) (yb : Nat) (L : List Int) (p q : Nat) (t : TV) (w : World) (h : ISt w0 yb L w) (ht : TBx w0 p q t) (hl : L.length <= 200000000) :
  Calls Tryz.prog 48 #[.pointer (some ⟨p, q, none⟩), .pointer (some ⟨yb, 0, none⟩)] w fun e w' => e = .returned (.tuple #[]) /\ OnStp w0.heap.size w w' /\ ISt w0 yb (adN L t) w' := by
 have htw := ht.later h.bel
 have CI : Hid (Calls Tryz.prog 36 #[.pointer (some ⟨p, q, none⟩)] w fun e w' => e = .returned (.bool (t.prod == -1)) /\ w' = w) := isLeaf_W p q t w htw
 have HH : Hid (ISt w0 yb L w) := h
 obtain ⟨vo, hb, ho, hw⟩ := h.bx
 have HB : Hid (w.heap[yb]? = some (.cells #[vo] 55) /\ ILo w vo L /\ ∀ j, vo.ownBlock = some j -> w0.heap.size <= j) := ⟨hb, ho, hw⟩
 by_cases hp : t.prod = -1
 ·have t1 : (t.prod == -1) = true := by simpa using hp
  rw [t1] at CI
  have e0 : adN L t = L := by unfold adN; rw [if_pos hp]
  have R : Hid (ISt w0 yb (adN L t) w) := by rw [e0]; exact h
  clear e0
  clear h htw hb ho hw t1 hp
  go_enter Tryz.func48, Tryz.ntmps48
  go_wp2_with (go_at_call 36; refine CI.out.mono ?_; rintro e w1 ⟨rfl, rfl⟩)
  refine bodyPost_end (results_none rfl _ _ _) rfl ?_
  exact ⟨rfl, OnStp.refl _ _, R.out⟩
 ·have t1 : (t.prod == -1) = false := by simpa using hp
  rw [t1] at CI
  have k1 := htw.c0
  have y0 : w.cell? ⟨yb, 0, none⟩ = some vo := (cellq_any hb).trans rfl
  obtain ⟨z, hz⟩ : ∃ z, t.prod = z := ⟨_, rfl⟩
  have e0 : adN L t = L ++ [z] := by unfold adN; rw [if_neg hp, hz]
  rw [hz] at k1
  have OA : Hid (∀ wd, Below w.heap.size w wd -> ILo (wd.alloc (.cells #[.int .i64 z] 3)) vo L) := fun wd hd => (ho.later hd).later (below_alloc _ _)
  have NX : Hid (∀ wd : World, ∀ j u, (inC8 z)[j]? = some u -> (wd.alloc (.cells #[.int .i64 z] 3)).cell? ⟨wd.heap.size, j, none⟩ = some u) := fun wd j u hu => by
   rw [cellq_any (heap_alloc_new wd (.cells #[.int .i64 z] 3)), <- hu]
   simp [inC8]
  have LN : Hid (L.length <= 1000000000) := by show _ <= _; omega
  have YL : Hid (∀ wd w5 a5 n5 c5, Below w.heap.size w wd -> ILo w5 (.slice a5 n5 c5) (L ++ [z]) -> Grew (wd.alloc (.cells #[.int .i64 z] 3)) w5 vo (.slice a5 n5 c5) -> inS8 yb vo p q z w5 /\ w5.cell? ⟨yb, 0, none⟩ = some vo /\ w5.frozen? ⟨yb, 0, none⟩ = false /\ OnStp w0.heap.size w (w5.setCell ⟨yb, 0, none⟩ (.slice a5 n5 c5)) /\ ISt w0 yb (adN L t) (w5.setCell ⟨yb, 0, none⟩ (.slice a5 n5 c5))) := fun wd w5 a5 n5 c5 hd ho5 hg5 => by
   have hbA : Below w.heap.size w (wd.alloc (.cells #[.int .i64 z] 3)) := hd.trans ((below_alloc _ _).mono hd.size)
   have hne : ∀ j, vo.ownBlock = some j -> j ≠ yb := fun j hj e => by
    subst e
    exact il_ty8 ho hj hb
   have hbl : ∀ (j : Nat) (o : Obj), w.heap[j]? = some o -> (some j ≠ vo.ownBlock) -> w5.heap[j]? = some o := fun j o hj hn => by
    rw [hg5.grown.block j (Nat.lt_of_lt_of_le (lt_of_block hj) hbA.size) hn, hbA.block j (lt_of_block hj), hj]
   have hyb : w5.heap[yb]? = some (.cells #[vo] 55) := hbl yb _ hb (fun e => hne yb e.symm rfl)
   have hset := heap_setCell_same w5 yb 0 _ _ (.slice a5 n5 c5) hyb
   have hB5 : Below w0.heap.size w0 w5 := hg5.below (HH.out.bel.trans (hbA.mono HH.out.bel.size)) (Nat.le_refl _) hw
   have hBs : Below w0.heap.size w0 (w5.setCell ⟨yb, 0, none⟩ (.slice a5 n5 c5)) := hB5.setCell (p := ⟨yb, 0, none⟩) HH.out.yn _
   have ht5 := ht.later hB5
   have hob : ∀ j, (Value.slice a5 n5 c5).ownBlock = some j -> j ≠ yb /\ w0.heap.size <= j := fun j hj => by
    refine ⟨fun e => ?_, hg5.own (n := w0.heap.size) (Nat.le_trans HH.out.bel.size (Nat.le_trans hbA.size (Nat.le_refl _))) hw j hj⟩
    subst e
    exact il_ty8 ho5 hj hyb
   have k0 := ht5.c0
   rw [hz] at k0
   refine ⟨⟨(cellq_any hyb).trans rfl, k0⟩, (cellq_any hyb).trans rfl, by simp [World.frozen?, hyb], ⟨?_, fun j o hj hN hs => ?_⟩, hBs, HH.out.yn, .slice a5 n5 c5, hset, ?_, fun j hj => (hob j hj).2⟩
   ·have h1 := hbA.size
    have h2 := hg5.grown.size
    have h3 : (w5.setCell ⟨yb, 0, none⟩ (.slice a5 n5 c5)).heap.size = w5.heap.size := by simp [World.setCell]
    omega
   ·have hjy : j ≠ yb := fun e => by
     subst e
     rw [hb] at hj
     cases hj
     exact not_stp (by decide) hs
    rw [Below.heap_setCell _ _ _ _ (show j ≠ yb from hjy)]
    refine hbl j o hj (fun e => ?_)
    rcases ho.2 with ⟨rfl, _⟩ | ⟨g, cap, cur, rfl, _, h2, _⟩
    ·simp [Value.ownBlock] at e
    ·simp [Value.ownBlock] at e
     subst e
     rw [h2] at hj
     cases hj
     exact not_stp (by decide) hs
   ·rw [e0]
    exact ho5.kept fun j hj => Below.heap_setCell _ _ _ _ (hob j hj).1
  clear h htw hb ho hw t1 e0 hp hz
  go_enter Tryz.func48, Tryz.ntmps48
  go_upto_region 1 with (go_at_call 36; refine CI.out.mono ?_; rintro e w1 ⟨rfl, rfl⟩)
  obtain ⟨wd, hwd⟩ : ∃ wd : World, wd = w1.drew := ⟨_, rfl⟩
  have BD : Hid (Below w1.heap.size w1 wd) := by rw [hwd]; exact (Below.refl _ _).drew
  have hs : Hid (inS8 yb vo p q z wd) := ⟨cellW BD.out y0, cellW BD.out k1⟩
  clear y0 k1
  refine wp_region_x (S := SX 7 (fun _ => True) (inS8 yb vo p q z)) (by kernel_rfl) ?_
  rw [<- hwd]
  clear hwd
  refine wpAnyX_take (m := 7) (i := 0) (v := ?_) rfl (by kernel_rfl) (by kernel_rfl) (by decide) (by decide +kernel) (by decide +kernel) (fun _ _ _ h => h) (by kernel_rfl) (Or.inl ⟨by rfl, ?_⟩) (SX.both trivial hs.out) ?_
  rotate_left
  ·(intro w hSw; obtain ⟨_, z0, z1⟩ := hSw; go_simp; try (with_reducible rfl))
  (try simp only [Act.put, List.setIfInBounds_toArray, List.set_cons_zero, List.set_cons_succ])
  refine wpAnyX_take (m := 7) (i := 1) (v := ?_) rfl (by kernel_rfl) (by kernel_rfl) (by decide) (by decide +kernel) (by decide +kernel) (fun _ _ _ h => h) (by kernel_rfl) (Or.inl ⟨by rfl, ?_⟩) (SX.both trivial hs.out) ?_
  rotate_left
  ·(intro w hSw; obtain ⟨_, z0, z1⟩ := hSw; go_simp; try (with_reducible rfl))
  (try simp only [Act.put, List.setIfInBounds_toArray, List.set_cons_zero, List.set_cons_succ])
  refine wpAnyX_take (m := 7) (i := 2) (v := ?_) rfl (by kernel_rfl) (by kernel_rfl) (by decide) (by decide +kernel) (by decide +kernel) (fun _ _ _ h => h) (by kernel_rfl) (Or.inl ⟨by rfl, ?_⟩) (SX.both trivial hs.out) ?_
  rotate_left
  ·(intro w hSw; obtain ⟨_, z0, z1⟩ := hSw; go_simp; try (with_reducible rfl))
  (try simp only [Act.put, List.setIfInBounds_toArray, List.set_cons_zero, List.set_cons_succ])
  refine wpAnyX_take (m := 7) (i := 3) (v := ?_) rfl (by kernel_rfl) (by kernel_rfl) (by decide) (by decide +kernel) (by decide +kernel) (fun _ _ _ h => h) (by kernel_rfl) (Or.inl ⟨by rfl, ?_⟩) (SX.both trivial hs.out) ?_
  rotate_left
  ·(intro w hSw; obtain ⟨_, z0, z1⟩ := hSw; go_simp; try (with_reducible rfl))
  (try simp only [Act.put, List.setIfInBounds_toArray, List.set_cons_zero, List.set_cons_succ])
  refine wpAnyX_take (m := 7) (i := 4) (v := ?_) rfl (by kernel_rfl) (by kernel_rfl) (by decide) (by decide +kernel) (by decide +kernel) (fun _ _ _ h => h) (by kernel_rfl) (Or.inl ⟨by rfl, ?_⟩) (SX.both trivial hs.out) ?_
  rotate_left
  ·(intro w hSw; obtain ⟨_, z0, z1⟩ := hSw; go_simp; try (with_reducible rfl))
  (try simp only [Act.put, List.setIfInBounds_toArray, List.set_cons_zero, List.set_cons_succ])
  refine wpAnyX_one (j := 5) (by decide +kernel) rfl (fun K' hK => ?_)
  go_simp
  have hs2 : Hid (inS8 yb vo p q z (wd.alloc (.cells #[.int .i64 z] 3))) := hs.out.later (below_alloc _ _)
  refine hK.out _ _ (SX.both trivial hs2.out) ?_
  clear hK K'
  (try simp only [Act.put, List.setIfInBounds_toArray, List.set_cons_zero, List.set_cons_succ])
  refine wpAnyX_one (j := 6) (by decide +kernel) rfl (fun K' hK => ?_)
  refine step_ro_append rkInt8 rfl (.tmp 6) (.tmp 11) rfl vo L rfl (OA.out wd BD.out) wd.heap.size 1 z rfl (NX.out wd) LN.out ?_
  intro a5 n5 c5 w5 ho5 hg5
  have W5 := YL.out wd w5 a5 n5 c5 BD.out ho5 hg5
  obtain ⟨q1, q2, q3, q4, q5⟩ := W5
  have Q4 : Hid (OnStp w0.heap.size w1 (w5.setCell ⟨yb, 0, none⟩ (.slice a5 n5 c5)) /\ ISt w0 yb (adN L t) (w5.setCell ⟨yb, 0, none⟩ (.slice a5 n5 c5))) := ⟨q4, q5⟩
  refine hK.out _ _ (SX.both trivial q1) ?_
  clear hK K' q1 q4 q5 ho5 hg5
  (try simp only [Act.put, List.setIfInBounds_toArray, List.set_cons_zero, List.set_cons_succ])
  refine wpAnyX_one (j := 7) (by decide +kernel) rfl (fun K' hK => ?_)
  go_simp
  refine hK.out _ _ (SX.one trivial (by kernel_rfl)) ?_
  clear hK K'
  (try simp only [Act.put, List.setIfInBounds_toArray, List.set_cons_zero, List.set_cons_succ])
  refine wpAnyX_done (by decide +kernel) ?_
  go_wp2
  refine bodyPost_end (results_none rfl _ _ _) rfl ?_
  exact ⟨rfl, Q4.out⟩
set_option linter.unusedSimpArgs false in
set_option maxRecDepth 100000 in
set_option maxHeartbeats 4000000 in
theorem left_W (t : TV) (w : World) (ht : TAt w t) (hsz : szT t <= 100000000) : Calls Tryz.prog 18 #[t.val] w fun e w' => ∃ vo, e = .returned vo /\ ILo w' vo (nodP (preT t)) /\ (∀ j, vo.ownBlock = some j -> w.heap.size <= j) /\ Below w.heap.size w w' := by
 have hz : (w.alloc (tBox t)).heap.size = w.heap.size + 1 := by simp
 have hba : Below w.heap.size w (w.alloc (tBox t)) := below_alloc _ _
 have CW : Hid (Calls Tryz.prog 44 #[.pointer (some ⟨w.heap.size, 0, none⟩), fnV 46 #[.pointer (some ⟨w.heap.size + 1, 0, none⟩)]] ((w.alloc (tBox t)).alloc (.cells #[.slice none 0 0] 55)) fun e w' => e = .returned (.tuple #[]) /\ ∃ vo, w'.heap[w.heap.size + 1]? = some (.cells #[vo] 55) /\ ILo w' vo (nodP (preT t)) /\ (∀ j, vo.ownBlock = some j -> w.heap.size <= j) /\ Below w.heap.size w w') := by
  refine (walk_R (St := fun D w' => ISt (w.alloc (tBox t)) (w.heap.size + 1) (nodP (enE D)) w') (Fin := fun _ => False) ⟨ent_left1, tbx_new w t, ht.later hba, hsz, fun D w w' h hn => h.still hn, fun D w h => h.bel, fun D p q t' R hD hT w1 h1 => ?_, fun D p q t' R w1 _ h1 => ?_⟩ _ ?_).mono ?_
  ·have h5 := ev_bound hD hsz
   have h6 := nodP_len (enE D)
   have h7 := enE_len D
   exact (left1_W _ _ _ p q t' w1 h1 hT (by omega)).mono fun e w' ⟨e1, e2, e3⟩ => ⟨true, e1, e2, fun _ => by rw [enE_app, enE_in, nodP_snoc]; exact e3, fun q => by cases q⟩
  ·rw [enE_app, enE_out, List.append_nil]
   exact h1
  ·refine ⟨below_alloc _ _, by omega, .slice none 0 0, ?_, RO.nil _, fun j hj => by simp [Value.ownBlock] at hj⟩
   have := heap_alloc_new (w.alloc (tBox t)) (.cells #[.slice none 0 0] 55)
   rwa [hz] at this
  ·rintro e w' ⟨e1, e2 | e2⟩
   ·obtain ⟨vo, a, b, c⟩ := e2.bx
    rw [ev_pre] at b
    exact ⟨e1, vo, a, b, fun j hj => by have := c j hj; omega, hba.trans (e2.bel.mono hba.size)⟩
   ·exact e2.elim
 clear ht hsz hz hba
 go_enter Tryz.func18, Tryz.ntmps18
 go_wp2_with (go_at_call 44; refine CW.out.mono ?_; rintro e w1 ⟨rfl, vo, h1, h2, h3, h4⟩; have R : Hid (ILo w1 vo (nodP (preT t)) /\ (∀ j, vo.ownBlock = some j -> w.heap.size <= j) /\ Below w.heap.size w w1) := ⟨h2, h3, h4⟩; have c0 : w1.cell? ⟨w.heap.size + 1, 0, none⟩ = some vo := (cellq_any h1).trans rfl; clear h1 h2 h3 h4)
 go_ret
 exact ⟨vo, rfl, R.out⟩
set_option linter.unusedSimpArgs false in
set_option maxRecDepth 100000 in
set_option maxHeartbeats 4000000 in
theorem right_W (t : TV) (w : World) (ht : TAt w t) (hsz : szT t <= 100000000) : Calls Tryz.prog 20 #[t.val] w fun e w' => ∃ vo, e = .returned vo /\ ILo w' vo (nodP (posT t)) /\ (∀ j, vo.ownBlock = some j -> w.heap.size <= j) /\ Below w.heap.size w w' := by
 have hz : (w.alloc (tBox t)).heap.size = w.heap.size + 1 := by simp
 have hba : Below w.heap.size w (w.alloc (tBox t)) := below_alloc _ _
 have CW : Hid (Calls Tryz.prog 34 #[.pointer (some ⟨w.heap.size, 0, none⟩), fnV 47 #[], fnV 48 #[.pointer (some ⟨w.heap.size + 1, 0, none⟩)]] ((w.alloc (tBox t)).alloc (.cells #[.slice none 0 0] 55)) fun e w' => e = .returned (.tuple #[]) /\ ∃ vo, w'.heap[w.heap.size + 1]? = some (.cells #[vo] 55) /\ ILo w' vo (nodP (posT t)) /\ (∀ j, vo.ownBlock = some j -> w.heap.size <= j) /\ Below w.heap.size w w') := by
  refine (walkAround_R (St := fun D w' => ISt (w.alloc (tBox t)) (w.heap.size + 1) (nodP (exE D)) w') (Fin := fun _ => False) ⟨ent_goOn, ent_right1, tbx_new w t, ht.later hba, hsz, fun D w w' h hn => h.still hn, fun D w h => h.bel, fun D p q t' R hD hT w1 h1 => ?_, fun D p q t' R hD hT w1 h1 => ?_⟩ _ ?_).mono ?_
  ·exact (goOn_W p q w1).mono fun e w' ⟨e1, e2⟩ => ⟨true, e1, by rw [e2]; exact OnStp.refl _ _, fun _ => by rw [exE_app, exE_in, List.append_nil, e2]; exact h1, fun q => by cases q⟩
  ·have h5 := ev_bound hD hsz
   have h6 := nodP_len (exE D)
   have h7 := exE_len D
   exact (right1_W _ _ _ p q t' w1 h1 hT (by omega)).mono fun e w' ⟨e1, e2, e3⟩ => ⟨e1, e2, by rw [exE_app, exE_out, nodP_snoc]; exact e3⟩
  ·refine ⟨below_alloc _ _, by omega, .slice none 0 0, ?_, RO.nil _, fun j hj => by simp [Value.ownBlock] at hj⟩
   have := heap_alloc_new (w.alloc (tBox t)) (.cells #[.slice none 0 0] 55)
   rwa [hz] at this
  ·rintro e w' ⟨e1, e2 | e2⟩
   ·obtain ⟨vo, a, b, c⟩ := e2.bx
    rw [ev_pos] at b
    exact ⟨e1, vo, a, b, fun j hj => by have := c j hj; omega, hba.trans (e2.bel.mono hba.size)⟩
   ·exact e2.elim
 clear ht hsz hz hba
 go_enter Tryz.func20, Tryz.ntmps20
 go_wp2_with (go_at_call 34; refine CW.out.mono ?_; rintro e w1 ⟨rfl, vo, h1, h2, h3, h4⟩; have R : Hid (ILo w1 vo (nodP (posT t)) /\ (∀ j, vo.ownBlock = some j -> w.heap.size <= j) /\ Below w.heap.size w w1) := ⟨h2, h3, h4⟩; have c0 : w1.cell? ⟨w.heap.size + 1, 0, none⟩ = some vo := (cellq_any h1).trans rfl; clear h1 h2 h3 h4)
 go_ret
 exact ⟨vo, rfl, R.out⟩
end Go.Proofs.YteciabdjkaackaaGreat
