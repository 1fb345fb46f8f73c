import Derived.Test.YteciabdjkaackaaGreatPTW3ToRegX
import Derived.Test.YteciabdjkaackaaGreatPTTPToRegS
namespace Go.Proofs.YteciabdjkaackaaGreat
set_option linter.unusedVariables false
open Go.RowKit
def preT (t : TV) : List TV := (plT 0 t).map (·.t)
def preL (l : List TV) : List TV := l.flatMap preT
theorem pre_depth (d : Int) (t : TV) : (plT d t).map (·.t) = preT t := by
 unfold preT
 induction t using TV.ind generalizing d with
 | _ t ih =>
  rw [plT_eq, plT_eq 0]
  simp only [List.map_cons]
  congr 1
  have : ∀ (d e : Int) (l : List TV), (∀ k ∈ l, ∀ d, (plT d k).map (·.t) = (plT 0 k).map (·.t)) -> (plL d l).map (·.t) = (plL e l).map (·.t) := by
   intro d e l
   induction l with
   | nil => intro _; rfl
   | cons a l ihl =>
    intro hl
    rw [plL_cons, plL_cons, List.map_append, List.map_append, ihl (fun k hk => hl k (List.mem_cons_of_mem _ hk)), hl a List.mem_cons_self d, hl a List.mem_cons_self e]
  exact this _ _ t.kids (fun k hk => ih k hk)
theorem preT_eq (t : TV) : preT t = t :: preL t.kids := by
 have : ∀ l : List TV, (plL 1 l).map (·.t) = preL l := by
  intro l
  induction l with
  | nil => rfl
  | cons a l ihl => rw [plL_cons, List.map_append, ihl, pre_depth]; rfl
 conv => lhs; unfold preT
 rw [plT_eq, List.map_cons, Int.zero_add, this]
theorem preT_len (t : TV) : (preT t).length = szT t := by unfold preT szT; rw [List.length_map]
def enE (D : List EV) : List TV := (D.filter (·.en)).map (·.t)
theorem enE_app (D R : List EV) : enE (D ++ R) = enE D ++ enE R := by simp [enE]
theorem enE_in (p q : Nat) (t : TV) : enE [⟨true, p, q, t⟩] = [t] := rfl
theorem enE_out (p q : Nat) (t : TV) : enE [⟨false, p, q, t⟩] = [] := rfl
theorem evL_pre (b o : Nat) : ∀ (i : Nat) (l : List TV), (∀ k ∈ l, ∀ p q, enE (evT p q k) = preT k) -> enE (evL (kidF b o i l)) = preL l
 | _, [], _ => rfl
 | i, k :: l, h => by
  rw [kidF, evL_cons, enE_app, h k List.mem_cons_self, evL_pre b o (i + 1) l (fun k' hk => h k' (List.mem_cons_of_mem _ hk))]
  rfl
theorem ev_pre (t : TV) : ∀ p q, enE (evT p q t) = preT t := by
 induction t using TV.ind with
 | _ t ih =>
  intro p q
  rw [evT_eq, <- List.singleton_append, enE_app, enE_app, enE_in, enE_out, List.append_nil, preT_eq]
  unfold kidsA
  rw [evL_pre _ _ _ _ ih]
  rfl
theorem enE_len (D : List EV) : (enE D).length <= D.length := by
 unfold enE
 rw [List.length_map]
 exact List.length_filter_le _ _
theorem ev_bound {D R : List EV} {x : EV} {p q : Nat} {t : TV} (h : D ++ x :: R = evT p q t) (hs : szT t <= 100000000) : D.length < 200000000 := by
 have := congrArg List.length h
 rw [evT_len, List.length_append, List.length_cons] at this
 omega
def leafT (l : List TV) : List TV := l.filter fun t => decide (t.prod = -1)
theorem leafT_app (l m : List TV) : leafT (l ++ m) = leafT l ++ leafT m := by simp [leafT]
theorem leafT_len (l : List TV) : (leafT l).length <= l.length := List.length_filter_le _ _
def tkC (t : TV) : List Value := [.int .i64 t.kind, .string t.tx]
theorem rkTokT : RK 23 52 2 tkC := by
 refine ⟨Tryz.underlying52, ?_, by decide, fun _ => rfl, fun x u hu => ?_⟩
 ·have h : (Tryz.prog.info? 23).map (fun i => (i.zero, i.size, i.bytes)) = some (some (.agg #[.int .i64 0, .string ByteArray.empty]), 2, 24) := by kernel_rfl
  cases e : Tryz.prog.info? 23 with
  | none => rw [e] at h; cases h
  | some i =>
   rw [e] at h
   simp at h
   exact ⟨i, _, rfl, h.1, h.2.1, by rw [h.2.2]; decide, rfl⟩
 ·simp [tkC] at hu
  rcases hu with rfl | rfl <;> rfl
abbrev TKt := RO 23 2 tkC
theorem not_stp {cs : Array Value} {t : TypeId} {fz : Nat × Nat} (ht : (t == 131) = false) : ¬ Stp (.cells cs t fz) := fun ⟨_, _, e⟩ => by
 simp only [Obj.cells.injEq] at e
 rw [e.2.1] at ht
 simp at ht
theorem RO.noStp {α : Type} {τ : TypeId} {k : Nat} {f : α -> List Value} {N : Nat} {w w' : World} {v : Value} {l : List α} (h : RO τ k f w v l) (hn : NoStp N w w') (ht : (τ == 131) = false) : RO τ k f w' v l := h.kept fun j hj => by
 rcases h.2 with ⟨rfl, _⟩ | ⟨g, cap, cur, rfl, _, h2, _⟩
 ·simp [Value.ownBlock] at hj
 ·simp [Value.ownBlock] at hj
  subst hj
  rw [hn.keep _ _ h2 (fun ⟨_, s⟩ => not_stp ht s), h2]
theorem NoStp.bel {w0 w w' : World} (h : NoStp w0.heap.size w w') (hb : Below w0.heap.size w0 w) : Below w0.heap.size w0 w' :=
 ⟨h.os.trans hb.os, h.tape.trans hb.tape, h.output.trans hb.output, Nat.le_trans hb.size h.size, fun j hj => by
  have e := hb.block j hj
  rw [<- e]
  have hj' : j < w.heap.size := Nat.lt_of_lt_of_le hj hb.size
  rw [Array.getElem?_eq_getElem hj']
  exact h.keep j _ (Array.getElem?_eq_getElem hj') (fun ⟨q, _⟩ => by omega)⟩
structure YSt (w0 : World) (yb : Nat) (D : List EV) (w : World) : Prop where
 bel : Below w0.heap.size w0 w
 yn : w0.heap.size <= yb
 bx : ∃ vo, w.heap[yb]? = some (.cells #[vo] 52) /\ TKt w vo (leafT (enE D)) /\ ∀ j, vo.ownBlock = some j -> w0.heap.size <= j
theorem YSt.still {w0 : World} {yb : Nat} {D : List EV} {w w' : World} (h : YSt w0 yb D w) (hn : NoStp w0.heap.size w w') : YSt w0 yb D w' := by
 obtain ⟨vo, h1, h2, h3⟩ := h.bx
 exact ⟨hn.bel h.bel, h.yn, vo, hn.keep _ _ h1 (fun ⟨_, s⟩ => not_stp (by decide) s), h2.noStp hn (by decide), h3⟩
theorem tk_ty {w : World} {v : Value} {l : List TV} {j : Nat} {cs : Array Value} (h : TKt w v l) (hj : v.ownBlock = some j) (hb : w.heap[j]? = some (.cells cs 52)) : False := by
 rcases h.2 with ⟨rfl, _⟩ | ⟨g, cap, cur, rfl, _, h2, _⟩
 ·simp [Value.ownBlock] at hj
 ·simp [Value.ownBlock] at hj
  subst hj
  rw [h2] at hb
  simp at hb
theorem cellW {w w' : World} {p : Addr} {v : Value} (hb : Below w.heap.size w w') (h : w.cell? p = some v) : w'.cell? p = some v := by
 have hlt : p.block < w.heap.size := by
  apply Classical.byContradiction
  intro e
  have : w.heap[p.block]? = none := Array.getElem?_eq_none (by omega)
  unfold World.cell? at h
  rw [this] at h
  cases h
 rw [hb.cell (p := p) hlt]
 exact h
def tkS (yb : Nat) (vo : Value) (p q : Nat) (t : TV) (w : World) : Prop := w.cell? ⟨yb, 0, none⟩ = some vo /\ w.cell? ⟨p, q + 1, none⟩ = some (.int .i64 t.kind) /\ w.cell? ⟨p, q + 2, none⟩ = some (.string t.tx)
theorem tkS.later {yb : Nat} {vo : Value} {p q : Nat} {t : TV} {w w' : World} (h : tkS yb vo p q t w) (hb : Below w.heap.size w w') : tkS yb vo p q t w' := ⟨cellW hb h.1, cellW hb h.2.1, cellW hb h.2.2⟩
theorem ent_yield1 : EntW 45 := fun _ _ => by kernel_rfl
set_option linter.unusedSimpArgs false in
set_option maxRecDepth 100000 in
set_option maxHeartbeats 4000000 in
theorem yield1_W (w0 : World) (yb : Nat) (D : List EV) (p q : Nat) (t : TV) (w : World) (h : YSt w0 yb D w) (ht : TBx w0 p q t) (hl : D.length <= 200000000) :
  Calls Tryz.prog 45 #[.pointer (some ⟨p, q, none⟩), .pointer (some ⟨yb, 0, none⟩)] w fun e w' => e = .returned (.bool true) /\ OnStp w0.heap.size w w' /\ YSt w0 yb (D ++ [⟨true, p, q, t⟩]) w' := by
 have htw := ht.later h.bel
 have CI : Hid (Calls Tryz.prog 36 #[.pointer (some ⟨p, q, none⟩)] w fun e w' => e = .returned (.bool (t.prod == -1)) /\ w' = w) := isLeaf_W p q t w htw
 have HH : Hid (YSt w0 yb D w) := h
 obtain ⟨vo, hb, ho, hw⟩ := h.bx
 have HB : Hid (w.heap[yb]? = some (.cells #[vo] 52) /\ TKt w vo (leafT (enE D))  /\ ∀ j, vo.ownBlock = some j -> w0.heap.size <= j) := ⟨hb, ho, hw⟩
 by_cases hp : t.prod = -1
 ·have t1 : (t.prod == -1) = true := by simpa using hp
  rw [t1] at CI
  have k1 := htw.c1
  have k2 := htw.c2
  have y0 : w.cell? ⟨yb, 0, none⟩ = some vo := (cellq_any hb).trans rfl
  have OA : Hid (∀ wd, Below w.heap.size w wd -> TKt (wd.alloc (.cells #[.int .i64 t.kind, .string t.tx] 23)) vo (leafT (enE D))) := fun wd hd => (ho.later hd).later (below_alloc _ _)
  have NX : Hid (∀ wd : World, ∀ j u, (tkC t)[j]? = some u -> (wd.alloc (.cells #[.int .i64 t.kind, .string t.tx] 23)).cell? ⟨wd.heap.size, j, none⟩ = some u) := fun wd j u hu => by
   rw [cellq_any (heap_alloc_new wd (.cells #[.int .i64 t.kind, .string t.tx] 23)), <- hu]
   simp [tkC]
  have LN : Hid ((leafT (enE D)).length <= 1000000000) := by
   have h1 := leafT_len (enE D)
   have h2 := enE_len D
   show _ <= _
   omega
  have e0 : leafT (enE (D ++ [⟨true, p, q, t⟩])) = leafT (enE D) ++ [t] := by
   rw [enE_app, enE_in, leafT_app]
   simp [leafT, hp]
  have YL : Hid (∀ wd w5 a5 n5 c5, Below w.heap.size w wd -> TKt w5 (.slice a5 n5 c5) (leafT (enE D) ++ [t]) -> Grew (wd.alloc (.cells #[.int .i64 t.kind, .string t.tx] 23)) w5 vo (.slice a5 n5 c5) -> tkS yb vo p q t w5 /\ w5.cell? ⟨yb, 0, none⟩ = some vo /\ w5.frozen? ⟨yb, 0, none⟩ = false /\ OnStp w0.heap.size w (w5.setCell ⟨yb, 0, none⟩ (.slice a5 n5 c5)) /\ YSt w0 yb (D ++ [⟨true, p, q, t⟩]) (w5.setCell ⟨yb, 0, none⟩ (.slice a5 n5 c5))) := fun wd w5 a5 n5 c5 hd ho5 hg5 => by
   have hbA : Below w.heap.size w (wd.alloc (.cells #[.int .i64 t.kind, .string t.tx] 23)) := hd.trans ((below_alloc _ _).mono hd.size)
   have hne : ∀ j, vo.ownBlock = some j -> j ≠ yb := fun j hj e => by
    subst e
    exact tk_ty ho hj hb
   have hbl : ∀ (j : Nat) (o : Obj), w.heap[j]? = some o -> (some j ≠ vo.ownBlock) -> w5.heap[j]? = some o := fun j o hj hn => by
    rw [hg5.grown.block j (Nat.lt_of_lt_of_le (lt_of_block hj) hbA.size) hn, hbA.block j (lt_of_block hj), hj]
   have hyb : w5.heap[yb]? = some (.cells #[vo] 52) := hbl yb _ hb (fun e => hne yb e.symm rfl)
   have hset := heap_setCell_same w5 yb 0 _ _ (.slice a5 n5 c5) hyb
   have hB5 : Below w0.heap.size w0 w5 := hg5.below (HH.out.bel.trans (hbA.mono HH.out.bel.size)) (Nat.le_refl _) hw
   have hBs : Below w0.heap.size w0 (w5.setCell ⟨yb, 0, none⟩ (.slice a5 n5 c5)) := hB5.setCell (p := ⟨yb, 0, none⟩) HH.out.yn _
   have ht5 := ht.later hB5
   have hob : ∀ j, (Value.slice a5 n5 c5).ownBlock = some j -> j ≠ yb /\ w0.heap.size <= j := fun j hj => by
    refine ⟨fun e => ?_, hg5.own (n := w0.heap.size) (Nat.le_trans HH.out.bel.size (Nat.le_trans hbA.size (Nat.le_refl _))) hw j hj⟩
    subst e
    exact tk_ty ho5 hj hyb
   refine ⟨⟨(cellq_any hyb).trans rfl, ht5.c1, ht5.c2⟩, (cellq_any hyb).trans rfl, by simp [World.frozen?, hyb], ⟨?_, fun j o hj hN hs => ?_⟩, hBs, HH.out.yn, .slice a5 n5 c5, hset, ?_, fun j hj => (hob j hj).2⟩
   ·have h1 := hbA.size
    have h2 := hg5.grown.size
    have h3 : (w5.setCell ⟨yb, 0, none⟩ (.slice a5 n5 c5)).heap.size = w5.heap.size := by simp [World.setCell]
    omega
   ·have hjy : j ≠ yb := fun e => by
     subst e
     rw [hb] at hj
     cases hj
     exact not_stp (by decide) hs
    rw [Below.heap_setCell _ _ _ _ (show j ≠ yb from hjy)]
    refine hbl j o hj (fun e => ?_)
    rcases ho.2 with ⟨rfl, _⟩ | ⟨g, cap, cur, rfl, _, h2, _⟩
    ·simp [Value.ownBlock] at e
    ·simp [Value.ownBlock] at e
     subst e
     rw [h2] at hj
     cases hj
     exact not_stp (by decide) hs
   ·rw [e0]
    exact ho5.kept fun j hj => Below.heap_setCell _ _ _ _ (hob j hj).1
  clear h htw hb ho hw t1 e0
  go_enter Tryz.func45, Tryz.ntmps45
  go_upto_region 2 with (go_at_call 36; refine CI.out.mono ?_; rintro e w1 ⟨rfl, rfl⟩)
  obtain ⟨wd, hwd⟩ : ∃ wd : World, wd = w1.drew := ⟨_, rfl⟩
  have BD : Hid (Below w1.heap.size w1 wd) := by rw [hwd]; exact (Below.refl _ _).drew
  have hs : Hid (tkS yb vo p q t wd) := ⟨cellW BD.out y0, cellW BD.out k1, cellW BD.out k2⟩
  clear y0 k1 k2
  refine wp_region_x (S := SX 7 (fun _ => True) (tkS yb vo p q t)) (by kernel_rfl) ?_
  rw [<- hwd]
  clear hwd
  refine wpAnyX_take (m := 7) (i := 0) (v := ?_) rfl (by kernel_rfl) (by kernel_rfl) (by decide) (by decide +kernel) (by decide +kernel) (fun _ _ _ h => h) (by kernel_rfl) (Or.inl ⟨by rfl, ?_⟩) (SX.both trivial hs.out) ?_
  rotate_left
  ·(intro w hSw; obtain ⟨_, z0, z1, z2⟩ := hSw; go_simp; try (with_reducible rfl))
  (try simp only [Act.put, List.setIfInBounds_toArray, List.set_cons_zero, List.set_cons_succ])
  refine wpAnyX_take (m := 7) (i := 1) (v := ?_) rfl (by kernel_rfl) (by kernel_rfl) (by decide) (by decide +kernel) (by decide +kernel) (fun _ _ _ h => h) (by kernel_rfl) (Or.inl ⟨by rfl, ?_⟩) (SX.both trivial hs.out) ?_
  rotate_left
  ·(intro w hSw; obtain ⟨_, z0, z1, z2⟩ := hSw; go_simp; try (with_reducible rfl))
  (try simp only [Act.put, List.setIfInBounds_toArray, List.set_cons_zero, List.set_cons_succ])
  refine wpAnyX_take (m := 7) (i := 2) (v := ?_) rfl (by kernel_rfl) (by kernel_rfl) (by decide) (by decide +kernel) (by decide +kernel) (fun _ _ _ h => h) (by kernel_rfl) (Or.inl ⟨by rfl, ?_⟩) (SX.both trivial hs.out) ?_
  rotate_left
  ·(intro w hSw; obtain ⟨_, z0, z1, z2⟩ := hSw; go_simp; try (with_reducible rfl))
  (try simp only [Act.put, List.setIfInBounds_toArray, List.set_cons_zero, List.set_cons_succ])
  refine wpAnyX_take (m := 7) (i := 3) (v := ?_) rfl (by kernel_rfl) (by kernel_rfl) (by decide) (by decide +kernel) (by decide +kernel) (fun _ _ _ h => h) (by kernel_rfl) (Or.inl ⟨by rfl, ?_⟩) (SX.both trivial hs.out) ?_
  rotate_left
  ·(intro w hSw; obtain ⟨_, z0, z1, z2⟩ := hSw; go_simp; try (with_reducible rfl))
  (try simp only [Act.put, List.setIfInBounds_toArray, List.set_cons_zero, List.set_cons_succ])
  refine wpAnyX_take (m := 7) (i := 4) (v := ?_) rfl (by kernel_rfl) (by kernel_rfl) (by decide) (by decide +kernel) (by decide +kernel) (fun _ _ _ h => h) (by kernel_rfl) (Or.inl ⟨by rfl, ?_⟩) (SX.both trivial hs.out) ?_
  rotate_left
  ·(intro w hSw; obtain ⟨_, z0, z1, z2⟩ := hSw; go_simp; try (with_reducible rfl))
  (try simp only [Act.put, List.setIfInBounds_toArray, List.set_cons_zero, List.set_cons_succ])
  refine wpAnyX_one (j := 5) (by decide +kernel) rfl (fun K' hK => ?_)
  go_simp
  have hs2 : Hid (tkS yb vo p q t (wd.alloc (.cells #[.int .i64 t.kind, .string t.tx] 23))) := hs.out.later (below_alloc _ _)
  refine hK.out _ _ (SX.both trivial hs2.out) ?_
  clear hK K'
  (try simp only [Act.put, List.setIfInBounds_toArray, List.set_cons_zero, List.set_cons_succ])
  refine wpAnyX_one (j := 6) (by decide +kernel) rfl (fun K' hK => ?_)
  refine step_ro_append rkTokT rfl (.tmp 6) (.tmp 11) rfl vo (leafT (enE D)) rfl (OA.out wd BD.out) wd.heap.size 1 t rfl (NX.out wd) LN.out ?_
  intro a5 n5 c5 w5 ho5 hg5
  have W5 := YL.out wd w5 a5 n5 c5 BD.out ho5 hg5
  obtain ⟨q1, q2, q3, q4, q5⟩ := W5
  have Q4 : Hid (OnStp w0.heap.size w1 (w5.setCell ⟨yb, 0, none⟩ (.slice a5 n5 c5)) /\ YSt w0 yb (D ++ [⟨true, p, q, t⟩]) (w5.setCell ⟨yb, 0, none⟩ (.slice a5 n5 c5))) := ⟨q4, q5⟩
  refine hK.out _ _ (SX.both trivial q1) ?_
  clear hK K' q1 q4 q5 ho5 hg5
  (try simp only [Act.put, List.setIfInBounds_toArray, List.set_cons_zero, List.set_cons_succ])
  refine wpAnyX_one (j := 7) (by decide +kernel) rfl (fun K' hK => ?_)
  go_simp
  refine hK.out _ _ (SX.one trivial (by kernel_rfl)) ?_
  clear hK K'
  (try simp only [Act.put, List.setIfInBounds_toArray, List.set_cons_zero, List.set_cons_succ])
  refine wpAnyX_done (by decide +kernel) ?_
  go_wp2
  go_ret
  exact ⟨rfl, Q4.out⟩
 ·have t1 : (t.prod == -1) = false := by simpa using hp
  rw [t1] at CI
  have e0 : leafT (enE (D ++ [⟨true, p, q, t⟩])) = leafT (enE D) := by
   rw [enE_app, enE_in, leafT_app]
   simp [leafT, hp]
  have R : Hid (YSt w0 yb (D ++ [⟨true, p, q, t⟩]) w) := ⟨HH.out.bel, HH.out.yn, vo, HB.out.1, by rw [e0]; exact HB.out.2.1, HB.out.2.2⟩
  clear e0
  clear h htw hb ho hw t1 hp
  go_enter Tryz.func45, Tryz.ntmps45
  go_wp2_with (go_at_call 36; refine CI.out.mono ?_; rintro e w1 ⟨rfl, rfl⟩)
  go_ret
  exact ⟨rfl, OnStp.refl _ _, R.out⟩
theorem tbx_new (w : World) (t : TV) : TBx (w.alloc (tBox t)) w.heap.size 0 t := by
 have h := heap_alloc_new w (tBox t)
 obtain ⟨a, b, c, d⟩ := tb_cells h
 exact ⟨by simp, a, b, c, d⟩
set_option linter.unusedSimpArgs false in
set_option maxRecDepth 100000 in
set_option maxHeartbeats 4000000 in
theorem yield_W (t : TV) (w : World) (ht : TAt w t) (hsz : szT t <= 100000000) : Calls Tryz.prog 15 #[t.val] w fun e w' => ∃ vo, e = .returned vo /\ TKt w' vo (leafT (preT t)) /\ (∀ j, vo.ownBlock = some j -> w.heap.size <= j) /\ Below w.heap.size w w' := by
 have hz : (w.alloc (tBox t)).heap.size = w.heap.size + 1 := by simp
 have hba : Below w.heap.size w (w.alloc (tBox t)) := below_alloc _ _
 have CW : Hid (Calls Tryz.prog 44 #[.pointer (some ⟨w.heap.size, 0, none⟩), fnV 45 #[.pointer (some ⟨w.heap.size + 1, 0, none⟩)]] ((w.alloc (tBox t)).alloc (.cells #[.slice none 0 0] 52)) fun e w' => e = .returned (.tuple #[]) /\ ∃ vo, w'.heap[w.heap.size + 1]? = some (.cells #[vo] 52) /\ TKt w' vo (leafT (preT t)) /\ (∀ j, vo.ownBlock = some j -> w.heap.size <= j) /\ Below w.heap.size w w') := by
  refine (walk_R (St := YSt (w.alloc (tBox t)) (w.heap.size + 1)) (Fin := fun _ => False) ⟨ent_yield1, tbx_new w t, ht.later hba, hsz, fun D w w' h hn => h.still hn, fun D w h => h.bel, fun D p q t' R hD hT w1 h1 => ?_, fun D p q t' R w1 _ h1 => ?_⟩ _ ?_).mono ?_
  ·exact (yield1_W _ _ D p q t' w1 h1 hT (by have := ev_bound hD hsz; omega)).mono fun e w' ⟨e1, e2, e3⟩ => ⟨true, e1, e2, fun _ => e3, fun q => by cases q⟩
  ·obtain ⟨vo, a, b, c⟩ := h1.bx
   exact ⟨h1.bel, h1.yn, vo, a, by rw [enE_app, enE_out, List.append_nil]; exact b, c⟩
  ·refine ⟨below_alloc _ _, by omega, .slice none 0 0, ?_, RO.nil _, fun j hj => by simp [Value.ownBlock] at hj⟩
   have := heap_alloc_new (w.alloc (tBox t)) (.cells #[.slice none 0 0] 52)
   rwa [hz] at this
  ·rintro e w' ⟨e1, e2 | e2⟩
   ·obtain ⟨vo, a, b, c⟩ := e2.bx
    rw [ev_pre] at b
    exact ⟨e1, vo, a, b, fun j hj => by have := c j hj; omega, hba.trans (e2.bel.mono hba.size)⟩
   ·exact e2.elim
 clear ht hsz hz hba
 go_enter Tryz.func15, Tryz.ntmps15
 go_wp2_with (go_at_call 44; refine CW.out.mono ?_; rintro e w1 ⟨rfl, vo, h1, h2, h3, h4⟩; have R : Hid (TKt w1 vo (leafT (preT t)) /\ (∀ j, vo.ownBlock = some j -> w.heap.size <= j) /\ Below w.heap.size w w1) := ⟨h2, h3, h4⟩; have c0 : w1.cell? ⟨w.heap.size + 1, 0, none⟩ = some vo := (cellq_any h1).trans rfl; clear h1 h2 h3 h4)
 go_ret
 exact ⟨vo, rfl, R.out⟩
structure MS where
 pl : Int
 lf : Int
 ht : Int
 dp : Int
 cv : Int
def msE (m : MS) (x : EV) : MS :=
 if x.en = true then
  (if x.t.prod = -1 then ⟨m.pl + 1, m.lf + 1, if m.cv + 1 = 0 then max m.ht (m.dp + 1) else m.ht, m.dp + 1, m.cv + 1⟩
   else ⟨m.pl + 1, m.lf, if m.cv = 0 then max m.ht (m.dp + 1) else m.ht, m.dp + 1, m.cv⟩)
 else (if x.t.prod = -1 then ⟨m.pl, m.lf, m.ht, m.dp - 1, m.cv - 1⟩ else ⟨m.pl, m.lf, m.ht, m.dp - 1, m.cv⟩)
def msU (D : List EV) : MS := D.foldl msE ⟨0, 0, 0, 0, 0⟩
theorem msU_app (D : List EV) (x : EV) : msU (D ++ [x]) = msE (msU D) x := by simp [msU]
theorem ev_rev {P : List EV -> Prop} (h0 : P []) (h1 : ∀ D x, P D -> P (D ++ [x])) (D : List EV) : P D := by
 have : ∀ l : List EV, P l.reverse := by
  intro l
  induction l with
  | nil => exact h0
  | cons a l ih => rw [List.reverse_cons]; exact h1 _ _ ih
 have := this D.reverse
 rwa [List.reverse_reverse] at this
theorem msU_bd (D : List EV) : 0 <= (msU D).pl /\ (msU D).pl <= D.length /\ 0 <= (msU D).lf /\ (msU D).lf <= D.length /\ -(D.length : Int) <= (msU D).ht /\ (msU D).ht <= D.length /\ -(D.length : Int) <= (msU D).dp /\ (msU D).dp <= D.length /\ -(D.length : Int) <= (msU D).cv /\ (msU D).cv <= D.length := by
 induction D using ev_rev with
 | h0 => simp [msU]
 | h1 D x ih =>
  rw [msU_app, List.length_append, List.length_singleton]
  generalize msU D = m at *
  unfold msE
  split <;> split <;> dsimp only <;> (try split) <;> refine ⟨?_, ?_, ?_, ?_, ?_, ?_, ?_, ?_, ?_, ?_⟩ <;> omega
theorem msU_pl (D : List EV) : (msU D).pl = ((enE D).length : Int) /\ (msU D).lf = ((leafT (enE D)).length : Int) := by
 induction D using ev_rev with
 | h0 => simp [msU, enE, leafT]
 | h1 D x ih =>
  rw [msU_app, enE_app, leafT_app, List.length_append, List.length_append]
  have hq : ∀ t : TV, leafT [t] = if t.prod = -1 then [t] else [] := fun t => by simp [leafT, List.filter_cons]
  generalize leafT (enE D) = Lf at *
  generalize msU D = m at *
  obtain ⟨en, p, q, t⟩ := x
  unfold msE
  cases en with
  | true =>
   rw [enE_in]
   by_cases hp : t.prod = -1
   ·simp [hp, hq]
    omega
   ·simp [hp, hq]
    omega
  | false =>
   rw [enE_out]
   have h0 : leafT [] = [] := rfl
   by_cases hp : t.prod = -1 <;> simp [hp, h0] <;> omega
abbrev iBox (x : Int) : Obj := .cells #[.int .i64 x] 3
structure MSt (w0 : World) (b : Nat) (D : List EV) (w : World) : Prop where
 bel : Below w0.heap.size w0 w
 yn : w0.heap.size <= b
 pl : w.heap[b]? = some (iBox (msU D).pl)
 lf : w.heap[b + 1]? = some (iBox (msU D).lf)
 ht : w.heap[b + 2]? = some (iBox (msU D).ht)
 dp : w.heap[b + 3]? = some (iBox (msU D).dp)
 cv : w.heap[b + 4]? = some (iBox (msU D).cv)
theorem MSt.still {w0 : World} {b : Nat} {D : List EV} {w w' : World} (h : MSt w0 b D w) (hn : NoStp w0.heap.size w w') : MSt w0 b D w' :=
 have k : ∀ (j : Nat) (x : Int), w.heap[j]? = some (iBox x) -> w'.heap[j]? = some (iBox x) := fun j x e => hn.keep _ _ e (fun ⟨_, s⟩ => not_stp (by decide) s)
 ⟨hn.bel h.bel, h.yn, k _ _ h.pl, k _ _ h.lf, k _ _ h.ht, k _ _ h.dp, k _ _ h.cv⟩
theorem ps_cells {n : Nat} {w : World} {g : GV} (h : GAt n w g) {j : Nat} (hj : j < g.ps.length) : ∃ b off, g.pa = some ⟨b, off, none⟩ /\ b < w.heap.size /\ w.cell? ⟨b, off + j * 3, none⟩ = some (.int .i64 (g.ps.getD j .none).left) /\ w.cell? ⟨b, off + j * 3 + 1, none⟩ = some (.slice (g.ps.getD j .none).ra (g.ps.getD j .none).right.length (g.ps.getD j .none).rc) /\ SymRow w (g.ps.getD j .none).ra (g.ps.getD j .none).right := by
 obtain ⟨b, o, hpa, hbl, hc⟩ := h.p.cells (by intro e; rw [e] at hj; simp at hj)
 obtain ⟨c0, c1, c2⟩ := hc j hj
 exact ⟨b, o, hpa, hbl, c0, c1, h.p.rows _ (by simp [List.getD, hj])⟩
end Go.Proofs.YteciabdjkaackaaGreat
