import Derived.Test.YtnhfnihdikammabSDoes2
namespace Go.Proofs.Ytnhfnihdikammab
set_option linter.unusedVariables false
open Go.RowKit Go.Maps

section
variable {B : Nat} {w w' : World} {p g b q : Nat} {T N T2 N2 T' N' : Value} {D D' : DataW Unit} {ts ns ts' ns' ts2 ns2 ts2' ns2' : List ByteArray}
theorem Half.refKept (h : Half B w p g b q T N D T2 N2 ts ns ts2 ns2) (hf : BFr w w' g b T N T' N') : RB w' q T2 N2 ts2 ns2 := by
  have qg : q ≠ g := by intro e; have := h.rf.hq; rw [e, h.bk.hg] at this; simp at this
  have qb : q ≠ b := by intro e; obtain ⟨es, c, hb⟩ := h.bk.bmap; have := h.rf.hq; rw [e, hb] at this; simp at this
  have row : ∀ k, (T2.ownBlock = some k ∨ N2.ownBlock = some k) → w'.heap[k]? = w.heap[k]? := fun k hk => by
    have kl : k < w.heap.size := hk.elim (fun e => h.rf.tn.lt k e) (fun e => h.rf.nn.lt k e)
    have kg : k ≠ g := by
      intro e
      rcases hk with q | q
      · exact h.rf.tn.ne h.bk.hg (by decide) (by rw [q, e])
      · exact h.rf.nn.ne h.bk.hg (by decide) (by rw [q, e])
    have kb : k ≠ b := by
      intro e
      obtain ⟨es, c, hb⟩ := h.bk.bmap
      rcases hk with q | q
      · exact h.rf.tn.neMap hb (by rw [q, e])
      · exact h.rf.nn.neMap hb (by rw [q, e])
    exact hf.block k kl kg kb (fun e => (h.ap k hk).1 e.symm) (fun e => (h.ap k hk).2 e.symm)
  exact ⟨(hf.block q (lt_of_block h.rf.hq) qg qb (h.bk.tn.ne h.rf.hq (by decide)) (h.bk.nn.ne h.rf.hq (by decide))).trans h.rf.hq, h.rf.tn.kept fun k hk => row k (.inl hk), h.rf.nn.kept fun k hk => row k (.inr hk), h.rf.apart, h.rf.tl, h.rf.nl⟩
theorem Half.apKept (h : Half B w p g b q T N D T2 N2 ts ns ts2 ns2) (hf : BFr w w' g b T N T' N') : ∀ k, (T2.ownBlock = some k ∨ N2.ownBlock = some k) → T'.ownBlock ≠ some k ∧ N'.ownBlock ≠ some k := fun k hk => by
  have kl : k < w.heap.size := hk.elim (fun e => h.rf.tn.lt k e) (fun e => h.rf.nn.lt k e)
  refine ⟨fun e => ?_, fun e => ?_⟩
  · rcases hf.movT k e with r | r
    · exact (h.ap k hk).1 r
    · omega
  · rcases hf.movN k e with r | r
    · exact (h.ap k hk).2 r
    · omega
theorem Half.bkMove (h : Half B w p g b q T N D T2 N2 ts ns ts2 ns2) (hf : BFr w w' g b T N T' N') (hb : BInv w' p g b T' N' D' ts' ns') : Half B w' p g b q T' N' D' T2 N2 ts' ns' ts2 ns2 :=
  ⟨hb, h.refKept hf, h.apKept hf, ⟨h.lo.1, h.lo.2.1, h.lo.2.2.1, h.lo.2.2.2.1, Nat.le_trans h.lo.2.2.2.2 hf.size⟩, fun k hk => by
    rcases hf.movT k hk with r | r
    · exact h.loT k r
    · exact Nat.le_trans h.lo.2.2.2.2 r, fun k hk => by
    rcases hf.movN k hk with r | r
    · exact h.loN k r
    · exact Nat.le_trans h.lo.2.2.2.2 r, h.loT2, h.loN2⟩
theorem Half.refMove (h : Half B w p g b q T N D T2 N2 ts ns ts2 ns2) (hf : BFr w w' q q T2 N2 T' N') (hr : RB w' q T' N' ts2' ns2') : Half B w' p g b q T N D T' N' ts ns ts2' ns2' := by
  have pq : p ≠ q := by intro e; have := h.rf.hq; rw [← e, h.bk.hp] at this; simp at this
  have gq : g ≠ q := by intro e; have := h.rf.hq; rw [← e, h.bk.hg] at this; simp at this
  have bq : b ≠ q := by intro e; obtain ⟨es, c, hb⟩ := h.bk.bmap; have := h.rf.hq; rw [← e, hb] at this; simp at this
  have hp := (hf.block p (lt_of_block h.bk.hp) pq pq (h.rf.tn.ne h.bk.hp (by decide)) (h.rf.nn.ne h.bk.hp (by decide))).trans h.bk.hp
  have hg := (hf.block g (lt_of_block h.bk.hg) gq gq (h.rf.tn.ne h.bk.hg (by decide)) (h.rf.nn.ne h.bk.hg (by decide))).trans h.bk.hg
  have hb : w'.heap[b]? = w.heap[b]? := by
    obtain ⟨es, c, hb⟩ := h.bk.bmap
    exact hf.block b (lt_of_block hb) bq bq (h.rf.tn.neMap hb) (h.rf.nn.neMap hb)
  have row : ∀ k, (T.ownBlock = some k ∨ N.ownBlock = some k) → w'.heap[k]? = w.heap[k]? := fun k hk => by
    have kl : k < w.heap.size := hk.elim (fun e => h.bk.tn.lt k e) (fun e => h.bk.nn.lt k e)
    have kq : k ≠ q := by
      intro e
      rcases hk with r | r
      · exact h.bk.tn.ne h.rf.hq (by decide) (by rw [r, e])
      · exact h.bk.nn.ne h.rf.hq (by decide) (by rw [r, e])
    refine hf.block k kl kq kq (fun e => ?_) (fun e => ?_)
    · rcases hk with r | r
      · exact (h.ap k (.inl e.symm)).1 r
      · exact (h.ap k (.inl e.symm)).2 r
    · rcases hk with r | r
      · exact (h.ap k (.inr e.symm)).1 r
      · exact (h.ap k (.inr e.symm)).2 r
  refine ⟨⟨hp, hg, ownsMap_kept h.bk.own hb, h.bk.look, h.bk.tn.kept fun k hk => row k (.inl hk), h.bk.nn.kept fun k hk => row k (.inr hk), h.bk.apart, h.bk.tl, h.bk.nl, h.bk.sz⟩, hr, fun k hk => ?_, ⟨h.lo.1, h.lo.2.1, h.lo.2.2.1, h.lo.2.2.2.1, Nat.le_trans h.lo.2.2.2.2 hf.size⟩, h.loT, h.loN, fun k hk => ?_, fun k hk => ?_⟩
  · have old : (T2.ownBlock = some k ∨ N2.ownBlock = some k) ∨ w.heap.size ≤ k := by
      rcases hk with e | e
      · rcases hf.movT k e with r | r
        · exact .inl (.inl r)
        · exact .inr r
      · rcases hf.movN k e with r | r
        · exact .inl (.inr r)
        · exact .inr r
    rcases old with o | o
    · exact h.ap k o
    · exact ⟨fun e => by have := h.bk.tn.lt k e; omega, fun e => by have := h.bk.nn.lt k e; omega⟩
  · rcases hf.movT k hk with r | r
    · exact h.loT2 k r
    · exact Nat.le_trans h.lo.2.2.2.2 r
  · rcases hf.movN k hk with r | r
    · exact h.loN2 k r
    · exact Nat.le_trans h.lo.2.2.2.2 r
theorem Two.toHalf (h : Two B w p g b q T N D T2 N2 ts ns) : Half B w p g b q T N D T2 N2 ts ns ts ns := ⟨h.bk, h.rf, h.ap, h.lo, h.loT, h.loN, h.loT2, h.loN2⟩
theorem Half.toTwo (h : Half B w p g b q T N D T2 N2 ts ns ts ns) (hF : Fine ts ns) : Two B w p g b q T N D T2 N2 ts ns := ⟨h.bk, h.rf, h.ap, hF, h.lo, h.loT, h.loN, h.loT2, h.loN2⟩
theorem Half.below (h : Half B w p g b q T N D T2 N2 ts ns ts2 ns2) (hf : BFr w w' g b T N T' N') : Below B w w' := hf.below h.lo.2.2.2.2 h.lo.2.1 h.lo.2.2.1 h.loT h.loN
theorem BFr.other2 {x : Nat} {C : Array Value} {t : TypeId} (h : RB w q T2 N2 ts ns) (hf : BFr w w' q q T2 N2 T' N') (h1 : t ≠ 9) (h2 : t ≠ 29) (hx : w.heap[x]? = some (.cells C t (0, 0))) : w'.heap[x]? = some (.cells C t (0, 0)) := by
  have hq : x ≠ q := by intro e; rw [e, h.hq] at hx; simp at hx; exact h2 hx.2.symm
  exact (hf.block x (lt_of_block hx) hq hq (h.tn.ne hx h1) (h.nn.ne hx h1)).trans hx
end
/-- One of the two has been asked, or neither. -/
structure Mid (B : Nat) (w0 w : World) (p g b q z : Nat) (T N : Value) (D : DataW Unit) (T2 N2 : Value) (ts ns ts2 ns2 : List ByteArray) (kd : Int) (s : ByteArray) (k n x y : Int) : Prop where
  hf : Half B w p g b q T N D T2 N2 ts ns ts2 ns2
  op : OpAt w z kd s k n x y
  be : Below B w0 w
theorem Mid.cell {B : Nat} {w0 w : World} {p g b q z : Nat} {T N : Value} {D : DataW Unit} {T2 N2 : Value} {ts ns ts2 ns2 : List ByteArray} {kd : Int} {s : ByteArray} {k n x y : Int} (h : Mid B w0 w p g b q z T N D T2 N2 ts ns ts2 ns2 kd s k n x y) : w.cell? ⟨z, 4, none⟩ = some (.int .i64 x) ∧ w.cell? ⟨z, 5, none⟩ = some (.int .i64 y) := ⟨h.op.cells.2.2.2.2.1, h.op.cells.2.2.2.2.2.1⟩
theorem midUndo {B : Nat} {w0 w : World} {p g b q z : Nat} {T N : Value} {D : DataW Unit} {T2 N2 : Value} {ts ns ts2 ns2 : List ByteArray} {kd : Int} {s : ByteArray} {k n : Int} {x y : Nat} (h : Mid B w0 w p g b q z T N D T2 N2 ts ns ts2 ns2 kd s k n x y) (hF : Fine ts ns) (hx : x ≤ ts.length) (hy : y ≤ ns.length) :
    Calls Try.prog 24 #[.pointer (some ⟨p, 0, none⟩), .agg #[.int .i64 x, .int .i64 y]] w fun e w' => e = .returned (.int .i64 0) ∧ ∃ T' N' D', Mid B w0 w' p g b q z T' N' D' T2 N2 (ts.take x) (ns.take y) ts2 ns2 kd s k n x y :=
  (undo_ok h.hf.bk hF x y hx hy).mono fun _ _ ⟨he, T', N', D', h1, f1⟩ => ⟨he, T', N', D', ⟨h.hf.bkMove f1 h1, ⟨BFr.other h.hf.bk f1 (by decide) (by decide) h.op.h⟩, h.be.trans (h.hf.below f1)⟩⟩
theorem midRef {B : Nat} {w0 w : World} {p g b q z : Nat} {T N : Value} {D : DataW Unit} {T2 N2 : Value} {ts ns ts2 ns2 : List ByteArray} {kd : Int} {s : ByteArray} {k n : Int} {x y : Nat} (h : Mid B w0 w p g b q z T N D T2 N2 ts ns ts2 ns2 kd s k n x y) (hx : x ≤ ts2.length) (hy : y ≤ ns2.length) :
    Calls Try.prog 39 #[.pointer (some ⟨q, 0, none⟩), .agg #[.int .i64 x, .int .i64 y]] w fun e w' => e = .returned (.int .i64 0) ∧ ∃ T' N', Mid B w0 w' p g b q z T N D T' N' ts ns (ts2.take x) (ns2.take y) kd s k n x y :=
  (refUndo_ok h.hf.rf x y hx hy).mono fun _ _ ⟨he, T', N', h1, f1⟩ => ⟨he, T', N', ⟨h.hf.refMove f1 h1, ⟨BFr.other2 h.hf.rf f1 (by decide) (by decide) h.op.h⟩, h.be.trans (h.hf.below2 f1)⟩⟩
set_option maxRecDepth 100000 in
set_option maxHeartbeats 2000000 in
theorem does_undo_ok {B : Nat} {w : World} {p g b q : Nat} {T N T2 N2 : Value} {D : DataW Unit} {ts ns : List ByteArray} (h : Two B w p g b q T N D T2 N2 ts ns) (kd : Int) (s : ByteArray) (k n : Int) (x y : Nat) (hk : kd ≠ 0 ∧ kd ≠ 1 ∧ kd ≠ 2 ∧ kd ≠ 3) (hx : x ≤ ts.length) (hy : y ≤ ns.length) :
    Calls Try.prog 10 #[.pointer (some ⟨p, 0, none⟩), .pointer (some ⟨q, 0, none⟩), opV kd s k n x y] w (Done B w p g b q) := by
  have hA := h.later (below_alloc w (opC kd s k n x y))
  have M0 : Mid B w (w.alloc (opC kd s k n x y)).drew p g b q w.heap.size T N D T2 N2 ts ns ts ns kd s k n x y := ⟨(hA.later (Below.refl _ _).drew).toHalf, (opAt_new w kd s k n x y).later (Below.refl _ _).drew, ((below_alloc w _).mono h.lo.2.2.2.2).drew⟩
  have hF := h.fine
  have HF : Hid (Fine (ts.take x) (ns.take y)) := hF.take x y
  have k0 : (kd == 0) = false := by simp [hk.1]
  have k1 : (kd == 1) = false := by simp [hk.2.1]
  have k2 : (kd == 2) = false := by simp [hk.2.2.1]
  have k3 : (kd == 3) = false := by simp [hk.2.2.2]
  obtain ⟨o4, o5⟩ := M0.cell
  have ol := (opAt_new w kd s k n x y).cells.2.2.2.2.2.2
  clear hk h hA
  go_enter Try.func10, Try.ntmps10
  go_wp2
  go_region_held3 (fun w' => w'.cell? ⟨w.heap.size, 4, none⟩ = some (.int .i64 x) ∧ w'.cell? ⟨w.heap.size, 5, none⟩ = some (.int .i64 y)) (first | assumption | go_keep)
    (first
      | (go_at_call 24; (with_reducible refine (midUndo M0 hF hx hy).mono ?_); rintro e w1 ⟨rfl, T1, N1, D1, M1⟩; obtain ⟨p4, p5⟩ := M1.cell)
      | (go_at_call 39; (with_reducible refine (midRef M1 hx hy).mono ?_); rintro e w2 ⟨rfl, T3, N3, M3⟩; obtain ⟨r4, r5⟩ := M3.cell)
      | (go_at_call 39; (with_reducible refine (midRef M0 hx hy).mono ?_); rintro e w1 ⟨rfl, T1, N1, M2⟩; obtain ⟨p4, p5⟩ := M2.cell)
      | (go_at_call 24; (with_reducible refine (midUndo M2 hF hx hy).mono ?_); rintro e w2 ⟨rfl, T3, N3, D3, M3⟩; obtain ⟨r4, r5⟩ := M3.cell)
      | (go_at_call 33; refine (num_any _ _).mono ?_; rintro e w' ⟨rfl, rfl⟩))
  all_goals go_wp2
  all_goals go_ret
  all_goals exact ⟨rfl, _, _, _, _, _, _, _, M3.hf.toTwo HF.out, M3.be⟩
end Go.Proofs.Ytnhfnihdikammab
