import Derived.Test.YtflcnlefcnclkaaFBack
import Derived.RangeFuncCalls
namespace Go.Proofs.Ytflcnlefcnclkaa
set_option linter.unusedVariables false
open Go.RowKit Go.Shelf

set_option maxRecDepth 100000 in
set_option maxHeartbeats 1000000 in
theorem backward_S (ao : Option Addr) (len cap : Nat) (w : World) : Calls Try.prog 39 #[.slice ao len cap] w fun e w' => e = .returned (.func (.func 50) #[] #[.pointer (some ⟨w.heap.size, 0, none⟩)]) ∧ w' = w.alloc (.cells #[.slice ao len cap] 53) := by
  go_enter Try.func39, Try.ntmps39
  go_wp2
  go_ret
  exact ⟨rfl, rfl⟩
theorem accS_ok {N : List Bool} {F : List BS} {look : BS} (hF : ∀ i, OkS (F.getD i (0, 0))) (hk : OkS look) : ∀ pre : List (BkA N.length), OkS (accS N F look pre) := by
  intro pre
  unfold accS
  induction pre generalizing look with
  | nil => exact hk
  | cons x r ih => exact ih (ahead_ok hF x.2 hk)
theorem keeps_below {W W' : World} (h : Below W.heap.size W W') : KeepsOthers W W' := ⟨h.size, fun k _ hk _ => (h.block k (lt_of_block hk)).trans hk⟩
set_option maxRecDepth 100000 in
set_option maxHeartbeats 4000000 in
theorem of_S (na : Option Addr) (N : List Bool) (nc fb fc : Nat) (F : List BS) (la : Option Addr) (lc : Nat) (l : List (Int × Int)) (look : BS) (w : World) (h : CLM w na N fb F) (hl : SymRow w la l) (hll : l.length ≤ 1048576) (hs : ∀ s ∈ l, SymIn N.length s) (hk : OkS look) :
    Calls Try.prog 24 #[cv na N nc fb fc, .slice la l.length lc, sv look] w fun e w' => e = .returned (sv (ofS N F l look)) ∧ Below w.heap.size w w' := by
  obtain ⟨zs, hzs⟩ := sub_list (fun x : Int × (Int × Int) => SymIn N.length x.2) (bkL l) (fun x hx => by
    have : x.2 ∈ (bkL l).map (·.2) := List.mem_map_of_mem hx
    rw [bkL_rev] at this
    exact hs _ (List.mem_reverse.1 this))
  obtain ⟨k1, k2⟩ := look
  obtain ⟨t0, t1, t2, t3, t4⟩ := four_box w (.cells #[.slice na N.length nc, .slice (some ⟨fb, 0, none⟩) N.length fc] 50) (.cells #[.int .u64 (k1 : Int), .int .u64 (k2 : Int)] 63) (.cells #[.int .u64 0, .int .u64 0] 63) (.cells #[.slice la l.length lc] 53)
  refine (callsIn_wide (n := 6)).1 ?_
  refine callsIn_of_wp_marks Try.func24 rfl trivial ?_ rfl
  simp only [Try.ntmps24, List.size_toArray, List.length_cons, List.length_nil, Nat.reduceAdd, Nat.reduceSub, Array.replicate_succ, Array.replicate_zero, List.push_toArray, List.append_toArray, List.nil_append, List.cons_append]
  gi_wp2_with (refine ⟨trivial, ?_⟩; gi_at_call 39; refine (callsIn_wide.2 (backward_S la l.length lc _)).mono ?_; rintro e w' ⟨rfl, rfl⟩)
  have hsz : ((((w.alloc (.cells #[.slice na N.length nc, .slice (some ⟨fb, 0, none⟩) N.length fc] 50)).alloc (.cells #[.int .u64 (k1 : Int), .int .u64 (k2 : Int)] 63)).alloc (.cells #[.int .u64 0, .int .u64 0] 63)).alloc (.cells #[.slice la l.length lc] 53)).heap.size = w.heap.size + 1 + 1 + 1 + 1 := by rw [alZ, alZ, alZ, alZ]
  obtain ⟨W0, hW0⟩ : ∃ W0, ((((w.alloc (.cells #[.slice na N.length nc, .slice (some ⟨fb, 0, none⟩) N.length fc] 50)).alloc (.cells #[.int .u64 (k1 : Int), .int .u64 (k2 : Int)] 63)).alloc (.cells #[.int .u64 0, .int .u64 0] 63)).alloc (.cells #[.slice la l.length lc] 53)) = W0 := ⟨_, rfl⟩
  rw [hW0] at t0 t1 t2 t3 t4 hsz ⊢
  clear hW0
  refine wpIn_rangeFunc_ownH rfl (by omega) (gf := 50) (lb := #[.pointer (some ⟨w.heap.size + 1 + 1 + 1, 0, none⟩)]) rfl trivial (enters_of Try.func50 (by kernel_rfl) rfl)
    (back_seq Fence.wide _ trivial rfl (by omega) (w.heap.size + 1 + 1 + 1) w.heap.size la lc N.length l hll zs hzs W0 (by omega) t4 w rfl t0 hl) KpB.t (KpB.b (by omega) (by omega)) (Below.refl _ _) (fun _ => rfl)
    (fun pre W => ((CellsAt W w.heap.size #[.slice na N.length nc, .slice (some ⟨fb, 0, none⟩) N.length fc] 50 ∧ CellsAt W (w.heap.size + 1) #[.int .u64 ((accS N F (k1, k2) pre).1 : Int), .int .u64 ((accS N F (k1, k2) pre).2 : Int)] 63) ∧ (CellsAt W (w.heap.size + 1 + 1) #[.int .u64 0, .int .u64 0] 63 ∧ CellsAt W (w.heap.size + 1 + 1 + 1) #[.slice la l.length lc] 53)) ∧ Below w.heap.size w W)
    (fun _ _ _ => False)
    (OwnFrom.and (OwnFrom.and (OwnFrom.and (Own.from (cellsAt_own _ _ _) _) (Own.from (cellsAt_own _ _ _) _)) (OwnFrom.and (Own.from (cellsAt_own _ _ _) _) (Own.from (cellsAt_own _ _ _) _))) (ownFrom_below (Nat.le_refl _) (by omega)))
    (fun _ _ _ _ _ hs _ _ => hs)
    ⟨⟨⟨t1, t2⟩, ⟨t3, t4⟩⟩, t0⟩
    (fun x a' W => ∃ Bx, w.heap.size + 1 + 1 + 1 < Bx ∧ CellsAt W Bx #[.int .i64 x.1.2.1, .int .i64 x.1.2.2] 68 ∧ a' = { tmps := #[cv na N nc fb fc, .slice la l.length lc, sv (k1, k2), .pointer (some ⟨w.heap.size, 0, none⟩), undef, .pointer (some ⟨w.heap.size + 1, 0, none⟩), .pointer (some ⟨w.heap.size + 1 + 1, 0, none⟩), undef, .pointer (some ⟨Bx, 0, none⟩), .slice la l.length lc, .func (.func 50) #[] #[.pointer (some ⟨w.heap.size + 1 + 1 + 1, 0, none⟩)], .int .i64 x.1.1, .agg #[.int .i64 x.1.2.1, .int .i64 x.1.2.2], undef, undef, undef, undef, undef], defers := [] })
    (fun x a' _ X Y row hs hg hr => by obtain ⟨Bx, h1, h2, h3⟩ := hs; exact ⟨Bx, h1, cellsAt_own Bx 68 (fun (_ : Unit) => #[.int .i64 x.1.2.1, .int .i64 x.1.2.2]) () X Y row h2 hg (fun r e => (hr r e).2), h3⟩)
    ?assign ?body ?done ?stop
  case assign =>
    rintro l' pre x W K ⟨⟨⟨c1, c2⟩, c3, c4⟩, hB1⟩ hK
    have hsa := @Oper.semAt_some
    gi_wp2
    exact hK _ _ ((KeepsOthers.alloc _ _).from _) ⟨(Below.refl _ W).alloc hB1.size _, (below_alloc _ _).block _ c4.lt⟩ ⟨⟨⟨c1.alloc _, c2.alloc _⟩, c3.alloc _, c4.alloc _⟩, hB1.alloc hB1.size _⟩ ⟨W.heap.size, c4.lt, heap_alloc_new _ _, rfl⟩
  case body =>
    rintro l' pre x a' W hl' ⟨r, hr⟩ ⟨⟨⟨c1, c2⟩, c3, c4⟩, hB1⟩ ⟨Bx, hBx, bX, rfl⟩ hlt
    have hsa := @Oper.semAt_some
    have hok := accS_ok h.ok hk pre
    have hsucc := accS_succ N F (k1, k2) pre x
    generalize hp : accS N F (k1, k2) pre = p at *
    obtain ⟨p1, p2⟩ := p
    have x0 : W.cell? ⟨w.heap.size, 0, none⟩ = some (.slice na N.length nc) := (cellq_any c1).trans rfl
    have x1 : W.cell? ⟨w.heap.size, 1, none⟩ = some (.slice (some ⟨fb, 0, none⟩) N.length fc) := (cellq_any c1).trans rfl
    have y0 : W.cell? ⟨w.heap.size + 1, 0, none⟩ = some (.int .u64 (p1 : Int)) := (cellq_any c2).trans rfl
    have y1 : W.cell? ⟨w.heap.size + 1, 1, none⟩ = some (.int .u64 (p2 : Int)) := (cellq_any c2).trans rfl
    have z0 : W.cell? ⟨Bx, 0, none⟩ = some (.int .i64 x.1.2.1) := (cellq_any bX).trans rfl
    have z1 : W.cell? ⟨Bx, 1, none⟩ = some (.int .i64 x.1.2.2) := (cellq_any bX).trans rfl
    have hC := ahead_S na N nc fb fc F x.1.2 (p1, p2) W (h.later hB1) x.2 hok
    generalize hq : aheadS N F x.1.2 (p1, p2) = q at *
    obtain ⟨q1, q2⟩ := q
    gi_wp2_with (refine ⟨trivial, ?_⟩; gi_at_call 40; refine (CallsIn.inRound l' (callsIn_wide.2 hC)).mono ?_; rintro e w2 ⟨rfl, b2⟩; have d2 : CellsAt w2 (w.heap.size + 1) #[.int .u64 (p1 : Int), .int .u64 (p2 : Int)] 63 := (b2.block _ c2.lt).trans c2; have e0 : w2.cell? ⟨w.heap.size + 1, 0, none⟩ = some (.int .u64 (p1 : Int)) := (cellq_any d2).trans rfl; have e1 : w2.cell? ⟨w.heap.size + 1, 1, none⟩ = some (.int .u64 (p2 : Int)) := (cellq_any d2).trans rfl; have g0 := frostS d2 0; have g1 := frostS d2 1; have hz2 := d2.lt)
    have off : ∀ j, j ≠ w.heap.size + 1 → ((w2.setCell ⟨w.heap.size + 1, 0, none⟩ (.int .u64 (q1 : Int))).setCell ⟨w.heap.size + 1, 1, none⟩ (.int .u64 (q2 : Int))).heap[j]? = w2.heap[j]? := fun j hj => by rw [Below.heap_setCell _ _ _ _ hj, Below.heap_setCell _ _ _ _ hj]
    have hBW : Below w.heap.size W ((w2.setCell ⟨w.heap.size + 1, 0, none⟩ (.int .u64 (q1 : Int))).setCell ⟨w.heap.size + 1, 1, none⟩ (.int .u64 (q2 : Int))) := ((b2.mono hB1.size).setCell (p := ⟨w.heap.size + 1, 0, none⟩) (by show w.heap.size ≤ w.heap.size + 1; omega) _).setCell (p := ⟨w.heap.size + 1, 1, none⟩) (by show w.heap.size ≤ w.heap.size + 1; omega) _
    refine ⟨(((keeps_below b2).trans (KeepsOthers.setCell _ _ _)).trans (KeepsOthers.setCell _ _ _)).from _, ⟨hBW, (off _ (by omega)).trans (b2.block _ c4.lt)⟩, ⟨⟨(off _ (by omega)).trans ((b2.block _ c1.lt).trans c1), ?_⟩, (off _ (by omega)).trans ((b2.block _ c3.lt).trans c3), (off _ (by omega)).trans ((b2.block _ c4.lt).trans c4)⟩, hB1.trans hBW⟩
    rw [hsucc]
    exact (heap_set (heap_set d2 0 _) 1 _).trans rfl
  case done =>
    rintro D ys W hD rfl ⟨⟨⟨c1, c2⟩, c3, c4⟩, hB1⟩ hK
    rw [accS_all N F (k1, k2) l _ hzs] at c2
    generalize hq : ofS N F l (k1, k2) = q at *
    obtain ⟨q1, q2⟩ := q
    have y0 : W.cell? ⟨w.heap.size + 1, 0, none⟩ = some (.int .u64 (q1 : Int)) := (cellq_any c2).trans rfl
    have y1 : W.cell? ⟨w.heap.size + 1, 1, none⟩ = some (.int .u64 (q2 : Int)) := (cellq_any c2).trans rfl
    have e0 : W.cell? ⟨w.heap.size + 1 + 1, 0, none⟩ = some (.int .u64 0) := (cellq_any c3).trans rfl
    have e1 : W.cell? ⟨w.heap.size + 1 + 1, 1, none⟩ = some (.int .u64 0) := (cellq_any c3).trans rfl
    have g0 := frostS c3 0
    have g1 := frostS c3 1
    have hz3 := c3.lt
    gi_wp2
    have hK2 : ((W.setCell ⟨w.heap.size + 1 + 1, 0, none⟩ (.int .u64 (q1 : Int))).setCell ⟨w.heap.size + 1 + 1, 1, none⟩ (.int .u64 (q2 : Int))).heap[D]? = some (.deferred (some [])) := by
      rw [Below.heap_setCell _ _ _ _ (show D ≠ w.heap.size + 1 + 1 by omega), Below.heap_setCell _ _ _ _ (show D ≠ w.heap.size + 1 + 1 by omega)]
      exact hK
    refine ⟨by simp, .inl ⟨_, _, rfl, run_takeDeferred hK2, ?_⟩⟩
    have hc : CellsAt ((W.setCell ⟨w.heap.size + 1 + 1, 0, none⟩ (.int .u64 (q1 : Int))).setCell ⟨w.heap.size + 1 + 1, 1, none⟩ (.int .u64 (q2 : Int))) (w.heap.size + 1 + 1) #[.int .u64 (q1 : Int), .int .u64 (q2 : Int)] 63 := (heap_set (heap_set c3 0 _) 1 _).trans rfl
    have hBW : Below w.heap.size w ((W.setCell ⟨w.heap.size + 1 + 1, 0, none⟩ (.int .u64 (q1 : Int))).setCell ⟨w.heap.size + 1 + 1, 1, none⟩ (.int .u64 (q2 : Int))) := (hB1.setCell (p := ⟨w.heap.size + 1 + 1, 0, none⟩) (by show w.heap.size ≤ w.heap.size + 1 + 1; omega) _).setCell (p := ⟨w.heap.size + 1 + 1, 1, none⟩) (by show w.heap.size ≤ w.heap.size + 1 + 1; omega) _
    have hBZ := hBW.trans (belowK_b (w := w) (Nat.le_refl _) _ D _ (.deferred none) (by omega) hK2 rfl rfl)
    have hcZ : CellsAt (((W.setCell ⟨w.heap.size + 1 + 1, 0, none⟩ (.int .u64 (q1 : Int))).setCell ⟨w.heap.size + 1 + 1, 1, none⟩ (.int .u64 (q2 : Int))).putObj D (.deferred none)) (w.heap.size + 1 + 1) #[.int .u64 (q1 : Int), .int .u64 (q2 : Int)] 63 := (World.putObj_heap_other (by omega)).trans hc
    generalize ((W.setCell ⟨w.heap.size + 1 + 1, 0, none⟩ (.int .u64 (q1 : Int))).setCell ⟨w.heap.size + 1 + 1, 1, none⟩ (.int .u64 (q2 : Int))).putObj D (.deferred none) = Z at *
    have r0 : Z.cell? ⟨w.heap.size + 1 + 1, 0, none⟩ = some (.int .u64 (q1 : Int)) := (cellq_any hcZ).trans rfl
    have r1 : Z.cell? ⟨w.heap.size + 1 + 1, 1, none⟩ = some (.int .u64 (q2 : Int)) := (cellq_any hcZ).trans rfl
    exact ⟨sv (q1, q2), by simp [results, Try.results24, go_sem, r0, r1], rfl, hBZ⟩
  case stop =>
    rintro D c pre W _ _ h _
    exact h.elim
end Go.Proofs.Ytflcnlefcnclkaa
