import Derived.Test.YtflcnlefcnclkaaFThree
namespace Go.Proofs.Ytflcnlefcnclkaa
set_option linter.unusedVariables false
open Go.RowKit

theorem run_null1 {o : Oper} {a : Act} {t0 : TypeId} {v0 : Value} {x0 : Operand} (hop : o.op = Op.call { callee := Callee.value (Operand.func 15), args := #[x0], argTypes := #[t0] }) (h0 : a.eval x0 = v0) (w : World) : (execOp a.eval o).run Try.prog w = .ok (.enter 15 #[v0]) w := by
  have hf : a.eval (Operand.func 15) = .func (.func 15) #[] #[] := rfl
  simp [execOp, hop, resolve, invoke, h0, hf, Deferred.ofValue]
set_option maxRecDepth 100000 in
set_option maxHeartbeats 4000000 in
theorem least_S (g : GV) (w : World) (h : FG w g) :
    Calls Try.prog 17 #[g.val] w fun e w' => ∃ nb fb k, e = .returned (.agg #[.slice (some ⟨nb, 0, none⟩) g.ns.length g.ns.length, .slice (some ⟨fb, 0, none⟩) g.ns.length g.ns.length]) ∧ BB w' nb (nullU g.ps g.ns.length) ∧ SBk w' fb (iterS (nullU g.ps g.ns.length) g.ps (List.replicate g.ns.length (0, 0)) k) ∧ roundS (nullU g.ps g.ns.length) g.ps (iterS (nullU g.ps g.ns.length) g.ps (List.replicate g.ns.length (0, 0)) k) = iterS (nullU g.ps g.ns.length) g.ps (List.replicate g.ns.length (0, 0)) k ∧ (∀ i, OkS ((iterS (nullU g.ps g.ns.length) g.ps (List.replicate g.ns.length (0, 0)) k).getD i (0, 0))) ∧ (iterS (nullU g.ps g.ns.length) g.ps (List.replicate g.ns.length (0, 0)) k).length = g.ns.length ∧ w.heap.size ≤ nb ∧ w.heap.size ≤ fb ∧ Below w.heap.size w w' := by
  have HG : Hid (∀ w', Below w.heap.size w w' → FG w' g) := fun w' hb => h.later hb
  have HMK : Hid (∀ w : World, (Instr.makeSlice 48 (.int .i64 (g.ns.length : Int)) (.int .i64 (g.ns.length : Int))).run Try.prog w = .ok (.slice (some ⟨w.heap.size, 0, none⟩) g.ns.length g.ns.length) (w.alloc (.cells (madeCells #[.int .u64 0, .int .u64 0] (g.ns.length * 2)) 63))) := make_setF g.ns.length (by have := h.nl; omega)
  have HN : Hid ((nullU g.ps g.ns.length).length = g.ns.length) := nullU_len _ _
  obtain ⟨W0, hW0⟩ : ∃ W0 : World, W0 = ((w.alloc (.cells #[.slice g.ta g.ts.length g.tc, .slice g.na g.ns.length g.nc, .int .i64 g.start, .slice g.pa g.ps.length g.pc, .slice g.la g.ls.length g.lc] 26)).alloc (.cells #[.slice none 0 0, .slice none 0 0] 50)) := ⟨_, rfl⟩
  have X0 : Hid (W0.heap[w.heap.size]? = some (gBox g) ∧ W0.heap[w.heap.size + 1]? = some (.cells #[.slice none 0 0, .slice none 0 0] 50) ∧ Below w.heap.size w W0 ∧ W0.heap.size = w.heap.size + 1 + 1) := by
    rw [hW0]
    exact ⟨(alN (by simp)).trans (heap_alloc_new _ _), alE (alZ _ _).symm, (below_alloc w _).trans ((below_alloc _ _).mono (below_alloc w _).size), by rw [alZ, alZ]⟩
  have hnl := h.nl
  have KS0 : Hid (∀ w' : World, w'.heap[w.heap.size]? = some (gBox g) → (fun w' : World => w'.cell? ⟨w.heap.size, 0, none⟩ = some (.slice g.ta g.ts.length g.tc) ∧ w'.cell? ⟨w.heap.size, 1, none⟩ = some (.slice g.na g.ns.length g.nc) ∧ w'.cell? ⟨w.heap.size, 2, none⟩ = some (.int .i64 g.start) ∧ w'.cell? ⟨w.heap.size, 3, none⟩ = some (.slice g.pa g.ps.length g.pc) ∧ w'.cell? ⟨w.heap.size, 4, none⟩ = some (.slice g.la g.ls.length g.lc)) w') := fun w' h => gb_cells h
  clear h
  go_enter Try.func17, Try.ntmps17
  go_wp2
  rw [← hW0]
  clear hW0
  have hs : Hid ((fun w' : World => w'.cell? ⟨w.heap.size, 0, none⟩ = some (.slice g.ta g.ts.length g.tc) ∧ w'.cell? ⟨w.heap.size, 1, none⟩ = some (.slice g.na g.ns.length g.nc) ∧ w'.cell? ⟨w.heap.size, 2, none⟩ = some (.int .i64 g.start) ∧ w'.cell? ⟨w.heap.size, 3, none⟩ = some (.slice g.pa g.ps.length g.pc) ∧ w'.cell? ⟨w.heap.size, 4, none⟩ = some (.slice g.la g.ls.length g.lc)) W0.drew) := KS0.out _ X0.out.1
  refine wp_region_x (S := SX 8 (fun w' : World => w'.cell? ⟨w.heap.size, 0, none⟩ = some (.slice g.ta g.ts.length g.tc) ∧ w'.cell? ⟨w.heap.size, 1, none⟩ = some (.slice g.na g.ns.length g.nc) ∧ w'.cell? ⟨w.heap.size, 2, none⟩ = some (.int .i64 g.start) ∧ w'.cell? ⟨w.heap.size, 3, none⟩ = some (.slice g.pa g.ps.length g.pc) ∧ w'.cell? ⟨w.heap.size, 4, none⟩ = some (.slice g.la g.ls.length g.lc)) (fun _ : World => True)) (by kernel_rfl) ?_
  refine wpAnyX_take (m := 8) (i := 0) (v := ?_) rfl (by kernel_rfl) (by kernel_rfl) (by decide) (by decide +kernel) (by decide +kernel) (fun _ _ _ h => h) (by kernel_rfl) (Or.inl ⟨by rfl, ?_⟩) (SX.both hs.out trivial) ?_
  rotate_left
  · (intro w hSw; (try dsimp only at hSw); go_simp; try (with_reducible rfl))
  (try simp only [Act.put, List.setIfInBounds_toArray, List.set_cons_zero, List.set_cons_succ])
  refine wpAnyX_take (m := 8) (i := 2) (v := ?_) rfl (by kernel_rfl) (by kernel_rfl) (by decide) (by decide +kernel) (by decide +kernel) (fun _ _ _ h => h) (by kernel_rfl) (Or.inl ⟨by rfl, ?_⟩) (SX.both hs.out trivial) ?_
  rotate_left
  · (intro w hSw; (try dsimp only at hSw); go_simp; try (with_reducible rfl))
  (try simp only [Act.put, List.setIfInBounds_toArray, List.set_cons_zero, List.set_cons_succ])
  refine wpAnyX_take (m := 8) (i := 3) (v := ?_) rfl (by kernel_rfl) (by kernel_rfl) (by decide) (by decide +kernel) (by decide +kernel) (fun _ _ _ h => h) (by kernel_rfl) (Or.inl ⟨by rfl, ?_⟩) (SX.both hs.out trivial) ?_
  rotate_left
  · (intro w hSw; (try dsimp only at hSw); go_simp; try (with_reducible rfl))
  (try simp only [Act.put, List.setIfInBounds_toArray, List.set_cons_zero, List.set_cons_succ])
  refine wpAnyX_take (m := 8) (i := 4) (v := ?_) rfl (by kernel_rfl) (by kernel_rfl) (by decide) (by decide +kernel) (by decide +kernel) (fun _ _ _ h => h) (by kernel_rfl) (Or.inl ⟨by rfl, ?_⟩) (SX.both hs.out trivial) ?_
  rotate_left
  · (intro w hSw; (try dsimp only at hSw); go_simp; try (with_reducible rfl))
  (try simp only [Act.put, List.setIfInBounds_toArray, List.set_cons_zero, List.set_cons_succ])

  refine wpAnyX_three4 1 5 7 6 rfl rfl rfl rfl rfl rfl rfl rfl (by decide) (by decide +kernel) (by decide +kernel) (by decide +kernel) (by decide +kernel) (by decide +kernel) (by decide +kernel) (by decide +kernel) (by decide +kernel) (by decide +kernel) (I := (fun w' : World => w'.heap[w.heap.size]? = some (gBox g) ∧ w'.heap[w.heap.size + 1]? = some (.cells #[.slice none 0 0, .slice none 0 0] 50) ∧ Below W0.heap.size W0 w')) ?hI ?hS (T1 := fun b w' => BB w' b (nullU g.ps g.ns.length)) (T2 := fun b w' => SBk w' b (List.replicate g.ns.length (0, 0))) (T3 := fun b w' => w'.heap[b]? = some (.cells #[.slice none 0 0, .slice none 0 0] 50)) (f1 := fun b => .slice (some ⟨b, 0, none⟩) g.ns.length g.ns.length) (f2 := fun b => .slice (some ⟨b, 0, none⟩) g.ns.length g.ns.length) (f3 := fun b => .pointer (some ⟨b, 0, none⟩)) (f4 := fun b c => .agg #[.slice (some ⟨b, 0, none⟩) g.ns.length g.ns.length, .slice (some ⟨c, 0, none⟩) g.ns.length g.ns.length]) ?t1 ?t2 ?t3 (At := (fun a : Act => ∃ v3 v5 v9 v10 : Value, a = { tmps := #[g.val, .pointer (some ⟨w.heap.size, 0, none⟩), .pointer (some ⟨w.heap.size + 1, 0, none⟩), v3, g.val, v5, .pointer (some ⟨w.heap.size, 1, none⟩), .slice g.na g.ns.length g.nc, .int .i64 g.ns.length, v9, v10, undef, undef, undef, undef, undef], defers := [] })) ?at0 ?a1 ?a2 ?a3 ?a4 ?s1 ?s2 ?s3 ?s4 ?s5 ?hw ?go
  case hI => exact fun w' w'' hi hb => ⟨(hb.block _ (lt_of_block hi.1)).trans hi.1, (hb.block _ (lt_of_block hi.2.1)).trans hi.2.1, hi.2.2.trans (hb.mono hi.2.2.size)⟩
  case hS => exact fun w' L' hi => SX.both (KS0.out _ hi.1) trivial
  case t1 => exact fun b w' hb => ⟨hb.lt, fun w'' q => hb.later q⟩
  case t2 => exact fun b w' hb => ⟨hb.lt, fun w'' q => hb.later q⟩
  case t3 => exact fun b w' hb => ⟨lt_of_block hb, fun w'' q => (q.block _ (lt_of_block hb)).trans hb⟩
  case at0 => exact ⟨undef, undef, undef, undef, rfl⟩
  case a1 => rintro a v ⟨v3, v5, v9, v10, rfl⟩; exact ⟨v3, v, v9, v10, rfl⟩
  case a2 => rintro a v ⟨v3, v5, v9, v10, rfl⟩; exact ⟨v3, v5, v, v10, rfl⟩
  case a3 => rintro a v ⟨v3, v5, v9, v10, rfl⟩; exact ⟨v, v5, v9, v10, rfl⟩
  case a4 => rintro a v ⟨v3, v5, v9, v10, rfl⟩; exact ⟨v3, v5, v9, v, rfl⟩
  case s1 =>
    rintro a w1 K ⟨v3, v5, v9, v10, rfl⟩ hi hk
    refine step_callX rfl 15 #[g.val] _ (run_null1 (v0 := g.val) rfl rfl _) (nullables_S g w1 (HG.out _ (X0.out.2.2.1.trans (hi.2.2.mono X0.out.2.2.1.size)))) ?_
    rintro e w' ⟨nb, rfl, q1, q2, q3⟩
    exact ⟨_, rfl, hk nb w' q3 q2 q1⟩
  case s2 =>
    rintro a w1 K ⟨v3, v5, v9, v10, rfl⟩ hi hk
    have hmk := HMK.out
    go_simp
    exact hk w1.heap.size _ (below_alloc _ _) (Nat.le_refl _) (SBk.made w1 _)
  case s3 =>
    rintro a w1 K ⟨v3, v5, v9, v10, rfl⟩ hi hk
    go_simp
    exact hk w1.heap.size _ (below_alloc _ _) (Nat.le_refl _) (heap_alloc_new _ _)
  case s4 =>
    intro w1 K b1 b2 hk
    (try simp only [Act.put, List.setIfInBounds_toArray, List.set_cons_zero, List.set_cons_succ] at hk ⊢)
    go_simp
    exact hk
  case s5 =>
    intro w1 K b1 b2 b3 hk
    (try simp only [Act.put, List.setIfInBounds_toArray, List.set_cons_zero, List.set_cons_succ] at hk ⊢)
    go_simp
    exact hk
  case hw => exact ⟨X0.out.1, X0.out.2.1, (Below.refl _ _).drew⟩
  case go =>
    intro nb fb cb w1 hi hB hl hne q1 q2 q3
    rw [show W0.drew.heap.size = W0.heap.size from rfl] at hl
    have c0 : w1.cell? ⟨cb, 0, none⟩ = some (.slice none 0 0) := (cellq_any q3).trans rfl
    have c1 : w1.cell? ⟨cb, 1, none⟩ = some (.slice none 0 0) := (cellq_any q3).trans rfl
    have f0 := frostS q3 0
    have f1 := frostS q3 1
    have hz := lt_of_block q3
    have off : ∀ j, j ≠ cb → ((w1.setCell ⟨cb, 0, none⟩ (.slice (some ⟨nb, 0, none⟩) g.ns.length g.ns.length)).setCell ⟨cb, 1, none⟩ (.slice (some ⟨fb, 0, none⟩) g.ns.length g.ns.length)).heap[j]? = w1.heap[j]? := fun j hj => by rw [Below.heap_setCell _ _ _ _ hj, Below.heap_setCell _ _ _ _ hj]
    have hx := X0.out.2.2.2
    have L4 : Hid (LWs g w.heap.size cb nb fb (nullU g.ps g.ns.length) (List.replicate g.ns.length (0, 0)) W0.heap.size W0 ((w1.setCell ⟨cb, 0, none⟩ (.slice (some ⟨nb, 0, none⟩) g.ns.length g.ns.length)).setCell ⟨cb, 1, none⟩ (.slice (some ⟨fb, 0, none⟩) g.ns.length g.ns.length))) := ⟨(off _ (by omega)).trans hi.1, by
        show _ = _
        rw [HN.out, heap_set (heap_set q3 0 _) 1 _]
        rfl, q1.kept (off _ hne.2.1), q2.kept (off _ hne.2.2), fun i => by
        have e : (List.replicate g.ns.length ((0, 0) : BS)).getD i (0, 0) = (0, 0) := by simp [List.getD, List.getElem?_replicate]; split <;> rfl
        rw [e]; exact OkS.zero, by simp [HN.out], (hi.2.2.setCell (p := ⟨cb, 0, none⟩) hl.2.2 _).setCell (p := ⟨cb, 1, none⟩) hl.2.2 _⟩
    have HD : Hid (fb ≠ w.heap.size ∧ fb ≠ cb ∧ fb ≠ nb ∧ W0.heap.size ≤ fb) := ⟨by omega, hne.2.2, Ne.symm hne.1, hl.2.1⟩
    have HL : Hid (W0.heap.size ≤ nb ∧ W0.heap.size ≤ fb ∧ W0.heap.size ≤ cb) := hl
    (try simp only [Act.put, List.setIfInBounds_toArray, List.set_cons_zero, List.set_cons_succ])
    refine wpAnyX_one (j := 8) (by decide +kernel) rfl (fun K' hK => ?_)
    clear hi hB q1 q2 q3 hl hne hx
    go_simp
    refine hK.out _ _ (SX.one (KS0.out _ L4.out.gbx) (by decide +kernel)) ?_
    clear hK K' off c0 c1 f0 f1 hz hs
    refine wpAnyX_done (by decide +kernel) ?_
    generalize ((w1.setCell ⟨cb, 0, none⟩ (.slice (some ⟨nb, 0, none⟩) g.ns.length g.ns.length)).setCell ⟨cb, 1, none⟩ (.slice (some ⟨fb, 0, none⟩) g.ns.length g.ns.length)) = w4 at *
    have CB : Hid (∀ w' F, LWs g w.heap.size cb nb fb (nullU g.ps g.ns.length) F W0.heap.size W0 w' → w'.cell? ⟨cb, 0, none⟩ = some (.slice (some ⟨nb, 0, none⟩) g.ns.length g.ns.length) ∧ w'.cell? ⟨cb, 1, none⟩ = some (.slice (some ⟨fb, 0, none⟩) g.ns.length g.ns.length) ∧ w'.heap[w.heap.size + 1]? = some (.cells #[.slice none 0 0, .slice none 0 0] 50)) := fun w' F hL => by
      have hx := X0.out.2.2.2
      have e := hL.cbx
      rw [HN.out] at e
      exact ⟨(cellq_any e).trans rfl, (cellq_any e).trans rfl, (hL.bel.block _ (by omega)).trans X0.out.2.1⟩
    have SC : Hid (Calls Try.prog 35 #[.slice (some ⟨fb, 0, none⟩) g.ns.length g.ns.length, .func (.func 36) #[] #[.pointer (some ⟨w.heap.size, 0, none⟩), .pointer (some ⟨cb, 0, none⟩)]] w4 fun e w' => e = .returned (.tuple #[]) ∧ ∃ k, LWs g w.heap.size cb nb fb (nullU g.ps g.ns.length) (iterS (nullU g.ps g.ns.length) g.ps (List.replicate g.ns.length (0, 0)) k) W0.heap.size W0 w' ∧ roundS (nullU g.ps g.ns.length) g.ps (iterS (nullU g.ps g.ns.length) g.ps (List.replicate g.ns.length (0, 0)) k) = iterS (nullU g.ps g.ns.length) g.ps (List.replicate g.ns.length (0, 0)) k) := by
      have := settle_S g w.heap.size cb nb fb (nullU g.ps g.ns.length) (List.replicate g.ns.length (0, 0)) W0.heap.size W0 w4 (HG.out _ X0.out.2.2.1) rfl L4.out HD.out
      rwa [HN.out] at this
    obtain ⟨c0, c1, _⟩ := CB.out _ _ L4.out
    go_wp2_with (go_at_call 35; refine SC.out.mono ?_; rintro e w5 ⟨rfl, k, l5, r5⟩; have L5 : Hid (LWs g w.heap.size cb nb fb (nullU g.ps g.ns.length) (iterS (nullU g.ps g.ns.length) g.ps (List.replicate g.ns.length (0, 0)) k) W0.heap.size W0 w5 ∧ roundS (nullU g.ps g.ns.length) g.ps (iterS (nullU g.ps g.ns.length) g.ps (List.replicate g.ns.length (0, 0)) k) = iterS (nullU g.ps g.ns.length) g.ps (List.replicate g.ns.length (0, 0)) k) := ⟨l5, r5⟩; obtain ⟨y0, y1, y2⟩ := CB.out _ _ l5; have d0 : w5.cell? ⟨w.heap.size + 1, 0, none⟩ = some (.slice none 0 0) := (cellq_any y2).trans rfl; have d1 : w5.cell? ⟨w.heap.size + 1, 1, none⟩ = some (.slice none 0 0) := (cellq_any y2).trans rfl; have f0 := frostS y2 0; have f1 := frostS y2 1; have hz := lt_of_block y2; clear l5 r5 y2)
    refine bodyPost_ret (v := .agg #[.slice (some ⟨nb, 0, none⟩) g.ns.length g.ns.length, .slice (some ⟨fb, 0, none⟩) g.ns.length g.ns.length]) (by simp [results, Try.results17, go_sem, d0, d1]) rfl ?_
    obtain ⟨l5, r5⟩ := L5.out
    have hl := HL.out
    have hx := X0.out.2.2.2
    have off : ∀ j, j ≠ w.heap.size + 1 → ((w5.setCell ⟨w.heap.size + 1, 0, none⟩ (.slice (some ⟨nb, 0, none⟩) g.ns.length g.ns.length)).setCell ⟨w.heap.size + 1, 1, none⟩ (.slice (some ⟨fb, 0, none⟩) g.ns.length g.ns.length)).heap[j]? = w5.heap[j]? := fun j hj => by rw [Below.heap_setCell _ _ _ _ hj, Below.heap_setCell _ _ _ _ hj]
    exact ⟨nb, fb, k, rfl, l5.n.kept (off _ (by omega)), l5.f.kept (off _ (by omega)), r5, l5.ok, l5.len.1.trans HN.out, by omega, by omega, ((X0.out.2.2.1.trans (l5.bel.mono (by omega))).setCell (p := ⟨w.heap.size + 1, 0, none⟩) (by show w.heap.size ≤ w.heap.size + 1; omega) _).setCell (p := ⟨w.heap.size + 1, 1, none⟩) (by show w.heap.size ≤ w.heap.size + 1; omega) _⟩
end Go.Proofs.Ytflcnlefcnclkaa
