import Derived.Test.YtflcnlefcnclkaaFMem4
namespace Go.Proofs.Ytflcnlefcnclkaa
set_option linter.unusedVariables false
open Go.RowKit

/-- A list of bools that fills its block. -/
def BB (w : World) (b : Nat) (L : List Bool) : Prop := w.heap[b]? = some (.cells (L.map Value.bool).toArray 4 (0, 0))
theorem BB.lt {w : World} {b : Nat} {L : List Bool} (h : BB w b L) : b < w.heap.size := lt_of_block h
theorem BB.cell {w : World} {b : Nat} {L : List Bool} (h : BB w b L) {i : Nat} (hi : i < L.length) : w.cell? ⟨b, i, none⟩ = some (.bool (L.getD i false)) := by
  rw [cellq_any h]
  simp [List.getD, hi]
theorem BB.free {w : World} {b : Nat} {L : List Bool} (h : BB w b L) (i : Nat) : w.frozen? ⟨b, i, none⟩ = false := by
  unfold BB at h
  simp [World.frozen?, h]
theorem BB.set {w : World} {b : Nat} {L : List Bool} (h : BB w b L) (i : Nat) (v : Bool) : BB (w.setCell ⟨b, i, none⟩ (.bool v)) b (L.set i v) := by
  unfold BB
  rw [heap_set h i (.bool v), List.setIfInBounds_toArray, List.map_set]
theorem BB.kept {w w' : World} {b : Nat} {L : List Bool} (h : BB w b L) (hb : w'.heap[b]? = w.heap[b]?) : BB w' b L := hb.trans h
theorem BB.later {w w' : World} {b : Nat} {L : List Bool} (h : BB w b L) (hb : Below w.heap.size w w') : BB w' b L := h.kept (hb.block _ h.lt)
theorem infoBool_parts : ∃ i, Try.prog.info? 4 = some i ∧ i.zero = some (.bool false) ∧ i.size = 1 ∧ i.bytes = 1 := by
  have h : (Try.prog.info? 4).map (fun i => (i.zero, i.size, i.bytes)) = some (some (.bool false), 1, 1) := by kernel_rfl
  cases e : Try.prog.info? 4 with
  | none => rw [e] at h; cases h
  | some i => rw [e] at h; simp at h; exact ⟨i, rfl, h⟩
theorem make_boolF (n : Nat) (hn : n ≤ 1048576) (w : World) : (Instr.makeSlice 27 (.int .i64 (n : Int)) (.int .i64 (n : Int))).run Try.prog w = .ok (.slice (some ⟨w.heap.size, 0, none⟩) n n) (w.alloc (.cells (madeCells #[.bool false] n) 4)) := by
  obtain ⟨i0, hi, hz0, hz1, hz2⟩ := infoBool_parts
  have := run_makeSlice w 27 4 i0 (.bool false) Try.underlying27 hi hz0 .i64 .i64 (n : Int) (n : Int) (by omega) (by omega) (by rw [hz1]; simp; omega) (by rw [hz2]; omega) (by omega)
  rw [hz1] at this
  simpa [Value.cells] using this
theorem BB.made (w : World) (n : Nat) : BB (w.alloc (.cells (madeCells #[.bool false] n) 4)) w.heap.size (List.replicate n false) := by
  unfold BB
  rw [heap_alloc_new, made_listF, List.map_replicate]
/-- The first k told, the rest false. -/
def partB (L : List Bool) (k : Nat) : List Bool := L.take k ++ List.replicate (L.length - k) false
theorem partB_len (L : List Bool) {k : Nat} (h : k ≤ L.length) : (partB L k).length = L.length := by simp [partB]; omega
theorem partB_succ (L : List Bool) {k : Nat} (h : k < L.length) : partB L (k + 1) = (partB L k).set k (L.getD k false) := by
  unfold partB
  apply List.ext_getElem
  · simp; omega
  · intro i h1 h2
    simp only [List.getElem_set, List.getElem_append, List.length_take, List.getElem_replicate, List.getElem_take]
    simp only [List.length_append, List.length_take, List.length_replicate] at h1
    by_cases e : i = k
    · subst e
      simp [List.getD, h, show i < min (i + 1) L.length by omega]
    · by_cases e2 : i < k
      · simp [show i < min (k + 1) L.length by omega, show i < min k L.length by omega, show ¬ k = i by omega]
      · simp [show ¬ i < min (k + 1) L.length by omega, show ¬ i < min k L.length by omega, show ¬ k = i by omega]
theorem partB_all (L : List Bool) : partB L L.length = L := by simp [partB]
theorem nullU_get (ps : List PV) (n i : Nat) (hi : i < n) : (nullU ps n).getD i false = decide (0 < (htU ps n n).getD i 0) := by
  unfold nullU
  have : i < (htU ps n n).length := by rw [htU_len]; exact hi
  simp [List.getD, this]
theorem nullU_len (ps : List PV) (n : Nat) : (nullU ps n).length = n := by unfold nullU; rw [List.length_map, htU_len]
set_option maxRecDepth 100000 in
set_option maxHeartbeats 4000000 in
theorem nullables_S (g : GV) (w : World) (h : FG w g) :
    Calls Try.prog 15 #[g.val] w fun e w' => ∃ nb, e = .returned (.slice (some ⟨nb, 0, none⟩) g.ns.length g.ns.length) ∧ BB w' nb (nullU g.ps g.ns.length) ∧ w.heap.size ≤ nb ∧ Below w.heap.size w w' := by
  have hmk := make_boolF g.ns.length (by have := h.nl; omega)
  have HG : Hid (∀ w', Below w.heap.size w w' → FG w' g) := fun w' hb => h.later hb
  have X0 : Hid ((w.alloc (gBox g)).heap[w.heap.size]? = some (gBox g)) := heap_alloc_new _ _
  have N0 : Hid (BB ((w.alloc (gBox g)).alloc (.cells (madeCells #[.bool false] g.ns.length) 4)) (w.heap.size + 1) (partB (nullU g.ps g.ns.length) 0)) := by
    have := BB.made (w.alloc (gBox g)) g.ns.length
    rw [show (w.alloc (gBox g)).heap.size = w.heap.size + 1 by simp] at this
    show BB _ _ _
    simpa [partB, nullU_len] using this
  have B0 : Hid (Below w.heap.size w ((w.alloc (gBox g)).alloc (.cells (madeCells #[.bool false] g.ns.length) 4)) ∧ ((w.alloc (gBox g)).alloc (.cells (madeCells #[.bool false] g.ns.length) 4)).heap[w.heap.size]? = some (gBox g)) :=
    ⟨(below_alloc w _).trans ((below_alloc _ _).mono (below_alloc w _).size), ((below_alloc _ _).block _ (lt_of_block X0.out)).trans X0.out⟩
  have hnl := h.nl
  have HGT : Hid (∀ i, i < g.ns.length → (nullU g.ps g.ns.length).getD i false = decide (0 < (htU g.ps g.ns.length g.ns.length).getD i 0)) := nullU_get _ _
  have HNL : Hid ((nullU g.ps g.ns.length).length = g.ns.length ∧ (htU g.ps g.ns.length g.ns.length).length = g.ns.length) := ⟨nullU_len _ _, htU_len _ _ _⟩
  obtain ⟨x0, x1, x2, x3, x4⟩ := gb_cells X0.out
  obtain ⟨y0, y1, y2, y3, y4⟩ := gb_cells B0.out.2
  clear h
  go_enter Try.func15, Try.ntmps15
  go_wp2_with (go_at_call 33; refine (heights_S g _ (HG.out _ B0.out.1)).mono ?_; rintro e w2 ⟨kb, rfl, k2, l2, b2⟩; have B2 : Hid (Below w.heap.size w w2 ∧ BB w2 (w.heap.size + 1) (partB (nullU g.ps g.ns.length) 0) ∧ KB w2 kb (htU g.ps g.ns.length g.ns.length) ∧ w.heap.size + 1 < kb) := ⟨B0.out.1.trans (b2.mono B0.out.1.size), N0.out.later b2, k2, Nat.lt_of_lt_of_le N0.out.lt l2⟩; clear k2 l2 b2)
  generalize hN : nullU g.ps g.ns.length = N at *
  generalize hH : htU g.ps g.ns.length g.ns.length = Hh at *
  clear x0 x1 x2 x3 x4 y0 y1 y2 y3 y4 hmk X0 N0 B0
  go_loopw [13] (fun z wr => ∃ k : Nat, k ≤ g.ns.length ∧ z = .int .i64 k ∧ BB wr (w.heap.size + 1) (partB N k) ∧ KB wr kb Hh ∧ Below w.heap.size w wr) (fun z _ => g.ns.length - (intOf z).toNat)
  case atStart => exact ⟨0, Nat.zero_le _, rfl, B2.out.2.1, B2.out.2.2.1, B2.out.1⟩
  case round =>
    obtain ⟨k, hk, rfl, hB, hK, hb⟩ := hrel
    have H : Hid (BB wr (w.heap.size + 1) (partB N k) ∧ KB wr kb Hh ∧ Below w.heap.size w wr) := ⟨hB, hK, hb⟩
    by_cases hlt : k < g.ns.length
    · have klt : (k : Int) < (g.ns.length : Int) := by omega
      have kc := hK.cell (i := k) (by rw [HNL.out.2]; exact hlt)
      have hpl : k < (partB N k).length := by rw [partB_len _ (by rw [HNL.out.1]; omega), HNL.out.1]; exact hlt
      have bc := hB.cell hpl
      have bf := hB.free k
      have bz := hB.lt
      have HV : Hid (N.getD k false = decide (0 < Hh.getD k 0)) := HGT.out k hlt
      have HPS : Hid (partB N (k + 1) = (partB N k).set k (N.getD k false)) := partB_succ N (by rw [HNL.out.1]; exact hlt)
      generalize Hh.getD k 0 = v at *
      clear hB hK hb
      go_wp2
      go_roundw
      case rel =>
        obtain ⟨hB, hK, hb⟩ := H.out
        have hne := B2.out.2.2.2
        refine ⟨k + 1, by omega, by go_num, ?_, ?_, ?_⟩
        · rw [HPS.out, HV.out]
          exact hB.set k _
        · exact hK.kept (Below.heap_setCell wr ⟨w.heap.size + 1, k, none⟩ _ _ (show kb ≠ w.heap.size + 1 by omega))
        · exact hb.setCell (p := ⟨w.heap.size + 1, k, none⟩) (by show w.heap.size ≤ w.heap.size + 1; omega) _
      case measure => simp [intOf]; omega
    · obtain rfl : k = g.ns.length := by omega
      clear hB hK hb
      go_wp2
      go_ret
      refine ⟨w.heap.size + 1, rfl, ?_, by omega, H.out.2.2⟩
      have := H.out.1
      rw [← HNL.out.1, partB_all] at this
      rw [hN]
      exact this
end Go.Proofs.Ytflcnlefcnclkaa
