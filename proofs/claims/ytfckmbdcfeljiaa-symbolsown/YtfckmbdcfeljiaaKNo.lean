import Derived.Test.YtfckmbdcfeljiaaKBase
namespace Go.Proofs.Ytfckmbdcfeljiaa
set_option linter.unusedVariables false
open Go.RowKit Go.Maps

/-- A book that no call made. -/
def NoBook (w : World) (v : Value) : Prop := v = .pointer none ∨ ∃ p, v = .pointer (some ⟨p, 0, none⟩) ∧ w.heap[p]? = some (.cells #[.pointer none] 55 (0, 0))
theorem NoBook.later {w w' : World} {v : Value} (h : NoBook w v) (hb : Below w.heap.size w w') : NoBook w' v := by
  rcases h with h | ⟨p, h1, h2⟩
  · exact .inl h
  · exact .inr ⟨p, h1, (hb.block p (lt_of_block h2)).trans h2⟩
theorem made_nob {w : World} {v : Value} (h : NoBook w v) : Calls Try.prog 22 #[v] w fun e w' => e = .returned (.bool false) ∧ w = w' := by
  rcases h with rfl | ⟨p, rfl, h2⟩
  · go_enter Try.func22, Try.ntmps22
    go_wp2
    go_ret
    exact ⟨rfl, rfl⟩
  · have hc : w.cell? ⟨p, 0, none⟩ = some (.pointer none) := by rw [cellq_any h2]; rfl
    go_enter Try.func22, Try.ntmps22
    go_wp2
    go_ret
    exact ⟨rfl, rfl⟩
theorem term_nob {w : World} {v : Value} (h : NoBook w v) (s : ByteArray) : Calls Try.prog 16 #[v, .string s] w fun e w' => e = .returned (.tuple #[.int .i64 0, .int .i64 2]) ∧ w = w' := by
  have H : Hid (NoBook w v) := h
  clear h
  go_enter Try.func16, Try.ntmps16
  go_wp2_with (go_at_call 22; refine (made_nob H.out).mono ?_; rintro e w' ⟨rfl, rfl⟩)
  go_returns
  exact ⟨rfl, rfl⟩
theorem non_nob {w : World} {v : Value} (h : NoBook w v) (s : ByteArray) : Calls Try.prog 17 #[v, .string s] w fun e w' => e = .returned (.tuple #[.int .i64 0, .int .i64 2]) ∧ w = w' := by
  have H : Hid (NoBook w v) := h
  clear h
  go_enter Try.func17, Try.ntmps17
  go_wp2_with (go_at_call 22; refine (made_nob H.out).mono ?_; rintro e w' ⟨rfl, rfl⟩)
  go_returns
  exact ⟨rfl, rfl⟩
theorem find_nob {w : World} {v : Value} (h : NoBook w v) (s : ByteArray) : Calls Try.prog 40 #[v, .string s] w fun e w' => e = .returned (.tuple #[.agg #[.int .i64 0, .int .i64 0], .bool false]) ∧ Below w.heap.size w w' := by
  have H : Hid (∀ w', Below w.heap.size w w' → NoBook w' v) := fun w' hb => h.later hb
  clear h
  go_enter Try.func40, Try.ntmps40
  go_wp2_with (go_at_call 22; refine (made_nob (H.out _ (below_alloc w _))).mono ?_; rintro e w' ⟨rfl, rfl⟩)
  go_returns
  exact ⟨rfl, by go_grown⟩
theorem name_nob {w : World} {v : Value} (h : NoBook w v) (k n : Int) : Calls Try.prog 41 #[v, .agg #[.int .i64 k, .int .i64 n]] w fun e w' => e = .returned (.tuple #[.string ⟨#[]⟩, .int .i64 2]) ∧ Below w.heap.size w w' := by
  have H : Hid (∀ w', Below w.heap.size w w' → NoBook w' v) := fun w' hb => h.later hb
  clear h
  go_enter Try.func41, Try.ntmps41
  go_wp2_with (go_at_call 22; refine (made_nob (H.out _ (by go_grown))).mono ?_; rintro e w' ⟨rfl, rfl⟩)
  go_returns
  exact ⟨rfl, by go_grown⟩
theorem terms_nob {w : World} {v : Value} (h : NoBook w v) : Calls Try.prog 10 #[v] w fun e w' => e = .returned (.slice none 0 0) ∧ w = w' := by
  have H : Hid (NoBook w v) := h
  clear h
  go_enter Try.func10, Try.ntmps10
  go_wp2_with (go_at_call 22; refine (made_nob H.out).mono ?_; rintro e w' ⟨rfl, rfl⟩)
  go_ret
  exact ⟨rfl, rfl⟩
theorem nons_nob {w : World} {v : Value} (h : NoBook w v) : Calls Try.prog 11 #[v] w fun e w' => e = .returned (.slice none 0 0) ∧ w = w' := by
  have H : Hid (NoBook w v) := h
  clear h
  go_enter Try.func11, Try.ntmps11
  go_wp2_with (go_at_call 22; refine (made_nob H.out).mono ?_; rintro e w' ⟨rfl, rfl⟩)
  go_ret
  exact ⟨rfl, rfl⟩
theorem mark_nob {w : World} {v : Value} (h : NoBook w v) : Calls Try.prog 42 #[v] w fun e w' => e = .returned (.agg #[.int .i64 0, .int .i64 0]) ∧ Below w.heap.size w w' := by
  have H : Hid (∀ w', Below w.heap.size w w' → NoBook w' v) := fun w' hb => h.later hb
  clear h
  go_enter Try.func42, Try.ntmps42
  go_wp2_with (go_at_call 22; refine (made_nob (H.out _ (by go_grown))).mono ?_; rintro e w' ⟨rfl, rfl⟩)
  go_returns
  exact ⟨rfl, by go_grown⟩
theorem undo_nob {w : World} {v : Value} (h : NoBook w v) (x y : Int) : Calls Try.prog 19 #[v, .agg #[.int .i64 x, .int .i64 y]] w fun e w' => e = .returned (.int .i64 2) ∧ Below w.heap.size w w' := by
  have H : Hid (∀ w', Below w.heap.size w w' → NoBook w' v) := fun w' hb => h.later hb
  clear h
  go_enter Try.func19, Try.ntmps19
  go_wp2_with (go_at_call 22; refine (made_nob (H.out _ (by go_grown))).mono ?_; rintro e w' ⟨rfl, rfl⟩)
  go_ret
  exact ⟨rfl, by go_grown⟩
set_option maxHeartbeats 1000000 in
theorem nothing_nob {w : World} {v : Value} (h : NoBook w v) : Calls Try.prog 14 #[v] w fun e w' => e = .returned (.bool true) ∧ Below w.heap.size w w' := by
  have H : Hid (∀ w', Below w.heap.size w w' → NoBook w' v) := fun w' hb => h.later hb
  clear h
  go_enter Try.func14, Try.ntmps14
  go_wp2_with (first
    | (go_at_call 16; refine (term_nob (H.out w (Below.refl _ _)) _).mono ?_; rintro e w' ⟨rfl, rfl⟩)
    | (go_at_call 17; refine (non_nob (H.out w (Below.refl _ _)) _).mono ?_; rintro e w' ⟨rfl, rfl⟩)
    | (go_at_call 40; refine (find_nob (H.out w (Below.refl _ _)) _).mono ?_; rintro e w3 ⟨rfl, hb3⟩)
    | (go_at_call 41; refine (name_nob (H.out _ (below_step hb3 (below_alloc w3 _))) _ _).mono ?_; rintro e w4 ⟨rfl, hb4⟩; have cs0 := (hb4.cell (p := ⟨w3.heap.size, 0, none⟩) (lt_of_block (heap_alloc_new w3 _))).trans (two_new w3 (.int .i64 0) (.int .i64 0) _ 0 _ rfl); have cs1 := (hb4.cell (p := ⟨w3.heap.size, 1, none⟩) (lt_of_block (heap_alloc_new w3 _))).trans (two_new w3 (.int .i64 0) (.int .i64 0) _ 1 _ rfl); have hc4 := below_step (below_step hb3 (below_alloc w3 _)) hb4)
    | (go_at_call 19; refine (undo_nob (H.out w4 hc4) _ _).mono ?_; rintro e w5 ⟨rfl, hb5⟩; have hc5 := below_step hc4 hb5)
    | (go_at_call 10; refine (terms_nob (H.out w5 hc5)).mono ?_; rintro e w' ⟨rfl, rfl⟩)
    | (go_at_call 11; refine (nons_nob (H.out w5 hc5)).mono ?_; rintro e w' ⟨rfl, rfl⟩)
    | (go_at_call 42; refine (mark_nob (H.out w5 hc5)).mono ?_; rintro e w6 ⟨rfl, hb6⟩))
  go_ret
  exact ⟨rfl, below_step hc5 hb6⟩
end Go.Proofs.Ytfckmbdcfeljiaa
