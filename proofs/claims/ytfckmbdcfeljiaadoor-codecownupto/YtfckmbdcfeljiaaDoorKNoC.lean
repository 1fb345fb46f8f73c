import Derived.Test.YtfckmbdcfeljiaaDoorKBase
import Derived.Test.YtfckmbdcfeljiaaDoorRText
import Derived.Test.YtfckmbdcfeljiaaDoorCount
import Derived.Test.YtfckmbdcfeljiaaDoorWText
namespace Go.Proofs.YtfckmbdcfeljiaaDoor
set_option linter.unusedVariables false
open Go.RowKit Go.Maps

/-- A writer that no call made. -/
def NoWr (w : World) (v : Value) : Prop := v = .pointer none ∨ ∃ p, v = .pointer (some ⟨p, 0, none⟩) ∧ w.heap[p]? = some (.cells #[.pointer none] 65 (0, 0))
theorem NoWr.later {w w' : World} {v : Value} (h : NoWr w v) (hb : Below w.heap.size w w') : NoWr w' v := by
  rcases h with h | ⟨p, h1, h2⟩
  · exact .inl h
  · exact .inr ⟨p, h1, (hb.block p (lt_of_block h2)).trans h2⟩
theorem wmade_nob {w : World} {v : Value} (h : NoWr w v) : Calls Tryd.prog 26 #[v] w fun e w' => e = .returned (.bool false) ∧ w = w' := by
  rcases h with rfl | ⟨p, rfl, h2⟩
  · go_enter Tryd.func26, Tryd.ntmps26
    go_wp2
    go_ret
    exact ⟨rfl, rfl⟩
  · have hc : w.cell? ⟨p, 0, none⟩ = some (.pointer none) := by simp [World.cell?, h2]
    go_enter Tryd.func26, Tryd.ntmps26
    go_wp2
    go_ret
    exact ⟨rfl, rfl⟩
theorem wready_nob {w : World} {v : Value} (h : NoWr w v) : Calls Tryd.prog 24 #[v] w fun e w' => e = .returned (.bool false) ∧ w = w' := by
  have H : Hid (NoWr w v) := h
  clear h
  go_enter Tryd.func24, Tryd.ntmps24
  go_wp2_with (go_at_call 26; refine (wmade_nob H.out).mono ?_; rintro e w' ⟨rfl, rfl⟩)
  go_ret
  exact ⟨rfl, rfl⟩
theorem wnumber_nob {w : World} {v : Value} (h : NoWr w v) (n : Int) : Calls Tryd.prog 20 #[v, .int .u64 n] w fun e w' => e = .returned (.tuple #[]) ∧ w = w' := by
  have H : Hid (NoWr w v) := h
  clear h
  go_enter Tryd.func20, Tryd.ntmps20
  go_wp2_with (go_at_call 24; refine (wready_nob H.out).mono ?_; rintro e w' ⟨rfl, rfl⟩)
  go_end0
  exact ⟨rfl, rfl⟩
theorem wfail_nob {w : World} {v : Value} (h : NoWr w v) (n : Int) : Calls Tryd.prog 78 #[v, .int .i64 n] w fun e w' => e = .returned (.tuple #[]) ∧ w = w' := by
  have H : Hid (NoWr w v) := h
  clear h
  go_enter Tryd.func78, Tryd.ntmps78
  go_wp2_with (go_at_call 24; refine (wready_nob H.out).mono ?_; rintro e w' ⟨rfl, rfl⟩)
  go_end0
  exact ⟨rfl, rfl⟩
theorem wint_nob {w : World} {v : Value} (h : NoWr w v) (n : Int) (h0 : -9223372036854775808 ≤ n) (h1 : n ≤ 9223372036854775807) : Calls Tryd.prog 53 #[v, .int .i64 n] w fun e w' => e = .returned (.tuple #[]) ∧ w = w' := by
  have H : Hid (NoWr w v) := h
  clear h
  by_cases hn : n < 0
  · go_enter Tryd.func53, Tryd.ntmps53
    go_wp2_with (go_at_call 78; refine (wfail_nob H.out _).mono ?_; rintro e w' ⟨rfl, rfl⟩)
    refine bodyPost_ret (results_none rfl _ _ _) rfl ?_
    exact ⟨rfl, rfl⟩
  · have hn0 : 0 ≤ n := by omega
    clear hn
    go_enter Tryd.func53, Tryd.ntmps53
    go_wp2_with (go_at_call 20; refine (wnumber_nob H.out _).mono ?_; rintro e w' ⟨rfl, rfl⟩)
    go_end0
    exact ⟨rfl, rfl⟩
theorem wsigned_nob {w : World} {v : Value} (h : NoWr w v) (n : Int) (h0 : -9223372036854775808 ≤ n) (h1 : n ≤ 9223372036854775807) : Calls Tryd.prog 54 #[v, .int .i64 n] w fun e w' => e = .returned (.tuple #[]) ∧ w = w' := by
  have H : Hid (NoWr w v) := h
  clear h
  go_enter Tryd.func54, Tryd.ntmps54
  go_wp2_with (first
    | (go_at_call 79; refine (fold_any n w h0 h1).mono ?_; rintro e w' ⟨rfl, rfl⟩)
    | (go_at_call 20; refine (wnumber_nob H.out _).mono ?_; rintro e w' ⟨rfl, rfl⟩))
  go_end0
  exact ⟨rfl, rfl⟩
theorem wflag_nob {w : World} {v : Value} (h : NoWr w v) : Calls Tryd.prog 55 #[v, .bool true] w fun e w' => e = .returned (.tuple #[]) ∧ w = w' := by
  have H : Hid (NoWr w v) := h
  clear h
  go_enter Tryd.func55, Tryd.ntmps55
  go_wp2_with (go_at_call 20; refine (wnumber_nob H.out _).mono ?_; rintro e w' ⟨rfl, rfl⟩)
  refine bodyPost_ret (results_none rfl _ _ _) rfl ?_
  exact ⟨rfl, rfl⟩
theorem wtext_nob {w : World} {v : Value} (h : NoWr w v) (s : ByteArray) : Calls Tryd.prog 6 #[v, .string s] w fun e w' => e = .returned (.tuple #[]) ∧ w = w' := by
  have H : Hid (NoWr w v) := h
  clear h
  go_enter Tryd.func6, Tryd.ntmps6
  go_wp2_with (go_at_call 24; refine (wready_nob H.out).mono ?_; rintro e w' ⟨rfl, rfl⟩)
  go_end0
  exact ⟨rfl, rfl⟩
theorem wbytes_nob {w : World} {v : Value} (h : NoWr w v) : Calls Tryd.prog 7 #[v] w fun e w' => e = .returned (.tuple #[.slice none 0 0, .int .i64 2]) ∧ w = w' := by
  have H : Hid (NoWr w v) := h
  clear h
  go_enter Tryd.func7, Tryd.ntmps7
  go_wp2_with (go_at_call 26; refine (wmade_nob H.out).mono ?_; rintro e w' ⟨rfl, rfl⟩)
  go_returns
  exact ⟨rfl, rfl⟩
theorem nowriter_any {w : World} {v : Value} (h : NoWr w v) (n : Int) (h0 : -9223372036854775808 ≤ n) (h1 : n ≤ 9223372036854775807) : Calls Tryd.prog 18 #[v, .int .i64 n] w fun e w' => e = .returned (.bool true) ∧ w = w' := by
  have H : Hid (NoWr w v) := h
  clear h
  go_enter Tryd.func18, Tryd.ntmps18
  go_wp2_with (first
    | (go_at_call 20; refine (wnumber_nob H.out _).mono ?_; rintro e w' ⟨rfl, rfl⟩)
    | (go_at_call 53; refine (wint_nob H.out n h0 h1).mono ?_; rintro e w' ⟨rfl, rfl⟩)
    | (go_at_call 54; refine (wsigned_nob H.out n h0 h1).mono ?_; rintro e w' ⟨rfl, rfl⟩)
    | (go_at_call 55; refine (wflag_nob H.out).mono ?_; rintro e w' ⟨rfl, rfl⟩)
    | (go_at_call 6; refine (wtext_nob H.out _).mono ?_; rintro e w' ⟨rfl, rfl⟩)
    | (go_at_call 7; refine (wbytes_nob H.out).mono ?_; rintro e w' ⟨rfl, rfl⟩)
    | (go_at_call 21; refine (num_any _ _).mono ?_; rintro e w' ⟨rfl, rfl⟩))
  go_ret
  exact ⟨rfl, rfl⟩
/-- A reader that no call made. -/
def NoRd (w : World) (v : Value) : Prop := v = .pointer none ∨ ∃ p, v = .pointer (some ⟨p, 0, none⟩) ∧ w.heap[p]? = some (.cells #[.bool false, .slice none 0 0, .int .i64 0, .int .i64 0] 67 (0, 0))
theorem NoRd.later {w w' : World} {v : Value} (h : NoRd w v) (hb : Below w.heap.size w w') : NoRd w' v := by
  rcases h with h | ⟨p, h1, h2⟩
  · exact .inl h
  · exact .inr ⟨p, h1, (hb.block p (lt_of_block h2)).trans h2⟩
theorem rready_nob {w : World} {v : Value} (h : NoRd w v) : Calls Tryd.prog 80 #[v] w fun e w' => e = .returned (.bool false) ∧ w = w' := by
  rcases h with rfl | ⟨p, rfl, h2⟩
  · go_enter Tryd.func80, Tryd.ntmps80
    go_wp2
    go_ret
    exact ⟨rfl, rfl⟩
  · have hc : w.cell? ⟨p, 0, none⟩ = some (.bool false) := by simp [World.cell?, h2]
    go_enter Tryd.func80, Tryd.ntmps80
    go_wp2
    go_ret
    exact ⟨rfl, rfl⟩
theorem rfail_nob {w : World} {v : Value} (h : NoRd w v) (n : Int) : Calls Tryd.prog 56 #[v, .int .i64 n] w fun e w' => e = .returned (.tuple #[]) ∧ w = w' := by
  have H : Hid (NoRd w v) := h
  clear h
  go_enter Tryd.func56, Tryd.ntmps56
  go_wp2_with (go_at_call 80; refine (rready_nob H.out).mono ?_; rintro e w' ⟨rfl, rfl⟩)
  go_end0
  exact ⟨rfl, rfl⟩
theorem rat_nob {w : World} {v : Value} (h : NoRd w v) : Calls Tryd.prog 17 #[v] w fun e w' => e = .returned (.int .i64 0) ∧ w = w' := by
  rcases h with rfl | ⟨p, rfl, h2⟩
  · go_enter Tryd.func17, Tryd.ntmps17
    go_wp2
    go_ret
    exact ⟨rfl, rfl⟩
  · have hc : w.cell? ⟨p, 2, none⟩ = some (.int .i64 0) := by simp [World.cell?, h2]
    go_enter Tryd.func17, Tryd.ntmps17
    go_wp2
    go_ret
    exact ⟨rfl, rfl⟩
theorem rleft_nob {w : World} {v : Value} (h : NoRd w v) : Calls Tryd.prog 63 #[v] w fun e w' => e = .returned (.int .i64 0) ∧ ∃ d, w' = w.drewN d := by
  rcases h with rfl | ⟨p, rfl, h2⟩
  · go_enter Tryd.func63, Tryd.ntmps63
    go_wp2
    go_ret
    exact ⟨rfl, 0, rfl⟩
  · have hc : w.cell? ⟨p, 2, none⟩ = some (.int .i64 0) := by simp [World.cell?, h2]
    have hd : w.cell? ⟨p, 1, none⟩ = some (.slice none 0 0) := by simp [World.cell?, h2]
    go_enter Tryd.func63, Tryd.ntmps63
    go_wp2
    go_quiet (fail)
    go_wp2
    go_ret
    exact ⟨rfl, _, rfl⟩
theorem rend_nob {w : World} {v : Value} (h : NoRd w v) : Calls Tryd.prog 57 #[v] w fun e w' => e = .returned (.tuple #[.int .i64 2, .int .i64 0]) ∧ w = w' := by
  rcases h with rfl | ⟨p, rfl, h2⟩
  · go_enter Tryd.func57, Tryd.ntmps57
    go_wp2
    go_returns
    exact ⟨rfl, rfl⟩
  · have hc : w.cell? ⟨p, 0, none⟩ = some (.bool false) := by simp [World.cell?, h2]
    go_enter Tryd.func57, Tryd.ntmps57
    go_wp2
    go_returns
    exact ⟨rfl, rfl⟩
theorem rpeek_nob {w : World} {v : Value} (h : NoRd w v) (n : Int) : Calls Tryd.prog 74 #[v, .int .u64 n] w fun e w' => e = .returned (.agg #[.int .u64 0, .int .i64 0]) ∧ Below w.heap.size w w' := by
  have H : Hid (∀ w', Below w.heap.size w w' → NoRd w' v) := fun w' hb => h.later hb
  clear h
  go_enter Tryd.func74, Tryd.ntmps74
  go_wp2_with (go_at_call 80; refine (rready_nob (H.out _ (by go_grown))).mono ?_; rintro e w' ⟨rfl, rfl⟩)
  go_returns
  exact ⟨rfl, by go_grown⟩
theorem rmove_nob {w : World} (v : Value) : Calls Tryd.prog 75 #[v, .int .i64 0] w fun e w' => e = .returned (.tuple #[]) ∧ w = w' := by
  go_enter Tryd.func75, Tryd.ntmps75
  go_wp2
  go_end0
  exact ⟨rfl, rfl⟩
theorem rtake_nob {w : World} {v : Value} (h : NoRd w v) (n : Int) : Calls Tryd.prog 51 #[v, .int .u64 n] w fun e w' => e = .returned (.int .u64 0) ∧ Below w.heap.size w w' := by
  have H : Hid (NoRd w v) := h
  clear h
  go_enter Tryd.func51, Tryd.ntmps51
  go_wp2_with (first
    | (go_at_call 74; refine (rpeek_nob H.out _).mono ?_; rintro e w1 ⟨rfl, hb1⟩)
    | (go_at_call 75; refine (rmove_nob _).mono ?_; rintro e w' ⟨rfl, rfl⟩))
  go_ret
  exact ⟨rfl, K.below_step hb1 (below_alloc w1 _)⟩
theorem rnumber_nob {w : World} {v : Value} (h : NoRd w v) : Calls Tryd.prog 15 #[v] w fun e w' => e = .returned (.int .u64 0) ∧ Below w.heap.size w w' := by
  have H : Hid (NoRd w v) := h
  clear h
  go_enter Tryd.func15, Tryd.ntmps15
  go_wp2_with (go_at_call 51; refine (rtake_nob H.out _).mono ?_; rintro e w1 ⟨rfl, hb1⟩)
  go_ret
  exact ⟨rfl, hb1⟩
theorem rflag_nob {w : World} {v : Value} (h : NoRd w v) : Calls Tryd.prog 60 #[v] w fun e w' => e = .returned (.bool false) ∧ Below w.heap.size w w' := by
  have H : Hid (NoRd w v) := h
  clear h
  go_enter Tryd.func60, Tryd.ntmps60
  go_wp2_with (go_at_call 51; refine (rtake_nob H.out _).mono ?_; rintro e w1 ⟨rfl, hb1⟩)
  go_ret
  exact ⟨rfl, hb1⟩
theorem rint_nob {w : World} {v : Value} (h : NoRd w v) (n : Int) (h0 : -9223372036854775808 ≤ n) (h1 : n ≤ 9223372036854775807) : Calls Tryd.prog 58 #[v, .int .i64 n] w fun e w' => e = .returned (.int .i64 0) ∧ Below w.heap.size w w' := by
  have H : Hid (NoRd w v) := h
  clear h
  by_cases hn : n < 0
  · go_enter Tryd.func58, Tryd.ntmps58
    go_wp2_with (go_at_call 56; refine (rfail_nob H.out _).mono ?_; rintro e w' ⟨rfl, rfl⟩)
    go_ret
    exact ⟨rfl, Below.refl _ _⟩
  · have hn0 : 0 ≤ n := by omega
    clear hn
    go_enter Tryd.func58, Tryd.ntmps58
    go_wp2_with (go_at_call 51; refine (rtake_nob H.out _).mono ?_; rintro e w1 ⟨rfl, hb1⟩)
    go_ret
    exact ⟨rfl, hb1⟩
theorem rsigned_nob {w : World} {v : Value} (h : NoRd w v) (n : Int) (h0 : -9223372036854775808 ≤ n) (h1 : n ≤ 9223372036854775807) : Calls Tryd.prog 59 #[v, .int .i64 n] w fun e w' => e = .returned (.int .i64 0) ∧ Below w.heap.size w w' := by
  have H : Hid (NoRd w v) := h
  have HU : Hid (unfoldS 0 = 0) := rfl
  clear h
  by_cases hn : n < 0
  · go_enter Tryd.func59, Tryd.ntmps59
    go_wp2_with (go_at_call 56; refine (rfail_nob H.out _).mono ?_; rintro e w' ⟨rfl, rfl⟩)
    go_ret
    exact ⟨rfl, Below.refl _ _⟩
  · go_enter Tryd.func59, Tryd.ntmps59
    go_wp2_with (first
      | (go_at_call 79; refine (fold_any n w h0 h1).mono ?_; rintro e w' ⟨rfl, rfl⟩)
      | (go_at_call 51; refine (rtake_nob H.out _).mono ?_; rintro e w1 ⟨rfl, hb1⟩)
      | (go_at_call 81; refine (unfold_any 0 _ (by omega) (by omega)).mono ?_; rintro e w' ⟨rfl, rfl⟩))
    go_ret
    exact ⟨rfl, hb1⟩
set_option maxRecDepth 100000 in
set_option maxHeartbeats 800000 in
theorem rpeekc_nob {w : World} {v : Value} (h : NoRd w v) (n : Int) (h0 : -9223372036854775808 ≤ n) (h1 : n ≤ 9223372036854775807) : Calls Tryd.prog 82 #[v, .int .i64 1, .int .i64 n] w fun e w' => e = .returned (.agg #[.int .u64 0, .int .i64 0]) ∧ Below w.heap.size w w' := by
  have H : Hid (∀ w', Below w.heap.size w w' → NoRd w' v) := fun w' hb => h.later hb
  clear h
  by_cases hn : n < 0
  · go_enter Tryd.func82, Tryd.ntmps82
    go_wp2_with (go_at_call 56; refine (rfail_nob (H.out _ (by go_grown)) _).mono ?_; rintro e w' ⟨rfl, rfl⟩)
    go_returns
    exact ⟨rfl, by go_grown⟩
  · have hn0 : 0 ≤ n := by omega
    clear hn
    go_enter Tryd.func82, Tryd.ntmps82
    go_wp2_with (go_at_call 74; refine (rpeek_nob (H.out _ (below_alloc w _)) n).mono ?_; rintro e2 w2 ⟨rfl, hb2⟩; have hB2 := (hb2.block w.heap.size (lt_of_block (heap_alloc_new w _))).trans (heap_alloc_new w _); obtain ⟨q0, q1, q2, q3⟩ := cells2 hB2; have hz2 : w.heap.size < w2.heap.size := lt_of_block hB2)
    have hb3 : Below w.heap.size w (w2.alloc (.cells #[.int .u64 0, .int .i64 0] 152)) := K.below_step (K.below_step (below_alloc w _) hb2) (below_alloc w2 _)
    have HR : Hid (∀ m, NoRd ((w2.alloc (.cells #[.int .u64 0, .int .i64 0] 152)).drewN m) v) := fun m => H.out _ (below_drewN hb3 m)
    go_quiet ((go_at_call 63; exact Calls.quiet_of (rleft_nob (HR.out _))))
    go_wp2
    go_quiet (fail)
    go_wp2
    refine bodyPost_ret (v := .agg #[.int .u64 0, .int .i64 0]) (by simp [results, Tryd.results82, go_sem, q0, q1, hz2]) rfl ?_
    exact ⟨rfl, ((below_drewN hb3 _).setCell (Nat.le_refl _) _).setCell (Nat.le_refl _) _⟩
theorem rtext_nob {w : World} {v : Value} (h : NoRd w v) (n : Int) (h0 : -9223372036854775808 ≤ n) (h1 : n ≤ 9223372036854775807) : Calls Tryd.prog 61 #[v, .int .i64 n] w fun e w' => e = .returned (.string ⟨#[]⟩) ∧ Below w.heap.size w w' := by
  have H : Hid (NoRd w v) := h
  clear h
  go_enter Tryd.func61, Tryd.ntmps61
  go_wp2_with (go_at_call 82; refine (rpeekc_nob H.out n h0 h1).mono ?_; rintro e w1 ⟨rfl, hb1⟩)
  go_ret
  exact ⟨rfl, K.below_step hb1 (below_alloc w1 _)⟩
theorem rcount_nob {w : World} {v : Value} (h : NoRd w v) (n : Int) (h0 : -9223372036854775808 ≤ n) (h1 : n ≤ 9223372036854775807) : Calls Tryd.prog 62 #[v, .int .i64 1, .int .i64 n] w fun e w' => e = .returned (.int .i64 0) ∧ Below w.heap.size w w' := by
  have H : Hid (NoRd w v) := h
  clear h
  go_enter Tryd.func62, Tryd.ntmps62
  go_wp2_with (first
    | (go_at_call 82; refine (rpeekc_nob H.out n h0 h1).mono ?_; rintro e w1 ⟨rfl, hb1⟩)
    | (go_at_call 75; refine (rmove_nob _).mono ?_; rintro e w' ⟨rfl, rfl⟩))
  go_ret
  exact ⟨rfl, K.below_step hb1 (below_alloc w1 _)⟩
set_option maxRecDepth 100000 in
set_option maxHeartbeats 800000 in
theorem noreader_any {w : World} {v : Value} (h : NoRd w v) (n : Int) (h0 : -9223372036854775808 ≤ n) (h1 : n ≤ 9223372036854775807) : Calls Tryd.prog 19 #[v, .int .i64 n] w fun e w' => e = .returned (.bool true) ∧ Below w.heap.size w w' := by
  have H : Hid (∀ w', Below w.heap.size w w' → NoRd w' v) := fun w' hb => h.later hb
  clear h
  go_enter Tryd.func19, Tryd.ntmps19
  go_wp2_with (first
    | (go_at_call 56; refine (rfail_nob (H.out w (Below.refl _ _)) _).mono ?_; rintro e w' ⟨rfl, rfl⟩)
    | (go_at_call 57; refine (rend_nob (H.out w (Below.refl _ _))).mono ?_; rintro e w' ⟨rfl, rfl⟩)
    | (go_at_call 15; refine (rnumber_nob (H.out w (Below.refl _ _))).mono ?_; rintro e w1 ⟨rfl, b1⟩)
    | (go_at_call 58; refine (rint_nob (H.out w1 b1) n h0 h1).mono ?_; rintro e w2 ⟨rfl, b2'⟩; have b2 := K.below_step b1 b2')
    | (go_at_call 59; refine (rsigned_nob (H.out w2 b2) n h0 h1).mono ?_; rintro e w3 ⟨rfl, b3'⟩; have b3 := K.below_step b2 b3')
    | (go_at_call 60; refine (rflag_nob (H.out w3 b3)).mono ?_; rintro e w4 ⟨rfl, b4'⟩; have b4 := K.below_step b3 b4')
    | (go_at_call 61; refine (rtext_nob (H.out w4 b4) n h0 h1).mono ?_; rintro e w5 ⟨rfl, b5'⟩; have b5 := K.below_step b4 b5')
    | (go_at_call 62; refine (rcount_nob (H.out w5 b5) n h0 h1).mono ?_; rintro e w6 ⟨rfl, b6'⟩; have b6 := K.below_step b5 b6')
    | (go_at_call 17; refine (rat_nob (H.out w6 b6)).mono ?_; rintro e w' ⟨rfl, rfl⟩)
    | (go_at_call 63; refine (rleft_nob (H.out w6 b6)).mono ?_; rintro e w7 ⟨rfl, d7, rfl⟩)
    | (go_at_call 21; refine (num_any _ _).mono ?_; rintro e w' ⟨rfl, rfl⟩))
  go_ret
  exact ⟨rfl, below_drewN b6 _⟩
end Go.Proofs.YtfckmbdcfeljiaaDoor
