import Derived.Test.YtfckmbdcfeljiaaSWord2
namespace Go.Proofs.Ytfckmbdcfeljiaa
set_option linter.unusedVariables false
open Go.RowKit Go.PlainAid

theorem quo_step {s : ByteArray} {k : Nat} (h : ∀ j, 1 ≤ j → j < k → quoC (bt s j) = true) (hk : quoC (bt s k) = true) : ∀ j, 1 ≤ j → j < k + 1 → quoC (bt s j) = true := fun j h1 hj => by
  rcases Nat.lt_succ_iff_lt_or_eq.1 hj with q | rfl
  · exact h j h1 q
  · exact hk

set_option maxHeartbeats 2000000 in
theorem isquoted_any (s : ByteArray) (w : World) (hs : s.size ≤ 9223372036854775807) : Calls Try.prog 60 #[.string s] w fun e w' => e = .returned (.bool (quotedS s)) ∧ w = w' := by
  have hb := get_bt s
  have hl := bt_nonneg s
  have hu := bt_le s
  by_cases h0 : s.size < 3
  · have hf : quotedS s = false := by simp [quotedS]; omega
    rw [hf]
    go_enter Try.func60, Try.ntmps60
    go_wp2
    go_ret
    exact ⟨rfl, rfl⟩
  by_cases h1 : 32 < s.size
  · have hf : quotedS s = false := by simp [quotedS]; omega
    rw [hf]
    go_enter Try.func60, Try.ntmps60
    go_wp2
    go_ret
    exact ⟨rfl, rfl⟩
  by_cases h2 : ¬ bt s 0 = 39
  · have hf : quotedS s = false := by simp [quotedS, h2]
    have h2' : (bt s 0 != 39) = true := by simp [h2]
    rw [hf]
    go_enter Try.func60, Try.ntmps60
    go_wp2
    go_ret
    exact ⟨rfl, rfl⟩
  have h2 : bt s 0 = 39 := Classical.not_not.1 h2
  have h2' : (bt s 0 != 39) = false := by simp [h2]
  have H2 : Hid (bt s 0 = 39) := h2
  clear h2
  by_cases h3 : ¬ bt s (s.size - 1) = 39
  · have hf : quotedS s = false := by simp [quotedS, h3]
    have h3' : (bt s (s.size - 1) != 39) = true := by simp [h3]
    rw [hf]
    go_enter Try.func60, Try.ntmps60
    go_wp2
    go_ret
    exact ⟨rfl, rfl⟩
  have h3 : bt s (s.size - 1) = 39 := Classical.not_not.1 h3
  have h3' : (bt s (s.size - 1) != 39) = false := by simp [h3]
  have H3 : Hid (bt s (s.size - 1) = 39) := h3
  clear h3
  go_enter Try.func60, Try.ntmps60
  go_wp2
  go_loop [4] (fun i => ∃ k : Nat, 1 ≤ k ∧ k ≤ s.size - 1 ∧ i = .int .i64 k ∧ Hid (∀ j, 1 ≤ j → j < k → quoC (bt s j) = true)) (fun i => s.size - (intOf i).toNat)
  case atStart => exact ⟨1, Nat.le_refl _, by omega, rfl, fun j h hj => by omega⟩
  case round =>
    obtain ⟨k, hk1, hk, rfl, HA⟩ := hrel
    by_cases hlt : k < s.size - 1
    · by_cases a : quoC (bt s k) = true
      · have HW : Hid (quoC (bt s k) = true) := a
        go_wp2_with (first | (go_at_call 63; refine (maybe_any _ _ (hl _) (hu _)).mono ?_; rintro e w' ⟨rfl, rfl⟩) | go_in)
        go_round
        case rel => exact ⟨k + 1, by omega, by omega, by go_num, quo_step HA.out HW.out⟩
        case measure => simp [intOf]; omega
      · have a : quoC (bt s k) = false := by simpa using a
        have HW : Hid (quotedS s = false) := quotedS_false hk1 hlt a
        go_wp2_with (first | (go_at_call 63; refine (maybe_any _ _ (hl _) (hu _)).mono ?_; rintro e w' ⟨rfl, rfl⟩) | go_in)
        go_ret
        exact ⟨by rw [HW.out]; rfl, rfl⟩
    · have HW : Hid (quotedS s = true) := quotedS_true (by omega) (by omega) H2.out H3.out fun i h1 hi => HA.out i h1 (by omega)
      go_wp2
      go_ret
      exact ⟨by rw [HW.out]; rfl, rfl⟩
theorem istermname_any (s : ByteArray) (w : World) (hs : s.size ≤ 9223372036854775807) : Calls Try.prog 45 #[.string s] w fun e w' => e = .returned (.bool (termS s)) ∧ w = w' := by
  by_cases h : wordS s = true
  · have hf : termS s = true := by simp [termS, h]
    rw [hf]
    go_enter Try.func45, Try.ntmps45
    go_wp2_with (first | (go_at_call 15; refine (isword_any _ _ hs).mono ?_; rintro e w' ⟨rfl, rfl⟩) | (go_at_call 60; refine (isquoted_any _ _ hs).mono ?_; rintro e w' ⟨rfl, rfl⟩) | go_in)
    go_ret
    exact ⟨rfl, rfl⟩
  · have h : wordS s = false := by simpa using h
    have hf : termS s = quotedS s := by simp [termS, h]
    rw [hf]
    go_enter Try.func45, Try.ntmps45
    go_wp2_with (first | (go_at_call 15; refine (isword_any _ _ hs).mono ?_; rintro e w' ⟨rfl, rfl⟩) | (go_at_call 60; refine (isquoted_any _ _ hs).mono ?_; rintro e w' ⟨rfl, rfl⟩) | go_in)
    go_ret
    exact ⟨rfl, rfl⟩
end Go.Proofs.Ytfckmbdcfeljiaa
