import Derived.Test.YtfckmbdcfeljiaaSWord
namespace Go.Proofs.Ytfckmbdcfeljiaa
set_option linter.unusedVariables false
open Go.RowKit Go.PlainAid

theorem wordS_false {s : ByteArray} {k : Nat} (hk : k < s.size) (h : wordC (bt s k) = false) : wordS s = false := by
  have : ((List.range s.size).all fun i => wordC (bt s i)) = false := List.all_eq_false.2 ⟨k, List.mem_range.2 hk, by simp [h]⟩
  simp [wordS, this]
theorem wordS_true {s : ByteArray} (h1 : 1 ≤ s.size) (h2 : s.size ≤ 32) (h3 : digS (bt s 0) = false) (h : ∀ i, i < s.size → wordC (bt s i) = true) : wordS s = true := by
  simp only [wordS, decide_eq_true h1, decide_eq_true h2, h3, Bool.true_and, Bool.not_false]
  exact List.all_eq_true.2 fun i hi => h i (List.mem_range.1 hi)
theorem quotedS_false {s : ByteArray} {k : Nat} (hk : 1 ≤ k) (hk2 : k < s.size - 1) (h : quoC (bt s k) = false) : quotedS s = false := by
  have : ((List.range (s.size - 2)).all fun i => quoC (bt s (i + 1))) = false := List.all_eq_false.2 ⟨k - 1, List.mem_range.2 (by omega), by rw [Nat.sub_add_cancel hk]; simp [h]⟩
  simp [quotedS, this]
theorem quotedS_true {s : ByteArray} (h1 : 3 ≤ s.size) (h2 : s.size ≤ 32) (h3 : bt s 0 = 39) (h4 : bt s (s.size - 1) = 39) (h : ∀ i, 1 ≤ i → i < s.size - 1 → quoC (bt s i) = true) : quotedS s = true := by
  simp only [quotedS, decide_eq_true h1, decide_eq_true h2, h3, h4, Bool.true_and, beq_self_eq_true]
  exact List.all_eq_true.2 fun i hi => h (i + 1) (by omega) (by have := List.mem_range.1 hi; omega)

theorem word_step {s : ByteArray} {k : Nat} (h : ∀ j, j < k → wordC (bt s j) = true) (hk : wordC (bt s k) = true) : ∀ j, j < k + 1 → wordC (bt s j) = true := fun j hj => by
  rcases Nat.lt_succ_iff_lt_or_eq.1 hj with q | rfl
  · exact h j q
  · exact hk

set_option maxHeartbeats 1000000 in
theorem isword_any (s : ByteArray) (w : World) (hs : s.size ≤ 9223372036854775807) : Calls Try.prog 15 #[.string s] w fun e w' => e = .returned (.bool (wordS s)) ∧ w = w' := by
  by_cases h0 : s.size = 0
  · have hse : s = ⟨#[]⟩ := ByteArray.ext (Array.eq_empty_of_size_eq_zero h0)
    subst hse
    go_enter Try.func15, Try.ntmps15
    go_wp2
    go_ret
    exact ⟨rfl, rfl⟩
  have hb := get_bt s
  have hl := bt_nonneg s
  have hu := bt_le s
  have hemp : s.toList.isEmpty = false := by
    have : s.toList ≠ [] := fun e => h0 (by rw [ByteArray.toList_eq] at e; show s.data.size = 0; rw [← Array.length_toList, e]; rfl)
    cases h : s.toList with
    | nil => exact absurd h this
    | cons => rfl
  by_cases h1 : 32 < s.size
  · have hf : wordS s = false := by simp [wordS]; omega
    rw [hf]
    go_enter Try.func15, Try.ntmps15
    go_wp2
    go_ret
    exact ⟨rfl, rfl⟩
  by_cases h2 : digS (bt s 0) = true
  · have hf : wordS s = false := by simp [wordS, h2]
    rw [hf]
    go_enter Try.func15, Try.ntmps15
    go_wp2_with (first | (go_at_call 43; refine (isdigit_any _ _ (hl _) (hu _)).mono ?_; rintro e w' ⟨rfl, rfl⟩) | go_in)
    go_ret
    exact ⟨rfl, rfl⟩
  have h2 : digS (bt s 0) = false := by simpa using h2
  go_enter Try.func15, Try.ntmps15
  go_wp2_with (first | (go_at_call 43; refine (isdigit_any _ _ (hl _) (hu _)).mono ?_; rintro e w' ⟨rfl, rfl⟩) | go_in)
  go_loop [3] (fun i => ∃ k : Nat, k ≤ s.size ∧ i = .int .i64 k ∧ Hid (∀ j, j < k → wordC (bt s j) = true)) (fun i => s.size - (intOf i).toNat)
  case atStart => exact ⟨0, Nat.zero_le _, rfl, fun j hj => by omega⟩
  case round =>
    obtain ⟨k, hk, rfl, HA⟩ := hrel
    by_cases hlt : k < s.size
    · by_cases a : letS (bt s k) = true
      · have HW : Hid (wordC (bt s k) = true) := by unfold Hid; simp [wordC, a]
        go_wp2_with (first | (go_at_call 44; refine (isletter_any _ _ (hl _) (hu _)).mono ?_; rintro e w' ⟨rfl, rfl⟩) | (go_at_call 43; refine (isdigit_any _ _ (hl _) (hu _)).mono ?_; rintro e w' ⟨rfl, rfl⟩) | go_in)
        go_round
        case rel => exact ⟨k + 1, by omega, by go_num, word_step HA.out HW.out⟩
        case measure => simp [intOf]; omega
      have a : letS (bt s k) = false := by simpa using a
      by_cases d : digS (bt s k) = true
      · have HW : Hid (wordC (bt s k) = true) := by unfold Hid; simp [wordC, d]
        go_wp2_with (first | (go_at_call 44; refine (isletter_any _ _ (hl _) (hu _)).mono ?_; rintro e w' ⟨rfl, rfl⟩) | (go_at_call 43; refine (isdigit_any _ _ (hl _) (hu _)).mono ?_; rintro e w' ⟨rfl, rfl⟩) | go_in)
        go_round
        case rel => exact ⟨k + 1, by omega, by go_num, word_step HA.out HW.out⟩
        case measure => simp [intOf]; omega
      have d : digS (bt s k) = false := by simpa using d
      by_cases u : bt s k = 95
      · have HW : Hid (wordC (bt s k) = true) := by unfold Hid; simp [wordC, u]
        have u' : (bt s k != 95) = false := by simp [u]
        have HU : Hid (bt s k = 95) := u
        clear u
        go_wp2_with (first | (go_at_call 44; refine (isletter_any _ _ (hl _) (hu _)).mono ?_; rintro e w' ⟨rfl, rfl⟩) | (go_at_call 43; refine (isdigit_any _ _ (hl _) (hu _)).mono ?_; rintro e w' ⟨rfl, rfl⟩) | go_in)
        go_round
        case rel => exact ⟨k + 1, by omega, by go_num, word_step HA.out HW.out⟩
        case measure => simp [intOf]; omega
      · have HW : Hid (wordS s = false) := wordS_false hlt (by simp [wordC, a, d, u])
        have u' : (bt s k != 95) = true := by simp [u]
        go_wp2_with (first | (go_at_call 44; refine (isletter_any _ _ (hl _) (hu _)).mono ?_; rintro e w' ⟨rfl, rfl⟩) | (go_at_call 43; refine (isdigit_any _ _ (hl _) (hu _)).mono ?_; rintro e w' ⟨rfl, rfl⟩) | go_in)
        go_ret
        exact ⟨by rw [HW.out]; rfl, rfl⟩
    · have HW : Hid (wordS s = true) := wordS_true (by omega) (by omega) h2 fun i hi => HA.out i (by omega)
      go_wp2
      go_ret
      exact ⟨by rw [HW.out]; rfl, rfl⟩

end Go.Proofs.Ytfckmbdcfeljiaa
