import Derived.Test.YtchocojmideleaaGreatDoorChecked
import Derived.WalkKit
import Derived.PlainAid
namespace Go.Proofs.YtchocojmideleaaGreatDoor
set_option linter.unusedVariables false
open Go.RowKit Go.PlainAid

def digS (c : Int) : Bool := decide (48 ≤ c ∧ c ≤ 57)
def letS (c : Int) : Bool := decide (97 ≤ c ∧ c ≤ 122 ∨ 65 ≤ c ∧ c ≤ 90)
def wordC (c : Int) : Bool := letS c || digS c || c == 95
def quoC (c : Int) : Bool := decide (33 ≤ c ∧ c ≤ 126 ∧ c ≠ 39 ∧ c ≠ 92)
/-- A word; a quoted name; a terminal's name. -/
def wordS (s : ByteArray) : Bool := decide (1 ≤ s.size) && decide (s.size ≤ 32) && !digS (bt s 0) && (List.range s.size).all fun i => wordC (bt s i)
def quotedS (s : ByteArray) : Bool := decide (3 ≤ s.size) && decide (s.size ≤ 32) && bt s 0 == 39 && bt s (s.size - 1) == 39 && (List.range (s.size - 2)).all fun i => quoC (bt s (i + 1))
def termS (s : ByteArray) : Bool := wordS s || quotedS s

theorem isdigit_any (c : Int) (w : World) (h0 : 0 ≤ c) (h1 : c ≤ 255) : Calls Tryz.prog 194 #[.int .u8 c] w fun e w' => e = .returned (.bool (digS c)) ∧ w = w' := by
  go_enter Tryz.func194, Tryz.ntmps194
  go_wp2
  all_goals go_ret
  all_goals refine ⟨congrArg (fun b => Ending.returned (Value.bool b)) (Bool.eq_iff_iff.2 ?_), rfl⟩
  all_goals simp [digS]
  all_goals omega
theorem isletter_any (c : Int) (w : World) (h0 : 0 ≤ c) (h1 : c ≤ 255) : Calls Tryz.prog 195 #[.int .u8 c] w fun e w' => e = .returned (.bool (letS c)) ∧ w = w' := by
  go_enter Tryz.func195, Tryz.ntmps195
  go_wp2
  all_goals go_ret
  all_goals refine ⟨congrArg (fun b => Ending.returned (Value.bool b)) (Bool.eq_iff_iff.2 ?_), rfl⟩
  all_goals simp [letS]
  all_goals omega
theorem maybe_any (c : Int) (w : World) (h0 : 0 ≤ c) (h1 : c ≤ 255) : Calls Tryz.prog 206 #[.int .u8 c] w fun e w' => e = .returned (.bool (quoC c)) ∧ w = w' := by
  go_enter Tryz.func206, Tryz.ntmps206
  go_wp2
  all_goals go_ret
  all_goals refine ⟨congrArg (fun b => Ending.returned (Value.bool b)) (Bool.eq_iff_iff.2 ?_), rfl⟩
  all_goals simp [quoC]
  all_goals omega
theorem refletter_any (c : Int) (w : World) (h0 : 0 ≤ c) (h1 : c ≤ 255) : Calls Tryz.prog 171 #[.int .u8 c] w fun e w' => e = .returned (.bool (wordC c)) ∧ w = w' := by
  go_enter Tryz.func171, Tryz.ntmps171
  go_wp2
  all_goals go_ret
  all_goals refine ⟨congrArg (fun b => Ending.returned (Value.bool b)) (Bool.eq_iff_iff.2 ?_), rfl⟩
  all_goals simp [wordC, letS, digS]
  all_goals omega
end Go.Proofs.YtchocojmideleaaGreatDoor
namespace Go.Proofs.YtchocojmideleaaGreatDoor
set_option linter.unusedVariables false
open Go.RowKit Go.PlainAid

theorem wordS_false {s : ByteArray} {k : Nat} (hk : k < s.size) (h : wordC (bt s k) = false) : wordS s = false := by
  have : ((List.range s.size).all fun i => wordC (bt s i)) = false := List.all_eq_false.2 ⟨k, List.mem_range.2 hk, by simp [h]⟩
  simp [wordS, this]
theorem wordS_true {s : ByteArray} (h1 : 1 ≤ s.size) (h2 : s.size ≤ 32) (h3 : digS (bt s 0) = false) (h : ∀ i, i < s.size → wordC (bt s i) = true) : wordS s = true := by
  simp only [wordS, decide_eq_true h1, decide_eq_true h2, h3, Bool.true_and, Bool.not_false]
  exact List.all_eq_true.2 fun i hi => h i (List.mem_range.1 hi)
theorem quotedS_false {s : ByteArray} {k : Nat} (hk : 1 ≤ k) (hk2 : k < s.size - 1) (h : quoC (bt s k) = false) : quotedS s = false := by
  have : ((List.range (s.size - 2)).all fun i => quoC (bt s (i + 1))) = false := List.all_eq_false.2 ⟨k - 1, List.mem_range.2 (by omega), by rw [Nat.sub_add_cancel hk]; simp [h]⟩
  simp [quotedS, this]
theorem quotedS_true {s : ByteArray} (h1 : 3 ≤ s.size) (h2 : s.size ≤ 32) (h3 : bt s 0 = 39) (h4 : bt s (s.size - 1) = 39) (h : ∀ i, 1 ≤ i → i < s.size - 1 → quoC (bt s i) = true) : quotedS s = true := by
  simp only [quotedS, decide_eq_true h1, decide_eq_true h2, h3, h4, Bool.true_and, beq_self_eq_true]
  exact List.all_eq_true.2 fun i hi => h (i + 1) (by omega) (by have := List.mem_range.1 hi; omega)

theorem word_step {s : ByteArray} {k : Nat} (h : ∀ j, j < k → wordC (bt s j) = true) (hk : wordC (bt s k) = true) : ∀ j, j < k + 1 → wordC (bt s j) = true := fun j hj => by
  rcases Nat.lt_succ_iff_lt_or_eq.1 hj with q | rfl
  · exact h j q
  · exact hk

set_option maxHeartbeats 1000000 in
theorem isword_any (s : ByteArray) (w : World) (hs : s.size ≤ 9223372036854775807) : Calls Tryz.prog 162 #[.string s] w fun e w' => e = .returned (.bool (wordS s)) ∧ w = w' := by
  by_cases h0 : s.size = 0
  · have hse : s = ⟨#[]⟩ := ByteArray.ext (Array.eq_empty_of_size_eq_zero h0)
    subst hse
    go_enter Tryz.func162, Tryz.ntmps162
    go_wp2
    go_ret
    exact ⟨rfl, rfl⟩
  have hb := get_bt s
  have hl := bt_nonneg s
  have hu := bt_le s
  have hemp : s.toList.isEmpty = false := by
    have : s.toList ≠ [] := fun e => h0 (by rw [ByteArray.toList_eq] at e; show s.data.size = 0; rw [← Array.length_toList, e]; rfl)
    cases h : s.toList with
    | nil => exact absurd h this
    | cons => rfl
  by_cases h1 : 32 < s.size
  · have hf : wordS s = false := by simp [wordS]; omega
    rw [hf]
    go_enter Tryz.func162, Tryz.ntmps162
    go_wp2
    go_ret
    exact ⟨rfl, rfl⟩
  by_cases h2 : digS (bt s 0) = true
  · have hf : wordS s = false := by simp [wordS, h2]
    rw [hf]
    go_enter Tryz.func162, Tryz.ntmps162
    go_wp2_with (first | (go_at_call 194; refine (isdigit_any _ _ (hl _) (hu _)).mono ?_; rintro e w' ⟨rfl, rfl⟩) | go_in)
    go_ret
    exact ⟨rfl, rfl⟩
  have h2 : digS (bt s 0) = false := by simpa using h2
  go_enter Tryz.func162, Tryz.ntmps162
  go_wp2_with (first | (go_at_call 194; refine (isdigit_any _ _ (hl _) (hu _)).mono ?_; rintro e w' ⟨rfl, rfl⟩) | go_in)
  go_loop [3] (fun i => ∃ k : Nat, k ≤ s.size ∧ i = .int .i64 k ∧ Hid (∀ j, j < k → wordC (bt s j) = true)) (fun i => s.size - (intOf i).toNat)
  case atStart => exact ⟨0, Nat.zero_le _, rfl, fun j hj => by omega⟩
  case round =>
    obtain ⟨k, hk, rfl, HA⟩ := hrel
    by_cases hlt : k < s.size
    · by_cases a : letS (bt s k) = true
      · have HW : Hid (wordC (bt s k) = true) := by unfold Hid; simp [wordC, a]
        go_wp2_with (first | (go_at_call 195; refine (isletter_any _ _ (hl _) (hu _)).mono ?_; rintro e w' ⟨rfl, rfl⟩) | (go_at_call 194; refine (isdigit_any _ _ (hl _) (hu _)).mono ?_; rintro e w' ⟨rfl, rfl⟩) | go_in)
        go_round
        case rel => exact ⟨k + 1, by omega, by go_num, word_step HA.out HW.out⟩
        case measure => simp [intOf]; omega
      have a : letS (bt s k) = false := by simpa using a
      by_cases d : digS (bt s k) = true
      · have HW : Hid (wordC (bt s k) = true) := by unfold Hid; simp [wordC, d]
        go_wp2_with (first | (go_at_call 195; refine (isletter_any _ _ (hl _) (hu _)).mono ?_; rintro e w' ⟨rfl, rfl⟩) | (go_at_call 194; refine (isdigit_any _ _ (hl _) (hu _)).mono ?_; rintro e w' ⟨rfl, rfl⟩) | go_in)
        go_round
        case rel => exact ⟨k + 1, by omega, by go_num, word_step HA.out HW.out⟩
        case measure => simp [intOf]; omega
      have d : digS (bt s k) = false := by simpa using d
      by_cases u : bt s k = 95
      · have HW : Hid (wordC (bt s k) = true) := by unfold Hid; simp [wordC, u]
        have u' : (bt s k != 95) = false := by simp [u]
        have HU : Hid (bt s k = 95) := u
        clear u
        go_wp2_with (first | (go_at_call 195; refine (isletter_any _ _ (hl _) (hu _)).mono ?_; rintro e w' ⟨rfl, rfl⟩) | (go_at_call 194; refine (isdigit_any _ _ (hl _) (hu _)).mono ?_; rintro e w' ⟨rfl, rfl⟩) | go_in)
        go_round
        case rel => exact ⟨k + 1, by omega, by go_num, word_step HA.out HW.out⟩
        case measure => simp [intOf]; omega
      · have HW : Hid (wordS s = false) := wordS_false hlt (by simp [wordC, a, d, u])
        have u' : (bt s k != 95) = true := by simp [u]
        go_wp2_with (first | (go_at_call 195; refine (isletter_any _ _ (hl _) (hu _)).mono ?_; rintro e w' ⟨rfl, rfl⟩) | (go_at_call 194; refine (isdigit_any _ _ (hl _) (hu _)).mono ?_; rintro e w' ⟨rfl, rfl⟩) | go_in)
        go_ret
        exact ⟨by rw [HW.out]; rfl, rfl⟩
    · have HW : Hid (wordS s = true) := wordS_true (by omega) (by omega) h2 fun i hi => HA.out i (by omega)
      go_wp2
      go_ret
      exact ⟨by rw [HW.out]; rfl, rfl⟩

set_option maxHeartbeats 1000000 in
theorem refword_any (s : ByteArray) (w : World) (hs : s.size ≤ 9223372036854775807) : Calls Tryz.prog 104 #[.string s] w fun e w' => e = .returned (.bool (wordS s)) ∧ w = w' := by
  have hb := get_bt s
  have hl := bt_nonneg s
  have hu := bt_le s
  by_cases h0 : s.size < 1
  · have hf : wordS s = false := by simp [wordS]; omega
    rw [hf]
    go_enter Tryz.func104, Tryz.ntmps104
    go_wp2
    go_ret
    exact ⟨rfl, rfl⟩
  by_cases h1 : 32 < s.size
  · have hf : wordS s = false := by simp [wordS]; omega
    rw [hf]
    go_enter Tryz.func104, Tryz.ntmps104
    go_wp2
    go_ret
    exact ⟨rfl, rfl⟩
  by_cases h2 : digS (bt s 0) = true
  · have hf : wordS s = false := by simp [wordS, h2]
    have h3 : 48 ≤ bt s 0 ∧ bt s 0 ≤ 57 := of_decide_eq_true h2
    obtain ⟨h3, h4⟩ := h3
    rw [hf]
    clear h2
    go_enter Tryz.func104, Tryz.ntmps104
    go_wp2
    go_ret
    exact ⟨rfl, rfl⟩
  have h2 : digS (bt s 0) = false := by simpa using h2
  have h3 : ¬ (48 ≤ bt s 0 ∧ bt s 0 ≤ 57) := of_decide_eq_false h2
  go_enter Tryz.func104, Tryz.ntmps104
  go_wp2
  all_goals try (exfalso; omega)
  all_goals
    go_loop [3] (fun i => ∃ k : Nat, k ≤ s.size ∧ i = .int .i64 k ∧ Hid (∀ j, j < k → wordC (bt s j) = true)) (fun i => s.size - (intOf i).toNat)
    case atStart => exact ⟨0, Nat.zero_le _, rfl, fun j hj => by omega⟩
    case round =>
      obtain ⟨k, hk, rfl, HA⟩ := hrel
      by_cases hlt : k < s.size
      · by_cases a : wordC (bt s k) = true
        · have HW : Hid (wordC (bt s k) = true) := a
          go_wp2_with (first | (go_at_call 171; refine (refletter_any _ _ (hl _) (hu _)).mono ?_; rintro e w' ⟨rfl, rfl⟩) | go_in)
          go_round
          case rel => exact ⟨k + 1, by omega, by go_num, word_step HA.out HW.out⟩
          case measure => simp [intOf]; omega
        · have a : wordC (bt s k) = false := by simpa using a
          have HW : Hid (wordS s = false) := wordS_false hlt a
          go_wp2_with (first | (go_at_call 171; refine (refletter_any _ _ (hl _) (hu _)).mono ?_; rintro e w' ⟨rfl, rfl⟩) | go_in)
          go_ret
          exact ⟨by rw [HW.out]; rfl, rfl⟩
      · have HW : Hid (wordS s = true) := wordS_true (by omega) (by omega) h2 fun i hi => HA.out i (by omega)
        go_wp2
        go_ret
        exact ⟨by rw [HW.out]; rfl, rfl⟩
end Go.Proofs.YtchocojmideleaaGreatDoor
namespace Go.Proofs.YtchocojmideleaaGreatDoor
set_option linter.unusedVariables false
open Go.RowKit Go.PlainAid

theorem quo_step {s : ByteArray} {k : Nat} (h : ∀ j, 1 ≤ j → j < k → quoC (bt s j) = true) (hk : quoC (bt s k) = true) : ∀ j, 1 ≤ j → j < k + 1 → quoC (bt s j) = true := fun j h1 hj => by
  rcases Nat.lt_succ_iff_lt_or_eq.1 hj with q | rfl
  · exact h j h1 q
  · exact hk

set_option maxHeartbeats 2000000 in
theorem isquoted_any (s : ByteArray) (w : World) (hs : s.size ≤ 9223372036854775807) : Calls Tryz.prog 193 #[.string s] w fun e w' => e = .returned (.bool (quotedS s)) ∧ w = w' := by
  have hb := get_bt s
  have hl := bt_nonneg s
  have hu := bt_le s
  by_cases h0 : s.size < 3
  · have hf : quotedS s = false := by simp [quotedS]; omega
    rw [hf]
    go_enter Tryz.func193, Tryz.ntmps193
    go_wp2
    go_ret
    exact ⟨rfl, rfl⟩
  by_cases h1 : 32 < s.size
  · have hf : quotedS s = false := by simp [quotedS]; omega
    rw [hf]
    go_enter Tryz.func193, Tryz.ntmps193
    go_wp2
    go_ret
    exact ⟨rfl, rfl⟩
  by_cases h2 : ¬ bt s 0 = 39
  · have hf : quotedS s = false := by simp [quotedS, h2]
    have h2' : (bt s 0 != 39) = true := by simp [h2]
    rw [hf]
    go_enter Tryz.func193, Tryz.ntmps193
    go_wp2
    go_ret
    exact ⟨rfl, rfl⟩
  have h2 : bt s 0 = 39 := Classical.not_not.1 h2
  have h2' : (bt s 0 != 39) = false := by simp [h2]
  have H2 : Hid (bt s 0 = 39) := h2
  clear h2
  by_cases h3 : ¬ bt s (s.size - 1) = 39
  · have hf : quotedS s = false := by simp [quotedS, h3]
    have h3' : (bt s (s.size - 1) != 39) = true := by simp [h3]
    rw [hf]
    go_enter Tryz.func193, Tryz.ntmps193
    go_wp2
    go_ret
    exact ⟨rfl, rfl⟩
  have h3 : bt s (s.size - 1) = 39 := Classical.not_not.1 h3
  have h3' : (bt s (s.size - 1) != 39) = false := by simp [h3]
  have H3 : Hid (bt s (s.size - 1) = 39) := h3
  clear h3
  go_enter Tryz.func193, Tryz.ntmps193
  go_wp2
  go_loop [4] (fun i => ∃ k : Nat, 1 ≤ k ∧ k ≤ s.size - 1 ∧ i = .int .i64 k ∧ Hid (∀ j, 1 ≤ j → j < k → quoC (bt s j) = true)) (fun i => s.size - (intOf i).toNat)
  case atStart => exact ⟨1, Nat.le_refl _, by omega, rfl, fun j h hj => by omega⟩
  case round =>
    obtain ⟨k, hk1, hk, rfl, HA⟩ := hrel
    by_cases hlt : k < s.size - 1
    · by_cases a : quoC (bt s k) = true
      · have HW : Hid (quoC (bt s k) = true) := a
        go_wp2_with (first | (go_at_call 206; refine (maybe_any _ _ (hl _) (hu _)).mono ?_; rintro e w' ⟨rfl, rfl⟩) | go_in)
        go_round
        case rel => exact ⟨k + 1, by omega, by omega, by go_num, quo_step HA.out HW.out⟩
        case measure => simp [intOf]; omega
      · have a : quoC (bt s k) = false := by simpa using a
        have HW : Hid (quotedS s = false) := quotedS_false hk1 hlt a
        go_wp2_with (first | (go_at_call 206; refine (maybe_any _ _ (hl _) (hu _)).mono ?_; rintro e w' ⟨rfl, rfl⟩) | go_in)
        go_ret
        exact ⟨by rw [HW.out]; rfl, rfl⟩
    · have HW : Hid (quotedS s = true) := quotedS_true (by omega) (by omega) H2.out H3.out fun i h1 hi => HA.out i h1 (by omega)
      go_wp2
      go_ret
      exact ⟨by rw [HW.out]; rfl, rfl⟩
set_option maxHeartbeats 2000000 in
theorem refquoted_any (s : ByteArray) (w : World) (hs : s.size ≤ 9223372036854775807) : Calls Tryz.prog 105 #[.string s] w fun e w' => e = .returned (.bool (quotedS s)) ∧ w = w' := by
  have hb := get_bt s
  have hl := bt_nonneg s
  have hu := bt_le s
  by_cases h0 : s.size < 3
  · have hf : quotedS s = false := by simp [quotedS]; omega
    rw [hf]
    go_enter Tryz.func105, Tryz.ntmps105
    go_wp2
    go_ret
    exact ⟨rfl, rfl⟩
  by_cases h1 : 32 < s.size
  · have hf : quotedS s = false := by simp [quotedS]; omega
    rw [hf]
    go_enter Tryz.func105, Tryz.ntmps105
    go_wp2
    go_ret
    exact ⟨rfl, rfl⟩
  by_cases h2 : ¬ bt s 0 = 39
  · have hf : quotedS s = false := by simp [quotedS, h2]
    have h2' : (bt s 0 != 39) = true := by simp [h2]
    rw [hf]
    go_enter Tryz.func105, Tryz.ntmps105
    go_wp2
    go_ret
    exact ⟨rfl, rfl⟩
  have h2 : bt s 0 = 39 := Classical.not_not.1 h2
  have h2' : (bt s 0 != 39) = false := by simp [h2]
  have H2 : Hid (bt s 0 = 39) := h2
  clear h2
  by_cases h3 : ¬ bt s (s.size - 1) = 39
  · have hf : quotedS s = false := by simp [quotedS, h3]
    have h3' : (bt s (s.size - 1) != 39) = true := by simp [h3]
    rw [hf]
    go_enter Tryz.func105, Tryz.ntmps105
    go_wp2
    go_ret
    exact ⟨rfl, rfl⟩
  have h3 : bt s (s.size - 1) = 39 := Classical.not_not.1 h3
  have h3' : (bt s (s.size - 1) != 39) = false := by simp [h3]
  have H3 : Hid (bt s (s.size - 1) = 39) := h3
  clear h3
  go_enter Tryz.func105, Tryz.ntmps105
  go_wp2
  go_loop [4] (fun i => ∃ k : Nat, 1 ≤ k ∧ k ≤ s.size - 1 ∧ i = .int .i64 k ∧ Hid (∀ j, 1 ≤ j → j < k → quoC (bt s j) = true)) (fun i => s.size - (intOf i).toNat)
  case atStart => exact ⟨1, Nat.le_refl _, by omega, rfl, fun j h hj => by omega⟩
  case round =>
    obtain ⟨k, hk1, hk, rfl, HA⟩ := hrel
    by_cases hlt : k < s.size - 1
    · have hlk := hl k
      have huk := hu k
      by_cases a1 : bt s k < 33
      · have HW : Hid (quotedS s = false) := quotedS_false hk1 hlt (by simp [quoC]; omega)
        go_wp2
        go_ret
        exact ⟨by rw [HW.out]; rfl, rfl⟩
      by_cases a2 : 126 < bt s k
      · have HW : Hid (quotedS s = false) := quotedS_false hk1 hlt (by simp [quoC]; omega)
        go_wp2
        go_ret
        exact ⟨by rw [HW.out]; rfl, rfl⟩
      by_cases a3 : bt s k = 39
      · have HW : Hid (quotedS s = false) := quotedS_false hk1 hlt (by simp [quoC]; omega)
        go_wp2
        go_ret
        exact ⟨by rw [HW.out]; rfl, rfl⟩
      by_cases a4 : bt s k = 92
      · have HW : Hid (quotedS s = false) := quotedS_false hk1 hlt (by simp [quoC]; omega)
        go_wp2
        go_ret
        exact ⟨by rw [HW.out]; rfl, rfl⟩
      have HW : Hid (quoC (bt s k) = true) := by unfold Hid; simp [quoC]; omega
      have a3' : (bt s k == 39) = false := by simp [a3]
      have a4' : (bt s k == 92) = false := by simp [a4]
      go_wp2
      go_round
      case rel => exact ⟨k + 1, by omega, by omega, by go_num, quo_step HA.out HW.out⟩
      case measure => simp [intOf]; omega
    · have HW : Hid (quotedS s = true) := quotedS_true (by omega) (by omega) H2.out H3.out fun i h1 hi => HA.out i h1 (by omega)
      go_wp2
      go_ret
      exact ⟨by rw [HW.out]; rfl, rfl⟩
theorem istermname_any (s : ByteArray) (w : World) (hs : s.size ≤ 9223372036854775807) : Calls Tryz.prog 161 #[.string s] w fun e w' => e = .returned (.bool (termS s)) ∧ w = w' := by
  by_cases h : wordS s = true
  · have hf : termS s = true := by simp [termS, h]
    rw [hf]
    go_enter Tryz.func161, Tryz.ntmps161
    go_wp2_with (first | (go_at_call 162; refine (isword_any _ _ hs).mono ?_; rintro e w' ⟨rfl, rfl⟩) | (go_at_call 193; refine (isquoted_any _ _ hs).mono ?_; rintro e w' ⟨rfl, rfl⟩) | go_in)
    go_ret
    exact ⟨rfl, rfl⟩
  · have h : wordS s = false := by simpa using h
    have hf : termS s = quotedS s := by simp [termS, h]
    rw [hf]
    go_enter Tryz.func161, Tryz.ntmps161
    go_wp2_with (first | (go_at_call 162; refine (isword_any _ _ hs).mono ?_; rintro e w' ⟨rfl, rfl⟩) | (go_at_call 193; refine (isquoted_any _ _ hs).mono ?_; rintro e w' ⟨rfl, rfl⟩) | go_in)
    go_ret
    exact ⟨rfl, rfl⟩
end Go.Proofs.YtchocojmideleaaGreatDoor
