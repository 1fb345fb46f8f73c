import Derived.Test.YtcgghlaifmlpiaaGreatDoorBT19
namespace Go.Proofs.YtcgghlaifmlpiaaGreatDoor
set_option linter.unusedVariables false
open Go.RowKit Go.Shelf

set_option maxRecDepth 100000 in
set_option maxHeartbeats 4000000 in
theorem newset_SB (m : Nat) (hm : m ≤ 4096) (w : World) : Calls Tryz.prog 49 #[.int .i64 (m : Int)] w fun e w' => e = .returned (.tuple #[.pointer (some ⟨w.heap.size + 1, 0, none⟩), .int .i64 0]) ∧ SB w' w.heap.size m 0 ∧ Below w.heap.size w w' := by
  have AL : Hid (Calls Tryz.prog 81 #[.int .i64 (m : Int)] w fun e w' => e = .returned (.bool true) ∧ w' = w) := by
    have := allowed_SB (m : Int) w
    rwa [decide_eq_true (show (0 : Int) ≤ (m : Int) by omega), decide_eq_true (show (m : Int) ≤ 4096 by omega)] at this
  have EM : Hid (Calls Tryz.prog 87 #[.int .i64 (m : Int)] w fun e w' => e = .returned (.pointer (some ⟨w.heap.size + 1, 0, none⟩)) ∧ SB w' w.heap.size m 0 ∧ Below w.heap.size w w' ∧ w'.heap.size = w.heap.size + 2) := empty_SB m hm w
  clear hm
  go_enter Tryz.func49, Tryz.ntmps49
  go_wp2_with (first
    | (go_at_call 81; refine AL.out.mono ?_; rintro e w1 ⟨rfl, hz⟩; rw [hz]; clear hz w1)
    | (go_at_call 87; refine EM.out.mono ?_; rintro e w1 ⟨rfl, s1, b1, -⟩; have S1 : Hid (SB w1 w.heap.size m 0 ∧ Below w.heap.size w w1) := ⟨s1, b1⟩; clear s1 b1))
  refine bodyPost_ret (v := .tuple #[.pointer (some ⟨w.heap.size + 1, 0, none⟩), .int .i64 0]) (by simp [results, Tryz.results49, go_sem]) rfl ?_
  exact ⟨rfl, S1.out.1, S1.out.2⟩
set_option maxRecDepth 100000 in
set_option maxHeartbeats 4000000 in
theorem newset_no (m : Int) (hm : (decide (0 ≤ m) && decide (m ≤ 4096)) = false) (w : World) : Calls Tryz.prog 49 #[.int .i64 m] w fun e w' => e = .returned (.tuple #[.pointer none, .int .i64 4]) ∧ w' = w := by
  have AL : Hid (Calls Tryz.prog 81 #[.int .i64 m] w fun e w' => e = .returned (.bool false) ∧ w' = w) := by
    have := allowed_SB m w
    rwa [hm] at this
  clear hm
  go_enter Tryz.func49, Tryz.ntmps49
  go_wp2_with (go_at_call 81; refine AL.out.mono ?_; rintro e w1 ⟨rfl, hz⟩; rw [hz]; clear hz w1)
  refine bodyPost_ret (v := .tuple #[.pointer none, .int .i64 4]) (by simp [results, Tryz.results49, go_sem]) rfl ?_
  exact ⟨rfl, rfl⟩
/-- Without a number. -/
def remN (N x : Nat) : Nat := minusB N (2 ^ x)
theorem remN_bit (N x j : Nat) : (remN N x).testBit j = (N.testBit j && !decide (x = j)) := by
  unfold remN
  rw [minusB_bit, Nat.testBit_two_pow]
theorem wd_pow_same (x : Nat) : wdB (2 ^ x) (x / 64) = 2 ^ (x % 64) := by
  have hl : 2 ^ (x % 64) < 2 ^ 64 := Nat.pow_lt_pow_right (by decide) (Nat.mod_lt _ (by decide))
  refine word_ext (wdB_lt _ _) hl (fun j hj => ?_)
  rw [wdB_bit, Nat.testBit_two_pow, Nat.testBit_two_pow]
  simp only [hj, decide_true, Bool.true_and]
  apply decide_eq_decide.2
  omega
theorem wds_rem (N x m : Nat) : wdsB (remN N x) m = (wdsB N m).set (x / 64) (wdB N (x / 64) &&& (18446744073709551615 - 2 ^ (x % 64))) := by
  apply List.ext_getElem?
  intro i
  rw [List.getElem?_set]
  by_cases hi : i < nwB m
  · rw [wdsB_get _ _ hi, wdsB_get _ _ hi]
    by_cases e : x / 64 = i
    · subst e
      rw [if_pos rfl, if_pos (by rw [wdsB_len]; exact hi)]
      unfold remN
      rw [wd_minus, wd_pow_same]
    · rw [if_neg e]
      congr 1
      refine word_ext (wdB_lt _ _) (wdB_lt _ _) (fun j hj => ?_)
      rw [wdB_bit, remN_bit, wdB_bit]
      simp only [hj, decide_true, Bool.true_and]
      rw [decide_eq_false (by omega), Bool.not_false, Bool.and_true]
  · have h1 : (wdsB (remN N x) m)[i]? = none := List.getElem?_eq_none (by rw [wdsB_len]; omega)
    have h2 : (wdsB N m)[i]? = none := List.getElem?_eq_none (by rw [wdsB_len]; omega)
    rw [h1, h2]
    by_cases e : x / 64 = i
    · rw [if_pos e, if_neg (by rw [wdsB_len]; omega)]
    · rw [if_neg e]
set_option maxRecDepth 100000 in
set_option maxHeartbeats 4000000 in
theorem remove_in {w : World} {k m N : Nat} (h : SB w k m N) (n : Nat) (hx : n < m) (hn : N.testBit n = true) : Calls Tryz.prog 74 #[.pointer (some ⟨k + 1, 0, none⟩), .int .i64 (n : Int)] w fun e w' => e = .returned (.bool true) ∧ SB w' k m (remN N n) ∧ FrB (· = k) w w' := by
  have hml := h.ml
  have HS : Hid (Calls Tryz.prog 51 #[.pointer (some ⟨k + 1, 0, none⟩), .int .i64 (n : Int)] w fun e w'' => e = .returned (.bool true) ∧ Below w.heap.size w w'') := by
    have := has_yes h n hx
    rwa [hn] at this
  have HB : Hid (SB w k m N) := h
  have hni : n / 64 < nwB m := by unfold nwB; omega
  have hP : 2 ^ (n % 64) < 18446744073709551616 := Nat.pow_lt_pow_right (n := 64) (by decide) (Nat.mod_lt _ (by decide))
  have HW : Hid (wdsB (remN N n) m = (wdsB N m).set (n / 64) (wdB N (n / 64) &&& (18446744073709551615 - 2 ^ (n % 64)))) := wds_rem N n m
  have BI0 : Hid (∀ w', Calls Tryz.prog 95 #[.int .i64 (n : Int)] w' fun e w'' => e = .returned (.int .u64 ((2 ^ (n % 64) : Nat) : Int)) ∧ w'' = w') := fun w' => bit_SB n (by omega) w'
  have HL : Hid (remN N n < 2 ^ m) := minusB_lt h.lt
  obtain ⟨q, hq⟩ : ∃ q, n / 64 = q := ⟨_, rfl⟩
  have hq2 : (n : Int) / 64 = (q : Int) := by omega
  have wq : IntKind.i64.wrap (q : Int) = (q : Int) := IntWalk.i64_in _ ⟨by omega, by omega⟩
  rw [hq] at hni HW
  have l1 : (q : Int) < ((nwB m : Nat) : Int) := by omega
  have hW := wdB_lt N q
  obtain ⟨W, hWe⟩ : ∃ W, wdB N q = W := ⟨_, rfl⟩
  rw [hWe] at HW hW
  have HWe : Hid (wdB N q = W) := hWe
  generalize 2 ^ (n % 64) = P at *
  have eO := bits_andNot_u64_nat W P hW hP
  generalize (W &&& (18446744073709551615 - P)) = V at *
  clear h hx hq hWe hn
  go_enter Tryz.func74, Tryz.ntmps74
  go_wp2_with (go_at_call 51; refine HS.out.mono ?_; rintro e w1 ⟨rfl, b1⟩; have B1 : Hid (Below w.heap.size w w1) := b1; clear b1)
  obtain ⟨wd, hwd⟩ : ∃ wd : World, wd = w1.drew := ⟨_, rfl⟩
  have BD : Hid (Below w.heap.size w wd) := by rw [hwd]; exact B1.out.drew
  have HD : Hid (SB wd k m N) := HB.out.later BD.out
  have BI : Hid (Calls Tryz.prog 95 #[.int .i64 (n : Int)] wd fun e w'' => e = .returned (.int .u64 (P : Int)) ∧ w'' = wd) := BI0.out wd
  obtain ⟨-, c1⟩ := HD.out.cells
  have c2 := HD.out.word hni
  rw [HWe.out] at c2
  have fz := HD.out.free q
  have SU : Hid (SB (wd.setCell ⟨k, q, none⟩ (.int .u64 (V : Int))) k m (remN N n)) := HD.out.set q _ HW.out HL.out
  have FU : Hid (FrB (· = k) w (wd.setCell ⟨k, q, none⟩ (.int .u64 (V : Int)))) := (Below.frB BD.out).trans (frB_setCell wd k q _)
  refine wp_region_tail_s 12 (by kernel_rfl) (by kernel_rfl) wd hwd ?_
  clear hwd B1 BI0 HS HB
  simp only [List.take_succ_cons, List.take_zero, List.drop_succ_cons, List.drop_zero]
  refine st_yes (v := ?_) (by rfl) ?_ ?_
  rotate_left
  · (go_simp; with_reducible rfl)
  (try simp only [Act.put, List.setIfInBounds_toArray, List.set_cons_zero, List.set_cons_succ])
  refine st_yes (v := ?_) (by rfl) ?_ ?_
  rotate_left
  · (go_simp; with_reducible rfl)
  (try simp only [Act.put, List.setIfInBounds_toArray, List.set_cons_zero, List.set_cons_succ])
  refine st_yes (v := ?_) (by rfl) ?_ ?_
  rotate_left
  · (go_simp; with_reducible rfl)
  (try simp only [Act.put, List.setIfInBounds_toArray, List.set_cons_zero, List.set_cons_succ])
  refine st_yes (v := ?_) (by rfl) ?_ ?_
  rotate_left
  · (go_simp; with_reducible rfl)
  (try simp only [Act.put, List.setIfInBounds_toArray, List.set_cons_zero, List.set_cons_succ])
  refine st_yes (v := ?_) (by rfl) ?_ ?_
  rotate_left
  · (go_simp; with_reducible rfl)
  (try simp only [Act.put, List.setIfInBounds_toArray, List.set_cons_zero, List.set_cons_succ])
  refine st_yes (v := ?_) (by rfl) ?_ ?_
  rotate_left
  · (go_simp; with_reducible rfl)
  (try simp only [Act.put, List.setIfInBounds_toArray, List.set_cons_zero, List.set_cons_succ])
  refine st_yes (v := ?_) (by rfl) ?_ ?_
  rotate_left
  · (go_simp; with_reducible rfl)
  (try simp only [Act.put, List.setIfInBounds_toArray, List.set_cons_zero, List.set_cons_succ])
  refine st_yes (v := ?_) (by rfl) ?_ ?_
  rotate_left
  · (go_simp; with_reducible rfl)
  (try simp only [Act.put, List.setIfInBounds_toArray, List.set_cons_zero, List.set_cons_succ])
  refine st_yes (v := ?_) (by rfl) ?_ ?_
  rotate_left
  · (go_simp; with_reducible rfl)
  (try simp only [Act.put, List.setIfInBounds_toArray, List.set_cons_zero, List.set_cons_succ])
  refine st_call (v := .int .u64 (P : Int)) 95 #[.int .i64 (n : Int)] (by rfl) (by go_simp) BI.out ?_
  (try simp only [Act.put, List.setIfInBounds_toArray, List.set_cons_zero, List.set_cons_succ])
  refine st_yes (v := ?_) (by rfl) ?_ ?_
  rotate_left
  · (go_simp; with_reducible rfl)
  (try simp only [Act.put, List.setIfInBounds_toArray, List.set_cons_zero, List.set_cons_succ])
  refine st_yes (v := ?_) (by rfl) ?_ ?_
  rotate_left
  · (go_simp; with_reducible rfl)
  (try simp only [Act.put, List.setIfInBounds_toArray, List.set_cons_zero, List.set_cons_succ])
  refine st_nil ?_
  go_wp2
  go_ret
  exact ⟨rfl, SU.out, FU.out⟩
set_option maxRecDepth 100000 in
set_option maxHeartbeats 4000000 in
theorem remove_out {w : World} {k m N : Nat} (h : SB w k m N) (x : Int) (hx : hasB N m x = false) : Calls Tryz.prog 74 #[.pointer (some ⟨k + 1, 0, none⟩), .int .i64 x] w fun e w' => e = .returned (.bool false) ∧ Below w.heap.size w w' := by
  have HS : Hid (Calls Tryz.prog 51 #[.pointer (some ⟨k + 1, 0, none⟩), .int .i64 x] w fun e w'' => e = .returned (.bool false) ∧ Below w.heap.size w w'') := by
    have := has_SB h x
    rwa [hx] at this
  clear h hx
  go_enter Tryz.func74, Tryz.ntmps74
  go_wp2_with (go_at_call 51; refine HS.out.mono ?_; rintro e w1 ⟨rfl, b1⟩; have B1 : Hid (Below w.heap.size w w1) := b1; clear b1)
  go_ret
  exact ⟨rfl, B1.out⟩
end Go.Proofs.YtcgghlaifmlpiaaGreatDoor
