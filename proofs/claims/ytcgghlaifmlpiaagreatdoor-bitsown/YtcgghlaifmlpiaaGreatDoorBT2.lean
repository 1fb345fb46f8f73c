import Derived.Test.YtcgghlaifmlpiaaGreatDoorBT1
namespace Go.Proofs.YtcgghlaifmlpiaaGreatDoor
set_option linter.unusedVariables false
open Go.RowKit

/-- One word turned. -/
theorem SB.set {w : World} {k m N M : Nat} (h : SB w k m N) (i : Nat) (x : Nat) (hw : wdsB M m = (wdsB N m).set i x) (hM : M < 2 ^ m) : SB (w.setCell ⟨k, i, none⟩ (.int .u64 (x : Int))) k m M := by
  refine ⟨?_, ?_, hM, h.ml⟩
  · rw [Below.heap_setCell _ _ _ _ (show k + 1 ≠ k by omega)]
    exact h.hd
  · rw [heap_set h.wd i (.int .u64 (x : Int)), List.setIfInBounds_toArray]
    unfold wCells
    rw [hw, List.map_set]
set_option maxRecDepth 100000 in
set_option maxHeartbeats 4000000 in
theorem add_new {w : World} {k m N : Nat} (h : SB w k m N) (n : Nat) (hx : n < m) (hn : N.testBit n = false) : Calls Tryz.prog 50 #[.pointer (some ⟨k + 1, 0, none⟩), .int .i64 (n : Int)] w fun e w' => e = .returned (.bool true) ∧ SB w' k m (addN N n) ∧ FrB (· = k) w w' := by
  have hml := h.ml
  have SZ : Hid (Calls Tryz.prog 73 #[.pointer (some ⟨k + 1, 0, none⟩)] w fun e w'' => e = .returned (.int .i64 (m : Int)) ∧ w'' = w) := size_SB h
  have BL : Hid (Calls Tryz.prog 83 #[.int .i64 (n : Int), .int .i64 (m : Int)] w fun e w'' => e = .returned (.bool true) ∧ w'' = w) := by
    have := below_SB (n : Int) (m : Int) w
    rwa [decide_eq_true (show (0 : Int) ≤ (n : Int) by omega), decide_eq_true (show (n : Int) < (m : Int) by omega)] at this
  have HS : Hid (Calls Tryz.prog 51 #[.pointer (some ⟨k + 1, 0, none⟩), .int .i64 (n : Int)] w fun e w'' => e = .returned (.bool false) ∧ Below w.heap.size w w'') := by
    have := has_yes h n hx
    rwa [hn] at this
  have HB : Hid (SB w k m N) := h
  have hni : n / 64 < nwB m := by unfold nwB; omega
  have hP : 2 ^ (n % 64) < 18446744073709551616 := Nat.pow_lt_pow_right (n := 64) (by decide) (Nat.mod_lt _ (by decide))
  have HW : Hid (wdsB (addN N n) m = (wdsB N m).set (n / 64) (wdB N (n / 64) ||| 2 ^ (n % 64))) := wds_add N n m
  have BI0 : Hid (∀ w', Calls Tryz.prog 95 #[.int .i64 (n : Int)] w' fun e w'' => e = .returned (.int .u64 ((2 ^ (n % 64) : Nat) : Int)) ∧ w'' = w') := fun w' => bit_SB n (by omega) w'
  have HL : Hid (addN N n < 2 ^ m) := addN_lt h.lt hx
  obtain ⟨q, hq⟩ : ∃ q, n / 64 = q := ⟨_, rfl⟩
  have hq2 : (n : Int) / 64 = (q : Int) := by omega
  have wq : IntKind.i64.wrap (q : Int) = (q : Int) := IntWalk.i64_in _ ⟨by omega, by omega⟩
  rw [hq] at hni HW
  have l1 : (q : Int) < ((nwB m : Nat) : Int) := by omega
  have hW := wdB_lt N q
  obtain ⟨W, hWe⟩ : ∃ W, wdB N q = W := ⟨_, rfl⟩
  rw [hWe] at HW hW
  have HWe : Hid (wdB N q = W) := hWe
  generalize 2 ^ (n % 64) = P at *
  have eO := bits_or_u64_nat W P hW hP
  clear h hx hq hWe hn
  go_enter Tryz.func50, Tryz.ntmps50
  go_wp2_with (first
    | (go_at_call 73; refine SZ.out.mono ?_; rintro e w1 ⟨rfl, hz⟩; rw [hz]; clear hz w1)
    | (go_at_call 83; refine BL.out.mono ?_; rintro e w1 ⟨rfl, hz⟩; rw [hz]; clear hz w1)
    | (go_at_call 51; refine HS.out.mono ?_; rintro e w1 ⟨rfl, b1⟩; have B1 : Hid (Below w.heap.size w w1) := b1; clear b1))
  obtain ⟨wd, hwd⟩ : ∃ wd : World, wd = w1.drew := ⟨_, rfl⟩
  have BD : Hid (Below w.heap.size w wd) := by rw [hwd]; exact B1.out.drew
  have HD : Hid (SB wd k m N) := HB.out.later BD.out
  have BI : Hid (Calls Tryz.prog 95 #[.int .i64 (n : Int)] wd fun e w'' => e = .returned (.int .u64 (P : Int)) ∧ w'' = wd) := BI0.out wd
  obtain ⟨-, c1⟩ := HD.out.cells
  have c2 := HD.out.word hni
  rw [HWe.out] at c2
  have fz := HD.out.free q
  have SU : Hid (SB (wd.setCell ⟨k, q, none⟩ (.int .u64 ((W ||| P : Nat) : Int))) k m (addN N n)) := HD.out.set q _ HW.out HL.out
  have FU : Hid (FrB (· = k) w (wd.setCell ⟨k, q, none⟩ (.int .u64 ((W ||| P : Nat) : Int)))) := (Below.frB BD.out).trans (frB_setCell wd k q _)
  refine wp_region_tail_s 12 (by kernel_rfl) (by kernel_rfl) wd hwd ?_
  clear hwd B1 BI0 SZ BL HS HB
  simp only [List.take_succ_cons, List.take_zero, List.drop_succ_cons, List.drop_zero]
  refine st_yes (v := ?_) (by rfl) ?_ ?_
  rotate_left
  · (go_simp; with_reducible rfl)
  (try simp only [Act.put, List.setIfInBounds_toArray, List.set_cons_zero, List.set_cons_succ])
  refine st_yes (v := ?_) (by rfl) ?_ ?_
  rotate_left
  · (go_simp; with_reducible rfl)
  (try simp only [Act.put, List.setIfInBounds_toArray, List.set_cons_zero, List.set_cons_succ])
  refine st_yes (v := ?_) (by rfl) ?_ ?_
  rotate_left
  · (go_simp; with_reducible rfl)
  (try simp only [Act.put, List.setIfInBounds_toArray, List.set_cons_zero, List.set_cons_succ])
  refine st_yes (v := ?_) (by rfl) ?_ ?_
  rotate_left
  · (go_simp; with_reducible rfl)
  (try simp only [Act.put, List.setIfInBounds_toArray, List.set_cons_zero, List.set_cons_succ])
  refine st_yes (v := ?_) (by rfl) ?_ ?_
  rotate_left
  · (go_simp; with_reducible rfl)
  (try simp only [Act.put, List.setIfInBounds_toArray, List.set_cons_zero, List.set_cons_succ])
  refine st_yes (v := ?_) (by rfl) ?_ ?_
  rotate_left
  · (go_simp; with_reducible rfl)
  (try simp only [Act.put, List.setIfInBounds_toArray, List.set_cons_zero, List.set_cons_succ])
  refine st_yes (v := ?_) (by rfl) ?_ ?_
  rotate_left
  · (go_simp; with_reducible rfl)
  (try simp only [Act.put, List.setIfInBounds_toArray, List.set_cons_zero, List.set_cons_succ])
  refine st_yes (v := ?_) (by rfl) ?_ ?_
  rotate_left
  · (go_simp; with_reducible rfl)
  (try simp only [Act.put, List.setIfInBounds_toArray, List.set_cons_zero, List.set_cons_succ])
  refine st_yes (v := ?_) (by rfl) ?_ ?_
  rotate_left
  · (go_simp; with_reducible rfl)
  (try simp only [Act.put, List.setIfInBounds_toArray, List.set_cons_zero, List.set_cons_succ])
  refine st_call (v := .int .u64 (P : Int)) 95 #[.int .i64 (n : Int)] (by rfl) (by go_simp) BI.out ?_
  (try simp only [Act.put, List.setIfInBounds_toArray, List.set_cons_zero, List.set_cons_succ])
  refine st_yes (v := ?_) (by rfl) ?_ ?_
  rotate_left
  · (go_simp; with_reducible rfl)
  (try simp only [Act.put, List.setIfInBounds_toArray, List.set_cons_zero, List.set_cons_succ])
  refine st_yes (v := ?_) (by rfl) ?_ ?_
  rotate_left
  · (go_simp; with_reducible rfl)
  (try simp only [Act.put, List.setIfInBounds_toArray, List.set_cons_zero, List.set_cons_succ])
  refine st_nil ?_
  go_wp2
  go_ret
  exact ⟨rfl, SU.out, FU.out⟩
set_option maxRecDepth 100000 in
set_option maxHeartbeats 4000000 in
theorem add_old {w : World} {k m N : Nat} (h : SB w k m N) (n : Nat) (hx : n < m) (hn : N.testBit n = true) : Calls Tryz.prog 50 #[.pointer (some ⟨k + 1, 0, none⟩), .int .i64 (n : Int)] w fun e w' => e = .returned (.bool false) ∧ Below w.heap.size w w' := by
  have SZ : Hid (Calls Tryz.prog 73 #[.pointer (some ⟨k + 1, 0, none⟩)] w fun e w'' => e = .returned (.int .i64 (m : Int)) ∧ w'' = w) := size_SB h
  have BL : Hid (Calls Tryz.prog 83 #[.int .i64 (n : Int), .int .i64 (m : Int)] w fun e w'' => e = .returned (.bool true) ∧ w'' = w) := by
    have := below_SB (n : Int) (m : Int) w
    rwa [decide_eq_true (show (0 : Int) ≤ (n : Int) by omega), decide_eq_true (show (n : Int) < (m : Int) by omega)] at this
  have HS : Hid (Calls Tryz.prog 51 #[.pointer (some ⟨k + 1, 0, none⟩), .int .i64 (n : Int)] w fun e w'' => e = .returned (.bool true) ∧ Below w.heap.size w w'') := by
    have := has_yes h n hx
    rwa [hn] at this
  clear h hx hn
  go_enter Tryz.func50, Tryz.ntmps50
  go_wp2_with (first
    | (go_at_call 73; refine SZ.out.mono ?_; rintro e w1 ⟨rfl, hz⟩; rw [hz]; clear hz w1)
    | (go_at_call 83; refine BL.out.mono ?_; rintro e w1 ⟨rfl, hz⟩; rw [hz]; clear hz w1)
    | (go_at_call 51; refine HS.out.mono ?_; rintro e w1 ⟨rfl, b1⟩; have B1 : Hid (Below w.heap.size w w1) := b1; clear b1))
  go_ret
  exact ⟨rfl, B1.out⟩
set_option maxRecDepth 100000 in
set_option maxHeartbeats 4000000 in
theorem add_far {w : World} {k m N : Nat} (h : SB w k m N) (x : Int) (hx : (decide (0 ≤ x) && decide (x < (m : Int))) = false) : Calls Tryz.prog 50 #[.pointer (some ⟨k + 1, 0, none⟩), .int .i64 x] w fun e w' => e = .returned (.bool false) ∧ Below w.heap.size w w' := by
  have SZ : Hid (Calls Tryz.prog 73 #[.pointer (some ⟨k + 1, 0, none⟩)] w fun e w'' => e = .returned (.int .i64 (m : Int)) ∧ w'' = w) := size_SB h
  have BL : Hid (Calls Tryz.prog 83 #[.int .i64 x, .int .i64 (m : Int)] w fun e w'' => e = .returned (.bool false) ∧ w'' = w) := by
    have := below_SB x (m : Int) w
    rwa [hx] at this
  clear h hx
  go_enter Tryz.func50, Tryz.ntmps50
  go_wp2_with (first
    | (go_at_call 73; refine SZ.out.mono ?_; rintro e w1 ⟨rfl, hz⟩; rw [hz]; clear hz w1)
    | (go_at_call 83; refine BL.out.mono ?_; rintro e w1 ⟨rfl, hz⟩; rw [hz]; clear hz w1))
  go_ret
  exact ⟨rfl, Below.refl _ _⟩
/-- With a number, if it is in range. -/
def addX (N m : Nat) (x : Int) : Nat := if 0 ≤ x ∧ x < (m : Int) then addN N x.toNat else N
theorem addN_in {N x : Nat} (h : N.testBit x = true) : addN N x = N := by
  apply bit_ext
  intro j
  rw [addN_bit]
  by_cases q : x = j
  · subst q; rw [h]; rfl
  · simp [q]
theorem add_SB {w : World} {k m N : Nat} (h : SB w k m N) (x : Int) : Calls Tryz.prog 50 #[.pointer (some ⟨k + 1, 0, none⟩), .int .i64 x] w fun e w' => e = .returned (.bool (decide (0 ≤ x ∧ x < (m : Int)) && !N.testBit x.toNat)) ∧ SB w' k m (addX N m x) ∧ FrB (· = k) w w' := by
  by_cases hx : 0 ≤ x ∧ x < (m : Int)
  · obtain ⟨n, rfl⟩ : ∃ n : Nat, x = (n : Int) := ⟨x.toNat, by omega⟩
    have e1 : addX N m (n : Int) = addN N n := by unfold addX; rw [if_pos hx]; rfl
    rw [e1, decide_eq_true hx, Int.toNat_natCast]
    cases hb : N.testBit n with
    | true =>
      refine (add_old h n (by omega) hb).mono fun e w' ⟨q1, q2⟩ => ⟨q1, ?_, Below.frB q2⟩
      rw [addN_in hb]
      exact h.later q2
    | false => exact add_new h n (by omega) hb
  · have e1 : addX N m x = N := by unfold addX; rw [if_neg hx]
    rw [e1, decide_eq_false hx]
    refine (add_far h x (by rw [← Bool.decide_and]; exact decide_eq_false hx)).mono fun e w' ⟨q1, q2⟩ => ⟨q1, h.later q2, Below.frB q2⟩
theorem bits_andNot_u64_nat (a b : Nat) (ha : a < 18446744073709551616) (hb : b < 18446744073709551616) : bits .andNot .u64 (a : Int) (b : Int) = ((a &&& (18446744073709551615 - b) : Nat) : Int) := by
  have hx : a &&& (18446744073709551615 - b) < 2 ^ 64 := Nat.and_lt_two_pow _ (by omega)
  have h1 : (BitVec.ofInt 64 (a : Int)).toNat = a := by
    rw [BitVec.ofInt_natCast, BitVec.toNat_ofNat]; exact Nat.mod_eq_of_lt (by omega)
  have h2 : (BitVec.ofInt 64 (b : Int)).toNat = b := by
    rw [BitVec.ofInt_natCast, BitVec.toNat_ofNat]; exact Nat.mod_eq_of_lt (by omega)
  show IntKind.u64.wrap ((BitVec.ofInt 64 (a : Int) &&& ~~~ BitVec.ofInt 64 (b : Int)).toNat : Int) = _
  rw [BitVec.toNat_and, BitVec.toNat_not, h1, h2, IntKind.wrap_u64]
  show (((a &&& (18446744073709551616 - 1 - b) : Nat) : Int)) % 18446744073709551616 = _
  rw [show 18446744073709551616 - 1 - b = 18446744073709551615 - b by omega]
  omega
/-- Sets as numbers, joined. -/
def minusB (N M : Nat) : Nat := N ^^^ (N &&& M)
theorem minusB_bit (N M j : Nat) : (minusB N M).testBit j = (N.testBit j && !M.testBit j) := by
  unfold minusB
  rw [Nat.testBit_xor, Nat.testBit_and]
  cases N.testBit j <;> cases M.testBit j <;> rfl
theorem wd_or (N M i : Nat) : wdB (N ||| M) i = wdB N i ||| wdB M i := by
  refine word_ext (wdB_lt _ _) (Nat.or_lt_two_pow (n := 64) (wdB_lt _ _) (wdB_lt _ _)) (fun j hj => ?_)
  rw [wdB_bit, Nat.testBit_or, Nat.testBit_or, wdB_bit, wdB_bit]
  simp [hj]
theorem wd_and (N M i : Nat) : wdB (N &&& M) i = wdB N i &&& wdB M i := by
  refine word_ext (wdB_lt _ _) (Nat.and_lt_two_pow (n := 64) _ (wdB_lt _ _)) (fun j hj => ?_)
  rw [wdB_bit, Nat.testBit_and, Nat.testBit_and, wdB_bit, wdB_bit]
  simp [hj]
theorem wd_xor (N M i : Nat) : wdB (N ^^^ M) i = wdB N i ^^^ wdB M i := by
  refine word_ext (wdB_lt _ _) (Nat.xor_lt_two_pow (n := 64) (wdB_lt _ _) (wdB_lt _ _)) (fun j hj => ?_)
  rw [wdB_bit, Nat.testBit_xor, Nat.testBit_xor, wdB_bit, wdB_bit]
  simp [hj]
theorem not_bit {b j : Nat} (hb : b < 18446744073709551616) (hj : j < 64) : (18446744073709551615 - b).testBit j = !b.testBit j := by
  have := Nat.testBit_two_pow_sub_succ (n := 64) hb j
  rw [show 2 ^ 64 - (b + 1) = 18446744073709551615 - b by omega] at this
  rw [this]
  simp [hj]
theorem wd_minus (N M i : Nat) : wdB (minusB N M) i = wdB N i &&& (18446744073709551615 - wdB M i) := by
  refine word_ext (wdB_lt _ _) (Nat.and_lt_two_pow (n := 64) _ (by omega)) (fun j hj => ?_)
  rw [wdB_bit, minusB_bit, Nat.testBit_and, not_bit (wdB_lt _ _) hj, wdB_bit, wdB_bit]
  simp [hj]
/-- What is below the size. -/
theorem wd_room (X m i : Nat) (hi : i < nwB m) : wdB (X % 2 ^ m) i = wdB X i &&& roomB m i := by
  have hr : roomB m i < 2 ^ 64 := by
    unfold roomB
    split
    · decide
    · have : 2 ^ (m % 64) < 2 ^ 64 := Nat.pow_lt_pow_right (by decide) (Nat.mod_lt _ (by decide))
      omega
  refine word_ext (wdB_lt _ _) (Nat.and_lt_two_pow (n := 64) _ hr) (fun j hj => ?_)
  rw [wdB_bit, Nat.testBit_mod_two_pow, Nat.testBit_and, wdB_bit]
  simp only [hj, decide_true, Bool.true_and]
  rw [Bool.and_comm]
  congr 1
  unfold nwB at hi
  unfold roomB
  split
  · rename_i q
    rw [show (18446744073709551615 : Nat) = 2 ^ 64 - 1 from rfl, Nat.testBit_two_pow_sub_one]
    apply decide_eq_decide.2
    omega
  · rename_i q
    rw [Nat.testBit_two_pow_sub_one]
    apply decide_eq_decide.2
    omega
theorem words_ext {N M m : Nat} (hN : N < 2 ^ m) (hM : M < 2 ^ m) (h : ∀ i, i < nwB m → wdB N i = wdB M i) : N = M := by
  apply bit_ext
  intro j
  by_cases q : j < m
  · have e := h (j / 64) (by unfold nwB; omega)
    have e1 := wdB_bit N (j / 64) (j % 64)
    have e2 := wdB_bit M (j / 64) (j % 64)
    rw [e] at e1
    rw [e1] at e2
    simpa [Nat.mod_lt j (show 0 < 64 by decide), Nat.div_add_mod] using e2
  · rw [Nat.testBit_lt_two_pow (Nat.lt_of_lt_of_le hN (Nat.pow_le_pow_right (by decide) (by omega))), Nat.testBit_lt_two_pow (Nat.lt_of_lt_of_le hM (Nat.pow_le_pow_right (by decide) (by omega)))]
end Go.Proofs.YtcgghlaifmlpiaaGreatDoor
