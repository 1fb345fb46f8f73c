import Derived.Test.YtcgghlaifmlpiaaGreatDoorBT7
namespace Go.Proofs.YtcgghlaifmlpiaaGreatDoor
set_option linter.unusedVariables false
open Go.RowKit Go.Shelf

theorem nwB_max (m m2 : Nat) : nwB (max m m2) = max (nwB m) (nwB m2) := by
  unfold nwB
  rcases Nat.le_total m m2 with h | h
  · rw [Nat.max_eq_right h, Nat.max_eq_right (by omega)]
  · rw [Nat.max_eq_left h, Nat.max_eq_left (by omega)]
theorem wdB_zero (i : Nat) : wdB 0 i = 0 := by unfold wdB; simp
theorem lt_maxB {N M m m2 : Nat} (hN : N < 2 ^ m) (hM : M < 2 ^ m2) : N < 2 ^ max m m2 ∧ M < 2 ^ max m m2 := ⟨Nat.lt_of_lt_of_le hN (Nat.pow_le_pow_right (by decide) (Nat.le_max_left _ _)), Nat.lt_of_lt_of_le hM (Nat.pow_le_pow_right (by decide) (Nat.le_max_right _ _))⟩
theorem minusB_lt {N M m : Nat} (hN : N < 2 ^ m) : minusB N M < 2 ^ m := by
  unfold minusB
  exact Nat.xor_lt_two_pow hN (Nat.lt_of_le_of_lt Nat.and_le_left hN)
set_option maxRecDepth 100000 in
set_option maxHeartbeats 4000000 in
theorem same1_S (a b : Nat) (ha : a < 18446744073709551616) (hb : b < 18446744073709551616) (w : World) : Calls Tryz.prog 115 #[.int .u64 (a : Int), .int .u64 (b : Int)] w fun e w' => e = .returned (.int .u64 ((a ^^^ b : Nat) : Int)) ∧ w' = w := by
  have E := bits_xor_u64_nat a b ha hb
  go_enter Tryz.func115, Tryz.ntmps115
  go_wp2
  go_ret
  exact ⟨rfl, rfl⟩
set_option maxRecDepth 100000 in
set_option maxHeartbeats 4000000 in
theorem same_no {w : World} {k m N k2 m2 M : Nat} (h : SB w k m N) (h2 : SB w k2 m2 M) : Calls Tryz.prog 113 #[.pointer (some ⟨k + 1, 0, none⟩), .pointer (some ⟨k2 + 1, 0, none⟩), .func (.func 115) #[] #[]] w fun e w' => e = .returned (.bool (decide (N ^^^ M = 0))) ∧ w' = w := by
  have hnw := nwB_le h.ml
  have hnw2 := nwB_le h2.ml
  have HS : Hid (Calls Tryz.prog 55 #[.pointer (some ⟨k + 1, 0, none⟩)] w fun e w' => e = .returned (.slice (some ⟨k, 0, none⟩) (nwB m) (nwB m)) ∧ w' = w) := held_SB h
  have HT2 : Hid (Calls Tryz.prog 55 #[.pointer (some ⟨k2 + 1, 0, none⟩)] w fun e w' => e = .returned (.slice (some ⟨k2, 0, none⟩) (nwB m2) (nwB m2)) ∧ w' = w) := held_SB h2
  have HH : Hid (∀ p v, (p = Value.pointer (some ⟨k + 1, 0, none⟩) ∧ v = Value.slice (some ⟨k, 0, none⟩) (nwB m) (nwB m)) ∨ (p = Value.pointer (some ⟨k2 + 1, 0, none⟩) ∧ v = Value.slice (some ⟨k2, 0, none⟩) (nwB m2) (nwB m2)) → Calls Tryz.prog 55 #[p] w fun e w' => e = .returned v ∧ w' = w) := fun p v q => by
    rcases q with ⟨rfl, rfl⟩ | ⟨rfl, rfl⟩
    · exact HS.out
    · exact HT2.out
  clear HS HT2
  have WA : Hid (∀ i : Nat, Calls Tryz.prog 124 #[.slice (some ⟨k, 0, none⟩) (nwB m) (nwB m), .int .i64 (i : Int)] w fun e w' => e = .returned (.int .u64 (wdB N i : Int)) ∧ w' = w) := fun i => h.wordAt i
  have WB : Hid (∀ i : Nat, Calls Tryz.prog 124 #[.slice (some ⟨k2, 0, none⟩) (nwB m2) (nwB m2), .int .i64 (i : Int)] w fun e w' => e = .returned (.int .u64 (wdB M i : Int)) ∧ w' = w) := fun i => h2.wordAt i
  have HALL : Hid ((∀ i, i < max (nwB m) (nwB m2) → wdB (N ^^^ M) i = 0) → N ^^^ M = 0) := fun q => words_ext (m := max m m2) (Nat.xor_lt_two_pow (lt_maxB h.lt h2.lt).1 (lt_maxB h.lt h2.lt).2) (Nat.two_pow_pos _) (fun i hi => by rw [nwB_max] at hi; rw [q i hi, wdB_zero])
  have HWD : Hid (∀ i, wdB (N ^^^ M) i = wdB N i ^^^ wdB M i) := fun i => wd_xor N M i
  generalize N ^^^ M = X at *
  clear h h2
  by_cases hmm : nwB m < nwB m2
  · rw [Nat.max_eq_right (Nat.le_of_lt hmm)] at HALL
    go_enter Tryz.func113, Tryz.ntmps113
    go_wp2_with (go_at_call 55; refine (HH.out _ _ (by first | (with_reducible exact Or.inl ⟨rfl, rfl⟩) | (with_reducible exact Or.inr ⟨rfl, rfl⟩))).mono ?_; rintro e w1 ⟨rfl, hz⟩; rw [hz]; clear hz w1)
    clear HH
    go_loopw [19] (fun z wr => ∃ i : Nat, i ≤ nwB m2 ∧ z = .int .i64 (i : Int) ∧ (∀ j, j < i → wdB X j = 0) ∧ w = wr) (fun z _ => nwB m2 - (intOf z).toNat)
    case atStart => exact ⟨0, Nat.zero_le _, rfl, fun j hj => absurd hj (Nat.not_lt_zero j), rfl⟩
    case round =>
      obtain ⟨i, hi, rfl, hz0, rfl⟩ := hrel
      have HZ : Hid (∀ j, j < i → wdB X j = 0) := hz0
      clear hz0
      by_cases hlt : i < nwB m2
      · have ilt : (i : Int) < ((nwB m2 : Nat) : Int) := by omega
        have W1 : Hid (Calls Tryz.prog 124 #[.slice (some ⟨k, 0, none⟩) (nwB m) (nwB m), .int .i64 (i : Int)] w fun e w' => e = .returned (.int .u64 (wdB N i : Int)) ∧ w' = w) := WA.out i
        have W2 : Hid (Calls Tryz.prog 124 #[.slice (some ⟨k2, 0, none⟩) (nwB m2) (nwB m2), .int .i64 (i : Int)] w fun e w' => e = .returned (.int .u64 (wdB M i : Int)) ∧ w' = w) := WB.out i
        have DO : Hid (Calls Tryz.prog 115 #[.int .u64 (wdB N i : Int), .int .u64 (wdB M i : Int)] w fun e w' => e = .returned (.int .u64 ((wdB N i ^^^ wdB M i : Nat) : Int)) ∧ w' = w) := same1_S (wdB N i) (wdB M i) (wdB_lt N i) (wdB_lt M i) w
        have hwd := HWD.out i
        rw [← hwd] at DO
        clear hwd
        have WW : Hid (∀ v x, (v = Value.slice (some ⟨k, 0, none⟩) (nwB m) (nwB m) ∧ x = wdB N i) ∨ (v = Value.slice (some ⟨k2, 0, none⟩) (nwB m2) (nwB m2) ∧ x = wdB M i) → Calls Tryz.prog 124 #[v, .int .i64 (i : Int)] w fun e w' => e = .returned (.int .u64 (x : Int)) ∧ w' = w) := fun v x q => by
          rcases q with ⟨rfl, rfl⟩ | ⟨rfl, rfl⟩
          · exact W1.out
          · exact W2.out
        clear W1 W2
        generalize wdB N i = A at *
        generalize wdB M i = B at *
        by_cases hD : wdB X i = 0
        · have e0 : ((wdB X i : Int) != 0) = false := by rw [hD]; rfl
          have HZ2 : Hid (∀ j, j < i + 1 → wdB X j = 0) := fun j hj => by
            by_cases q : j = i
            · rw [q]; exact hD
            · exact HZ.out j (by omega)
          rw [hD] at DO
          clear hD e0
          go_wp2_with (first
            | (go_at_call 124; refine (WW.out _ _ (by first | (with_reducible exact Or.inl ⟨rfl, rfl⟩) | (with_reducible exact Or.inr ⟨rfl, rfl⟩))).mono ?_; rintro e w1 ⟨rfl, hz⟩; rw [hz]; clear hz w1)
            | (go_at_call 115; refine DO.out.mono ?_; rintro e w1 ⟨rfl, hz⟩; rw [hz]; clear hz w1))
          go_roundw
          case rel => exact ⟨i + 1, by omega, by go_num, HZ2.out, trivial⟩
          case measure => simp [intOf]; omega
        · have HX : Hid (decide (X = 0) = false) := decide_eq_false (fun q => hD (by rw [q, wdB_zero]))
          obtain ⟨D, hDe⟩ : ∃ D, wdB X i = D := ⟨_, rfl⟩
          rw [hDe] at DO hD
          have e0 : ((D : Int) != 0) = true := by simpa using hD
          have e1 : ((D : Int) == 0) = false := by simpa using hD
          clear hD hDe
          go_wp2_with (first
            | (go_at_call 124; refine (WW.out _ _ (by first | (with_reducible exact Or.inl ⟨rfl, rfl⟩) | (with_reducible exact Or.inr ⟨rfl, rfl⟩))).mono ?_; rintro e w1 ⟨rfl, hz⟩; rw [hz]; clear hz w1)
            | (go_at_call 115; refine DO.out.mono ?_; rintro e w1 ⟨rfl, hz⟩; rw [hz]; clear hz w1))
          go_ret
          refine ⟨?_, rfl⟩
          rw [HX.out]
          rfl
      · obtain rfl : i = nwB m2 := by omega
        have ilt : ¬ ((nwB m2 : Nat) : Int) < ((nwB m2 : Nat) : Int) := by omega
        have HX : Hid (decide (X = 0) = true) := decide_eq_true (HALL.out HZ.out)
        go_wp2
        go_ret
        refine ⟨?_, rfl⟩
        rw [HX.out]
        rfl
  · rw [Nat.max_eq_left (Nat.not_lt.1 hmm)] at HALL
    go_enter Tryz.func113, Tryz.ntmps113
    go_wp2_with (go_at_call 55; refine (HH.out _ _ (by first | (with_reducible exact Or.inl ⟨rfl, rfl⟩) | (with_reducible exact Or.inr ⟨rfl, rfl⟩))).mono ?_; rintro e w1 ⟨rfl, hz⟩; rw [hz]; clear hz w1)
    clear HH
    go_loopw [19] (fun z wr => ∃ i : Nat, i ≤ nwB m ∧ z = .int .i64 (i : Int) ∧ (∀ j, j < i → wdB X j = 0) ∧ w = wr) (fun z _ => nwB m - (intOf z).toNat)
    case atStart => exact ⟨0, Nat.zero_le _, rfl, fun j hj => absurd hj (Nat.not_lt_zero j), rfl⟩
    case round =>
      obtain ⟨i, hi, rfl, hz0, rfl⟩ := hrel
      have HZ : Hid (∀ j, j < i → wdB X j = 0) := hz0
      clear hz0
      by_cases hlt : i < nwB m
      · have ilt : (i : Int) < ((nwB m : Nat) : Int) := by omega
        have W1 : Hid (Calls Tryz.prog 124 #[.slice (some ⟨k, 0, none⟩) (nwB m) (nwB m), .int .i64 (i : Int)] w fun e w' => e = .returned (.int .u64 (wdB N i : Int)) ∧ w' = w) := WA.out i
        have W2 : Hid (Calls Tryz.prog 124 #[.slice (some ⟨k2, 0, none⟩) (nwB m2) (nwB m2), .int .i64 (i : Int)] w fun e w' => e = .returned (.int .u64 (wdB M i : Int)) ∧ w' = w) := WB.out i
        have DO : Hid (Calls Tryz.prog 115 #[.int .u64 (wdB N i : Int), .int .u64 (wdB M i : Int)] w fun e w' => e = .returned (.int .u64 ((wdB N i ^^^ wdB M i : Nat) : Int)) ∧ w' = w) := same1_S (wdB N i) (wdB M i) (wdB_lt N i) (wdB_lt M i) w
        have hwd := HWD.out i
        rw [← hwd] at DO
        clear hwd
        have WW : Hid (∀ v x, (v = Value.slice (some ⟨k, 0, none⟩) (nwB m) (nwB m) ∧ x = wdB N i) ∨ (v = Value.slice (some ⟨k2, 0, none⟩) (nwB m2) (nwB m2) ∧ x = wdB M i) → Calls Tryz.prog 124 #[v, .int .i64 (i : Int)] w fun e w' => e = .returned (.int .u64 (x : Int)) ∧ w' = w) := fun v x q => by
          rcases q with ⟨rfl, rfl⟩ | ⟨rfl, rfl⟩
          · exact W1.out
          · exact W2.out
        clear W1 W2
        generalize wdB N i = A at *
        generalize wdB M i = B at *
        by_cases hD : wdB X i = 0
        · have e0 : ((wdB X i : Int) != 0) = false := by rw [hD]; rfl
          have HZ2 : Hid (∀ j, j < i + 1 → wdB X j = 0) := fun j hj => by
            by_cases q : j = i
            · rw [q]; exact hD
            · exact HZ.out j (by omega)
          rw [hD] at DO
          clear hD e0
          go_wp2_with (first
            | (go_at_call 124; refine (WW.out _ _ (by first | (with_reducible exact Or.inl ⟨rfl, rfl⟩) | (with_reducible exact Or.inr ⟨rfl, rfl⟩))).mono ?_; rintro e w1 ⟨rfl, hz⟩; rw [hz]; clear hz w1)
            | (go_at_call 115; refine DO.out.mono ?_; rintro e w1 ⟨rfl, hz⟩; rw [hz]; clear hz w1))
          go_roundw
          case rel => exact ⟨i + 1, by omega, by go_num, HZ2.out, trivial⟩
          case measure => simp [intOf]; omega
        · have HX : Hid (decide (X = 0) = false) := decide_eq_false (fun q => hD (by rw [q, wdB_zero]))
          obtain ⟨D, hDe⟩ : ∃ D, wdB X i = D := ⟨_, rfl⟩
          rw [hDe] at DO hD
          have e0 : ((D : Int) != 0) = true := by simpa using hD
          have e1 : ((D : Int) == 0) = false := by simpa using hD
          clear hD hDe
          go_wp2_with (first
            | (go_at_call 124; refine (WW.out _ _ (by first | (with_reducible exact Or.inl ⟨rfl, rfl⟩) | (with_reducible exact Or.inr ⟨rfl, rfl⟩))).mono ?_; rintro e w1 ⟨rfl, hz⟩; rw [hz]; clear hz w1)
            | (go_at_call 115; refine DO.out.mono ?_; rintro e w1 ⟨rfl, hz⟩; rw [hz]; clear hz w1))
          go_ret
          refine ⟨?_, rfl⟩
          rw [HX.out]
          rfl
      · obtain rfl : i = nwB m := by omega
        have ilt : ¬ ((nwB m : Nat) : Int) < ((nwB m : Nat) : Int) := by omega
        have HX : Hid (decide (X = 0) = true) := decide_eq_true (HALL.out HZ.out)
        go_wp2
        go_ret
        refine ⟨?_, rfl⟩
        rw [HX.out]
        rfl
set_option maxRecDepth 100000 in
set_option maxHeartbeats 4000000 in
theorem same_SB {w : World} {k m N k2 m2 M : Nat} (h : SB w k m N) (h2 : SB w k2 m2 M) : Calls Tryz.prog 80 #[.pointer (some ⟨k + 1, 0, none⟩), .pointer (some ⟨k2 + 1, 0, none⟩)] w fun e w' => e = .returned (.bool (decide (N ^^^ M = 0))) ∧ w' = w := by
  have CH : Hid (Calls Tryz.prog 113 #[.pointer (some ⟨k + 1, 0, none⟩), .pointer (some ⟨k2 + 1, 0, none⟩), .func (.func 115) #[] #[]] w fun e w' => e = .returned (.bool (decide (N ^^^ M = 0))) ∧ w' = w) := same_no h h2
  clear h h2
  generalize decide (N ^^^ M = 0) = bv at *
  go_enter Tryz.func80, Tryz.ntmps80
  go_wp2_with (go_at_call 113; refine CH.out.mono ?_; rintro e w1 ⟨rfl, hz⟩; rw [hz]; clear hz w1)
  go_ret
  exact ⟨rfl, rfl⟩
set_option maxRecDepth 100000 in
set_option maxHeartbeats 4000000 in
theorem within1_S (a b : Nat) (ha : a < 18446744073709551616) (hb : b < 18446744073709551616) (w : World) : Calls Tryz.prog 114 #[.int .u64 (a : Int), .int .u64 (b : Int)] w fun e w' => e = .returned (.int .u64 ((a &&& (18446744073709551615 - b) : Nat) : Int)) ∧ w' = w := by
  have E := bits_andNot_u64_nat a b ha hb
  go_enter Tryz.func114, Tryz.ntmps114
  go_wp2
  go_ret
  exact ⟨rfl, rfl⟩
set_option maxRecDepth 100000 in
set_option maxHeartbeats 4000000 in
theorem within_no {w : World} {k m N k2 m2 M : Nat} (h : SB w k m N) (h2 : SB w k2 m2 M) : Calls Tryz.prog 113 #[.pointer (some ⟨k + 1, 0, none⟩), .pointer (some ⟨k2 + 1, 0, none⟩), .func (.func 114) #[] #[]] w fun e w' => e = .returned (.bool (decide (minusB N M = 0))) ∧ w' = w := by
  have hnw := nwB_le h.ml
  have hnw2 := nwB_le h2.ml
  have HS : Hid (Calls Tryz.prog 55 #[.pointer (some ⟨k + 1, 0, none⟩)] w fun e w' => e = .returned (.slice (some ⟨k, 0, none⟩) (nwB m) (nwB m)) ∧ w' = w) := held_SB h
  have HT2 : Hid (Calls Tryz.prog 55 #[.pointer (some ⟨k2 + 1, 0, none⟩)] w fun e w' => e = .returned (.slice (some ⟨k2, 0, none⟩) (nwB m2) (nwB m2)) ∧ w' = w) := held_SB h2
  have HH : Hid (∀ p v, (p = Value.pointer (some ⟨k + 1, 0, none⟩) ∧ v = Value.slice (some ⟨k, 0, none⟩) (nwB m) (nwB m)) ∨ (p = Value.pointer (some ⟨k2 + 1, 0, none⟩) ∧ v = Value.slice (some ⟨k2, 0, none⟩) (nwB m2) (nwB m2)) → Calls Tryz.prog 55 #[p] w fun e w' => e = .returned v ∧ w' = w) := fun p v q => by
    rcases q with ⟨rfl, rfl⟩ | ⟨rfl, rfl⟩
    · exact HS.out
    · exact HT2.out
  clear HS HT2
  have WA : Hid (∀ i : Nat, Calls Tryz.prog 124 #[.slice (some ⟨k, 0, none⟩) (nwB m) (nwB m), .int .i64 (i : Int)] w fun e w' => e = .returned (.int .u64 (wdB N i : Int)) ∧ w' = w) := fun i => h.wordAt i
  have WB : Hid (∀ i : Nat, Calls Tryz.prog 124 #[.slice (some ⟨k2, 0, none⟩) (nwB m2) (nwB m2), .int .i64 (i : Int)] w fun e w' => e = .returned (.int .u64 (wdB M i : Int)) ∧ w' = w) := fun i => h2.wordAt i
  have HALL : Hid ((∀ i, i < max (nwB m) (nwB m2) → wdB (minusB N M) i = 0) → minusB N M = 0) := fun q => words_ext (m := max m m2) (minusB_lt (lt_maxB h.lt h2.lt).1) (Nat.two_pow_pos _) (fun i hi => by rw [nwB_max] at hi; rw [q i hi, wdB_zero])
  have HWD : Hid (∀ i, wdB (minusB N M) i = wdB N i &&& (18446744073709551615 - wdB M i)) := fun i => wd_minus N M i
  generalize minusB N M = X at *
  clear h h2
  by_cases hmm : nwB m < nwB m2
  · rw [Nat.max_eq_right (Nat.le_of_lt hmm)] at HALL
    go_enter Tryz.func113, Tryz.ntmps113
    go_wp2_with (go_at_call 55; refine (HH.out _ _ (by first | (with_reducible exact Or.inl ⟨rfl, rfl⟩) | (with_reducible exact Or.inr ⟨rfl, rfl⟩))).mono ?_; rintro e w1 ⟨rfl, hz⟩; rw [hz]; clear hz w1)
    clear HH
    go_loopw [19] (fun z wr => ∃ i : Nat, i ≤ nwB m2 ∧ z = .int .i64 (i : Int) ∧ (∀ j, j < i → wdB X j = 0) ∧ w = wr) (fun z _ => nwB m2 - (intOf z).toNat)
    case atStart => exact ⟨0, Nat.zero_le _, rfl, fun j hj => absurd hj (Nat.not_lt_zero j), rfl⟩
    case round =>
      obtain ⟨i, hi, rfl, hz0, rfl⟩ := hrel
      have HZ : Hid (∀ j, j < i → wdB X j = 0) := hz0
      clear hz0
      by_cases hlt : i < nwB m2
      · have ilt : (i : Int) < ((nwB m2 : Nat) : Int) := by omega
        have W1 : Hid (Calls Tryz.prog 124 #[.slice (some ⟨k, 0, none⟩) (nwB m) (nwB m), .int .i64 (i : Int)] w fun e w' => e = .returned (.int .u64 (wdB N i : Int)) ∧ w' = w) := WA.out i
        have W2 : Hid (Calls Tryz.prog 124 #[.slice (some ⟨k2, 0, none⟩) (nwB m2) (nwB m2), .int .i64 (i : Int)] w fun e w' => e = .returned (.int .u64 (wdB M i : Int)) ∧ w' = w) := WB.out i
        have DO : Hid (Calls Tryz.prog 114 #[.int .u64 (wdB N i : Int), .int .u64 (wdB M i : Int)] w fun e w' => e = .returned (.int .u64 ((wdB N i &&& (18446744073709551615 - wdB M i) : Nat) : Int)) ∧ w' = w) := within1_S (wdB N i) (wdB M i) (wdB_lt N i) (wdB_lt M i) w
        have hwd := HWD.out i
        rw [← hwd] at DO
        clear hwd
        have WW : Hid (∀ v x, (v = Value.slice (some ⟨k, 0, none⟩) (nwB m) (nwB m) ∧ x = wdB N i) ∨ (v = Value.slice (some ⟨k2, 0, none⟩) (nwB m2) (nwB m2) ∧ x = wdB M i) → Calls Tryz.prog 124 #[v, .int .i64 (i : Int)] w fun e w' => e = .returned (.int .u64 (x : Int)) ∧ w' = w) := fun v x q => by
          rcases q with ⟨rfl, rfl⟩ | ⟨rfl, rfl⟩
          · exact W1.out
          · exact W2.out
        clear W1 W2
        generalize wdB N i = A at *
        generalize wdB M i = B at *
        by_cases hD : wdB X i = 0
        · have e0 : ((wdB X i : Int) != 0) = false := by rw [hD]; rfl
          have HZ2 : Hid (∀ j, j < i + 1 → wdB X j = 0) := fun j hj => by
            by_cases q : j = i
            · rw [q]; exact hD
            · exact HZ.out j (by omega)
          rw [hD] at DO
          clear hD e0
          go_wp2_with (first
            | (go_at_call 124; refine (WW.out _ _ (by first | (with_reducible exact Or.inl ⟨rfl, rfl⟩) | (with_reducible exact Or.inr ⟨rfl, rfl⟩))).mono ?_; rintro e w1 ⟨rfl, hz⟩; rw [hz]; clear hz w1)
            | (go_at_call 114; refine DO.out.mono ?_; rintro e w1 ⟨rfl, hz⟩; rw [hz]; clear hz w1))
          go_roundw
          case rel => exact ⟨i + 1, by omega, by go_num, HZ2.out, trivial⟩
          case measure => simp [intOf]; omega
        · have HX : Hid (decide (X = 0) = false) := decide_eq_false (fun q => hD (by rw [q, wdB_zero]))
          obtain ⟨D, hDe⟩ : ∃ D, wdB X i = D := ⟨_, rfl⟩
          rw [hDe] at DO hD
          have e0 : ((D : Int) != 0) = true := by simpa using hD
          have e1 : ((D : Int) == 0) = false := by simpa using hD
          clear hD hDe
          go_wp2_with (first
            | (go_at_call 124; refine (WW.out _ _ (by first | (with_reducible exact Or.inl ⟨rfl, rfl⟩) | (with_reducible exact Or.inr ⟨rfl, rfl⟩))).mono ?_; rintro e w1 ⟨rfl, hz⟩; rw [hz]; clear hz w1)
            | (go_at_call 114; refine DO.out.mono ?_; rintro e w1 ⟨rfl, hz⟩; rw [hz]; clear hz w1))
          go_ret
          refine ⟨?_, rfl⟩
          rw [HX.out]
          rfl
      · obtain rfl : i = nwB m2 := by omega
        have ilt : ¬ ((nwB m2 : Nat) : Int) < ((nwB m2 : Nat) : Int) := by omega
        have HX : Hid (decide (X = 0) = true) := decide_eq_true (HALL.out HZ.out)
        go_wp2
        go_ret
        refine ⟨?_, rfl⟩
        rw [HX.out]
        rfl
  · rw [Nat.max_eq_left (Nat.not_lt.1 hmm)] at HALL
    go_enter Tryz.func113, Tryz.ntmps113
    go_wp2_with (go_at_call 55; refine (HH.out _ _ (by first | (with_reducible exact Or.inl ⟨rfl, rfl⟩) | (with_reducible exact Or.inr ⟨rfl, rfl⟩))).mono ?_; rintro e w1 ⟨rfl, hz⟩; rw [hz]; clear hz w1)
    clear HH
    go_loopw [19] (fun z wr => ∃ i : Nat, i ≤ nwB m ∧ z = .int .i64 (i : Int) ∧ (∀ j, j < i → wdB X j = 0) ∧ w = wr) (fun z _ => nwB m - (intOf z).toNat)
    case atStart => exact ⟨0, Nat.zero_le _, rfl, fun j hj => absurd hj (Nat.not_lt_zero j), rfl⟩
    case round =>
      obtain ⟨i, hi, rfl, hz0, rfl⟩ := hrel
      have HZ : Hid (∀ j, j < i → wdB X j = 0) := hz0
      clear hz0
      by_cases hlt : i < nwB m
      · have ilt : (i : Int) < ((nwB m : Nat) : Int) := by omega
        have W1 : Hid (Calls Tryz.prog 124 #[.slice (some ⟨k, 0, none⟩) (nwB m) (nwB m), .int .i64 (i : Int)] w fun e w' => e = .returned (.int .u64 (wdB N i : Int)) ∧ w' = w) := WA.out i
        have W2 : Hid (Calls Tryz.prog 124 #[.slice (some ⟨k2, 0, none⟩) (nwB m2) (nwB m2), .int .i64 (i : Int)] w fun e w' => e = .returned (.int .u64 (wdB M i : Int)) ∧ w' = w) := WB.out i
        have DO : Hid (Calls Tryz.prog 114 #[.int .u64 (wdB N i : Int), .int .u64 (wdB M i : Int)] w fun e w' => e = .returned (.int .u64 ((wdB N i &&& (18446744073709551615 - wdB M i) : Nat) : Int)) ∧ w' = w) := within1_S (wdB N i) (wdB M i) (wdB_lt N i) (wdB_lt M i) w
        have hwd := HWD.out i
        rw [← hwd] at DO
        clear hwd
        have WW : Hid (∀ v x, (v = Value.slice (some ⟨k, 0, none⟩) (nwB m) (nwB m) ∧ x = wdB N i) ∨ (v = Value.slice (some ⟨k2, 0, none⟩) (nwB m2) (nwB m2) ∧ x = wdB M i) → Calls Tryz.prog 124 #[v, .int .i64 (i : Int)] w fun e w' => e = .returned (.int .u64 (x : Int)) ∧ w' = w) := fun v x q => by
          rcases q with ⟨rfl, rfl⟩ | ⟨rfl, rfl⟩
          · exact W1.out
          · exact W2.out
        clear W1 W2
        generalize wdB N i = A at *
        generalize wdB M i = B at *
        by_cases hD : wdB X i = 0
        · have e0 : ((wdB X i : Int) != 0) = false := by rw [hD]; rfl
          have HZ2 : Hid (∀ j, j < i + 1 → wdB X j = 0) := fun j hj => by
            by_cases q : j = i
            · rw [q]; exact hD
            · exact HZ.out j (by omega)
          rw [hD] at DO
          clear hD e0
          go_wp2_with (first
            | (go_at_call 124; refine (WW.out _ _ (by first | (with_reducible exact Or.inl ⟨rfl, rfl⟩) | (with_reducible exact Or.inr ⟨rfl, rfl⟩))).mono ?_; rintro e w1 ⟨rfl, hz⟩; rw [hz]; clear hz w1)
            | (go_at_call 114; refine DO.out.mono ?_; rintro e w1 ⟨rfl, hz⟩; rw [hz]; clear hz w1))
          go_roundw
          case rel => exact ⟨i + 1, by omega, by go_num, HZ2.out, trivial⟩
          case measure => simp [intOf]; omega
        · have HX : Hid (decide (X = 0) = false) := decide_eq_false (fun q => hD (by rw [q, wdB_zero]))
          obtain ⟨D, hDe⟩ : ∃ D, wdB X i = D := ⟨_, rfl⟩
          rw [hDe] at DO hD
          have e0 : ((D : Int) != 0) = true := by simpa using hD
          have e1 : ((D : Int) == 0) = false := by simpa using hD
          clear hD hDe
          go_wp2_with (first
            | (go_at_call 124; refine (WW.out _ _ (by first | (with_reducible exact Or.inl ⟨rfl, rfl⟩) | (with_reducible exact Or.inr ⟨rfl, rfl⟩))).mono ?_; rintro e w1 ⟨rfl, hz⟩; rw [hz]; clear hz w1)
            | (go_at_call 114; refine DO.out.mono ?_; rintro e w1 ⟨rfl, hz⟩; rw [hz]; clear hz w1))
          go_ret
          refine ⟨?_, rfl⟩
          rw [HX.out]
          rfl
      · obtain rfl : i = nwB m := by omega
        have ilt : ¬ ((nwB m : Nat) : Int) < ((nwB m : Nat) : Int) := by omega
        have HX : Hid (decide (X = 0) = true) := decide_eq_true (HALL.out HZ.out)
        go_wp2
        go_ret
        refine ⟨?_, rfl⟩
        rw [HX.out]
        rfl
set_option maxRecDepth 100000 in
set_option maxHeartbeats 4000000 in
theorem within_SB {w : World} {k m N k2 m2 M : Nat} (h : SB w k m N) (h2 : SB w k2 m2 M) : Calls Tryz.prog 79 #[.pointer (some ⟨k + 1, 0, none⟩), .pointer (some ⟨k2 + 1, 0, none⟩)] w fun e w' => e = .returned (.bool (decide (minusB N M = 0))) ∧ w' = w := by
  have CH : Hid (Calls Tryz.prog 113 #[.pointer (some ⟨k + 1, 0, none⟩), .pointer (some ⟨k2 + 1, 0, none⟩), .func (.func 114) #[] #[]] w fun e w' => e = .returned (.bool (decide (minusB N M = 0))) ∧ w' = w) := within_no h h2
  clear h h2
  generalize decide (minusB N M = 0) = bv at *
  go_enter Tryz.func79, Tryz.ntmps79
  go_wp2_with (go_at_call 113; refine CH.out.mono ?_; rintro e w1 ⟨rfl, hz⟩; rw [hz]; clear hz w1)
  go_ret
  exact ⟨rfl, rfl⟩
end Go.Proofs.YtcgghlaifmlpiaaGreatDoor
