import Derived.Test.YtcgghlaifmlpiaaGreatDoorBT8
namespace Go.Proofs.YtcgghlaifmlpiaaGreatDoor
set_option linter.unusedVariables false
open Go.RowKit Go.Shelf

/-- The first number of D from a on, or m. -/
structure LackR (D m a r : Nat) : Prop where
  le : r ≤ m
  is : r < m → a ≤ r ∧ D.testBit r = true
  none : ∀ j, a ≤ j → j < r → D.testBit j = false
theorem LackR.uniq {D m a r r' : Nat} (h : LackR D m a r) (h' : LackR D m a r') : r = r' := by
  rcases Nat.lt_trichotomy r r' with q | q | q
  · have := h.is (by have := h'.le; omega)
    rw [h'.none r this.1 q] at this
    cases this.2
  · exact q
  · have := h'.is (by have := h.le; omega)
    rw [h.none r' this.1 q] at this
    cases this.2
theorem lack_word {D m i : Nat} (hD : D < 2 ^ m) (h0 : wdB D i ≠ 0) {a : Nat} (ha : a ≤ 64 * i) (hz : ∀ j, a ≤ j → j < 64 * i → D.testBit j = false) : LackR D m a (64 * i + Lib.ctz 64 (wdB D i)) := by
  obtain ⟨h1, h2, h3⟩ := ctz_spec h0 (wdB_lt D i)
  generalize Lib.ctz 64 (wdB D i) = t at *
  rw [wdB_bit, decide_eq_true h1, Bool.true_and] at h2
  have hlt : 64 * i + t < m := by
    rcases Nat.lt_or_ge (64 * i + t) m with q | q
    · exact q
    · rw [Nat.testBit_lt_two_pow (Nat.lt_of_lt_of_le hD (Nat.pow_le_pow_right (by decide) q))] at h2
      cases h2
  refine ⟨Nat.le_of_lt hlt, fun _ => ⟨by omega, h2⟩, fun j hj hj2 => ?_⟩
  rcases Nat.lt_or_ge j (64 * i) with q | q
  · exact hz j hj q
  · have := h3 (j - 64 * i) (by omega)
    rw [wdB_bit, decide_eq_true (show j - 64 * i < 64 by omega), Bool.true_and, show 64 * i + (j - 64 * i) = j by omega] at this
    exact this
theorem lack_skip {D i a : Nat} (h0 : wdB D i = 0) (hz : ∀ j, a ≤ j → j < 64 * i → D.testBit j = false) : ∀ j, a ≤ j → j < 64 * (i + 1) → D.testBit j = false := fun j h1 h2 => by
  rcases Nat.lt_or_ge j (64 * i) with q | q
  · exact hz j h1 q
  · have := wdB_bit D i (j - 64 * i)
    rw [h0, Nat.zero_testBit, decide_eq_true (show j - 64 * i < 64 by omega), Bool.true_and, show 64 * i + (j - 64 * i) = j by omega] at this
    exact this.symm
set_option maxRecDepth 100000 in
set_option maxHeartbeats 4000000 in
theorem lacked_SB {w : World} {k m N k2 m2 M : Nat} (h : SB w k m N) (h2 : SB w k2 m2 M) (hT : TabB w) (fr : Nat) (hfr : fr ≤ 5000) : Calls Tryz.prog 88 #[.pointer (some ⟨k + 1, 0, none⟩), .int .i64 (fr : Int), .pointer (some ⟨k2 + 1, 0, none⟩)] w fun e w' => ∃ r : Nat, e = .returned (.int .i64 (r : Int)) ∧ LackR (minusB N M) m (64 * (fr / 64)) r ∧ Below w.heap.size w w' := by
  have hnw := nwB_le h.ml
  have hml := h.ml
  have HB : Hid (SB w k m N) := h
  have HB2 : Hid (SB w k2 m2 M) := h2
  have HTB : Hid (TabB w) := hT
  have HT2 : Hid (Calls Tryz.prog 55 #[.pointer (some ⟨k2 + 1, 0, none⟩)] w fun e w' => e = .returned (.slice (some ⟨k2, 0, none⟩) (nwB m2) (nwB m2)) ∧ w' = w) := held_SB h2
  have HWD : Hid (∀ i, wdB (minusB N M) i = wdB N i &&& (18446744073709551615 - wdB M i)) := fun i => wd_minus N M i
  have HDL : Hid (minusB N M < 2 ^ m) := minusB_lt h.lt
  obtain ⟨q0, hq0⟩ : ∃ q0, fr / 64 = q0 := ⟨_, rfl⟩
  have hq1 : (fr : Int) / 64 = (q0 : Int) := by omega
  have hq2 : q0 ≤ 100 := by omega
  have wq : IntKind.i64.wrap (q0 : Int) = (q0 : Int) := IntWalk.i64_in _ ⟨by omega, by omega⟩
  rw [hq0]
  generalize minusB N M = D at *
  clear h h2 hT hq0
  go_enter Tryz.func88, Tryz.ntmps88
  go_wp2_with (go_at_call 55; refine HT2.out.mono ?_; rintro e w1 ⟨rfl, hz⟩; rw [hz]; clear hz w1)
  clear HT2
  go_loopw [8] (fun z wr => ∃ i : Nat, q0 ≤ i ∧ i ≤ 200 ∧ z = .int .i64 (i : Int) ∧ (∀ j, 64 * q0 ≤ j → j < 64 * i → D.testBit j = false) ∧ Below w.heap.size w wr) (fun z _ => 201 - (intOf z).toNat)
  case atStart => exact ⟨q0, Nat.le_refl _, by omega, rfl, fun j h1 h2 => by omega, Below.refl _ _⟩
  case round =>
    obtain ⟨i, hi1, hi2, rfl, hz0, hbel⟩ := hrel
    have HZ : Hid (∀ j, 64 * q0 ≤ j → j < 64 * i → D.testBit j = false) := hz0
    have HBE : Hid (Below w.heap.size w wr) := hbel
    have HBr : Hid (SB wr k m N) := HB.out.later hbel
    obtain ⟨c0, c1⟩ := HBr.out.cells
    clear hz0 hbel
    by_cases hlt : i < nwB m
    · have ilt : (i : Int) < ((nwB m : Nat) : Int) := by omega
      have HD : Hid (SB wr.drew k m N) := HBr.out.later (Below.refl _ _).drew
      obtain ⟨-, d1⟩ := HD.out.cells
      have d2 := HD.out.word hlt
      have WA : Hid (∀ w', w' = wr.drew → Calls Tryz.prog 124 #[.slice (some ⟨k2, 0, none⟩) (nwB m2) (nwB m2), .int .i64 (i : Int)] w' fun e w'' => e = .returned (.int .u64 (wdB M i : Int)) ∧ w'' = wr.drew) := fun w' e => by
        subst e
        exact ((HB2.out.later HBE.out).later (Below.refl _ _).drew).wordAt i
      have eD := bits_andNot_u64_nat (wdB N i) (wdB M i) (wdB_lt N i) (wdB_lt M i)
      rw [← HWD.out i] at eD
      have wi : IntKind.i64.wrap (i : Int) = (i : Int) := IntWalk.i64_in _ ⟨by omega, by omega⟩
      have HBD : Hid (Below w.heap.size w wr.drew) := HBE.out.drew
      have HLK : Hid (wdB D i ≠ 0 → LackR D m (64 * q0) (64 * i + Lib.ctz 64 (wdB D i))) := fun q => lack_word HDL.out q (by omega) HZ.out
      have HSK : Hid (wdB D i = 0 → ∀ j, 64 * q0 ≤ j → j < 64 * (i + 1) → D.testBit j = false) := fun q => lack_skip q HZ.out
      have HXL : Hid (wdB D i < 18446744073709551616) := wdB_lt D i
      have LO : Hid (wdB D i ≠ 0 → Calls Tryz.prog 56 #[.int .i64 (i : Int), .int .u64 (wdB D i : Int)] wr.drew fun e w' => e = .returned (.int .i64 ((64 * i + Lib.ctz 64 (wdB D i) : Nat) : Int)) ∧ w' = wr.drew) := fun q => lowest_SB i (wdB D i) (by omega) (wdB_lt D i) q wr.drew (HTB.out.later HBD.out)
      generalize wdB N i = A at *
      generalize wdB M i = B at *
      generalize wdB D i = X at *
      go_wp2
      refine wp_region_q (C := fun w' => w' = wr.drew) (by kernel_rfl) (by kernel_rfl) rfl ?_
      refine qt_yes (v := ?_) (by rfl) ?_ ?_
      rotate_left
      · (intro w hSw; rw [hSw]; clear hSw; go_simp; with_reducible rfl)
      (try simp only [Act.put, List.setIfInBounds_toArray, List.set_cons_zero, List.set_cons_succ])
      refine qt_yes (v := ?_) (by rfl) ?_ ?_
      rotate_left
      · (intro w hSw; rw [hSw]; clear hSw; go_simp; with_reducible rfl)
      (try simp only [Act.put, List.setIfInBounds_toArray, List.set_cons_zero, List.set_cons_succ])
      refine qt_yes (v := ?_) (by rfl) ?_ ?_
      rotate_left
      · (intro w hSw; rw [hSw]; clear hSw; go_simp; with_reducible rfl)
      (try simp only [Act.put, List.setIfInBounds_toArray, List.set_cons_zero, List.set_cons_succ])
      refine qt_yes (v := ?_) (by rfl) ?_ ?_
      rotate_left
      · (intro w hSw; rw [hSw]; clear hSw; go_simp; with_reducible rfl)
      (try simp only [Act.put, List.setIfInBounds_toArray, List.set_cons_zero, List.set_cons_succ])
      refine qt_yes (v := ?_) (by rfl) ?_ ?_
      rotate_left
      · (intro w hSw; rw [hSw]; clear hSw; go_simp; with_reducible rfl)
      (try simp only [Act.put, List.setIfInBounds_toArray, List.set_cons_zero, List.set_cons_succ])
      refine qt_yes (v := ?_) (by rfl) ?_ ?_
      rotate_left
      · (intro w hSw; rw [hSw]; clear hSw; go_simp; with_reducible rfl)
      (try simp only [Act.put, List.setIfInBounds_toArray, List.set_cons_zero, List.set_cons_succ])
      refine qt_yes (v := ?_) (by rfl) ?_ ?_
      rotate_left
      · (intro w hSw; rw [hSw]; clear hSw; go_simp; with_reducible rfl)
      (try simp only [Act.put, List.setIfInBounds_toArray, List.set_cons_zero, List.set_cons_succ])
      refine qt_yes (v := ?_) (by rfl) ?_ ?_
      rotate_left
      · (intro w hSw; rw [hSw]; clear hSw; go_simp; with_reducible rfl)
      (try simp only [Act.put, List.setIfInBounds_toArray, List.set_cons_zero, List.set_cons_succ])
      refine qt_yes (v := ?_) (by rfl) ?_ ?_
      rotate_left
      · (intro w hSw; rw [hSw]; clear hSw; go_simp; with_reducible rfl)
      (try simp only [Act.put, List.setIfInBounds_toArray, List.set_cons_zero, List.set_cons_succ])
      refine qt_call (v := .int .u64 (B : Int)) 124 #[.slice (some ⟨k2, 0, none⟩) (nwB m2) (nwB m2), .int .i64 (i : Int)] (by rfl) (by intro w hSw; clear hSw; go_simp) WA.out ?_
      (try simp only [Act.put, List.setIfInBounds_toArray, List.set_cons_zero, List.set_cons_succ])
      refine qt_yes (v := ?_) (by rfl) ?_ ?_
      rotate_left
      · (intro w hSw; rw [hSw]; clear hSw; go_simp; with_reducible rfl)
      (try simp only [Act.put, List.setIfInBounds_toArray, List.set_cons_zero, List.set_cons_succ])
      refine qt_yes (v := ?_) (by rfl) ?_ ?_
      rotate_left
      · (intro w hSw; rw [hSw]; clear hSw; go_simp; with_reducible rfl)
      (try simp only [Act.put, List.setIfInBounds_toArray, List.set_cons_zero, List.set_cons_succ])
      refine qt_nil ?_
      intro w' hw'
      subst hw'
      clear WA d1 d2 eD
      by_cases hX : X = 0
      · subst hX
        have HS2 := HSK.out rfl
        have HS3 : Hid (∀ j, 64 * q0 ≤ j → j < 64 * (i + 1) → D.testBit j = false) := HS2
        clear HS2 HSK HLK LO
        go_wp2
        go_roundw
        case rel => exact ⟨i + 1, by omega, by omega, by go_num, HS3.out, HBD.out⟩
        case measure => simp [intOf]; omega
      · have LO2 : Hid (Calls Tryz.prog 56 #[.int .i64 (i : Int), .int .u64 (X : Int)] wr.drew fun e w' => e = .returned (.int .i64 ((64 * i + Lib.ctz 64 X : Nat) : Int)) ∧ w' = wr.drew) := LO.out hX
        have HLK2 : Hid (LackR D m (64 * q0) (64 * i + Lib.ctz 64 X)) := HLK.out hX
        have nz : ((X : Int) != 0) = true := by simpa using hX
        have nz2 : ((X : Int) == 0) = false := by simpa using hX
        clear LO HLK HSK hX
        generalize 64 * i + Lib.ctz 64 X = r at *
        go_wp2_with (go_at_call 56; refine LO2.out.mono ?_; rintro e w1 ⟨rfl, hz⟩; rw [hz]; clear hz w1)
        go_ret
        exact ⟨r, rfl, HLK2.out, HBD.out⟩
    · have ilt : ¬ (i : Int) < ((nwB m : Nat) : Int) := by omega
      have HR : Hid (LackR D m (64 * q0) m) := ⟨Nat.le_refl _, fun q => absurd q (Nat.lt_irrefl _), fun j h1 h2 => HZ.out j h1 (by unfold nwB at hlt; omega)⟩
      go_wp2
      go_ret
      exact ⟨m, rfl, HR.out, HBE.out⟩
end Go.Proofs.YtcgghlaifmlpiaaGreatDoor
