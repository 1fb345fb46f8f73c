import Derived.Test.YtcgghlaifmlpiaaGreatDoorBW1ToBW2b
namespace Go.Proofs.YtcgghlaifmlpiaaGreatDoor
set_option linter.unusedVariables false
open Go.RowKit Go.Shelf

theorem pop_someW {N m : Nat} (h : N < 2 ^ m) : decide (0 < popB N m) = decide (0 ≠ N) := by
  apply decide_eq_decide.2
  constructor
  · intro q e
    subst e
    rw [← bitsL_len] at q
    have : bitsL 0 m = [] := by simp [bitsL, bitsU]
    rw [this] at q
    simp at q
  · intro q
    apply Classical.byContradiction
    intro g
    apply q
    have g0 : (bitsL N m).length = 0 := by rw [bitsL_len]; omega
    have g1 : bitsU N m = [] := by
      have : (bitsU N m).length = 0 := by simpa [bitsL] using g0
      exact List.eq_nil_of_length_eq_zero this
    apply Nat.eq_of_testBit_eq
    intro j
    rw [Nat.zero_testBit]
    by_cases e : j < m
    · cases hb : N.testBit j with
      | false => rfl
      | true =>
        have : j ∈ bitsU N m := List.mem_filter.2 ⟨List.mem_range.2 e, hb⟩
        rw [g1] at this
        cases this
    · exact (Nat.testBit_lt_two_pow (Nat.lt_of_lt_of_le h (Nat.pow_le_pow_right (by decide) (by omega)))).symm
theorem none_all {m n X : Nat} (hX : X < 2 ^ m) (hn : nwB m ≤ n) : (∀ i, i < n → wdB X i = 0) → X = 0 := fun q => words_ext (m := m) hX (Nat.two_pow_pos _) (fun i hi => by rw [q i (by omega), wdB_zero])
set_option maxRecDepth 100000 in
set_option maxHeartbeats 4000000 in
theorem same_NZ {w : World} {k m N : Nat} {p : Option Addr} (h : NZ w p) (h2 : SB w k m N) : Calls Tryz.prog 80 #[.pointer p, .pointer (some ⟨k + 1, 0, none⟩)] w fun e w' => e = .returned (.bool (decide (0 ^^^ N = 0))) ∧ w' = w := by
  have hnw := nwB_le h2.ml
  have CH : Hid (Calls Tryz.prog 113 #[.pointer p, .pointer (some ⟨k + 1, 0, none⟩), .func (.func 115) #[] #[]] w fun e w' => e = .returned (.bool (decide (0 ^^^ N = 0))) ∧ w' = w) := same_gen (by omega) hnw (held_NZ h) (held_SB h2) (fun i => wordAt_nil i w) (fun i => h2.wordAt i) (none_all (m := m) (Nat.xor_lt_two_pow (Nat.two_pow_pos _) h2.lt) (Nat.le_max_right _ _))
  clear h h2
  generalize decide (0 ^^^ N = 0) = bv at *
  go_enter Tryz.func80, Tryz.ntmps80
  go_wp2_with (go_at_call 113; refine CH.out.mono ?_; rintro e w1 ⟨rfl, hz⟩; rw [hz]; clear hz w1)
  go_ret
  exact ⟨rfl, rfl⟩
set_option maxRecDepth 100000 in
set_option maxHeartbeats 4000000 in
theorem within_NZ {w : World} {k m N : Nat} {p : Option Addr} (h : NZ w p) (h2 : SB w k m N) : Calls Tryz.prog 79 #[.pointer p, .pointer (some ⟨k + 1, 0, none⟩)] w fun e w' => e = .returned (.bool (decide (minusB 0 N = 0))) ∧ w' = w := by
  have hnw := nwB_le h2.ml
  have CH : Hid (Calls Tryz.prog 113 #[.pointer p, .pointer (some ⟨k + 1, 0, none⟩), .func (.func 114) #[] #[]] w fun e w' => e = .returned (.bool (decide (minusB 0 N = 0))) ∧ w' = w) := within_gen (by omega) hnw (held_NZ h) (held_SB h2) (fun i => wordAt_nil i w) (fun i => h2.wordAt i) (none_all (m := m) (minusB_lt (Nat.two_pow_pos _)) (Nat.le_max_right _ _))
  clear h h2
  generalize decide (minusB 0 N = 0) = bv at *
  go_enter Tryz.func79, Tryz.ntmps79
  go_wp2_with (go_at_call 113; refine CH.out.mono ?_; rintro e w1 ⟨rfl, hz⟩; rw [hz]; clear hz w1)
  go_ret
  exact ⟨rfl, rfl⟩
set_option maxRecDepth 100000 in
set_option maxHeartbeats 4000000 in
theorem within_SN {w : World} {k m N : Nat} {p : Option Addr} (h : NZ w p) (h2 : SB w k m N) : Calls Tryz.prog 79 #[.pointer (some ⟨k + 1, 0, none⟩), .pointer p] w fun e w' => e = .returned (.bool (decide (minusB N 0 = 0))) ∧ w' = w := by
  have hnw := nwB_le h2.ml
  have CH : Hid (Calls Tryz.prog 113 #[.pointer (some ⟨k + 1, 0, none⟩), .pointer p, .func (.func 114) #[] #[]] w fun e w' => e = .returned (.bool (decide (minusB N 0 = 0))) ∧ w' = w) := within_gen hnw (by omega) (held_SB h2) (held_NZ h) (fun i => h2.wordAt i) (fun i => wordAt_nil i w) (none_all (m := m) (minusB_lt h2.lt) (Nat.le_max_left _ _))
  clear h h2
  generalize decide (minusB N 0 = 0) = bv at *
  go_enter Tryz.func79, Tryz.ntmps79
  go_wp2_with (go_at_call 113; refine CH.out.mono ?_; rintro e w1 ⟨rfl, hz⟩; rw [hz]; clear hz w1)
  go_ret
  exact ⟨rfl, rfl⟩
set_option maxRecDepth 100000 in
set_option maxHeartbeats 4000000 in
theorem union_SN {w : World} {k m N : Nat} {p : Option Addr} (h : NZ w p) (h2 : SB w k m N) : Calls Tryz.prog 75 #[.pointer (some ⟨k + 1, 0, none⟩), .pointer p] w fun e w' => e = .returned (.bool false) ∧ SB w' k m N ∧ FrB (· = k) w w' := by
  have hE : (N ||| 0) % 2 ^ m = N := by rw [Nat.or_zero, Nat.mod_eq_of_lt h2.lt]
  have CH : Hid (Calls Tryz.prog 109 #[.pointer (some ⟨k + 1, 0, none⟩), .pointer p, .func (.func 110) #[] #[]] w fun e w' => e = .returned (.bool false) ∧ SB w' k m N ∧ FrB (· = k) w w') := by
    have := union_ch (M := 0) (.pointer p) (.slice none 0 0) h2 (fun i _ => by rw [wdB_zero]; decide) (held_NZ h) (fun wr i _ _ => wordAt_nil i wr)
    rwa [hE, decide_eq_false (show ¬ N ≠ N from fun q => q rfl)] at this
  clear h h2 hE
  go_enter Tryz.func75, Tryz.ntmps75
  go_wp2_with (go_at_call 109; refine CH.out.mono ?_; rintro e w1 ⟨rfl, s1, f1⟩; have S1 : Hid (SB w1 k m N ∧ FrB (· = k) w w1) := ⟨s1, f1⟩; clear s1 f1)
  go_ret
  exact ⟨rfl, S1.out.1, S1.out.2⟩
theorem same_zero (N : Nat) : decide (0 ^^^ N = 0) = decide (N = 0) := by rw [Nat.zero_xor]
theorem minus_zero (N : Nat) : decide (minusB N 0 = 0) = decide (N = 0) := by
  have : minusB N 0 = N := Nat.eq_of_testBit_eq fun j => by rw [minusB_bit]; simp
  rw [this]
theorem zero_minus (N : Nat) : decide (minusB 0 N = 0) = true := by
  have : minusB 0 N = 0 := Nat.eq_of_testBit_eq fun j => by rw [minusB_bit]; simp
  rw [this]; rfl
/-- Both sets, while they are asked. -/
structure NT (w : World) (p : Option Addr) (k m N : Nat) (wr : World) : Prop where
  nz : NZ wr p
  sb : SB wr k m N
  fr : FrB (· = k) w wr
theorem NT.later {w wr w' : World} {p : Option Addr} {k m N : Nat} (h : NT w p k m N wr) (hb : Below wr.heap.size wr w') : NT w p k m N w' := ⟨h.nz.later hb, h.sb.later hb, h.fr.trans (Below.frB hb)⟩
theorem NZ.frB {w w' : World} {p : Option Addr} {k m N : Nat} (h : NZ w p) (hs : SB w k m N) (hf : FrB (· = k) w w') : NZ w' p := by
  rcases h with h | ⟨z, h, hz⟩
  · exact Or.inl h
  · refine Or.inr ⟨z, h, ?_⟩
    rw [← hz]
    refine hf.block z (by have := Array.getElem?_eq_some_iff.1 hz; obtain ⟨q, -⟩ := this; exact q) (fun e => ?_)
    subst e
    rw [hs.wd] at hz
    simp at hz
set_option maxRecDepth 100000 in
set_option maxHeartbeats 4000000 in
theorem nothing_walk {w : World} {k m N : Nat} {p : Option Addr} (x : Int) (h : NZ w p) (h2 : SB w k m N) : Calls Tryz.prog 28 #[.pointer p, .pointer (some ⟨k + 1, 0, none⟩), .int .i64 x] w fun e w' => e = .returned (.bool true) ∧ SB w' k m N ∧ FrB (· = k) w w' := by
  have T1 : Hid (NT w p k m N w) := ⟨h, h2, Below.frB (Below.refl _ _)⟩
  have hps := pop_someW h2.lt
  have hpm := popB_le N m
  have hml := h2.ml
  clear h h2
  have SZ : Hid (∀ wr, Hid (NT w p k m N wr) →  Calls Tryz.prog 73 #[.pointer p] wr fun e w' => e = .returned (.int .i64 0) ∧ Hid (NT w p k m N w')) := fun wr h  => (size_NZ h.out.nz).mono fun e w' ⟨q1, q2⟩ => ⟨q1, by rw [q2]; exact h⟩
  have AD : Hid (∀ wr, Hid (NT w p k m N wr) →  Calls Tryz.prog 50 #[.pointer p, .int .i64 x] wr fun e w' => e = .returned (.bool false) ∧ Hid (NT w p k m N w')) := fun wr h  => (add_NZ h.out.nz x).mono fun e w' ⟨q1, q2⟩ => ⟨q1, h.out.later q2⟩
  have RM : Hid (∀ wr, Hid (NT w p k m N wr) →  Calls Tryz.prog 74 #[.pointer p, .int .i64 x] wr fun e w' => e = .returned (.bool false) ∧ Hid (NT w p k m N w')) := fun wr h  => (remove_NZ h.out.nz x).mono fun e w' ⟨q1, q2⟩ => ⟨q1, h.out.later q2⟩
  have HA : Hid (∀ wr, Hid (NT w p k m N wr) →  Calls Tryz.prog 51 #[.pointer p, .int .i64 x] wr fun e w' => e = .returned (.bool false) ∧ Hid (NT w p k m N w')) := fun wr h  => (has_NZ h.out.nz x).mono fun e w' ⟨q1, q2⟩ => ⟨q1, h.out.later q2⟩
  have ME : Hid (∀ wr, Hid (NT w p k m N wr) →  Calls Tryz.prog 76 #[.pointer p, .pointer (some ⟨k + 1, 0, none⟩)] wr fun e w' => e = .returned (.bool false) ∧ Hid (NT w p k m N w')) := fun wr h  => (meet_NZ _ _ h.out.nz (held_SB h.out.sb)).mono fun e w' ⟨q1, q2⟩ => ⟨q1, by rw [q2]; exact h⟩
  have MI : Hid (∀ wr, Hid (NT w p k m N wr) →  Calls Tryz.prog 77 #[.pointer p, .pointer (some ⟨k + 1, 0, none⟩)] wr fun e w' => e = .returned (.bool false) ∧ Hid (NT w p k m N w')) := fun wr h  => (minus_NZ _ _ h.out.nz (held_SB h.out.sb)).mono fun e w' ⟨q1, q2⟩ => ⟨q1, by rw [q2]; exact h⟩
  have UN : Hid (∀ wr, Hid (NT w p k m N wr) → ∀ a b, (a = Value.pointer p ∧ b = Value.pointer (some ⟨k + 1, 0, none⟩) ∨ a = Value.pointer (some ⟨k + 1, 0, none⟩) ∧ b = Value.pointer p) → Calls Tryz.prog 75 #[a, b] wr fun e w' => e = .returned (.bool false) ∧ Hid (NT w p k m N w')) := fun wr h a b hab => by
    rcases hab with ⟨rfl, rfl⟩ | ⟨rfl, rfl⟩
    · exact (union_NZ _ _ h.out.nz (held_SB h.out.sb)).mono fun e w' ⟨q1, q2⟩ => ⟨q1, by rw [q2]; exact h⟩
    · exact (union_SN h.out.nz h.out.sb).mono fun e w' ⟨q1, q2, q3⟩ => ⟨q1, ⟨h.out.nz.frB h.out.sb q3, q2, h.out.fr.trans q3⟩⟩
  have CO : Hid (∀ wr, Hid (NT w p k m N wr) → ∀ a (C : Nat), (a = Value.pointer p ∧ C = 0 ∨ a = Value.pointer (some ⟨k + 1, 0, none⟩) ∧ C = popB N m) → Calls Tryz.prog 52 #[a] wr fun e w' => e = .returned (.int .i64 (C : Int)) ∧ Hid (NT w p k m N w')) := fun wr h a C hab => by
    rcases hab with ⟨rfl, rfl⟩ | ⟨rfl, rfl⟩
    · exact (count_NZ h.out.nz).mono fun e w' ⟨q1, q2⟩ => ⟨q1, by rw [q2]; exact h⟩
    · exact (count_SB h.out.sb).mono fun e w' ⟨q1, q2⟩ => ⟨q1, by rw [q2]; exact h⟩
  have WI : Hid (∀ wr, Hid (NT w p k m N wr) → ∀ a b (r : Bool), (a = Value.pointer p ∧ b = Value.pointer (some ⟨k + 1, 0, none⟩) ∧ r = true ∨ a = Value.pointer (some ⟨k + 1, 0, none⟩) ∧ b = Value.pointer p ∧ r = decide (N = 0)) → Calls Tryz.prog 79 #[a, b] wr fun e w' => e = .returned (.bool r) ∧ Hid (NT w p k m N w')) := fun wr h a b r hab => by
    rcases hab with ⟨rfl, rfl, rfl⟩ | ⟨rfl, rfl, rfl⟩
    · exact (within_NZ h.out.nz h.out.sb).mono fun e w' ⟨q1, q2⟩ => ⟨by rw [q1, zero_minus], by rw [q2]; exact h⟩
    · exact (within_SN h.out.nz h.out.sb).mono fun e w' ⟨q1, q2⟩ => ⟨by rw [q1, minus_zero], by rw [q2]; exact h⟩
  have LI : Hid (∀ wr, Hid (NT w p k m N wr) →  Calls Tryz.prog 23 #[.pointer p] wr fun e w' => (∃ c, e = .returned (.slice (some ⟨wr.heap.size, 0, none⟩) 0 c)) ∧ Hid (NT w p k m N w')) := fun wr h  => (list_NZ h.out.nz).mono fun e w' ⟨q1, q2⟩ => ⟨q1, h.out.later q2⟩
  have CP : Hid (∀ wr, Hid (NT w p k m N wr) →  Calls Tryz.prog 78 #[.pointer p] wr fun e w' => e = .returned (.pointer none) ∧ Hid (NT w p k m N w')) := fun wr h  => (copy_NZ h.out.nz).mono fun e w' ⟨q1, q2⟩ => ⟨q1, by rw [q2]; exact h⟩
  have SA : Hid (∀ wr, Hid (NT w p k m N wr) →  Calls Tryz.prog 80 #[.pointer p, .pointer (some ⟨k + 1, 0, none⟩)] wr fun e w' => e = .returned (.bool (decide (N = 0))) ∧ Hid (NT w p k m N w')) := fun wr h  => (same_NZ h.out.nz h.out.sb).mono fun e w' ⟨q1, q2⟩ => ⟨by rw [q1, same_zero], by rw [q2]; exact h⟩
  by_cases hN : N = 0
  · have hC : popB N m = 0 := by
      rw [decide_eq_false (fun q : 0 ≠ N => q hN.symm)] at hps
      have := of_decide_eq_false hps
      omega
    simp only [hC, decide_eq_true hN] at SA WI CO
    clear hps hpm hC hN hml
    go_enter Tryz.func28, Tryz.ntmps28
    go_wp2_with (first
    | (go_at_call 73; refine (SZ.out _ T1 ).mono ?_; clear T1; rintro e w1 ⟨rfl, T2⟩; have T1 := T2; clear T2)
    | (go_at_call 50; refine (AD.out _ T1 ).mono ?_; clear T1; rintro e w1 ⟨rfl, T2⟩; have T1 := T2; clear T2)
    | (go_at_call 74; refine (RM.out _ T1 ).mono ?_; clear T1; rintro e w1 ⟨rfl, T2⟩; have T1 := T2; clear T2)
    | (go_at_call 51; refine (HA.out _ T1 ).mono ?_; clear T1; rintro e w1 ⟨rfl, T2⟩; have T1 := T2; clear T2)
    | (go_at_call 76; refine (ME.out _ T1 ).mono ?_; clear T1; rintro e w1 ⟨rfl, T2⟩; have T1 := T2; clear T2)
    | (go_at_call 77; refine (MI.out _ T1 ).mono ?_; clear T1; rintro e w1 ⟨rfl, T2⟩; have T1 := T2; clear T2)
    | (go_at_call 23; refine (LI.out _ T1 ).mono ?_; clear T1; rintro e w1 ⟨⟨cc, rfl⟩, T2⟩; have T1 := T2; clear T2)
    | (go_at_call 78; refine (CP.out _ T1 ).mono ?_; clear T1; rintro e w1 ⟨rfl, T2⟩; have T1 := T2; clear T2)
    | (go_at_call 80; refine (SA.out _ T1 ).mono ?_; clear T1; rintro e w1 ⟨rfl, T2⟩; have T1 := T2; clear T2)
    | (go_at_call 75; refine (UN.out _ T1 _ _ (by first | (with_reducible exact Or.inl ⟨rfl, rfl⟩) | (with_reducible exact Or.inr ⟨rfl, rfl⟩))).mono ?_; clear T1; rintro e w1 ⟨rfl, T2⟩; have T1 := T2; clear T2)
    | (go_at_call 52; refine (CO.out _ T1 _ _ (by first | (with_reducible exact Or.inl ⟨rfl, rfl⟩) | (with_reducible exact Or.inr ⟨rfl, rfl⟩))).mono ?_; clear T1; rintro e w1 ⟨rfl, T2⟩; have T1 := T2; clear T2)
    | (go_at_call 79; refine (WI.out _ T1 _ _ _ (by first | (with_reducible exact Or.inl ⟨rfl, rfl, rfl⟩) | (with_reducible exact Or.inr ⟨rfl, rfl, rfl⟩))).mono ?_; clear T1; rintro e w1 ⟨rfl, T2⟩; have T1 := T2; clear T2))
    go_ret
    exact ⟨rfl, T1.out.sb, T1.out.fr⟩
  · have hC : popB N m ≠ 0 := by
      rw [decide_eq_true (show 0 ≠ N from fun q => hN q.symm)] at hps
      have := of_decide_eq_true hps
      omega
    simp only [decide_eq_false hN] at SA WI
    generalize popB N m = C at *
    have e0 : ((C : Int) == 0) = false := by simpa using hC
    clear hps hN
    go_enter Tryz.func28, Tryz.ntmps28
    go_wp2_with (first
    | (go_at_call 73; refine (SZ.out _ T1 ).mono ?_; clear T1; rintro e w1 ⟨rfl, T2⟩; have T1 := T2; clear T2)
    | (go_at_call 50; refine (AD.out _ T1 ).mono ?_; clear T1; rintro e w1 ⟨rfl, T2⟩; have T1 := T2; clear T2)
    | (go_at_call 74; refine (RM.out _ T1 ).mono ?_; clear T1; rintro e w1 ⟨rfl, T2⟩; have T1 := T2; clear T2)
    | (go_at_call 51; refine (HA.out _ T1 ).mono ?_; clear T1; rintro e w1 ⟨rfl, T2⟩; have T1 := T2; clear T2)
    | (go_at_call 76; refine (ME.out _ T1 ).mono ?_; clear T1; rintro e w1 ⟨rfl, T2⟩; have T1 := T2; clear T2)
    | (go_at_call 77; refine (MI.out _ T1 ).mono ?_; clear T1; rintro e w1 ⟨rfl, T2⟩; have T1 := T2; clear T2)
    | (go_at_call 23; refine (LI.out _ T1 ).mono ?_; clear T1; rintro e w1 ⟨⟨cc, rfl⟩, T2⟩; have T1 := T2; clear T2)
    | (go_at_call 78; refine (CP.out _ T1 ).mono ?_; clear T1; rintro e w1 ⟨rfl, T2⟩; have T1 := T2; clear T2)
    | (go_at_call 80; refine (SA.out _ T1 ).mono ?_; clear T1; rintro e w1 ⟨rfl, T2⟩; have T1 := T2; clear T2)
    | (go_at_call 75; refine (UN.out _ T1 _ _ (by first | (with_reducible exact Or.inl ⟨rfl, rfl⟩) | (with_reducible exact Or.inr ⟨rfl, rfl⟩))).mono ?_; clear T1; rintro e w1 ⟨rfl, T2⟩; have T1 := T2; clear T2)
    | (go_at_call 52; refine (CO.out _ T1 _ _ (by first | (with_reducible exact Or.inl ⟨rfl, rfl⟩) | (with_reducible exact Or.inr ⟨rfl, rfl⟩))).mono ?_; clear T1; rintro e w1 ⟨rfl, T2⟩; have T1 := T2; clear T2)
    | (go_at_call 79; refine (WI.out _ T1 _ _ _ (by first | (with_reducible exact Or.inl ⟨rfl, rfl, rfl⟩) | (with_reducible exact Or.inr ⟨rfl, rfl, rfl⟩))).mono ?_; clear T1; rintro e w1 ⟨rfl, T2⟩; have T1 := T2; clear T2))
    go_ret
    exact ⟨rfl, T1.out.sb, T1.out.fr⟩
end Go.Proofs.YtcgghlaifmlpiaaGreatDoor
namespace Go.Proofs.YtcgghlaifmlpiaaGreatDoor
set_option linter.unusedVariables false
open Go.RowKit Go.Shelf

def DgF (w : World) (n most : Int) (F : List (List Int)) (E : List (Int × Int)) (e : Ending) (w' : World) : Prop :=
  Below w.heap.size w w' ∧ ((dgE n most F E ≠ 0 ∧ e = .returned (.tuple #[.slice none 0 0, .int .i64 (dgE n most F E)])) ∨ (dgE n most F E = 0 ∧ ∃ (k m b : Nat) (Ms : List Nat) (V : List SlV), DgO n most F E k m Ms ∧ e = .returned (.tuple #[.slice (some ⟨b, 0, none⟩) k k, .int .i64 0]) ∧ LrB w' (some ⟨b, 0, none⟩) V ((List.range k).map fun x => bitsU (Ms.getD x 0) m) ∧ w.heap.size ≤ b))
theorem DgF.no {w w' : World} {n most c : Int} {F : List (List Int)} {E : List (Int × Int)} {e : Ending} (hb : Below w.heap.size w w') (hc : dgE n most F E = c) (h0 : c ≠ 0) (he : e = .returned (.tuple #[.slice none 0 0, .int .i64 c])) : DgF w n most F E e w' := ⟨hb, .inl ⟨by rw [hc]; exact h0, by rw [hc]; exact he⟩⟩
set_option maxRecDepth 100000 in
set_option maxHeartbeats 8000000 in
theorem digraph_own (n most : Int) (w : World) (fa : Option Addr) (fc : Nat) (F : List (List Int)) (hF : LrwB w fa F) (hFl : F.length ≤ 140737488355328) (hFs : ∀ l ∈ F, l.length ≤ 140737488355328) (ea : Option Addr) (ec : Nat) (E : List (Int × Int)) (hE : PrsB w ea E) (hEl : E.length ≤ 140737488355328) (hT : TabB w) :
    Calls Tryz.prog 19 #[.int .i64 n, .int .i64 most, .slice fa F.length fc, .slice ea E.length ec] w (DgF w n most F E) := by
  by_cases hn : (decide (0 ≤ n) && decide (n ≤ 4096)) = false
  · have RF : Hid (Calls Tryz.prog 31 #[.int .i64 n, .slice ea E.length ec] w fun e w' => e = .returned (.tuple #[.slice none 0 0, .int .i64 4]) ∧ w' = w) := rows_far n hn ea E.length ec w
    have HN : Hid (dgE n most F E = 4) := by show _ = _; unfold dgE; rw [if_pos hn]
    clear hE hT hn hF hFs
    generalize E.length = el at *
    generalize F.length = fl at *
    go_enter Tryz.func19, Tryz.ntmps19
    go_wp2_with (go_at_call 31; refine RF.out.mono ?_; rintro e w1 ⟨rfl, hz⟩; rw [hz]; clear hz w1)
    refine bodyPost_ret (v := .tuple #[.slice none 0 0, .int .i64 4]) (by simp [results, Tryz.results19, go_sem]) rfl ?_
    exact DgF.no (Below.refl _ _) HN.out (by decide) rfl
  · obtain ⟨k, rfl⟩ : ∃ k : Nat, n = (k : Int) := ⟨n.toNat, by simp at hn; omega⟩
    have hk : k ≤ 4096 := by simp at hn; omega
    have hnt : (decide (0 ≤ (k : Int)) && decide ((k : Int) ≤ 4096)) ≠ false := hn
    have RF : Hid (Calls Tryz.prog 31 #[.int .i64 (k : Int), .slice ea E.length ec] w (RoA w k E)) := rows_SB hk ea ec E hE hEl
    have HT : Hid (TabB w) := hT
    have SO : Hid (∀ w1, Below w.heap.size w w1 → Calls Tryz.prog 53 #[.int .i64 (k : Int), .int .i64 most, .slice fa F.length fc] w1 (SeA w1 k most F)) := fun w1 b1 => setsOf_any hk most fa fc F (hF.later b1) hFl hFs
    have HD1 : Hid (E.all (okE k) = false → dgE (k : Int) most F E = 51) := fun q => by unfold dgE; rw [if_neg hnt, Int.toNat_natCast, if_pos q]
    have HD2 : Hid (E.all (okE k) = true → dgE (k : Int) most F E = seE k most F) := fun q => by unfold dgE; rw [if_neg hnt, Int.toNat_natCast, if_neg (by rw [q]; simp)]
    clear hE hT hn hnt hF hFs
    generalize hel : E.length = el at *
    generalize hfl : F.length = fl at *
    clear hel hfl
    go_enter Tryz.func19, Tryz.ntmps19
    go_wp2_with (go_at_call 31; refine RF.out.mono ?_)
    rintro e w1 (⟨hE, rfl, b1⟩ | ⟨hE, Ns, rfl, t1, hb1⟩)
    · have HE : Hid (dgE (k : Int) most F E = 51 ∧ Below w.heap.size w w1) := ⟨HD1.out hE, b1⟩
      clear hE b1
      go_wp2
      refine bodyPost_ret (v := .tuple #[.slice none 0 0, .int .i64 51]) (by simp [results, Tryz.results19, go_sem]) rfl ?_
      exact DgF.no HE.out.2 HE.out.1 (by decide) rfl
    · have HE : Hid (E.all (okE k) = true ∧ RelB E k Ns ∧ Below w.heap.size w w1 ∧ dgE (k : Int) most F E = seE k most F) := ⟨hE, t1.rel hb1, t1.bel, HD2.out hE⟩
      have T1 : Hid (TuB w k Ns w1) := t1
      have S1 : Hid (Calls Tryz.prog 53 #[.int .i64 (k : Int), .int .i64 most, .slice fa fl fc] w1 (SeA w1 k most F)) := SO.out w1 t1.bel
      clear hE hb1 t1 SO
      go_wp2_with (go_at_call 53; refine S1.out.mono ?_)
      rintro e w2 ⟨b2, (⟨hc, rfl⟩ | ⟨hc, m, Fs, rfl, hm, rfl, t2, hfs⟩)⟩
      · have H2 : Hid (Below w.heap.size w w2 ∧ seE k most F ≠ 0) := ⟨HE.out.2.2.1.trans (b2.mono HE.out.2.2.1.size), hc⟩
        have h2 : (seE k most F != 0) = true := by simpa using hc
        have HQ : Hid (dgE (k : Int) most F E = seE k most F) := HE.out.2.2.2
        clear hc b2
        generalize seE k most F = c at *
        go_wp2
        refine bodyPost_ret (v := .tuple #[.slice none 0 0, .int .i64 c]) (by simp [results, Tryz.results19, go_sem]) rfl ?_
        exact DgF.no H2.out.1 HQ.out H2.out.2 rfl
      · have hmk := make_llB k (by omega) w2
        obtain ⟨w3, hw3⟩ : ∃ w3 : World, w3 = w2.alloc (.cells (madeCells #[.slice none 0 0] k) 46) := ⟨_, rfl⟩
        have b3 : Below w2.heap.size w2 w3 := by rw [hw3]; exact below_alloc _ _
        have b13 : Below w1.heap.size w1 w3 := b2.trans (b3.mono b2.size)
        have B3 : Hid (Below w.heap.size w w3) := HE.out.2.2.1.trans (b13.mono HE.out.2.2.1.size)
        have R3 : Hid (w3.heap[w2.heap.size]? = some (.cells (List.replicate k (Value.slice none 0 0)).toArray 46) ∧ w.heap.size ≤ w2.heap.size) := ⟨by rw [hw3, heap_alloc_new, made_listB], Nat.le_trans HE.out.2.2.1.size b2.size⟩
        have SV : Hid (Calls Tryz.prog 33 #[.slice (some ⟨w.heap.size, 0, none⟩) k k, .slice (some ⟨w1.heap.size, 0, none⟩) k k] w3 fun e w' => ∃ ko D, e = .returned (.slice (some ⟨w3.heap.size, 0, none⟩) k k) ∧ CoB Ns k D ∧ SvM w' w3.heap.size m ko (svC Ns Fs k D (List.replicate k none)) ∧ Below w3.heap.size w3 w') := solve_SB (T1.out.rw.later b13) T1.out.len hk (HT.out.later B3.out) (fun q hq => Nat.lt_of_lt_of_le (T1.out.kin q hq) b13.size) (t2.rw.later b3) t2.len k k
        have HFS : Hid (FsB F k m Fs ∧ dgE (k : Int) (m : Int) F E = 0) := ⟨hfs, HE.out.2.2.2.trans hc⟩
        rw [← hw3] at hmk
        clear hc t2 hfs b2 b3 b13 hw3 S1 T1
        go_wp2_with (go_at_call 33; refine SV.out.mono ?_)
        rintro e w4 ⟨ko, D, rfl, hD, h4, b4⟩
        obtain ⟨hall, hsol⟩ := sol_of (Fs := Fs) hD
        have RR : Hid (RrB w4 w3.heap.size m (unO ko) (unO (svC Ns Fs k D (List.replicate k none)))) := h4.read hall
        have HS : Hid (SolB Ns Fs k (unO (svC Ns Fs k D (List.replicate k none)))) := hsol
        have B4 : Hid (Below w.heap.size w w4) := B3.out.trans (b4.mono B3.out.size)
        have R4 : Hid (w4.heap[w2.heap.size]? = some (.cells (List.replicate k (Value.slice none 0 0)).toArray 46) ∧ w.heap.size ≤ w2.heap.size) := ⟨(b4.block _ (lt_of_block R3.out.1)).trans R3.out.1, R3.out.2⟩
        generalize unO (svC Ns Fs k D (List.replicate k none)) = Ms at *
        generalize unO ko = kk at *
        generalize w3.heap.size = sb at *
        generalize w2.heap.size = b at *
        clear hall hsol hD h4 b4 SV hmk R3 B3
        have D0 : Hid (DlB w4 b k m 0 Ms [] w4) := ⟨by rw [R4.out.1]; rfl, rfl, fun j x hx => by simp at hx, Below.frB (Below.refl _ _)⟩
        go_wp2
        go_loopw [41] (fun z wr => ∃ (i : Nat) (V : List SlV), i ≤ k ∧ z = .int .i64 (i : Int) ∧ DlB w4 b k m i Ms V wr) (fun z _ => k - (intOf z).toNat)
        case atStart => exact ⟨0, [], Nat.zero_le _, rfl, D0.out⟩
        case round =>
          clear D0
          obtain ⟨i, V, hi, rfl, hDl⟩ := hrel
          have BW : Hid (Below w.heap.size w wr) := hDl.fr.below B4.out B4.out.size (fun j q => by have q2 : j = b := q; rw [q2]; exact R4.out.2)
          by_cases hlt : i < k
          · have ilt : (i : Int) < (k : Int) := by omega
            have R5 := RR.out.lists R4.out.1 hDl.fr
            obtain ⟨kx, hkx, hs⟩ := R5.at (show i < Ms.length by rw [HS.out.len]; exact hlt)
            have ck := R5.cell hkx
            have LI : Hid (Calls Tryz.prog 23 #[.pointer (some ⟨kx + 1, 0, none⟩)] wr fun e w' => ∃ x : SlV, e = .returned (slV x) ∧ DlB w4 b k m (i + 1) Ms (V ++ [x]) (w'.setCell ⟨b, i, none⟩ (slV x)) ∧ w'.cell? ⟨b, i, none⟩ = some (.slice none 0 0) ∧ w'.frozen? ⟨b, i, none⟩ = false) := (list_SB hs (HT.out.later BW.out)).mono fun e w' ⟨v, q1, q2⟩ => by
              rw [bitsL_nI] at q2
              obtain ⟨la, lc, rfl⟩ := il_lenB q2.il
              exact ⟨(la, _, lc), q1, hDl.next (lt_of_block R4.out.1) hlt q2, hDl.old hlt q2.bel⟩
            clear hDl R5 hkx hs
            go_wp2_with (go_at_call 23; refine LI.out.mono ?_; rintro e w5 ⟨x, rfl, d5, cc, fz⟩; obtain ⟨xa, xl, xc⟩ := x; have N5 : Hid (DlB w4 b k m (i + 1) Ms (V ++ [(xa, xl, xc)]) (w5.setCell ⟨b, i, none⟩ (.slice xa xl xc))) := d5; clear d5)
            go_roundw
            case rel => exact ⟨i + 1, _, by omega, by go_num, N5.out⟩
            case measure => simp [intOf]; omega
          · obtain rfl : i = k := by omega
            have ilt : ¬ (i : Int) < (i : Int) := by omega
            have HL : Hid (LrB wr (some ⟨b, 0, none⟩) V ((List.range i).map fun x => bitsU (Ms.getD x 0) m)) := hDl.fin
            clear hDl
            go_wp2
            refine bodyPost_ret (v := .tuple #[.slice (some ⟨b, 0, none⟩) i i, .int .i64 0]) (by simp [results, Tryz.results19, go_sem]) rfl ?_
            exact ⟨BW.out, .inr ⟨HFS.out.2, i, m, b, Ms, V, ⟨rfl, hk, rfl, hm, HE.out.1, Ns, Fs, HE.out.2.1, HFS.out.1, HS.out⟩, rfl, HL.out, R4.out.2⟩⟩
theorem rise_headW {T : List Nat} (h : T.Pairwise (· < ·)) (hne : T ≠ []) : T.getD 0 0 ∈ T ∧ ∀ z ∈ T, T.getD 0 0 ≤ z := by
  cases T with
  | nil => exact absurd rfl hne
  | cons x l =>
    refine ⟨by simp [List.getD], fun z hz => ?_⟩
    rcases List.mem_cons.1 hz with e | e
    · simp [List.getD, e]
    · have := (List.pairwise_cons.1 h).1 z e
      simp [List.getD]
      omega
/-- Pairs of one's own and an error. -/
def OwP (w : World) (e : Ending) (w' : World) : Prop := Below w.heap.size w w' ∧ ∃ a n c l er, e = .returned (.tuple #[.slice a n c, .int .i64 er]) ∧ n = l.length ∧ l.length ≤ 100000000 ∧ PRo w' (.slice a n c) l ∧ ∀ j, (Value.slice a n c).ownBlock = some j → w.heap.size ≤ j
theorem ro_len {w : World} {v : Value} {l : List (Int × Int)} (h : PRo w v l) : ∃ a c, v = .slice a l.length c := by
  rcases h.2 with ⟨rfl, h0⟩ | ⟨g, cap, cur, rfl, _⟩
  · exact ⟨none, 0, by rw [h0]⟩
  · exact ⟨_, _, rfl⟩
theorem ClA.own {w w' : World} {n : Int} {E : List (Int × Int)} {e : Ending} (h : ClA w n E e w') : OwP w e w' := by
  obtain ⟨hb, h⟩ := h
  have bad : ∀ c : Int, e = .returned (.tuple #[.slice none 0 0, .int .i64 c]) → OwP w e w' := fun c he => ⟨hb, none, 0, 0, [], c, he, rfl, by simp, World.ownsRow_nil _ _ _ _, fun j hj => by simp [Value.ownBlock] at hj⟩
  rcases h with ⟨_, he⟩ | ⟨k, rfl, hk, ⟨_, he⟩ | ⟨_, v, Ns, Ms, he, _, _, hP⟩⟩
  · exact bad _ he
  · exact bad _ he
  · obtain ⟨a, c, rfl⟩ := ro_len hP.ro
    have := prU_len Ms k hk k
    exact ⟨hb, a, _, c, _, _, he, rfl, Nat.le_trans this (by omega), hP.ro, hP.own⟩
/-- Lists of one's own and an error. -/
def OwL (w : World) (e : Ending) (w' : World) : Prop := Below w.heap.size w w' ∧ ∃ a n c V D er, e = .returned (.tuple #[.slice a n c, .int .i64 er]) ∧ LsB w.heap.size (.slice a n c) V D w' ∧ D.length ≤ 4096 ∧ ∀ T ∈ D, T.length ≤ 4096
theorem CoA.own {w w' : World} {n : Int} {E : List (Int × Int)} {e : Ending} (h : CoA w n E e w') : OwL w e w' := by
  obtain ⟨hb, h⟩ := h
  have bad : ∀ c : Int, e = .returned (.tuple #[.slice none 0 0, .int .i64 c]) → OwL w e w' := fun c he => ⟨hb, none, 0, 0, [], [], c, he, LsB.nil _ _, by simp, fun T hT => by cases hT⟩
  rcases h with ⟨_, he⟩ | ⟨k, rfl, hk, ⟨_, he⟩ | ⟨_, v, V, D, Ns, w1, he, _, h1, hC⟩⟩
  · exact bad _ he
  · exact bad _ he
  · obtain ⟨a, c, rfl, _⟩ := hC.ls.read
    have hlt : ∀ T ∈ D, ∀ x ∈ T, x < k := fun T hT x hx => hC.co.toClB.lt hT hx
    have hDl : D.length ≤ k := by
      have hp := hC.co.dis
      have hne : ∀ T ∈ D, T.getD 0 0 ∈ T := fun T hT => by
        obtain ⟨_, r, hr, _⟩ := hC.co.cls T hT
        exact (rise_headW (hC.rise T hT) (List.ne_nil_of_mem hr)).1
      have hn2 : (D.map fun T => T.getD 0 0).Nodup := by
        show List.Pairwise (· ≠ ·) _
        rw [List.pairwise_map]
        exact hp.imp_of_mem fun {T T'} hT hT' h => h _ (hne T hT) _ (hne T' hT')
      have := nodup_le (n := k) hn2 (fun x hx => by
        obtain ⟨T, hT, rfl⟩ := List.mem_map.1 hx
        exact hlt T hT _ (hne T hT))
      simpa using this
    refine ⟨hb, a, _, c, V, D, _, he, ⟨hC.ls.row, fun j hj => Nat.le_trans h1 (hC.ls.own j hj), hC.ls.len, hC.ls.il, fun x hx j hj => Nat.le_trans h1 (hC.ls.lo x hx j hj), hC.ls.ne, hC.ls.nd⟩, by omega, fun T hT => ?_⟩
    have := nodup_le (n := k) ((hC.rise T hT).imp (fun h => Nat.ne_of_lt h)) (hlt T hT)
    omega
/-- Two lists of one's own, one of them empty, and an error. -/
def OwT (w : World) (e : Ending) (w' : World) : Prop := Below w.heap.size w w' ∧ ∃ a n c l a2 n2 c2 l2 er, e = .returned (.tuple #[.slice a n c, .slice a2 n2 c2, .int .i64 er]) ∧ n = l.length ∧ n2 = l2.length ∧ l.length ≤ 4096 ∧ l2.length ≤ 4096 ∧ (l = [] ∨ l2 = []) ∧ IL w' (.slice a n c) l ∧ IL w' (.slice a2 n2 c2) l2 ∧ (∀ j, (Value.slice a n c).ownBlock = some j → w.heap.size ≤ j) ∧ ∀ j, (Value.slice a2 n2 c2).ownBlock = some j → w.heap.size ≤ j
theorem OrA.own {w w' : World} {n : Int} {E : List (Int × Int)} {e : Ending} (h : OrA w n E e w') : OwT w e w' := by
  obtain ⟨hb, h⟩ := h
  have nb : ∀ j, (Value.slice none 0 0).ownBlock = some j → w.heap.size ≤ j := fun j hj => by simp [Value.ownBlock] at hj
  have bad : ∀ c : Int, e = .returned (.tuple #[.slice none 0 0, .slice none 0 0, .int .i64 c]) → OwT w e w' := fun c he => ⟨hb, none, 0, 0, [], none, 0, 0, [], c, he, rfl, rfl, by simp, by simp, .inl rfl, IL.nil _, IL.nil _, nb, nb⟩
  rcases h with ⟨_, he⟩ | ⟨k, rfl, hk, ⟨_, he⟩ | ⟨_, Ns, _, ⟨hf, v, he, hL⟩ | ⟨_, v, Cy, he, hL, hC⟩⟩⟩
  · exact bad _ he
  · exact bad _ he
  · obtain ⟨a, c, rfl⟩ := il_len hL.il
    exact ⟨hb, a, _, c, _, none, 0, 0, [], _, he, rfl, rfl, by rw [nI_len, hf]; exact hk, by simp, .inr rfl, hL.il, IL.nil _, hL.own, nb⟩
  · obtain ⟨a, c, rfl⟩ := il_len hL.il
    exact ⟨hb, none, 0, 0, [], a, _, c, _, _, he, rfl, rfl, by simp, by rw [nI_len]; exact Nat.le_trans hC.le hk, .inl rfl, IL.nil _, hL.il, nb, hL.own⟩
/-- Empty lists of one's own and an error. -/
def OwE (w : World) (e : Ending) (w' : World) : Prop := Below w.heap.size w w' ∧ ∃ a n c L er, e = .returned (.tuple #[.slice a n c, .int .i64 er]) ∧ n = L.length ∧ L.length ≤ 4096 ∧ (∀ l ∈ L, l = []) ∧ LrwB w' a L ∧ ∀ p, a = some p → w.heap.size ≤ p.block
theorem DgF.own {w w' : World} {n most : Int} {F : List (List Int)} {e : Ending} (hF : ∀ l ∈ F, l = []) (h : DgF w n most F [] e w') : OwE w e w' := by
  obtain ⟨hb, ⟨_, he⟩ | ⟨_, k, m, b, Ms, V, hO, he, hL, hbb⟩⟩ := h
  · exact ⟨hb, none, 0, 0, [], _, he, rfl, by simp, (fun l hl => by cases hl), (fun q => absurd rfl q), fun p hp => by cases hp⟩
  · refine ⟨hb, _, k, k, ((List.range k).map fun x => bitsU (Ms.getD x 0) m).map nI, _, he, by simp, by simp; exact hO.le, fun l hl => ?_, hL.lrw, fun p hp => by cases hp; exact hbb⟩
    obtain ⟨T, hT, rfl⟩ := List.mem_map.1 hl
    obtain ⟨x, hx, rfl⟩ := List.mem_map.1 hT
    obtain ⟨Ns, Fs, hN, hFs, hS⟩ := hO.ex
    apply List.eq_nil_iff_forall_not_mem.2
    intro z hz
    have := sol_least (O := []) hN hFs hS (fun x hx z hz => by
      have hm : F.getD x [] = [] := by
        rw [List.getD_eq_getElem?_getD]
        cases q : F[x]? with
        | none => rfl
        | some l => exact hF l (List.mem_of_getElem? q)
      rw [hm] at hz
      cases hz) (fun p hp => by cases hp) (List.mem_range.1 hx) hz
    simp at this
end Go.Proofs.YtcgghlaifmlpiaaGreatDoor
namespace Go.Proofs.YtcgghlaifmlpiaaGreatDoor
set_option linter.unusedVariables false
open Go.RowKit Go.Maps Go.Shelf

/-- The book between two rounds; what lay there ahead of the first one stands. -/
structure OWI (wd : World) (q c : Nat) (wr : World) : Prop where
  fb : ∃ V E lo hi w5 m1 m8, FBb q q wd.heap.size lo hi w5 V E m1 m8 c wr
  fr : FrB (· = q) wd wr
theorem FBb.frB {B q hs lo hi : Nat} {wd w5 w : World} {V : Nat → Value} {E : Nat → List LE} {m1 m8 c : Nat} (h : FBb B q hs lo hi w5 V E m1 m8 c w) (fr : FrB (· = q) wd w5) (hh : hs = wd.heap.size) : FrB (· = q) wd w :=
  ⟨h.bw.os.trans fr.os, h.bw.tape.trans fr.tape, h.bw.output.trans fr.output, Nat.le_trans fr.size h.bw.size, fun j hj hq => (h.old j (by omega) hq).trans (fr.block j hj hq)⟩
theorem OWI.start {w wd : World} {q : Nat} (hq : q = w.heap.size) (hb : Below (q + 1) (w.alloc (.cells #[kNil, kNil, kNil, kNil, kNil, kNil, kNil, kNil, kNil, kNil, kNil, kNil, kNil, kNil, kNil, kNil] 68)) wd) : OWI wd q 0 wd := by
  subst hq
  have hs : (w.alloc (.cells #[kNil, kNil, kNil, kNil, kNil, kNil, kNil, kNil, kNil, kNil, kNil, kNil, kNil, kNil, kNil, kNil] 68)).heap.size = w.heap.size + 1 := by simp
  have hb2 := hb
  rw [← hs] at hb2
  have k := (knew kP w).later hb2
  have := lt_of_block k.hq
  exact ⟨⟨fun _ => kNil, fun _ => [], wd.heap.size, wd.heap.size, wd, wd.heap.size, wd.heap.size, k, this, fun i k hk => (by simp [Value.ownBlock] at hk), fun _ _ _ => rfl, Nat.le_refl _, Nat.le_of_lt this, fun _ _ => rfl, fun _ => Nat.le_refl _, fun i e he => (by cases he), fun e he => (by cases he), fun e he => (by cases he), Below.refl _ _, fun _ _ _ => rfl, fun i k hk => (by simp [Value.ownBlock] at hk), fun i e he => (by cases he), Nat.le_refl _, Nat.le_refl _⟩, Below.frB (Below.refl _ _)⟩
def A1 (r0 : World) (a : Option Addr) (n c : Nat) (w : World) : Prop := Below r0.heap.size r0 w ∧ ∃ l : List (Int × Int), n = l.length ∧ l.length ≤ 100000000 ∧ PRo w (.slice a n c) l ∧ ∀ j, (Value.slice a n c).ownBlock = some j → r0.heap.size ≤ j
def A2 (r0 : World) (a : Option Addr) (n c : Nat) (w : World) : Prop := Below r0.heap.size r0 w ∧ ∃ V D, LsB r0.heap.size (.slice a n c) V D w ∧ D.length ≤ 4096 ∧ ∀ T ∈ D, T.length ≤ 4096
def A3 (r0 : World) (a : Option Addr) (n c : Nat) (a2 : Option Addr) (n2 c2 : Nat) (w : World) : Prop := Below r0.heap.size r0 w ∧ (n = 0 ∨ n2 = 0) ∧ ∃ l l2, n = l.length ∧ n2 = l2.length ∧ l.length ≤ 4096 ∧ l2.length ≤ 4096 ∧ IL w (.slice a n c) l ∧ IL w (.slice a2 n2 c2) l2 ∧ (∀ j, (Value.slice a n c).ownBlock = some j → r0.heap.size ≤ j) ∧ ∀ j, (Value.slice a2 n2 c2).ownBlock = some j → r0.heap.size ≤ j
def A4 (r0 : World) (a : Option Addr) (n : Nat) (w : World) : Prop := Below r0.heap.size r0 w ∧ ∃ L, n = L.length ∧ L.length ≤ 4096 ∧ (∀ l ∈ L, l = []) ∧ LrwB w a L ∧ ∀ p, a = some p → r0.heap.size ≤ p.block
/-- The book, while a round's answers go in. -/
def BSt (wd : World) (q : Nat) (r0 w4 : World) (m1 c : Nat) (w : World) : Prop := (∃ V E m8, FBb q q wd.heap.size r0.heap.size w4.heap.size w4 V E m1 m8 c w) ∧ FrB (· = q) wd w4
section
variable {wd r0 w1 w2 w3 w4 w : World} {q c m1 n k : Nat} {a : Option Addr} {n0 c0 : Nat}
theorem ph1 (I : OWI wd q c r0) (h1 : A1 r0 a n0 c0 w1) (b : Below w1.heap.size w1 w4) (hc : c ≤ 100000) :
    Calls Tryz.prog 24 #[.pointer (some ⟨q, 0, none⟩), .slice a n0 c0] w4 fun e w' => e = .returned (.tuple #[]) ∧ BSt wd q r0 w4 r0.heap.size (c + 1) w' := by
  obtain ⟨⟨V, E, lo, hi, w5, m1, m8, fb⟩, fr⟩ := I
  obtain ⟨b1, l, hn, hl, hp, ho⟩ := h1
  have b04 : Below r0.heap.size r0 w4 := b1.trans (b.mono b1.size)
  exact ((fb.restart b04).pairs hp ho hl b b.size (Nat.le_refl _) (Nat.le_refl _) b1.size (by omega) hn).mono fun e w' ⟨q1, V', E', q2⟩ => ⟨q1, ⟨V', E', _, q2⟩, fr.trans (Below.frB b04)⟩
theorem ph2 (s : BSt wd q r0 w4 m1 c w) (h : A2 w1 a n0 c0 w2) (b0 : r0.heap.size ≤ w1.heap.size) (hm : m1 ≤ w1.heap.size) (b : Below w2.heap.size w2 w4) (hc : c ≤ 100000) :
    Calls Tryz.prog 25 #[.pointer (some ⟨q, 0, none⟩), .slice a n0 c0] w fun e w' => e = .returned (.tuple #[]) ∧ BSt wd q r0 w4 w2.heap.size (c + 4096) w' := by
  obtain ⟨⟨V, E, m8, fb⟩, fr⟩ := s
  obtain ⟨b1, Vs, D, hls, hd, he⟩ := h
  exact (fb.lists hls rfl hd he b b.size b0 hm b1.size (by omega)).mono fun e w' ⟨q1, V', E', q2⟩ => ⟨q1, ⟨V', E', _, q2⟩, fr⟩
theorem ph3 {l : List Int} (s : BSt wd q r0 w4 m1 c w) (hi : IL w3 (.slice a n0 c0) l) (ho : ∀ j, (Value.slice a n0 c0).ownBlock = some j → w2.heap.size ≤ j) (hn : n0 = l.length) (hl : l.length ≤ 4096) (b0 : r0.heap.size ≤ w2.heap.size) (hm : n0 = 0 ∨ m1 ≤ w2.heap.size) (b : Below w3.heap.size w3 w4) (hc : c ≤ 100000) :
    Calls Tryz.prog 26 #[.pointer (some ⟨q, 0, none⟩), .slice a n0 c0] w fun e w' => e = .returned (.tuple #[]) ∧ ∃ m1', BSt wd q r0 w4 m1' (c + 1) w' ∧ (n0 = 0 → m1' = m1) := by
  obtain ⟨⟨V, E, m8, fb⟩, fr⟩ := s
  exact (fb.ints hi ho (by omega) b b.size b0 (hm.imp_left fun e => List.eq_nil_of_length_eq_zero (by omega)) (by omega) hn).mono fun e w' ⟨q1, V', E', m1', q2, q3, _⟩ => ⟨q1, m1', ⟨⟨V', E', _, q2⟩, fr⟩, fun e => q3 (List.eq_nil_of_length_eq_zero (by omega))⟩
theorem ph5 (s : BSt wd q r0 w4 m1 c w) (h : A4 w3 a n0 w4) (b0 : r0.heap.size ≤ w3.heap.size) :
    Calls Tryz.prog 25 #[.pointer (some ⟨q, 0, none⟩), .slice a n0 c0] w fun e w' => e = .returned (.tuple #[]) ∧ w' = w := by
  obtain ⟨⟨V, E, m8, fb⟩, fr⟩ := s
  obtain ⟨b1, L, hn, hl, he, hL, hp⟩ := h
  refine lists_nil q a n0 c0 L (fun hne => ?_) hn (by omega) he
  obtain ⟨b, off, rfl, hb, hc⟩ := hL hne
  have hlo := hp _ rfl
  have hsm := fb.sm b (by have : w3.heap.size ≤ b := hlo; omega) hb
  have hz := fb.hz
  refine ⟨b, off, rfl, by omega, fun i hi => ?_⟩
  obtain ⟨a', c', h1, h2⟩ := hc i hi
  refine ⟨a', c', ?_, fun q => absurd ?_ q⟩
  · rw [← h1]
    simp only [World.cell?, hsm]
  · exact he _ (by rw [List.getD_eq_getElem?_getD, List.getElem?_eq_getElem hi]; exact List.getElem_mem hi)
theorem BSt.fr (s : BSt wd q r0 w4 m1 c w) : FrB (· = q) wd w := by
  obtain ⟨⟨V, E, m8, fb⟩, fr⟩ := s
  exact fb.frB fr rfl
theorem ph7 {l : List Int} (s : BSt wd q r0 w4 m1 c w) (h : LBs w l (.slice a n0 c0) w3) (hn : n0 = l.length) (hl : l.length ≤ 4096) (hc : c ≤ 100000) {c' : Nat} (hc' : c + 1 ≤ c') :
    Calls Tryz.prog 26 #[.pointer (some ⟨q, 0, none⟩), .slice a n0 c0] w3 fun e w' => e = .returned (.tuple #[]) ∧ OWI wd q c' w' := by
  have f0 := s.fr
  obtain ⟨⟨V, E, m8, fb⟩, fr⟩ := s
  exact ((fb.restart h.bel).ints h.il h.own (by omega) (Below.refl _ _) (Nat.le_refl _) (Nat.le_refl _) (.inr (Nat.le_refl _)) (by omega) hn).mono fun e w' ⟨q1, V', E', m1', q2, _, _⟩ => ⟨q1, ⟨V', E', _, _, _, _, _, q2.up (Nat.le_refl _) hc'⟩, q2.frB (f0.trans (Below.frB h.bel)) rfl⟩
end
theorem lrw_made (w : World) (n : Nat) : LrwB (w.alloc (.cells (madeCells #[.slice none 0 0] n) 46)) (some ⟨w.heap.size, 0, none⟩) (List.replicate n []) := fun _ => by
  refine ⟨w.heap.size, 0, rfl, lt_of_block (heap_alloc_new w _), fun i hi => ⟨none, 0, ?_, ?_⟩⟩
  · have hi2 : i < n := by simpa using hi
    rw [cellq_any (heap_alloc_new w _), made_listB]
    have e0 : (List.replicate n ([] : List Int)).getD i [] = [] := by
      rw [List.getD_eq_getElem?_getD, List.getElem?_replicate, if_pos hi2]
      rfl
    rw [e0]
    simp [hi2]
  · have e0 : (List.replicate n ([] : List Int)).getD i [] = [] := by
      rw [List.getD_eq_getElem?_getD, List.getElem?_replicate]
      split <;> rfl
    rw [e0]
    exact fun q => absurd rfl q
end Go.Proofs.YtcgghlaifmlpiaaGreatDoor
