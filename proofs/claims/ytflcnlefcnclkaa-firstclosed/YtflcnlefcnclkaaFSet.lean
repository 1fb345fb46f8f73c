import Derived.Test.YtflcnlefcnclkaaBBaseToGRow
namespace Go.Proofs.Ytflcnlefcnclkaa
set_option linter.unusedVariables false
open Go.RowKit

/-- A set of numbers from 0 to 127: two words. -/
abbrev BS := Nat × Nat
def OkS (s : BS) : Prop := s.1 < 18446744073709551616 ∧ s.2 < 18446744073709551616
def addS (s : BS) (n : Nat) : BS := if n < 64 then (s.1 ||| 2 ^ n, s.2) else (s.1, s.2 ||| 2 ^ (n - 64))
def hasS (s : BS) (n : Nat) : Bool := if n < 64 then s.1.testBit n else s.2.testBit (n - 64)
def withS (a b : BS) : BS := (a.1 ||| b.1, a.2 ||| b.2)
def setS (l : List Int) : BS := l.foldl (fun s n => addS s n.toNat) (0, 0)
def listS (s : BS) (n : Nat) : List Int := ((List.range n).filter (hasS s)).map fun (i : Nat) => (i : Int)
theorem pow64 {n : Nat} (h : n < 64) : 2 ^ n < 18446744073709551616 := by
  have := Nat.pow_lt_pow_right (a := 2) (by omega) h
  simpa using this
theorem or64 {a b : Nat} (ha : a < 18446744073709551616) (hb : b < 18446744073709551616) : a ||| b < 18446744073709551616 := Nat.or_lt_two_pow (n := 64) ha hb
theorem OkS.add {s : BS} (h : OkS s) {n : Nat} (hn : n < 128) : OkS (addS s n) := by
  unfold addS
  split
  · exact ⟨or64 h.1 (pow64 (by omega)), h.2⟩
  · exact ⟨h.1, or64 h.2 (pow64 (by omega))⟩
theorem OkS.with {a b : BS} (ha : OkS a) (hb : OkS b) : OkS (withS a b) := ⟨or64 ha.1 hb.1, or64 ha.2 hb.2⟩
theorem OkS.zero : OkS (0, 0) := ⟨by decide, by decide⟩
theorem hasS_add (s : BS) (n m : Nat) (hn : n < 128) (hm : m < 128) : hasS (addS s n) m = (hasS s m || decide (n = m)) := by
  unfold addS hasS
  by_cases h1 : n < 64 <;> by_cases h2 : m < 64 <;> simp only [h1, h2, if_true, if_false, Nat.testBit_or, Nat.testBit_two_pow]
  · have e : decide (n = m) = false := by simp; omega
    simp [e]
  · have e : decide (n = m) = false := by simp; omega
    simp [e]
  · have e : decide (n - 64 = m - 64) = decide (n = m) := by simp only [decide_eq_decide]; omega
    rw [e]
theorem hasS_with (a b : BS) (n : Nat) : hasS (withS a b) n = (hasS a n || hasS b n) := by
  unfold hasS withS
  split <;> simp
theorem hasS_zero (n : Nat) : hasS (0, 0) n = false := by
  unfold hasS
  split <;> simp
/-- A set is its numbers. -/
theorem setS_ext {a b : BS} (ha : OkS a) (hb : OkS b) (h : ∀ n, n < 128 → hasS a n = hasS b n) : a = b := by
  obtain ⟨a1, a2⟩ := a
  obtain ⟨b1, b2⟩ := b
  have k : ∀ (x y : Nat), x < 18446744073709551616 → y < 18446744073709551616 → (∀ i, i < 64 → x.testBit i = y.testBit i) → x = y := fun x y hx hy he => by
    apply Nat.eq_of_testBit_eq
    intro i
    by_cases hi : i < 64
    · exact he i hi
    · have p : 18446744073709551616 ≤ 2 ^ i := by
        have := Nat.pow_le_pow_right (n := 2) (by omega) (show 64 ≤ i by omega)
        simpa using this
      rw [Nat.testBit_lt_two_pow (by omega), Nat.testBit_lt_two_pow (by omega)]
  have e1 : a1 = b1 := k a1 b1 ha.1 hb.1 fun i hi => by
    have := h i (by omega)
    simpa [hasS, hi] using this
  have e2 : a2 = b2 := k a2 b2 ha.2 hb.2 fun i hi => by
    have := h (i + 64) (by omega)
    simpa [hasS, show ¬ i + 64 < 64 by omega] using this
  rw [e1, e2]
theorem within_iff {a b : BS} (ha : OkS a) (hb : OkS b) : withS a b = b ↔ ∀ n, n < 128 → hasS a n = true → hasS b n = true := by
  constructor
  · intro h n _ hn
    rw [← h, hasS_with, hn]
    rfl
  · intro h
    refine setS_ext (ha.with hb) hb fun n hn => ?_
    rw [hasS_with]
    cases e : hasS a n
    · simp
    · simp [h n hn e]
theorem foldS_has : ∀ (l : List Int) (s : BS), (∀ x ∈ l, 0 ≤ x ∧ x < 128) → OkS s → OkS (l.foldl (fun s n => addS s n.toNat) s) ∧ ∀ n, n < 128 → (hasS (l.foldl (fun s n => addS s n.toNat) s) n = true ↔ hasS s n = true ∨ (n : Int) ∈ l)
  | [], s, _, hs => ⟨hs, fun n _ => by simp⟩
  | x :: l, s, hl, hs => by
    have hx := hl x (by simp)
    obtain ⟨h1, h2⟩ := foldS_has l (addS s x.toNat) (fun y hy => hl y (by simp [hy])) (hs.add (by omega))
    refine ⟨h1, fun n hn => ?_⟩
    rw [List.foldl_cons, h2 n hn, hasS_add s x.toNat n (by omega) hn]
    simp only [Bool.or_eq_true, decide_eq_true_eq, List.mem_cons]
    constructor
    · rintro ((h | h) | h)
      · exact .inl h
      · exact .inr (.inl (by omega))
      · exact .inr (.inr h)
    · rintro (h | h | h)
      · exact .inl (.inl h)
      · exact .inl (.inr (by omega))
      · exact .inr h
theorem setS_ok {l : List Int} (h : ∀ x ∈ l, 0 ≤ x ∧ x < 128) : OkS (setS l) := (foldS_has l (0, 0) h OkS.zero).1
theorem setS_has {l : List Int} (h : ∀ x ∈ l, 0 ≤ x ∧ x < 128) (n : Nat) (hn : n < 128) : hasS (setS l) n = true ↔ (n : Int) ∈ l := by
  have := (foldS_has l (0, 0) h OkS.zero).2 n hn
  rw [hasS_zero] at this
  simpa [setS] using this
theorem listS_mem (s : BS) (n : Nat) (x : Int) : x ∈ listS s n ↔ 0 ≤ x ∧ x < n ∧ hasS s x.toNat = true := by
  unfold listS
  simp only [List.mem_map, List.mem_filter, List.mem_range]
  constructor
  · rintro ⟨i, ⟨h1, h2⟩, rfl⟩
    exact ⟨by omega, by omega, by simpa using h2⟩
  · rintro ⟨h1, h2, h3⟩
    exact ⟨x.toNat, ⟨by omega, h3⟩, by omega⟩
theorem listS_succ (s : BS) (n : Nat) : listS s (n + 1) = listS s n ++ (if hasS s n then [(n : Int)] else []) := by
  unfold listS
  rw [List.range_succ, List.filter_append, List.map_append]
  congr 1
  by_cases h : hasS s n = true <;> simp [h]
theorem listS_len (s : BS) (n : Nat) : (listS s n).length ≤ n := by
  unfold listS
  rw [List.length_map]
  exact Nat.le_trans (List.length_filter_le _ _) (by simp)
theorem listS_rises (s : BS) : ∀ n, (listS s n).Pairwise (· < ·)
  | 0 => by simp [listS]
  | n + 1 => by
    rw [listS_succ, List.pairwise_append]
    refine ⟨listS_rises s n, by split <;> simp, fun x hx y hy => ?_⟩
    have := (listS_mem s n x).1 hx
    split at hy
    · obtain rfl := List.mem_singleton.1 hy; omega
    · cases hy
end Go.Proofs.Ytflcnlefcnclkaa
