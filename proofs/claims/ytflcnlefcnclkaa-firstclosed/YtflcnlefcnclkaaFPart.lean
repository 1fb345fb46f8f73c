import Derived.Test.YtflcnlefcnclkaaFThy2
namespace Go.Proofs.Ytflcnlefcnclkaa
set_option linter.unusedVariables false
open Go.RowKit

def inL (l : List Int) (x : Int) : Bool := l.any (fun y => decide (y = x))
def partL (a b : List Int) : Bool := a.all (inL b)
set_option maxRecDepth 100000 in
set_option maxHeartbeats 2000000 in
theorem in_S (la : Option Addr) (lc : Nat) (l : List Int) (x : Int) (w : World) (hl : InRow w la l) (hll : l.length ≤ 140737488355328) :
    Calls Try.prog 26 #[.slice la l.length lc, .int .i64 x] w fun en w' => en = .returned (.bool (inL l x)) ∧ Below w.heap.size w w' := by
  have HL : Hid (InRow w la l) := hl
  have HF : Hid (∀ k, k < l.length → l.getD k 0 = x → inL l x = true) := fun k hk h => List.any_eq_true.2 ⟨l.getD k 0, by simp [List.getD, hk], decide_eq_true h⟩
  have HY : Hid ((∀ k, k < l.length → l.getD k 0 ≠ x) → inL l x = false) := fun h => by
    rw [Bool.eq_false_iff]
    intro q
    obtain ⟨y, hy, e⟩ := List.any_eq_true.1 q
    obtain ⟨i, hi, rfl⟩ := List.getElem_of_mem hy
    exact h i hi (by simpa [List.getD, hi] using e)
  clear hl
  generalize hX : inL l x = X at *
  clear hX
  go_enter Try.func26, Try.ntmps26
  go_wp2
  go_loopw [5] (fun z wr => ∃ k : Nat, k ≤ l.length ∧ z = .int .i64 k ∧ wr = w ∧ (∀ j, j < k → l.getD j 0 ≠ x)) (fun z _ => l.length - (intOf z).toNat)
  case atStart => exact ⟨0, Nat.zero_le _, rfl, rfl, fun j hj => absurd hj (Nat.not_lt_zero j)⟩
  case round =>
    obtain ⟨k, hk, rfl, rfl, hf⟩ := hrel
    by_cases hlt : k < l.length
    · obtain ⟨b, o, rfl, hbl, hc⟩ := HL.out (by intro e; rw [e] at hlt; simp at hlt)
      have c0 := hc k hlt
      have klt : (k : Int) < (l.length : Int) := by omega
      have HN : Hid (l.getD k 0 = x → X = true) := HF.out k hlt
      have HS : Hid (∀ y, l.getD k 0 = y → y ≠ x → ∀ j, j < k + 1 → l.getD j 0 ≠ x) := fun y hy h j hj => by
        by_cases q : j = k
        · subst q; rw [hy]; exact h
        · exact hf j (by omega)
      generalize hx : l.getD k 0 = y at *
      by_cases h1 : y = x
      · have R : Hid (X = true) := HN.out h1
        have t1 : (y == x) = true := by simpa using h1
        clear hc hf hx h1
        go_wp2
        go_ret
        exact ⟨by rw [R.out]; rfl, Below.refl _ _⟩
      · have R : Hid (∀ j, j < k + 1 → l.getD j 0 ≠ x) := HS.out y rfl h1
        have t1 : (y == x) = false := by simpa using h1
        clear hc hf hx h1
        go_wp2
        go_roundw
        case rel => exact ⟨k + 1, by omega, by go_num, by first | rfl | trivial, R.out⟩
        case measure => simp [intOf]; omega
    · obtain rfl : k = l.length := by omega
      have R : Hid (X = false) := HY.out hf
      clear hf
      go_wp2
      go_ret
      exact ⟨by rw [R.out]; rfl, Below.refl _ _⟩
set_option maxRecDepth 100000 in
set_option maxHeartbeats 2000000 in
theorem part_S (aa la : Option Addr) (ac lc : Nat) (a l : List Int) (w : World) (ha : InRow w aa a) (hl : InRow w la l) (hal : a.length ≤ 140737488355328) (hll : l.length ≤ 140737488355328) :
    Calls Try.prog 9 #[.slice aa a.length ac, .slice la l.length lc] w fun en w' => en = .returned (.bool (partL a l)) ∧ Below w.heap.size w w' := by
  have HL : Hid (∀ w', Below w.heap.size w w' → InRow w' aa a) := fun w' hb => ha.later hb
  have IC : Hid (∀ w' x, Below w.heap.size w w' → Calls Try.prog 26 #[.slice la l.length lc, .int .i64 x] w' fun en w'' => en = .returned (.bool (inL l x)) ∧ Below w'.heap.size w' w'') := fun w' x hb => in_S la lc l x w' (hl.later hb) hll
  have HF : Hid (∀ k, k < a.length → inL l (a.getD k 0) = false → partL a l = false) := fun k hk h => all_no hk h
  have HY : Hid ((∀ k, k < a.length → inL l (a.getD k 0) = true) → partL a l = true) := all_yes
  clear hl ha
  generalize hX : partL a l = X at *
  clear hX
  go_enter Try.func9, Try.ntmps9
  go_wp2
  go_loopw [5] (fun z wr => ∃ k : Nat, k ≤ a.length ∧ z = .int .i64 k ∧ Below w.heap.size w wr ∧ (∀ j, j < k → inL l (a.getD j 0) = true)) (fun z _ => a.length - (intOf z).toNat)
  case atStart => exact ⟨0, Nat.zero_le _, rfl, Below.refl _ _, fun j hj => absurd hj (Nat.not_lt_zero j)⟩
  case round =>
    obtain ⟨k, hk, rfl, hb, hf⟩ := hrel
    have HB : Hid (Below w.heap.size w wr) := hb
    by_cases hlt : k < a.length
    · obtain ⟨b, o, rfl, hbl, hc⟩ := HL.out wr hb (by intro e; rw [e] at hlt; simp at hlt)
      have c0 := hc k hlt
      have klt : (k : Int) < (a.length : Int) := by omega
      have HN : Hid (inL l (a.getD k 0) = false → X = false) := HF.out k hlt
      have HS : Hid (inL l (a.getD k 0) = true → ∀ j, j < k + 1 → inL l (a.getD j 0) = true) := fun h j hj => by
        by_cases q : j = k
        · subst q; exact h
        · exact hf j (by omega)
      have AC : Hid (Calls Try.prog 26 #[.slice la l.length lc, .int .i64 (a.getD k 0)] wr fun en w'' => en = .returned (.bool (inL l (a.getD k 0))) ∧ Below wr.heap.size wr w'') := IC.out wr _ hb
      generalize inL l (a.getD k 0) = v at *
      generalize a.getD k 0 = y at *
      clear hc hf hb
      cases v
      · have R : Hid (X = false) := HN.out rfl
        go_wp2_with (go_at_call 26; refine AC.out.mono ?_; rintro e w2 ⟨rfl, b2⟩; have B2 : Hid (Below w.heap.size w w2) := HB.out.trans (b2.mono HB.out.size); clear b2)
        go_ret
        exact ⟨by rw [R.out]; rfl, B2.out⟩
      · have R : Hid (∀ j, j < k + 1 → inL l (a.getD j 0) = true) := HS.out rfl
        go_wp2_with (go_at_call 26; refine AC.out.mono ?_; rintro e w2 ⟨rfl, b2⟩; have B2 : Hid (Below w.heap.size w w2) := HB.out.trans (b2.mono HB.out.size); clear b2)
        go_roundw
        case rel => exact ⟨k + 1, by omega, by go_num, B2.out, R.out⟩
        case measure => simp [intOf]; omega
    · obtain rfl : k = a.length := by omega
      have R : Hid (X = true) := HY.out hf
      clear hf hb
      go_wp2
      go_ret
      exact ⟨by rw [R.out]; rfl, HB.out⟩
theorem partL_of {a b : List Int} (h : ∀ x ∈ a, x ∈ b) : partL a b = true := List.all_eq_true.2 (fun x hx => List.any_eq_true.2 ⟨x, h x hx, by simp⟩)
end Go.Proofs.Ytflcnlefcnclkaa
