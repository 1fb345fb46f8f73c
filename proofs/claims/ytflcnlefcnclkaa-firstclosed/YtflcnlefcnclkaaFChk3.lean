import Derived.Test.YtflcnlefcnclkaaFChk2
import Derived.Deep.QuietTactic
import Derived.BigQuiet
namespace Go.Proofs.Ytflcnlefcnclkaa
set_option linter.unusedVariables false
open Go.RowKit

/-- Do the numbers rise? -/
def riseF (l : List Int) : Bool := decide (∀ i, i < l.length - 1 → l.getD i 0 < l.getD (i + 1) 0)
set_option maxRecDepth 100000 in
set_option maxHeartbeats 2000000 in
theorem rises_S (la : Option Addr) (lc : Nat) (l : List Int) (w : World) (hl : InRow w la l) (hll : l.length ≤ 140737488355328) :
    Calls Try.prog 22 #[.slice la l.length lc] w fun en w' => en = .returned (.bool (riseF l)) ∧ Below w.heap.size w w' := by
  have HL : Hid (∀ w', Below w.heap.size w w' → InRow w' la l) := fun w' hb => hl.later hb
  have HF : Hid (∀ k, k < l.length - 1 → ¬ l.getD k 0 < l.getD (k + 1) 0 → riseF l = false) := fun k hk h => decide_eq_false (fun q => h (q k hk))
  have HY : Hid ((∀ k, k < l.length - 1 → l.getD k 0 < l.getD (k + 1) 0) → riseF l = true) := fun h => decide_eq_true h
  clear hl
  generalize hX : riseF l = X at *
  clear hX
  go_enter Try.func22, Try.ntmps22
  go_wp2
  go_loopw [3] (fun z wr => ∃ k : Nat, (k + 1 ≤ l.length ∨ k = 0) ∧ z = .int .i64 ((k : Int) + 1) ∧ (∀ j, j < k → l.getD j 0 < l.getD (j + 1) 0) ∧ Below w.heap.size w wr) (fun z _ => l.length - (intOf z).toNat)
  case atStart => exact ⟨0, .inr rfl, rfl, fun j hj => absurd hj (Nat.not_lt_zero j), Below.refl _ _⟩
  case round =>
    obtain ⟨k, hk, rfl, hf, hb⟩ := hrel
    have HB : Hid (Below w.heap.size w wr) := hb
    by_cases hlt : k + 1 < l.length
    · obtain ⟨b, o, rfl, hbl, hc⟩ := HL.out wr hb (by intro e; rw [e] at hlt; simp at hlt)
      have c0 := hc k (by omega)
      have c1 := hc (k + 1) hlt
      have klt : (k : Int) + 1 < (l.length : Int) := by omega
      have HN : Hid (¬ l.getD k 0 < l.getD (k + 1) 0 → X = false) := fun h => HF.out k (by omega) (by omega)
      have HS : Hid (l.getD k 0 < l.getD (k + 1) 0 → ∀ j, j < k + 1 → l.getD j 0 < l.getD (j + 1) 0) := fun h j hj => by
        by_cases q : j = k
        · subst q; exact h
        · exact hf j (by omega)
      generalize l.getD k 0 = x at *
      generalize l.getD (k + 1) 0 = y at *
      clear hc hf hb
      by_cases h1 : x ≥ y
      · have R : Hid (X = false) := HN.out (by omega)
        go_wp2
        go_quiet (fail)
        go_wp2
        go_ret
        exact ⟨by rw [R.out]; rfl, by first | exact HB.out.drew | exact below_drewN HB.out _⟩
      · have R : Hid (∀ j, j < k + 1 → l.getD j 0 < l.getD (j + 1) 0) := HS.out (by omega)
        go_wp2
        go_quiet (fail)
        go_wp2
        go_roundw
        case rel => exact ⟨k + 1, .inl (by omega), by go_num, R.out, by first | exact HB.out.drew | exact below_drewN HB.out _⟩
        case measure => simp [intOf]; omega
    · have R : Hid (X = true) := HY.out (fun j hj => hf j (by omega))
      have klt : ¬ (k : Int) + 1 < (l.length : Int) := by omega
      clear hf hb
      go_wp2
      go_ret
      exact ⟨by rw [R.out]; rfl, HB.out⟩
end Go.Proofs.Ytflcnlefcnclkaa
