import Derived.Test.YtflcnlefcnclkaaFMem7
import Derived.Deep.QuietTactic
import Derived.BigQuiet
namespace Go.Proofs.Ytflcnlefcnclkaa
set_option linter.unusedVariables false
open Go.RowKit

/-- Are all of these nullable by the claim? -/
def null1 (N : List Bool) (s : Int × Int) : Bool := decide (s.1 = 2) && N.getD s.2.toNat false
def allN (N : List Bool) (l : List (Int × Int)) : Bool := l.all (null1 N)
theorem all_no {α : Type} {p : α → Bool} {l : List α} {k : Nat} {d : α} (hk : k < l.length) (h : p (l.getD k d) = false) : l.all p = false := by
  rw [List.all_eq_false]
  exact ⟨l.getD k d, by simp [List.getD, hk], by rw [h]; simp⟩
theorem all_yes {α : Type} {p : α → Bool} {l : List α} {d : α} (h : ∀ k, k < l.length → p (l.getD k d) = true) : l.all p = true := by
  rw [List.all_eq_true]
  intro s hs
  obtain ⟨k, hk, rfl⟩ := List.getElem_of_mem hs
  have := h k hk
  simpa [List.getD, hk] using this
set_option maxRecDepth 100000 in
set_option maxHeartbeats 2000000 in
theorem areNull_S (na : Option Addr) (nc : Nat) (N : List Bool) (la : Option Addr) (lc : Nat) (l : List (Int × Int)) (w : World) (hN : BRow w na N) (hl : SymRow w la l) (hll : l.length ≤ 1048576) (hnl : N.length ≤ 1048576) (hr : ∀ s ∈ l, s.1 = 2 → 0 ≤ s.2 ∧ s.2 < N.length) :
    Calls Try.prog 19 #[.slice na N.length nc, .slice la l.length lc] w fun e w' => e = .returned (.bool (allN N l)) ∧ Below w.heap.size w w' := by
  have HK : Hid (∀ w', Below w.heap.size w w' → BRow w' na N) := fun w' hb => hN.later hb
  have HL : Hid (∀ w', Below w.heap.size w w' → SymRow w' la l) := fun w' hb => hl.later (Nat.le_refl _) hb
  have HR : Hid (∀ s ∈ l, s.1 = 2 → 0 ≤ s.2 ∧ s.2 < N.length) := hr
  have HF : Hid (∀ k, k < l.length → null1 N (l.getD k (0, 0)) = false → allN N l = false) := fun k hk h => all_no hk h
  have HY : Hid ((∀ k, k < l.length → null1 N (l.getD k (0, 0)) = true) → allN N l = true) := all_yes
  clear hN hl hr
  generalize hX : allN N l = X at *
  clear hX
  go_enter Try.func19, Try.ntmps19
  go_wp2
  go_loopw [9] (fun z wr => ∃ k : Nat, k ≤ l.length ∧ z = .int .i64 k ∧ (∀ j, j < k → null1 N (l.getD j (0, 0)) = true) ∧ Below w.heap.size w wr) (fun z _ => l.length - (intOf z).toNat)
  case atStart => exact ⟨0, Nat.zero_le _, rfl, fun j hj => absurd hj (Nat.not_lt_zero j), Below.refl _ _⟩
  case round =>
    obtain ⟨k, hk, rfl, hf, hb⟩ := hrel
    by_cases hlt : k < l.length
    · obtain ⟨b, o, rfl, hbl, hc⟩ := (HL.out wr hb) (by intro e; rw [e] at hlt; simp at hlt)
      obtain ⟨c0, c1⟩ := hc k hlt
      have hm : l.getD k (0, 0) ∈ l := by simp [List.getD, hlt]
      have hin := HR.out _ hm
      have HN : Hid (null1 N (l.getD k (0, 0)) = false → X = false) := HF.out k hlt
      have HB : Hid (Below w.heap.size w wr) := hb
      have klt : (k : Int) < (l.length : Int) := by omega
      have HS : Hid (∀ x, l.getD k (0, 0) = x → null1 N x = true → ∀ j, j < k + 1 → null1 N (l.getD j (0, 0)) = true) := fun x hx h j hj => by
        by_cases e : j = k
        · subst e; rw [hx]; exact h
        · exact hf j (by omega)
      generalize hx : l.getD k (0, 0) = x at *
      obtain ⟨x1, x2⟩ := x
      simp only at c0 c1 hin
      by_cases h2 : x1 = 2
      · obtain ⟨i0, i1⟩ := hin h2
        subst h2
        obtain ⟨m, rfl⟩ : ∃ m : Nat, x2 = (m : Int) := ⟨x2.toNat, by omega⟩
        have hm2 : m < N.length := by omega
        obtain ⟨nb, no, rfl, hnb, hnc⟩ := ((HK.out wr hb).later (below_alloc wr (.cells #[.int .i64 2, .int .i64 (m : Int)] 68))) (by intro e; rw [e] at hm2; simp at hm2)
        have kc := hnc m hm2
        have e2 : ((2 : Int) != 2) = false := by decide
        have V : Hid (null1 N (2, (m : Int)) = N.getD m false) := by show _ = _; simp [null1]
        generalize hv : N.getD m false = v at *
        cases v
        · have R : Hid (X = false) := HN.out V.out
          clear hc hb hf hm hx hv hnc
          go_wp2
          go_ret
          exact ⟨by rw [R.out]; rfl, HB.out.trans ((below_alloc _ _).mono HB.out.size)⟩
        · have R : Hid (∀ j, j < k + 1 → null1 N (l.getD j (0, 0)) = true) := HS.out _ rfl V.out
          clear hc hb hf hm hx hv hnc
          go_wp2
          go_roundw
          case rel => exact ⟨k + 1, by omega, by go_num, R.out, HB.out.trans ((below_alloc _ _).mono HB.out.size)⟩
          case measure => simp [intOf]; omega
      · have e2 : (x1 != 2) = true := by simp [h2]
        have R : Hid (X = false) := HN.out (by simp [null1, h2])
        clear hc hb hf hm hx
        go_wp2
        go_ret
        exact ⟨by rw [R.out]; rfl, HB.out.trans ((below_alloc _ _).mono HB.out.size)⟩
    · obtain rfl : k = l.length := by omega
      have R : Hid (X = true) := HY.out hf
      have HB : Hid (Below w.heap.size w wr) := hb
      clear hb hf
      go_wp2
      go_ret
      exact ⟨by rw [R.out]; rfl, HB.out⟩
def below1 (e : Nat) (x : Int) : Bool := decide (0 ≤ x) && decide (x < (e : Int))
def allB (l : List Int) (e : Nat) : Bool := l.all (below1 e)
set_option maxRecDepth 100000 in
set_option maxHeartbeats 2000000 in
theorem allBelow_S (la : Option Addr) (lc : Nat) (l : List Int) (e : Nat) (w : World) (hl : InRow w la l) (hll : l.length ≤ 140737488355328) :
    Calls Try.prog 21 #[.slice la l.length lc, .int .i64 e] w fun en w' => en = .returned (.bool (allB l e)) ∧ Below w.heap.size w w' := by
  have HL : Hid (InRow w la l) := hl
  have HF : Hid (∀ k, k < l.length → below1 e (l.getD k 0) = false → allB l e = false) := fun k hk h => all_no hk h
  have HY : Hid ((∀ k, k < l.length → below1 e (l.getD k 0) = true) → allB l e = true) := all_yes
  clear hl
  generalize hX : allB l e = X at *
  clear hX
  go_enter Try.func21, Try.ntmps21
  go_wp2
  go_loopw [9] (fun z wr => ∃ k : Nat, k ≤ l.length ∧ z = .int .i64 k ∧ wr = w ∧ (∀ j, j < k → below1 e (l.getD j 0) = true)) (fun z _ => l.length - (intOf z).toNat)
  case atStart => exact ⟨0, Nat.zero_le _, rfl, rfl, fun j hj => absurd hj (Nat.not_lt_zero j)⟩
  case round =>
    obtain ⟨k, hk, rfl, rfl, hf⟩ := hrel
    by_cases hlt : k < l.length
    · obtain ⟨b, o, rfl, hbl, hc⟩ := HL.out (by intro e; rw [e] at hlt; simp at hlt)
      have c0 := hc k hlt
      have klt : (k : Int) < (l.length : Int) := by omega
      have HN : Hid (below1 e (l.getD k 0) = false → X = false) := HF.out k hlt
      have HS : Hid (∀ x, l.getD k 0 = x → below1 e x = true → ∀ j, j < k + 1 → below1 e (l.getD j 0) = true) := fun x hx h j hj => by
        by_cases q : j = k
        · subst q; rw [hx]; exact h
        · exact hf j (by omega)
      generalize hx : l.getD k 0 = x at *
      by_cases h1 : x < 0
      · have R : Hid (X = false) := HN.out (by simp [below1]; omega)
        clear hc hf hx
        go_wp2
        go_ret
        exact ⟨by rw [R.out]; rfl, Below.refl _ _⟩
      · by_cases h2 : x ≥ (e : Int)
        · have R : Hid (X = false) := HN.out (by simp [below1]; omega)
          clear hc hf hx
          go_wp2
          go_ret
          exact ⟨by rw [R.out]; rfl, Below.refl _ _⟩
        · have R : Hid (∀ j, j < k + 1 → below1 e (l.getD j 0) = true) := HS.out x rfl (by simp [below1]; omega)
          clear hc hf hx
          go_wp2
          go_roundw
          case rel => exact ⟨k + 1, by omega, by go_num, by first | rfl | trivial, R.out⟩
          case measure => simp [intOf]; omega
    · obtain rfl : k = l.length := by omega
      have R : Hid (X = true) := HY.out hf
      clear hf
      go_wp2
      go_ret
      exact ⟨by rw [R.out]; rfl, Below.refl _ _⟩
end Go.Proofs.Ytflcnlefcnclkaa
