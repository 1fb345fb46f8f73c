import Derived.Test.YtndjcbcdjcnniaaSRead
namespace Go.Proofs.Ytndjcbcdjcnniaa
set_option linter.unusedVariables false
open Go.RowKit Go.Maps

set_option maxHeartbeats 2000000 in
theorem samesyms_eq (ao bo : Option Addr) (ca cb : Nat) (l : List (Int × Int)) (w : World) (hl : l.length ≤ 140737488355328) (hr : SymRow w ao l) (hs : SymRow w bo l) :
    Calls Try.prog 19 #[.slice ao l.length ca, .slice bo l.length cb] w fun e w' => e = .returned (.bool true) ∧ Below w.heap.size w w' := by
  have hb : ((l.length : Int) != l.length) = false := by simp
  go_enter Try.func19, Try.ntmps19
  go_wp2
  go_loopw [5] (fun i wr => ∃ k : Nat, k ≤ l.length ∧ i = .int .i64 k ∧ Below w.heap.size w wr) (fun i _ => l.length - (intOf i).toNat)
  case atStart => exact ⟨0, Nat.zero_le _, rfl, Below.refl _ _⟩
  case round =>
    obtain ⟨k, hk, rfl, hB⟩ := hrel
    by_cases hlt : k < l.length
    · obtain ⟨b, off, rfl, _, hc⟩ := (hr.later (Nat.le_refl _) hB) (by intro h; subst h; simp at hlt)
      obtain ⟨b2, off2, rfl, _, hc2⟩ := (hs.later (Nat.le_refl _) hB) (by intro h; subst h; simp at hlt)
      obtain ⟨h1, h2⟩ := hc k hlt
      obtain ⟨h3, h4⟩ := hc2 k hlt
      clear hc hc2 hr hs
      generalize l.getD k (0, 0) = q at *
      obtain ⟨q1, q2⟩ := q
      simp only at h1 h2 h3 h4
      have e1 : (q1 == q1) = true := by simp
      have e2 : (q2 == q2) = true := by simp
      go_wp2
      go_quiet (fail)
      go_wp2
      go_roundw
      case rel => exact ⟨k + 1, by omega, by go_num, below_drewN hB _⟩
      case measure => simp [intOf]; omega
    · go_wp2
      go_ret
      exact ⟨rfl, hB⟩
theorem nameF_size {ts ns : List ByteArray} (hF : Fine ts ns) (k n : Int) : (nameF ts ns k n).1.size ≤ 32 := by
  cases h : okN ts ns (k, n) with
  | true => exact (name_known hF h).1.1
  | false =>
    have : (nameF ts ns k n).1 = ⟨#[]⟩ := by
      unfold okN at h
      simp only at h
      revert h
      unfold nameF
      repeat' split
      all_goals first | (intro h; cases h; done) | (intro _; rfl)
    rw [this]; decide
theorem dense_ok {ts ns : List ByteArray} (h1 : ts.length ≤ 64) (h2 : ns.length ≤ 64) {k n : Int} (h : okN ts ns (k, n) = true) : ∃ d : Int, denseF ts.length k n = (d, 0) ∧ sparseF ts.length ns.length d = (k, n, 0) ∧ 0 ≤ d ∧ d ≤ 1000 ∧ 0 ≤ n ∧ n ≤ 64 := by
  unfold okN nameF at h
  simp only at h
  split at h
  · rename_i hk
    subst hk
    split at h
    · rename_i h0
      have hn : n ≤ ts.length := by
        split at h
        · omega
        · split at h
          · omega
          · cases h
      refine ⟨n, ?_, ?_, h0, by omega, h0, by omega⟩
      · unfold denseF
        rw [if_neg (by omega), if_neg (by omega), if_pos rfl, if_pos h0, if_pos hn]
      · unfold sparseF
        rw [if_neg (by omega), if_neg (by omega), if_neg (by omega), if_neg (by omega), if_neg (by omega), if_neg (by omega), if_pos hn]
    · cases h
  · rename_i hk
    split at h
    · rename_i hk2
      subst hk2
      split at h
      · rename_i h0
        have hn : n < ns.length := by
          split at h
          · omega
          · cases h
        refine ⟨ts.length + 1 + n, ?_, ?_, by omega, by omega, h0, by omega⟩
        · unfold denseF
          rw [if_neg (by omega), if_neg (by omega), if_neg (by decide), if_pos rfl, if_pos h0, if_pos (by omega)]
        · unfold sparseF
          rw [if_neg (by omega), if_neg (by omega), if_neg (by omega), if_neg (by omega), if_neg (by omega), if_neg (by omega), if_neg (by omega)]
          rw [show (ts.length : Int) + 1 + n - ts.length - 1 = n by omega]
      · cases h
    · cases h
/-- What Sparse says of n, and Dense of that. -/
theorem sparse_cases {T N : Nat} (h1 : T ≤ 64) (h2 : N ≤ 64) (n : Int) : (n < 0 ∧ sparseF T N n = (0, 0, 35)) ∨ (¬ n < 0 ∧ (T : Int) + N < n ∧ sparseF T N n = (0, 0, 35)) ∨ ∃ k i : Int, sparseF T N n = (k, i, 0) ∧ denseF T k i = (n, 0) ∧ 0 ≤ i ∧ i ≤ 1000 := by
  by_cases a : n < 0
  · left
    refine ⟨a, ?_⟩
    unfold sparseF
    rw [if_neg (by omega), if_neg (by omega), if_neg (by omega), if_neg (by omega), if_pos a]
  · right
    by_cases b : (T : Int) + N < n
    · left
      refine ⟨a, b, ?_⟩
      unfold sparseF
      rw [if_neg (by omega), if_neg (by omega), if_neg (by omega), if_neg (by omega), if_neg a, if_pos b]
    · right
      by_cases c : n ≤ T
      · refine ⟨1, n, ?_, ?_, by omega, by omega⟩
        · unfold sparseF
          rw [if_neg (by omega), if_neg (by omega), if_neg (by omega), if_neg (by omega), if_neg a, if_neg b, if_pos c]
        · unfold denseF
          rw [if_neg (by omega), if_neg (by omega), if_pos rfl, if_pos (by omega), if_pos c]
      · refine ⟨2, n - T - 1, ?_, ?_, by omega, by omega⟩
        · unfold sparseF
          rw [if_neg (by omega), if_neg (by omega), if_neg (by omega), if_neg (by omega), if_neg a, if_neg b, if_neg c]
        · unfold denseF
          rw [if_neg (by omega), if_neg (by omega), if_neg (by decide), if_pos rfl, if_pos (by omega), if_pos (by omega)]
          congr 1; omega
end Go.Proofs.Ytndjcbcdjcnniaa
