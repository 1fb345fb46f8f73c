import Derived.Test.YtfckmbdcfeljiaaSIn
namespace Go.Proofs.Ytfckmbdcfeljiaa
set_option linter.unusedVariables false
open Go.RowKit

/-- The name of a symbol, and whether there is one. -/
def nameF (ts ns : List ByteArray) (k n : Int) : ByteArray × Bool :=
  if k = 1 then (if 0 ≤ n then (if n < ts.length then (ts.getD n.toNat ByteArray.empty, true) else if n = ts.length then (⟨#[36]⟩, true) else (⟨#[]⟩, false)) else (⟨#[]⟩, false))
  else if k = 2 then (if 0 ≤ n then (if n < ns.length then (ns.getD n.toNat ByteArray.empty, true) else (⟨#[]⟩, false)) else (⟨#[]⟩, false)) else (⟨#[]⟩, false)
set_option maxHeartbeats 2000000 in
theorem nameof_any (ta na : Option Addr) (T N tc nc : Nat) (ts ns : List ByteArray) (k n : Int) (w : World) (hT : T = ts.length) (hN : N = ns.length) (ht : StrRow w ta ts) (hn : StrRow w na ns) (hl : ts.length ≤ 140737488355328) (hl' : ns.length ≤ 140737488355328) :
    Calls Try.prog 59 #[.slice ta T tc, .slice na N nc, .agg #[.int .i64 k, .int .i64 n]] w fun e w' => e = .returned (.tuple #[.string (nameF ts ns k n).1, .bool (nameF ts ns k n).2]) ∧ Below w.heap.size w w' := by
  subst hT hN
  have fin := below_alloc w (.cells #[.int .i64 k, .int .i64 n] 70)
  by_cases h1 : k = 1
  · have g1 : (k == 1) = true := by simp [h1]
    have g2 : (k == 2) = false := by simp [h1]
    by_cases h3 : 0 ≤ n
    · by_cases h4 : n < ts.length
      · obtain ⟨m, rfl⟩ : ∃ m : Nat, n = m := ⟨n.toNat, by omega⟩
        have hm : m < ts.length := by omega
        obtain ⟨b, off, rfl, hlt, hc⟩ := ht (by intro e; subst e; simp at hm)
        have cc := hc m hm
        have HE : Hid (nameF ts ns k m = (ts.getD m ByteArray.empty, true)) := by unfold Hid; simp [nameF, *]
        clear h1 hc ht hn
        generalize ts.getD m ByteArray.empty = x at *
        go_enter Try.func59, Try.ntmps59
        go_wp2
        go_returns
        exact ⟨by rw [HE.out]; rfl, fin⟩
      · by_cases h5 : n = ts.length
        · have HE : Hid (nameF ts ns k n = (⟨#[36]⟩, true)) := by unfold Hid; simp [nameF, *]
          have g3 : (n == (ts.length : Int)) = true := by simp [h5]
          clear h1 h5
          go_enter Try.func59, Try.ntmps59
          go_wp2
          go_returns
          exact ⟨by rw [HE.out]; rfl, fin⟩
        · have HE : Hid (nameF ts ns k n = (⟨#[]⟩, false)) := by unfold Hid; simp [nameF, *]
          have g3 : (n == (ts.length : Int)) = false := by simp [h5]
          clear h1
          go_enter Try.func59, Try.ntmps59
          go_wp2
          go_returns
          exact ⟨by rw [HE.out]; rfl, fin⟩
    · have HE : Hid (nameF ts ns k n = (⟨#[]⟩, false)) := by
        unfold Hid
        have : ¬ n = ts.length := by omega
        simp [nameF, *]
      have g3 : (n == (ts.length : Int)) = false := by simp; omega
      clear h1
      go_enter Try.func59, Try.ntmps59
      go_wp2
      go_returns
      exact ⟨by rw [HE.out]; rfl, fin⟩
  have g1 : (k == 1) = false := by simp [h1]
  by_cases h2 : k = 2
  · have g2 : (k == 2) = true := by simp [h2]
    by_cases h3 : 0 ≤ n
    · by_cases h4 : n < ns.length
      · obtain ⟨m, rfl⟩ : ∃ m : Nat, n = m := ⟨n.toNat, by omega⟩
        have hm : m < ns.length := by omega
        obtain ⟨b, off, rfl, hlt, hc⟩ := hn (by intro e; subst e; simp at hm)
        have cc := hc m hm
        have HE : Hid (nameF ts ns k m = (ns.getD m ByteArray.empty, true)) := by unfold Hid; simp [nameF, *]
        clear h2 hc ht hn
        generalize ns.getD m ByteArray.empty = x at *
        go_enter Try.func59, Try.ntmps59
        go_wp2
        go_returns
        exact ⟨by rw [HE.out]; rfl, fin⟩
      · have HE : Hid (nameF ts ns k n = (⟨#[]⟩, false)) := by unfold Hid; simp [nameF, *]
        clear h2
        go_enter Try.func59, Try.ntmps59
        go_wp2
        go_returns
        exact ⟨by rw [HE.out]; rfl, fin⟩
    · have HE : Hid (nameF ts ns k n = (⟨#[]⟩, false)) := by unfold Hid; simp [nameF, *]
      clear h2
      go_enter Try.func59, Try.ntmps59
      go_wp2
      go_returns
      exact ⟨by rw [HE.out]; rfl, fin⟩
  · have g2 : (k == 2) = false := by simp [h2]
    have HE : Hid (nameF ts ns k n = (⟨#[]⟩, false)) := by unfold Hid; simp [nameF, *]
    go_enter Try.func59, Try.ntmps59
    go_wp2
    go_returns
    exact ⟨by rw [HE.out]; rfl, fin⟩
end Go.Proofs.Ytfckmbdcfeljiaa
