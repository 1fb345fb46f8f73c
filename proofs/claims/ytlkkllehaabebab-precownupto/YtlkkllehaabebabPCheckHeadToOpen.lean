import Derived.Test.YtlkkllehaabebabPPlainToHead
import Derived.Test.YtlkkllehaabebabPOwnToAppStr
import Derived.Deep.QuietTactic
import Derived.BigQuiet
namespace Go.Proofs.Ytlkkllehaabebab.C
set_option linter.unusedVariables false
set_option maxRecDepth 100000
set_option maxHeartbeats 16000000
open Go.RowKit
def headBytes (k : Int) : List Int := [103, 116, 114, k]
def sumBytes (s : Int) : List Int := [s / 16777216, s / 65536 % 256, s / 256 % 256, s % 256]
def lead (k : Int) (xs : List Int) : List Int := headBytes k ++ enc 10 xs.length ++ xs
def frame (k : Int) (xs : List Int) : List Int := lead k xs ++ sumBytes (adler (lead k xs))
theorem lim (k : Nat) (hk : k <= 9) (d : Int) (h1 : d < 128) (h9 : k = 9 -> d <= 1) : d * 128 ^ k < 18446744073709551616 := by
 have h : k = 0 ∨ k = 1 ∨ k = 2 ∨ k = 3 ∨ k = 4 ∨ k = 5 ∨ k = 6 ∨ k = 7 ∨ k = 8 ∨ k = 9 := by omega
 rcases h with rfl | rfl | rfl | rfl | rfl | rfl | rfl | rfl | rfl | rfl <;> simp at h9 ⊢ <;> omega
end Go.Proofs.Ytlkkllehaabebab.C
namespace Go.Proofs.Ytlkkllehaabebab.C
set_option linter.unusedVariables false
set_option maxRecDepth 100000
set_option maxHeartbeats 16000000
open Go.RowKit
theorem RowAt.drop {w : World} {b off : Nat} {xs : List Int} (h : RowAt w (some ⟨b, off, none⟩) xs) (n : Nat) : RowAt w (some ⟨b, off + n, none⟩) (xs.drop n) := by
 refine ⟨isBytes_drop h.1 n, fun hne => ⟨b, off + n, rfl, fun i hi => ?_⟩⟩
 have hx : xs ≠ [] := fun e => hne (by rw [e]; simp)
 obtain ⟨b', off', he, hc⟩ := h.2 hx
 simp only [Option.some.injEq, Addr.mk.injEq, and_true] at he
 obtain ⟨rfl, rfl⟩ := he
 simp only [List.length_drop] at hi
 have := hc (n + i) (by omega)
 rw [show off + (n + i) = off + n + i by omega] at this
 rw [this]; simp [List.getD]
theorem RowAt.take {w : World} {ao : Option Addr} {xs : List Int} (h : RowAt w ao xs) (n : Nat) : RowAt w ao (xs.take n) := by
 refine ⟨isBytes_take h.1 n, fun hne => ?_⟩
 have hx : xs ≠ [] := fun e => hne (by rw [e]; simp)
 obtain ⟨b, off, rfl, hc⟩ := h.2 hx
 refine ⟨b, off, rfl, fun i hi => ?_⟩
 simp only [List.length_take] at hi
 rw [hc i (by omega)]
 simp [List.getD, show i < n by omega]
theorem RowAt.drewN {w : World} {ao : Option Addr} {xs : List Int} (h : RowAt w ao xs) (n : Nat) : RowAt (w.drewN n) ao xs := h.later (below_drewN (Below.refl _ _) n)
end Go.Proofs.Ytlkkllehaabebab.C
