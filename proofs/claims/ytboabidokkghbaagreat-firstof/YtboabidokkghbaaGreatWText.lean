import Derived.Test.YtboabidokkghbaaGreatOwnToAppStr
import Derived.Deep.RegionLaw
import Derived.Test.YtboabidokkghbaaGreatSameToSums0
namespace Go.Proofs.YtboabidokkghbaaGreat.C
set_option linter.unusedVariables false
open Go.RowKit

theorem enc_ne (n : Int) : enc 10 n ≠ [] := by
  rw [enc]
  split <;> simp

theorem cell_set_ne {w : World} {p q o o' : Nat} {u : Value} (h : p ≠ q) : (w.setCell ⟨q, o', none⟩ u).cell? ⟨p, o, none⟩ = w.cell? ⟨p, o, none⟩ := World.cell?_of_block (a := ⟨p, o, none⟩) (Below.heap_setCell _ _ _ _ h)
theorem WGrew.refl (w : World) (q : Nat) (v : Value) : WGrew w w q v v := ⟨rfl, rfl, rfl, Nat.le_refl _, fun _ _ _ _ => rfl, .inl rfl⟩
def foldS (n : Int) : Int := if n < 0 then 2 * (-n - 1) + 1 else 2 * n
theorem foldS_bd (n : Int) (h0 : -9223372036854775808 ≤ n) (h1 : n ≤ 9223372036854775807) : 0 ≤ foldS n ∧ foldS n ≤ 18446744073709551615 := by unfold foldS; split <;> omega
theorem xor_ones (n : Int) (h0 : -9223372036854775808 ≤ n) (h1 : n ≤ 9223372036854775807) : bits .xor .i64 (-1) n = -n - 1 := by
  have e : (BitVec.ofInt 64 (-1) ^^^ BitVec.ofInt 64 n).toNat = 18446744073709551615 - (n % 18446744073709551616).toNat := by
    have e1 : BitVec.ofInt 64 (-1) = BitVec.allOnes 64 := by decide
    rw [e1, BitVec.allOnes_xor, BitVec.toNat_not, BitVec.toNat_ofInt]
    simp
  show IntKind.i64.wrap ((BitVec.ofInt 64 (-1) ^^^ BitVec.ofInt 64 n).toNat : Int) = _
  rw [e, IntKind.wrap_i64]
  omega
end Go.Proofs.YtboabidokkghbaaGreat.C
