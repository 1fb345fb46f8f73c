import Derived.Test.YtfckmbdcfeljiaaSBld
import Derived.Test.YtfckmbdcfeljiaaBSym
namespace Go.Proofs.Ytfckmbdcfeljiaa
set_option linter.unusedVariables false
open Go.RowKit Go.Shelf

def nameU (ts ns : List ByteArray) (q : Int × Int) : List UInt8 := (nameF ts ns q.1 q.2).1.data.toList
def okN (ts ns : List ByteArray) (q : Int × Int) : Bool := (nameF ts ns q.1 q.2).2
theorem join_step (xs : List (List UInt8)) (x : List UInt8) (k : Nat) (hk : k = xs.length) : joinU (xs ++ [x]) = if k = 0 then x else joinU xs ++ [32] ++ x := by
  subst hk
  cases xs with
  | nil => rfl
  | cons y r => rw [joinU_snoc _ _ (by simp), if_neg (by simp)]; simp
theorem join_bound (ts ns : List ByteArray) (l : List (Int × Int)) (hz : ∀ q ∈ l, (nameF ts ns q.1 q.2).1.size ≤ 32) (hl : l.length ≤ 1048576) (k : Nat) : (joinU ((l.take k).map (nameU ts ns))).length ≤ 34603008 := by
  have := joinU_len ((l.take k).map (nameU ts ns)) 32 fun x hx => by
    obtain ⟨q, hq, rfl⟩ := List.mem_map.1 hx
    have := hz q (List.mem_of_mem_take hq)
    show ((nameF ts ns q.1 q.2).1.data.toList).length ≤ 32
    rw [Array.length_toList]
    exact this
  simp only [List.length_map, List.length_take] at this
  have : min k l.length ≤ 1048576 := Nat.le_trans (Nat.min_le_right _ _) hl
  omega
end Go.Proofs.Ytfckmbdcfeljiaa
