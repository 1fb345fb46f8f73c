import Derived.Test.YtboabidokkghbaaGreatBBaseToGRow
import Derived.Test.YtboabidokkghbaaGreatWText
import Derived.Test.YtboabidokkghbaaGreatSameToSums0
namespace Go.Proofs.YtboabidokkghbaaGreat
set_option linter.unusedVariables false
open Go.RowKit

section
variable {w0 wr w' : World} {p q : Nat} {v v' : Value} {xs xs' : List Int}
end
/-- A list's bytes. -/
def encL {α : Type} (f : α → List Int) (l : List α) : List Int := C.enc 10 l.length ++ l.flatMap f
theorem flat_le {α : Type} (f : α → List Int) (l : List α) (k : Nat) : ((l.take k).flatMap f).length ≤ (l.flatMap f).length := by
  conv => rhs; rw [← List.take_append_drop k l, List.flatMap_append, List.length_append]
  omega
theorem flat_succ {α : Type} (f : α → List Int) (l : List α) (k : Nat) (d : α) (h : k < l.length) : (l.take (k + 1)).flatMap f = (l.take k).flatMap f ++ f (l.getD k d) := by
  rw [List.take_succ_eq_append_getElem h, List.flatMap_append]
  simp [List.getD, h]
/-- The bytes of a text. -/
def encS (s : ByteArray) : List Int := C.enc 10 s.size ++ C.strBytes s
/-- The bytes of a number. -/
def encI (n : Int) : List Int := C.enc 10 n
end Go.Proofs.YtboabidokkghbaaGreat
namespace Go.Proofs.YtboabidokkghbaaGreat
set_option linter.unusedVariables false
open Go.RowKit

/-- The bytes of a symbol. -/
def encY (s : Int × Int) : List Int := C.enc 10 (2 * s.2 + if s.1 = 2 then 1 else 0)
/-- The bytes of a production. -/
def encP (p : PV) : List Int := C.enc 10 p.left ++ (encL encY p.right ++ C.enc 10 (C.foldS p.prec))
/-- What may be of a production. -/
structure OkP (P : PV) : Prop where
  l : P.right.length ≤ 1048576
  h0 : 0 ≤ P.left ∧ P.left ≤ 1048576
  h1 : -1 ≤ P.prec ∧ P.prec ≤ 1048576
  z : ∀ s ∈ P.right, 0 ≤ s.2 ∧ s.2 ≤ 1048576
end Go.Proofs.YtboabidokkghbaaGreat
