import Derived.Test.YtboabidokkghbaaGreatGEncToGEnc2
import Derived.Test.YtboabidokkghbaaGreatGCheckCToGCheckD
namespace Go.Proofs.YtboabidokkghbaaGreat
set_option linter.unusedVariables false
open Go.RowKit

/-- The bytes of a level. -/
def encV (l : LV) : List Int := C.enc 10 l.assoc ++ encL encI l.terms
/-- What may be of a level. -/
structure OkV (P : LV) : Prop where
  l : P.terms.length ≤ 1048576
  h0 : 0 ≤ P.assoc ∧ P.assoc ≤ 1048576
  z : ∀ s ∈ P.terms, 0 ≤ s ∧ s ≤ 9223372036854775807
/-- A grammar's body. -/
def encG (g : GV) : List Int := encL encS g.ts ++ (encL encS g.ns ++ (C.enc 10 g.start ++ (encL encP g.ps ++ encL encV g.ls)))
/-- What Encode wants of a grammar. -/
structure OkG (g : GV) : Prop where
  ts : ∀ s ∈ g.ts, s.size ≤ 1000000000
  ns : ∀ s ∈ g.ns, s.size ≤ 1000000000
  st : 0 ≤ g.start ∧ g.start ≤ 1048576
  ps : ∀ s ∈ g.ps, OkP s
  ls : ∀ s ∈ g.ls, OkV s
  len : (encG g).length ≤ 16777216
end Go.Proofs.YtboabidokkghbaaGreat
