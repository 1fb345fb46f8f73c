import Derived.Test.YtndjcbcdjcnniaaSCheck
namespace Go.Proofs.Ytndjcbcdjcnniaa
set_option linter.unusedVariables false
open Go.RowKit Go.Maps

set_option maxRecDepth 100000 in
set_option maxHeartbeats 2000000 in
theorem cn_terms (a1 a2 : Option Addr) (c1 c2 : Nat) (ts ns : List ByteArray) (w : World) (k1 : (ts.length : Int) > 64) :
    Calls Try.prog 8 #[.slice a1 ts.length c1, .slice a2 ns.length c2] w fun e w' => ∃ er at_, e = .returned (.tuple #[.int .i64 er, .int .i64 at_]) ∧ er = 31 ∧ at_ = 0 ∧ Below w.heap.size w w' := by
  go_enter Try.func8, Try.ntmps8
  go_wp2
  go_returns
  exact ⟨_, _, rfl, rfl, rfl, Below.refl _ _⟩
set_option maxRecDepth 100000 in
set_option maxHeartbeats 2000000 in
theorem cn_nons (a1 a2 : Option Addr) (c1 c2 : Nat) (ts ns : List ByteArray) (w : World) (k1 : ¬ (ts.length : Int) > 64) (k2 : (ns.length : Int) > 64) :
    Calls Try.prog 8 #[.slice a1 ts.length c1, .slice a2 ns.length c2] w fun e w' => ∃ er at_, e = .returned (.tuple #[.int .i64 er, .int .i64 at_]) ∧ er = 32 ∧ at_ = 0 ∧ Below w.heap.size w w' := by
  go_enter Try.func8, Try.ntmps8
  go_wp2
  go_returns
  exact ⟨_, _, rfl, rfl, rfl, Below.refl _ _⟩
/-- What the first list's check is known to do. -/
def CN1 (a1 : Option Addr) (c1 : Nat) (ts : List ByteArray) (w : World) (er at_ : Int) (sn : List ByteArray) : Prop :=
  Calls Try.prog 34 #[.slice a1 ts.length c1, .func (.func 35) #[] #[], .map (some w.heap.size)] (w.alloc (.map #[] 0)) fun e w1 => e = .returned (.tuple #[.int .i64 er, .int .i64 at_]) ∧ ∃ D1, w1.ownsMap Try.prog 9 unitElem w.heap.size (Maps.size D1) D1 ∧ USet D1 sn ∧ Below w.heap.size w w1
/-- And the second's. -/
def CN2 (a2 : Option Addr) (c2 : Nat) (ns : List ByteArray) (w : World) (sn1 : List ByteArray) (er at_ : Int) (sn : List ByteArray) : Prop :=
  ∀ (w1 : World), (∃ D1, w1.ownsMap Try.prog 9 unitElem w.heap.size (Maps.size D1) D1 ∧ USet D1 sn1 ∧ Below w.heap.size w w1) →
    Calls Try.prog 34 #[.slice a2 ns.length c2, .func (.func 36) #[] #[], .map (some w.heap.size)] w1 fun e w2 => e = .returned (.tuple #[.int .i64 er, .int .i64 at_]) ∧ ∃ D2, w2.ownsMap Try.prog 9 unitElem w.heap.size (Maps.size D2) D2 ∧ USet D2 sn ∧ Below w.heap.size w w2
end Go.Proofs.Ytndjcbcdjcnniaa
