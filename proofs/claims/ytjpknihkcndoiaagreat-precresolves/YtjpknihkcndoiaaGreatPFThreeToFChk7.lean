import Derived.Test.YtjpknihkcndoiaaGreatPFRoundToFChk6
namespace Go.Proofs.YtjpknihkcndoiaaGreat
set_option linter.unusedVariables false
set_option maxRecDepth 100000
set_option maxHeartbeats 16000000
open Go.RowKit
section
variable {P : Program} {ops : Array Oper} {Q : Exit -> Act -> World -> Prop} {md : Region.Mode} {S : Array Bool -> World -> Prop}
end
end Go.Proofs.YtjpknihkcndoiaaGreat
namespace Go.Proofs.YtjpknihkcndoiaaGreat
set_option linter.unusedVariables false
set_option maxRecDepth 100000
set_option maxHeartbeats 16000000
open Go.RowKit
theorem takeF {P : Program} {ops : Array Oper} {Q : Exit -> Act -> World -> Prop} {md : Region.Mode} {i : Nat} {oi : Oper} {v : Value} {S0 : World -> Prop} {fuel : Nat} {listed : Array Bool} {a : Act} {w : World} (hi' : ops.toList[i]? = some oi)
  (hs : Region.noSelect ops = true) (hf : Region.free md ops listed i = true) (hr : (Region.ready md ops listed).contains i = true)
  (hQ : ∀ c a w, Q (.panic c) (a.put oi.dst v) w -> Q (.panic c) a w) (hy : YieldsIf P ops S0 oi v a) (hS : S0 w)
  (h : wpAnyX P md ops Q (fun _ => S0) fuel (listed.setIfInBounds i true) (a.put oi.dst v) w) : wpAnyX P md ops Q (fun _ => S0) (fuel + 1) listed a w :=
 have hi : ops[i]? = some oi := by rw [<- Array.getElem?_toList]; exact hi'
 wpAnyX_first (Cl := fun _ => True) (T := S0) hi (Region.noSelect_spec hs) hQ (fun _ _ _ _ => trivial) (fun _ _ _ _ h => h) (fun _ _ => Iff.rfl) fuel listed a w (Region.free_spec hi hf) (by simpa using hr) trivial hy hS h
end Go.Proofs.YtjpknihkcndoiaaGreat
