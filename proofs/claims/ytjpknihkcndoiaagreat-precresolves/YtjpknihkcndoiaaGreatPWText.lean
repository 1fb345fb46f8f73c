import Derived.Test.YtjpknihkcndoiaaGreatPPlainToSums0
import Derived.Deep.RegionLaw
namespace Go.Proofs.YtjpknihkcndoiaaGreat.C
set_option linter.unusedVariables false
set_option maxRecDepth 100000
set_option maxHeartbeats 16000000
open Go.RowKit
theorem WGrew.refl (w : World) (q : Nat) (v : Value) : WGrew w w q v v := ⟨rfl, rfl, rfl, Nat.le_refl _, fun _ _ _ _ => rfl, .inl rfl⟩
end Go.Proofs.YtjpknihkcndoiaaGreat.C
