import Derived.Test.YtjpknihkcndoiaaGreatPBBaseToGRow
import Derived.Test.YtjpknihkcndoiaaGreatPWText
import Derived.Test.YtjpknihkcndoiaaGreatPPlainToSums0
namespace Go.Proofs.YtjpknihkcndoiaaGreat
set_option linter.unusedVariables false
set_option maxRecDepth 100000
set_option maxHeartbeats 16000000
open Go.RowKit
section
variable {w0 wr w' : World} {p q : Nat} {v v' : Value} {xs xs' : List Int}
end
end Go.Proofs.YtjpknihkcndoiaaGreat
