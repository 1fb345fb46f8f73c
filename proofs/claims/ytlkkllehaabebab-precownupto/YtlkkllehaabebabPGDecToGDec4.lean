import Derived.Test.YtlkkllehaabebabPGEncToGEnc2
import Derived.Test.YtlkkllehaabebabPCountToBack0
namespace Go.Proofs.Ytlkkllehaabebab
set_option linter.unusedVariables false
set_option maxRecDepth 100000
set_option maxHeartbeats 16000000
open Go.RowKit
section
variable {wr : World} {r : Nat} {ao : Option Addr} {N cap : Nat} {zs : List Int} {pos : Nat}
end
end Go.Proofs.Ytlkkllehaabebab
namespace Go.Proofs.Ytlkkllehaabebab
set_option linter.unusedVariables false
set_option maxRecDepth 100000
set_option maxHeartbeats 16000000
open Go.RowKit
end Go.Proofs.Ytlkkllehaabebab
