import Derived.Test.YtfgdpmcpjpceoaaPRegX
import Derived.OrdersIn
import Derived.TacticsIn
namespace Go.Proofs.Ytfgdpmcpjpceoaa
set_option linter.unusedVariables false
set_option maxRecDepth 100000
set_option maxHeartbeats 16000000
open Go.RowKit
section
variable {F : Fence} {n : Nat} {P : Program} {ops : Array Oper} {Q : Exit -> Act -> World -> Prop} {md : Region.Mode} {S : Array Bool -> World -> Prop}
end
end Go.Proofs.Ytfgdpmcpjpceoaa
