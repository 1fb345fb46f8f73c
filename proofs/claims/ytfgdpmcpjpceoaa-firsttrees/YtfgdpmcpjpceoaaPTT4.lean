import Derived.Test.YtfgdpmcpjpceoaaPTT3
namespace Go.Proofs.Ytfgdpmcpjpceoaa
set_option linter.unusedVariables false
set_option maxRecDepth 100000
set_option maxHeartbeats 16000000
open Go.RowKit
end Go.Proofs.Ytfgdpmcpjpceoaa
