import Derived.Test.YtlkkllehaabebaaPGG0ToGG2
import Derived.Test.YtlkkllehaabebaaPGCheckPToGSame2
namespace Go.Proofs.Ytlkkllehaabebaa
set_option linter.unusedVariables false
set_option maxRecDepth 100000
set_option maxHeartbeats 16000000
open Go.RowKit
end Go.Proofs.Ytlkkllehaabebaa
