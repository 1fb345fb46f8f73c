import Derived.Test.YtfckmbdcfeljiaaSCheckN1
namespace Go.Proofs.Ytfckmbdcfeljiaa
set_option linter.unusedVariables false
open Go.RowKit Go.Maps

end Go.Proofs.Ytfckmbdcfeljiaa
