import Derived.Test.YtfckmbdcfeljiaaSCheck
namespace Go.Proofs.Ytfckmbdcfeljiaa
set_option linter.unusedVariables false
open Go.RowKit Go.Maps

end Go.Proofs.Ytfckmbdcfeljiaa
