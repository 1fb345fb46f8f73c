import Derived.Test.YtfckmbdcfeljiaaSCheckN2
import Derived.Test.YtfckmbdcfeljiaaSCheckN3
import Derived.Test.YtfckmbdcfeljiaaSCheckN4
namespace Go.Proofs.Ytfckmbdcfeljiaa
set_option linter.unusedVariables false
open Go.RowKit Go.Maps

end Go.Proofs.Ytfckmbdcfeljiaa
