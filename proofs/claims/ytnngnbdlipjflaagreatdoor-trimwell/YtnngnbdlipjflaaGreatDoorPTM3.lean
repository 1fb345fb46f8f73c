import Derived.Test.YtnngnbdlipjflaaGreatDoorPTM1ToTM2
namespace Go.Proofs.YtnngnbdlipjflaaGreatDoor
set_option linter.unusedVariables false
open Go.RowKit Go.Shelf

end Go.Proofs.YtnngnbdlipjflaaGreatDoor
