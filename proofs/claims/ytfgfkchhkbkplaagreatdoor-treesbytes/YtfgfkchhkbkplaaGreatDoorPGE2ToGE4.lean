import Derived.Test.YtfgfkchhkbkplaaGreatDoorPGDecToGE1
import Derived.Test.YtfgfkchhkbkplaaGreatDoorPRMoreToRMore2
namespace Go.Proofs.YtfgfkchhkbkplaaGreatDoor
set_option linter.unusedVariables false
open Go.RowKit
abbrev XE (wr : World) (r : Nat) (ao : Option Addr) (N cap : Nat) (zs : List Int) (p : Nat) (er : Int) (val : Value) (e : Ending) (w' : World) : Prop := e = .returned val /\ C.RInv w' r ao N cap zs p er /\ C.ROnly wr w' r
section
variable {wr : World} {r : Nat} {ao : Option Addr} {N cap : Nat} {zs : List Int} {pos : Nat} {err : Int}
end
end Go.Proofs.YtfgfkchhkbkplaaGreatDoor
