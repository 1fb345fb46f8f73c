import Derived.Test.YtfckmbdcfeljiaaSBackP
import Derived.Shelf.Strings.Builder1
import Derived.Shelf.Small.Strs
namespace Go.Proofs.Ytfckmbdcfeljiaa
set_option linter.unusedVariables false
open Go.RowKit Go.Shelf

def bldRen : Ren := ⟨fun x => if x = 240 then 0 else if x = 276 then 0 else if x = 166 then 0 else if x = 167 then 0 else if x = 169 then 0 else if x = 137 then 48 else if x = 217 then 62 else if x = 266 then 65 else x,
  fun x => if x = 37 then 90 else if x = 70 then 0 else if x = 72 then 0 else if x = 75 then 0 else if x = 77 then 0 else if x = 78 then 0 else if x = 80 then 141 else if x = 127 then 140 else if x = 164 then 156 else if x = 165 then 0 else if x = 55 then 89 else x, fun x => x⟩
theorem bld137 : Lays.n137 Try.prog bldRen where
  mixed := by kernel_rfl
  f137 := by kernel_rfl
  f217 := by kernel_rfl
  f266 := by kernel_rfl
  t3 := by kernel_rfl
  a3 := fun _ => by kernel_rfl
  z3 := fun _ => by kernel_rfl
  v3 := fun _ => by kernel_rfl
  t5 := by kernel_rfl
  a5 := fun _ => by kernel_rfl
  z5 := fun _ => by kernel_rfl
  v5 := fun _ => by kernel_rfl
  t9 := by kernel_rfl
  a9 := fun _ => by kernel_rfl
  z9 := fun _ => by kernel_rfl
  v9 := fun _ => by kernel_rfl
end Go.Proofs.Ytfckmbdcfeljiaa
