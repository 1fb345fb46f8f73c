import Derived.Test.YtlkkllehaabebabPOwnToAppStr
import Derived.Deep.QuietTactic
import Derived.BigQuiet
import Derived.Test.YtlkkllehaabebabPCheckHeadToOpen
import Derived.Lib.SlBytesConst
namespace Go.Proofs.Ytlkkllehaabebab.C
set_option linter.unusedVariables false
set_option maxRecDepth 100000
set_option maxHeartbeats 16000000
open Go.RowKit
def Still (w w' : World) : Prop := ∀ B, Below B w w'
theorem Still.refl (w : World) : Still w w := fun B => Below.refl B w
theorem Still.drew {w w' : World} (h : Still w w') : Still w w'.drew := fun B => (h B).drew
theorem Still.trans {w w1 w2 : World} (h : Still w w1) (k : Still w1 w2) : Still w w2 := fun B => (h B).trans (k B)
theorem Still.cell {w w' : World} (h : Still w w') (b o : Nat) : w'.cell? ⟨b, o, none⟩ = w.cell? ⟨b, o, none⟩ := (h (b + 1)).cell (p := ⟨b, o, none⟩) (Nat.lt_succ_self b)
theorem Still.row {w w' : World} (h : Still w w') {ao : Option Addr} {xs : List Int} (hr : RowAt w ao xs) : RowAt w' ao xs := hr.later (h _)
theorem Still.own {w w' : World} (h : Still w w') {v : Value} {xs : List Int} (hr : Own w v xs) : Own w' v xs := hr.kept fun k _ => (h (k + 1)).block k (Nat.lt_succ_self k)
theorem Own.later {w w' : World} {v : Value} {xs : List Int} (h : Own w v xs) (hb : Below w.heap.size w w') : Own w' v xs := h.kept fun k hk => hb.block k (h.lt k hk)
end Go.Proofs.Ytlkkllehaabebab.C
namespace Go.Proofs.Ytlkkllehaabebab.C
set_option linter.unusedVariables false
set_option maxRecDepth 100000
set_option maxHeartbeats 16000000
open Go.RowKit
end Go.Proofs.Ytlkkllehaabebab.C
