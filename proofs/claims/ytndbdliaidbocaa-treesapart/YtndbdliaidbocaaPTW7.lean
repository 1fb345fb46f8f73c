import Derived.Test.YtndbdliaidbocaaPTW5ToTW6
namespace Go.Proofs.Ytndbdliaidbocaa
set_option linter.unusedVariables false
open Go.RowKit
theorem ib_cell {w : World} {b : Nat} {x : Int} (h : w.heap[b]? = some (iBox x)) : w.cell? ⟨b, 0, none⟩ = some (.int .i64 x) /\ w.frozen? ⟨b, 0, none⟩ = false := ⟨(cellq_any h).trans rfl, by simp [World.frozen?, h]⟩
theorem ib_ne {w : World} {b c : Nat} {o : Obj} (h : w.heap[c]? = some o) (hn : c ≠ b) (v : Value) : (w.setCell ⟨b, 0, none⟩ v).heap[c]? = some o := (Below.heap_setCell _ _ _ _ hn).trans h
section
variable {N b : Nat} {m : MS} {w0 wb w : World}
end
end Go.Proofs.Ytndbdliaidbocaa
