import Derived.Test.YtjpknihkcndoiaaGreatPPlainToSums0
namespace Go.Proofs.YtjpknihkcndoiaaGreat.C
set_option linter.unusedVariables false
set_option maxRecDepth 100000
set_option maxHeartbeats 16000000
open Go.RowKit
structure ROnly (w w' : World) (r : Nat) : Prop where
 os : w'.os = w.os
 tape : w'.tape = w.tape
 output : w'.output = w.output
 size : w.heap.size <= w'.heap.size
 block : ∀ k, k < w.heap.size -> k ≠ r -> w'.heap[k]? = w.heap[k]?
theorem ROnly.refl (w : World) (r : Nat) : ROnly w w r := ⟨rfl, rfl, rfl, Nat.le_refl _, fun _ _ _ => rfl⟩
theorem ROnly.trans {a b c : World} {r : Nat} (h : ROnly a b r) (k : ROnly b c r) : ROnly a c r :=
 ⟨k.os.trans h.os, k.tape.trans h.tape, k.output.trans h.output, Nat.le_trans h.size k.size, fun i hi hr => (k.block i (Nat.lt_of_lt_of_le hi h.size) hr).trans (h.block i hi hr)⟩
theorem ROnly.ofBelow {w w' : World} {r : Nat} (h : Below w.heap.size w w') : ROnly w w' r := ⟨h.os, h.tape, h.output, h.size, fun k hk _ => h.block k hk⟩
theorem ROnly.below {w w' : World} {r B : Nat} (h : ROnly w w' r) (hB : B <= r) (hw : B <= w.heap.size) : Below B w w' := ⟨h.os, h.tape, h.output, h.size, fun k hk => h.block k (by omega) (by omega)⟩
theorem ROnly.set (w : World) (r o : Nat) (u : Value) : ROnly w (w.setCell ⟨r, o, none⟩ u) r := ⟨rfl, rfl, rfl, by simp [World.setCell], fun k _ hk => Below.heap_setCell _ _ _ _ hk⟩
section
variable {w : World} {r : Nat} {ao : Option Addr} {N cap : Nat} {xs : List Int} {pos : Nat} {err : Int}
end
theorem four {l : List Int} (h : l.length = 4) : ∃ a b c d, l = [a, b, c, d] := by
 match l, h with
 | [a, b, c, d], _ => exact ⟨a, b, c, d, rfl⟩
end Go.Proofs.YtjpknihkcndoiaaGreat.C
