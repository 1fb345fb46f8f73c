import Derived.Test.YtccednepbkjajaaPBBaseToGRow
import Derived.Test.YtccednepbkjajaaPPlainToWText
namespace Go.Proofs.Ytccednepbkjajaa
set_option linter.unusedVariables false
open Go.RowKit
section
variable {w0 wr w' : World} {p q : Nat} {v v' : Value} {xs xs' : List Int}
end
end Go.Proofs.Ytccednepbkjajaa
namespace Go.Proofs.Ytccednepbkjajaa
set_option linter.unusedVariables false
open Go.RowKit
end Go.Proofs.Ytccednepbkjajaa
namespace Go.Proofs.Ytccednepbkjajaa.C
set_option linter.unusedVariables false
open Go.RowKit
structure ROnly (w w' : World) (r : Nat) : Prop where
 os : w'.os = w.os
 tape : w'.tape = w.tape
 output : w'.output = w.output
 size : w.heap.size <= w'.heap.size
 block : ∀ k, k < w.heap.size -> k ≠ r -> w'.heap[k]? = w.heap[k]?
theorem ROnly.refl (w : World) (r : Nat) : ROnly w w r := ⟨rfl, rfl, rfl, Nat.le_refl _, fun _ _ _ => rfl⟩
theorem ROnly.trans {a b c : World} {r : Nat} (h : ROnly a b r) (k : ROnly b c r) : ROnly a c r :=
 ⟨k.os.trans h.os, k.tape.trans h.tape, k.output.trans h.output, Nat.le_trans h.size k.size, fun i hi hr => (k.block i (Nat.lt_of_lt_of_le hi h.size) hr).trans (h.block i hi hr)⟩
theorem ROnly.below {w w' : World} {r B : Nat} (h : ROnly w w' r) (hB : B <= r) (hw : B <= w.heap.size) : Below B w w' := ⟨h.os, h.tape, h.output, h.size, fun k hk => h.block k (by omega) (by omega)⟩
theorem ROnly.set (w : World) (r o : Nat) (u : Value) : ROnly w (w.setCell ⟨r, o, none⟩ u) r := ⟨rfl, rfl, rfl, by simp [World.setCell], fun k _ hk => Below.heap_setCell _ _ _ _ hk⟩
section
variable {w : World} {r : Nat} {ao : Option Addr} {N cap : Nat} {xs : List Int} {pos : Nat} {err : Int}
end
end Go.Proofs.Ytccednepbkjajaa.C
namespace Go.Proofs.Ytccednepbkjajaa.C
set_option linter.unusedVariables false
open Go.RowKit
theorem four {l : List Int} (h : l.length = 4) : ∃ a b c d, l = [a, b, c, d] := by
 match l, h with
 | [a, b, c, d], _ => exact ⟨a, b, c, d, rfl⟩
end Go.Proofs.Ytccednepbkjajaa.C
namespace Go.Proofs.Ytccednepbkjajaa.C
set_option linter.unusedVariables false
open Go.RowKit
end Go.Proofs.Ytccednepbkjajaa.C
namespace Go.Proofs.Ytccednepbkjajaa.C
set_option linter.unusedVariables false
open Go.RowKit
end Go.Proofs.Ytccednepbkjajaa.C
namespace Go.Proofs.Ytccednepbkjajaa.C
set_option linter.unusedVariables false
open Go.RowKit
end Go.Proofs.Ytccednepbkjajaa.C
namespace Go.Proofs.Ytccednepbkjajaa.C
set_option linter.unusedVariables false
open Go.RowKit
end Go.Proofs.Ytccednepbkjajaa.C
namespace Go.Proofs.Ytccednepbkjajaa.C
set_option linter.unusedVariables false
open Go.RowKit
end Go.Proofs.Ytccednepbkjajaa.C
namespace Go.Proofs.Ytccednepbkjajaa.C
set_option linter.unusedVariables false
open Go.RowKit
structure PutV where
 what : Int
 V : Int
 N : Int
 s : ByteArray
def PutV.none : PutV := ⟨0, 0, 0, .empty⟩
structure PutV.ok (p : PutV) : Prop where
 w0 : -9223372036854775808 <= p.what
 w1 : p.what <= 9223372036854775807
 v0 : 0 <= p.V
 v1 : p.V <= 18446744073709551615
 n0 : -9223372036854775808 <= p.N
 n1 : p.N <= 9223372036854775807
 s1 : p.s.size <= 2000000
def PutsAt (w : World) (ao : Option Addr) (ps : List PutV) : Prop :=
 (∀ p ∈ ps, p.ok) /\ (ps ≠ [] -> ∃ b off, ao = some ⟨b, off, Option.none⟩ /\ ∀ i, i < ps.length ->
  w.cell? ⟨b, off + i * 4, Option.none⟩ = some (.int .i64 (ps.getD i .none).what) /\ w.cell? ⟨b, off + i * 4 + 1, Option.none⟩ = some (.int .u64 (ps.getD i .none).V) /\
  w.cell? ⟨b, off + i * 4 + 2, Option.none⟩ = some (.int .i64 (ps.getD i .none).N) /\ w.cell? ⟨b, off + i * 4 + 3, Option.none⟩ = some (.string (ps.getD i .none).s))
theorem PutsAt.later {w w' : World} {ao : Option Addr} {ps : List PutV} (h : PutsAt w ao ps) (hb : Below w.heap.size w w') : PutsAt w' ao ps := by
 refine ⟨h.1, fun hne => ?_⟩
 obtain ⟨b, off, he, hc⟩ := h.2 hne
 refine ⟨b, off, he, fun i hi => ?_⟩
 obtain ⟨c0, c1, c2, c3⟩ := hc i hi
 exact ⟨(hb.cell (p := ⟨b, off + i * 4, Option.none⟩) (World.block_lt_of_cell? w _ c0)).trans c0, (hb.cell (p := ⟨b, off + i * 4 + 1, Option.none⟩) (World.block_lt_of_cell? w _ c1)).trans c1, (hb.cell (p := ⟨b, off + i * 4 + 2, Option.none⟩) (World.block_lt_of_cell? w _ c2)).trans c2, (hb.cell (p := ⟨b, off + i * 4 + 3, Option.none⟩) (World.block_lt_of_cell? w _ c3)).trans c3⟩
end Go.Proofs.Ytccednepbkjajaa.C
namespace Go.Proofs.Ytccednepbkjajaa.C
set_option linter.unusedVariables false
open Go.RowKit
end Go.Proofs.Ytccednepbkjajaa.C
