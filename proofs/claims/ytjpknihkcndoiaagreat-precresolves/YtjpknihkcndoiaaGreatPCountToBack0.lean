import Derived.Test.YtjpknihkcndoiaaGreatPReaderToPeek
import Derived.Test.YtjpknihkcndoiaaGreatPWText
namespace Go.Proofs.YtjpknihkcndoiaaGreat.C
set_option linter.unusedVariables false
set_option maxRecDepth 100000
set_option maxHeartbeats 16000000
open Go.RowKit
theorem ROnly.own2 {w w2 : World} {r : Nat} {a b : Value} {t : TypeId} (h : ROnly (w.alloc (.cells #[a, b] t)) w2 r) (hr : r < w.heap.size) :
  w2.heap[w.heap.size]? = some (.cells #[a, b] t) :=
 (h.block w.heap.size (by simp) (by omega)).trans (heap_alloc_new w _)
end Go.Proofs.YtjpknihkcndoiaaGreat.C
namespace Go.Proofs.YtjpknihkcndoiaaGreat.C
set_option linter.unusedVariables false
set_option maxRecDepth 100000
set_option maxHeartbeats 16000000
open Go.RowKit
end Go.Proofs.YtjpknihkcndoiaaGreat.C
namespace Go.Proofs.YtjpknihkcndoiaaGreat.C
set_option linter.unusedVariables false
set_option maxRecDepth 100000
set_option maxHeartbeats 16000000
open Go.RowKit
structure PutV where
 what : Int
 V : Int
 N : Int
 s : ByteArray
def PutV.none : PutV := ⟨0, 0, 0, .empty⟩
structure PutV.ok (p : PutV) : Prop where
 w0 : -9223372036854775808 <= p.what
 w1 : p.what <= 9223372036854775807
 v0 : 0 <= p.V
 v1 : p.V <= 18446744073709551615
 n0 : -9223372036854775808 <= p.N
 n1 : p.N <= 9223372036854775807
 s1 : p.s.size <= 2000000
def PutsAt (w : World) (ao : Option Addr) (ps : List PutV) : Prop :=
 (∀ p ∈ ps, p.ok) /\ (ps ≠ [] -> ∃ b off, ao = some ⟨b, off, Option.none⟩ /\ ∀ i, i < ps.length ->
  w.cell? ⟨b, off + i * 4, Option.none⟩ = some (.int .i64 (ps.getD i .none).what) /\ w.cell? ⟨b, off + i * 4 + 1, Option.none⟩ = some (.int .u64 (ps.getD i .none).V) /\
  w.cell? ⟨b, off + i * 4 + 2, Option.none⟩ = some (.int .i64 (ps.getD i .none).N) /\ w.cell? ⟨b, off + i * 4 + 3, Option.none⟩ = some (.string (ps.getD i .none).s))
theorem PutsAt.later {w w' : World} {ao : Option Addr} {ps : List PutV} (h : PutsAt w ao ps) (hb : Below w.heap.size w w') : PutsAt w' ao ps := by
 refine ⟨h.1, fun hne => ?_⟩
 obtain ⟨b, off, he, hc⟩ := h.2 hne
 refine ⟨b, off, he, fun i hi => ?_⟩
 obtain ⟨c0, c1, c2, c3⟩ := hc i hi
 exact ⟨(hb.cell (p := ⟨b, off + i * 4, Option.none⟩) (World.block_lt_of_cell? w _ c0)).trans c0, (hb.cell (p := ⟨b, off + i * 4 + 1, Option.none⟩) (World.block_lt_of_cell? w _ c1)).trans c1, (hb.cell (p := ⟨b, off + i * 4 + 2, Option.none⟩) (World.block_lt_of_cell? w _ c2)).trans c2, (hb.cell (p := ⟨b, off + i * 4 + 3, Option.none⟩) (World.block_lt_of_cell? w _ c3)).trans c3⟩
end Go.Proofs.YtjpknihkcndoiaaGreat.C
