import Derived.Test.YtfckmbdcfeljiaaSExt
import Derived.Deep.RegionHeld3
namespace Go.Proofs.Ytfckmbdcfeljiaa
set_option linter.unusedVariables false
open Go.RowKit

def denseF (T k n : Int) : Int × Int := if T < 0 then (0, 1) else if 64 < T then (0, 1) else if k = 1 then (if 0 ≤ n then (if n ≤ T then (n, 0) else (0, 35)) else (0, 35)) else if k = 2 then (if 0 ≤ n then (if n < 64 then (T + 1 + n, 0) else (0, 35)) else (0, 35)) else (0, 35)
def sparseF (T N n : Int) : Int × Int × Int := if T < 0 then (0, 0, 1) else if 64 < T then (0, 0, 1) else if N < 0 then (0, 0, 1) else if 64 < N then (0, 0, 1) else if n < 0 then (0, 0, 35) else if T + N < n then (0, 0, 35) else if n ≤ T then (1, n, 0) else (2, n - T - 1, 0)
/-- A box that holds a symbol. -/
structure BoxAt (w : World) (q : Nat) (k n : Int) : Prop where
  c0 : w.cell? ⟨q, 0, none⟩ = some (.int .i64 k)
  c1 : w.cell? ⟨q, 1, none⟩ = some (.int .i64 n)
  lt : q < w.heap.size
theorem BoxAt.later {w w' : World} {q : Nat} {k n : Int} (h : BoxAt w q k n) (hb : Below w.heap.size w w') : BoxAt w' q k n :=
  ⟨(hb.cell (p := ⟨q, 0, none⟩) h.lt).trans h.c0, (hb.cell (p := ⟨q, 1, none⟩) h.lt).trans h.c1, Nat.lt_of_lt_of_le h.lt hb.size⟩
theorem boxAt_new (w : World) (k n : Int) (t : TypeId) : BoxAt (w.alloc (.cells #[.int .i64 k, .int .i64 n] t)) w.heap.size k n := by
  have h : (w.alloc (.cells #[.int .i64 k, .int .i64 n] t)).heap[w.heap.size]? = some (.cells #[.int .i64 k, .int .i64 n] t (0, 0)) := heap_alloc_new w _
  exact ⟨by rw [cellq_any h]; rfl, by rw [cellq_any h]; rfl, by simp⟩
theorem BoxAt.alloc {w : World} {q : Nat} {k n : Int} (h : BoxAt w q k n) (o : Obj) : BoxAt (w.alloc o) q k n := h.later (below_alloc w o)
theorem BoxAt.ext {w : World} {q : Nat} {k n : Int} (h : BoxAt w q k n) (x : Ext w) : x.w.cell? ⟨q, 0, none⟩ = some (.int .i64 k) ∧ x.w.cell? ⟨q, 1, none⟩ = some (.int .i64 n) := ⟨(x.cell h.lt).trans h.c0, (x.cell h.lt).trans h.c1⟩
end Go.Proofs.Ytfckmbdcfeljiaa
