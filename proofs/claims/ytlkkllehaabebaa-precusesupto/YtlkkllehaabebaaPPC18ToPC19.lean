import Derived.Test.YtlkkllehaabebaaPPC16ToPC17
import Derived.Lib.SliceRun
namespace Go.Proofs.Ytlkkllehaabebaa
set_option linter.unusedVariables false
set_option maxRecDepth 100000
set_option maxHeartbeats 16000000
open Go.RowKit Go.Maps
structure CV where
 st : Int
 look : Int
 shift : Int
 ra : Option Addr
 rc : Nat
 red : List Int
abbrev CV.val (q : CV) : Value := .agg #[.int .i64 q.st, .int .i64 q.look, .int .i64 q.shift, .slice q.ra q.red.length q.rc]
structure GC (g : GV) (q : CV) (w0 w : World) : Prop where
 gb : w.heap[w0.heap.size]? = some (gBox g)
 cb : w.heap[w0.heap.size + 1]? = some (.cells #[.int .i64 q.st, .int .i64 q.look, .int .i64 q.shift, .slice q.ra q.red.length q.rc] 70 (0, 0))
 bel : Below w0.heap.size w0 w
theorem GC.later {g : GV} {q : CV} {w0 w w' : World} (h : GC g q w0 w) (hb : Below w.heap.size w w') : GC g q w0 w' := ⟨blk_later h.gb hb, blk_later h.cb hb, h.bel.trans (hb.mono h.bel.size)⟩
theorem GC.new (g : GV) (q : CV) (w : World) : GC g q w ((w.alloc (gBox g)).alloc (.cells #[.int .i64 q.st, .int .i64 q.look, .int .i64 q.shift, .slice q.ra q.red.length q.rc] 70)) :=
 ⟨blk_later (heap_alloc_new _ _) (below_alloc _ _), by have := heap_alloc_new (w.alloc (gBox g)) (.cells #[.int .i64 q.st, .int .i64 q.look, .int .i64 q.shift, .slice q.ra q.red.length q.rc] 70); rwa [alZ] at this, (below_alloc w _).trans ((below_alloc _ _).mono (below_alloc w _).size)⟩
theorem GC.box {g : GV} {q : CV} {w0 w : World} (h : GC g q w0 w) : BoxG g w0.heap.size w := by
 obtain ⟨x0, x1, x2, x3, x4⟩ := gb_cells h.gb
 exact ⟨x0, x1, x2, x3, x4, lt_of_block h.gb⟩
end Go.Proofs.Ytlkkllehaabebaa
namespace Go.Proofs.Ytlkkllehaabebaa
set_option linter.unusedVariables false
set_option maxRecDepth 100000
set_option maxHeartbeats 16000000
open Go.RowKit Go.Maps
end Go.Proofs.Ytlkkllehaabebaa
