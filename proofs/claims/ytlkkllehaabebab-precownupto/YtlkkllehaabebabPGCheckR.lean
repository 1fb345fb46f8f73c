import Derived.Test.YtlkkllehaabebabPGProdRToGLevR
import Derived.Test.YtlkkllehaabebabPGOkToSCheckR
namespace Go.Proofs.Ytlkkllehaabebab
set_option linter.unusedVariables false
set_option maxRecDepth 100000
set_option maxHeartbeats 16000000
open Go.RowKit
structure GB (g : GV) (w wr : World) : Prop where
 at_ : GAt 140737488355328 wr g
 g0 : wr.cell? ⟨w.heap.size, 0, none⟩ = some (.slice g.ta g.ts.length g.tc)
 g1 : wr.cell? ⟨w.heap.size, 1, none⟩ = some (.slice g.na g.ns.length g.nc)
 g2 : wr.cell? ⟨w.heap.size, 2, none⟩ = some (.int .i64 g.start)
 g3 : wr.cell? ⟨w.heap.size, 3, none⟩ = some (.slice g.pa g.ps.length g.pc)
 g4 : wr.cell? ⟨w.heap.size, 4, none⟩ = some (.slice g.la g.ls.length g.lc)
 lt0 : w.heap.size < wr.heap.size
theorem GB.new {g : GV} {w : World} (h : GAt 140737488355328 w g) {t : TypeId} : GB g w (w.alloc (.cells #[.slice g.ta g.ts.length g.tc, .slice g.na g.ns.length g.nc, .int .i64 g.start, .slice g.pa g.ps.length g.pc, .slice g.la g.ls.length g.lc] t)) := by
 have e1 := heap_alloc_new w (.cells #[.slice g.ta g.ts.length g.tc, .slice g.na g.ns.length g.nc, .int .i64 g.start, .slice g.pa g.ps.length g.pc, .slice g.la g.ls.length g.lc] t)
 refine ⟨h.later (below_alloc w _), ?_, ?_, ?_, ?_, ?_, lt_of_block e1⟩
 ·rw [cellq_any e1]; rfl
 ·rw [cellq_any e1]; rfl
 ·rw [cellq_any e1]; rfl
 ·rw [cellq_any e1]; rfl
 ·rw [cellq_any e1]; rfl
theorem GB.later {g : GV} {w wr w' : World} (h : GB g w wr) (hb : Below wr.heap.size wr w') : GB g w w' := by
 have e0 : ∀ j, w'.cell? ⟨w.heap.size, j, none⟩ = wr.cell? ⟨w.heap.size, j, none⟩ := fun j => hb.cell (p := ⟨w.heap.size, j, none⟩) h.lt0
 exact ⟨h.at_.later hb, (e0 0).trans h.g0, (e0 1).trans h.g1, (e0 2).trans h.g2, (e0 3).trans h.g3, (e0 4).trans h.g4, Nat.lt_of_lt_of_le h.lt0 hb.size⟩
end Go.Proofs.Ytlkkllehaabebab
