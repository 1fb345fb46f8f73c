import Derived.Test.YthgnhdnmcjpdmaaGreatDoorPBBaseToGRow
import Derived.Test.YthgnhdnmcjpdmaaGreatDoorPGE8ToGE10
import Derived.Test.YthgnhdnmcjpdmaaGreatDoorPGSmallToGAlive2
import Derived.Test.YthgnhdnmcjpdmaaGreatDoorPGUsesToGSum
import Derived.Test.YthgnhdnmcjpdmaaGreatDoorPSameToSums0
namespace Go.Proofs.YthgnhdnmcjpdmaaGreatDoor
set_option linter.unusedVariables false
set_option maxRecDepth 100000
set_option maxHeartbeats 16000000
open Go.RowKit
abbrev bxG (g : GV) : Obj := .cells #[.slice g.ta g.ts.length g.tc, .slice g.na g.ns.length g.nc, .int .i64 g.start, .slice g.pa g.ps.length g.pc, .slice g.la g.ls.length g.lc] 26
structure BG (g : GV) (b : Nat) (w : World) : Prop where
 box : w.heap[b]? = some (bxG g)
 at_ : GAt 140737488355328 w g
 cap : g.ps.length <= g.pc
theorem BG.later {g : GV} {b : Nat} {w w' : World} (h : BG g b w) (hb : Below w.heap.size w w') : BG g b w' := ⟨(hb.block _ (lt_of_block h.box)).trans h.box, h.at_.later hb, h.cap⟩
theorem BG.new {g : GV} {w : World} (h : GAt 140737488355328 w g) (hc : g.ps.length <= g.pc) : BG g w.heap.size (w.alloc (bxG g)) := ⟨heap_alloc_new _ _, h.later (below_alloc _ _), hc⟩
theorem BG.cells {g : GV} {b : Nat} {w : World} (h : BG g b w) : w.cell? ⟨b, 0, none⟩ = some (.slice g.ta g.ts.length g.tc) /\ w.cell? ⟨b, 1, none⟩ = some (.slice g.na g.ns.length g.nc) /\ w.cell? ⟨b, 2, none⟩ = some (.int .i64 g.start) /\ w.cell? ⟨b, 3, none⟩ = some (.slice g.pa g.ps.length g.pc) /\ w.cell? ⟨b, 4, none⟩ = some (.slice g.la g.ls.length g.lc) :=
 ⟨(cellq_any h.box).trans rfl, (cellq_any h.box).trans rfl, (cellq_any h.box).trans rfl, (cellq_any h.box).trans rfl, (cellq_any h.box).trans rfl⟩
end Go.Proofs.YthgnhdnmcjpdmaaGreatDoor
