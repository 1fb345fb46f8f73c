import Derived.Test.YtobhemaikomdaaaGreatDoorPGCheckPToGSame2
namespace Go.Proofs.YtobhemaikomdaaaGreatDoor
set_option linter.unusedVariables false
open Go.RowKit
def prodQ (g : GV) (i : Nat) (p : PV) : Int :=
 if inN g p.left = false then 35
 else if 16 < p.right.length then 34
 else if (p.right.any fun s => !inG g s.1 s.2) = true then 35
 else if ((g.ps.take i).any fun q => q.left == p.left && q.right == p.right) = true then 6
 else if p.prec ≠ -1 /\ inT g p.prec = false then 38
 else 0
theorem prodQ_is (g : GV) (i : Nat) : prodU g i = prodQ g i (g.ps.getD i .none) := rfl
abbrev pBox (p : PV) : Obj := .cells #[.int .i64 p.left, .slice p.ra p.right.length p.rc, .int .i64 p.prec] 61
structure PB (g : GV) (p : PV) (w wr : World) : Prop where
 at_ : GAt 140737488355328 wr g
 row : SymRow wr p.ra p.right
 g0 : wr.cell? ⟨w.heap.size, 0, none⟩ = some (.slice g.ta g.ts.length g.tc)
 g1 : wr.cell? ⟨w.heap.size, 1, none⟩ = some (.slice g.na g.ns.length g.nc)
 g2 : wr.cell? ⟨w.heap.size, 2, none⟩ = some (.int .i64 g.start)
 g3 : wr.cell? ⟨w.heap.size, 3, none⟩ = some (.slice g.pa g.ps.length g.pc)
 g4 : wr.cell? ⟨w.heap.size, 4, none⟩ = some (.slice g.la g.ls.length g.lc)
 p0 : wr.cell? ⟨w.heap.size + 1, 0, none⟩ = some (.int .i64 p.left)
 p1 : wr.cell? ⟨w.heap.size + 1, 1, none⟩ = some (.slice p.ra p.right.length p.rc)
 p2 : wr.cell? ⟨w.heap.size + 1, 2, none⟩ = some (.int .i64 p.prec)
 lt0 : w.heap.size < wr.heap.size
 lt1 : w.heap.size + 1 < wr.heap.size
theorem alloc_size (w : World) (o : Obj) : (w.alloc o).heap.size = w.heap.size + 1 := by simp
theorem PB.new {g : GV} {p : PV} {w : World} (h : GAt 140737488355328 w g) (hr : SymRow w p.ra p.right) : PB g p w ((w.alloc (gBox g)).alloc (pBox p)) := by
 have b1 := below_alloc w (gBox g)
 have b2 := below_alloc (w.alloc (gBox g)) (pBox p)
 have b3 : Below w.heap.size w ((w.alloc (gBox g)).alloc (pBox p)) := b1.trans (b2.mono b1.size)
 have e1 : ((w.alloc (gBox g)).alloc (pBox p)).heap[w.heap.size]? = some (gBox g) := (b2.block _ (by rw [alloc_size]; omega)).trans (heap_alloc_new w _)
 have e2 : ((w.alloc (gBox g)).alloc (pBox p)).heap[w.heap.size + 1]? = some (pBox p) := by have := heap_alloc_new (w.alloc (gBox g)) (pBox p); rwa [alloc_size] at this
 refine ⟨h.later b3, hr.later (Nat.le_refl _) b3, ?_, ?_, ?_, ?_, ?_, ?_, ?_, ?_, lt_of_block e1, lt_of_block e2⟩
 ·rw [cellq_any e1]; rfl
 ·rw [cellq_any e1]; rfl
 ·rw [cellq_any e1]; rfl
 ·rw [cellq_any e1]; rfl
 ·rw [cellq_any e1]; rfl
 ·rw [cellq_any e2]; rfl
 ·rw [cellq_any e2]; rfl
 ·rw [cellq_any e2]; rfl
theorem PB.later {g : GV} {p : PV} {w wr w' : World} (h : PB g p w wr) (hb : Below wr.heap.size wr w') : PB g p w w' := by
 have e0 : ∀ j, w'.cell? ⟨w.heap.size, j, none⟩ = wr.cell? ⟨w.heap.size, j, none⟩ := fun j => hb.cell (p := ⟨w.heap.size, j, none⟩) h.lt0
 have e1 : ∀ j, w'.cell? ⟨w.heap.size + 1, j, none⟩ = wr.cell? ⟨w.heap.size + 1, j, none⟩ := fun j => hb.cell (p := ⟨w.heap.size + 1, j, none⟩) h.lt1
 exact ⟨h.at_.later hb, h.row.later (Nat.le_refl _) hb, (e0 0).trans h.g0, (e0 1).trans h.g1, (e0 2).trans h.g2, (e0 3).trans h.g3, (e0 4).trans h.g4, (e1 0).trans h.p0, (e1 1).trans h.p1, (e1 2).trans h.p2, Nat.lt_of_lt_of_le h.lt0 hb.size, Nat.lt_of_lt_of_le h.lt1 hb.size⟩
theorem PB.ahead {g : GV} {p : PV} {w wr : World} (h : PB g p w wr) {k : Nat} (hk : k < g.ps.length) : ∃ b off, g.pa = some ⟨b, off, none⟩ /\ b < wr.heap.size /\ wr.cell? ⟨b, off + k * 3, none⟩ = some (.int .i64 (g.ps.getD k .none).left) /\ wr.cell? ⟨b, off + k * 3 + 1, none⟩ = some (.slice (g.ps.getD k .none).ra (g.ps.getD k .none).right.length (g.ps.getD k .none).rc) /\ SymRow wr (g.ps.getD k .none).ra (g.ps.getD k .none).right /\ (g.ps.getD k .none).right.length <= 140737488355328 := by
 obtain ⟨b, off, e, hl, hc⟩ := h.at_.p.cells (by intro e; rw [e] at hk; simp at hk)
 obtain ⟨c0, c1, _⟩ := hc k hk
 have hm : g.ps.getD k .none ∈ g.ps := by simp [List.getD, hk]
 exact ⟨b, off, e, hl, c0, c1, h.at_.p.rows _ hm, h.at_.rl _ hm⟩
end Go.Proofs.YtobhemaikomdaaaGreatDoor
