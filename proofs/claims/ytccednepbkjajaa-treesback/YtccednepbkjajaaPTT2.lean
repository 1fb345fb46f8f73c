import Derived.Test.YtccednepbkjajaaPTTPToRegS
namespace Go.Proofs.Ytccednepbkjajaa
set_option linter.unusedVariables false
open Go.RowKit
theorem ps_cells {n : Nat} {w : World} {g : GV} (h : GAt n w g) {j : Nat} (hj : j < g.ps.length) : ∃ b off, g.pa = some ⟨b, off, none⟩ /\ b < w.heap.size /\ w.cell? ⟨b, off + j * 3, none⟩ = some (.int .i64 (g.ps.getD j .none).left) /\ w.cell? ⟨b, off + j * 3 + 1, none⟩ = some (.slice (g.ps.getD j .none).ra (g.ps.getD j .none).right.length (g.ps.getD j .none).rc) /\ SymRow w (g.ps.getD j .none).ra (g.ps.getD j .none).right := by
 obtain ⟨b, o, hpa, hbl, hc⟩ := h.p.cells (by intro e; rw [e] at hj; simp at hj)
 obtain ⟨c0, c1, c2⟩ := hc j hj
 exact ⟨b, o, hpa, hbl, c0, c1, h.p.rows _ (by simp [List.getD, hj])⟩
end Go.Proofs.Ytccednepbkjajaa
