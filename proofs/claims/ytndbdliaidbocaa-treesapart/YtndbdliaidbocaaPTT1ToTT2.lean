import Derived.Test.YtndbdliaidbocaaPTTP
import Derived.Test.YtndbdliaidbocaaPRRowToRegS
import Derived.Laws.OwnMore
import Derived.Deep.LoopGhost
namespace Go.Proofs.Ytndbdliaidbocaa
set_option linter.unusedVariables false
open Go.RowKit
def KRow (w : World) (ao : Option Addr) (l : List TV) : Prop := l ≠ [] -> ∃ b off, ao = some ⟨b, off, none⟩ /\ b < w.heap.size /\ ∀ i, i < l.length ->
 w.cell? ⟨b, off + i * 4, none⟩ = some (.int .i64 (l.getD i .none).prod) /\ w.cell? ⟨b, off + i * 4 + 1, none⟩ = some (.int .i64 (l.getD i .none).kind) /\ w.cell? ⟨b, off + i * 4 + 2, none⟩ = some (.string (l.getD i .none).tx) /\ w.cell? ⟨b, off + i * 4 + 3, none⟩ = some (.slice (l.getD i .none).ka (l.getD i .none).kids.length (l.getD i .none).kc)
theorem KRow.later {w w' : World} {ao : Option Addr} {l : List TV} (h : KRow w ao l) (hb : Below w.heap.size w w') : KRow w' ao l := by
 intro hne
 obtain ⟨b, off, rfl, hl, hc⟩ := h hne
 have e : ∀ j, w'.cell? ⟨b, j, none⟩ = w.cell? ⟨b, j, none⟩ := fun j => hb.cell (p := ⟨b, j, none⟩) hl
 refine ⟨b, off, rfl, Nat.lt_of_lt_of_le hl hb.size, fun i hi => ?_⟩
 rw [e, e, e, e]
 exact hc i hi
def TAt (w : World) (t : TV) : Prop := AllP (fun t => KRow w (TV.ka t) (TV.kids t)) t
theorem TAt.mk {w : World} (t : TV) (h : KRow w (TV.ka t) (TV.kids t)) (hk : ∀ k ∈ TV.kids t, TAt w k) : TAt w t := AllP.mk h hk
theorem TAt.row {w : World} {t : TV} (h : TAt w t) : KRow w (TV.ka t) (TV.kids t) := AllP.here h
theorem TAt.kid {w : World} {t : TV} (h : TAt w t) : ∀ k ∈ TV.kids t, TAt w k := AllP.kid h
theorem TAt.later {w w' : World} {t : TV} (h : TAt w t) (hb : Below w.heap.size w w') : TAt w' t := fun d y hy => (h d y hy).later hb
abbrev TV.val (t : TV) : Value := .agg #[.int .i64 t.prod, .int .i64 t.kind, .string t.tx, .slice t.ka t.kids.length t.kc]
abbrev tBox (t : TV) : Obj := .cells #[.int .i64 t.prod, .int .i64 t.kind, .string t.tx, .slice t.ka t.kids.length t.kc] 31
theorem tb_cells {t : TV} {b : Nat} {w' : World} (h : w'.heap[b]? = some (tBox t)) : w'.cell? ⟨b, 0, none⟩ = some (.int .i64 t.prod) /\ w'.cell? ⟨b, 1, none⟩ = some (.int .i64 t.kind) /\ w'.cell? ⟨b, 2, none⟩ = some (.string t.tx) /\ w'.cell? ⟨b, 3, none⟩ = some (.slice t.ka t.kids.length t.kc) :=
 ⟨(cellq_any h).trans rfl, (cellq_any h).trans rfl, (cellq_any h).trans rfl, (cellq_any h).trans rfl⟩
theorem ps_cells {n : Nat} {w : World} {g : GV} (h : GAt n w g) {j : Nat} (hj : j < g.ps.length) : ∃ b off, g.pa = some ⟨b, off, none⟩ /\ b < w.heap.size /\ w.cell? ⟨b, off + j * 3, none⟩ = some (.int .i64 (g.ps.getD j .none).left) /\ w.cell? ⟨b, off + j * 3 + 1, none⟩ = some (.slice (g.ps.getD j .none).ra (g.ps.getD j .none).right.length (g.ps.getD j .none).rc) /\ SymRow w (g.ps.getD j .none).ra (g.ps.getD j .none).right := by
 obtain ⟨b, o, hpa, hbl, hc⟩ := h.p.cells (by intro e; rw [e] at hj; simp at hj)
 obtain ⟨c0, c1, c2⟩ := hc j hj
 exact ⟨b, o, hpa, hbl, c0, c1, h.p.rows _ (by simp [List.getD, hj])⟩
end Go.Proofs.Ytndbdliaidbocaa
