import Derived.Test.YthgnhdnmcjpdmaaGreatDoorPGCardToGBulk
import Derived.Test.YthgnhdnmcjpdmaaGreatDoorPGUsesToGSum
namespace Go.Proofs.YthgnhdnmcjpdmaaGreatDoor
set_option linter.unusedVariables false
set_option maxRecDepth 100000
set_option maxHeartbeats 16000000
open Go.ChangeShapes Go.WideShapes Go.ChangeAt Go.RowKit
theorem ints_bulkg {H : Type} {n N : Nat} {d : DataW H} (h : LD n d) (hb : Rows.uptoBulk d <= N) : n <= N := ld_bulk h hb
theorem bulkAll_app {H : Type} : ∀ (a b : List (DataW H)), Rows.uptoBulkAll (a ++ b) = Rows.uptoBulkAll a + Rows.uptoBulkAll b
 | [], b => by simp [Rows.uptoBulkAll]
 | d :: r, b => by
  have := bulkAll_app r b
  simp only [List.cons_append, Rows.uptoBulkAll]
  omega
theorem gram_uses {H : Type} {N : Nat} {d : DataW H} {g : GV} (hb : Rows.uptoBulk d <= N) (h : GD g d) (q : Int × Int) : (usesU g.ps q g.ps.length).length <= N := by
 obtain ⟨dt, dn, dp, dl, rfl, _, _, a3, _⟩ := h.all
 have w3 : Rows.uptoBulk dp <= N := agg_bulk hb (by simp)
 rcases a3 with ⟨_, e⟩ | ⟨el, sp, rfl, e, hE⟩
 ·rw [e]; simp [usesU]
 ·have key : ∀ k, k <= g.ps.length -> (usesU g.ps q k).length <= Rows.uptoBulkAll (el.take k) := by
   intro k
   induction k with
   | zero => intro _; simp [usesU]
   | succ k ih =>
    intro hk
    have i1 := ih (by omega)
    rw [usesU_step, List.length_append, List.take_succ_eq_append_getElem (show k < el.length by omega), bulkAll_app]
    have i2 := usesP_len (g.ps.getD k .none).right q k (g.ps.getD k .none).right.length
    obtain ⟨r, hr, hl⟩ := hE k (by omega)
    have i3 : (g.ps.getD k .none).right.length <= Rows.uptoBulk (el.getD k .nil) := by
     refine ld_bulk hl ?_
     rw [hr]
     exact agg_bulk (Nat.le_refl _) (by simp)
    have i4 : el.getD k .nil = el[k]'(by omega) := by simp [List.getD, show k < el.length by omega]
    rw [i4] at i3
    have i5 : Rows.uptoBulkAll [el[k]'(by omega)] = Rows.uptoBulk (el[k]'(by omega)) := by simp [Rows.uptoBulkAll]
    omega
  have k1 := key g.ps.length (Nat.le_refl _)
  rw [<- e, List.take_length] at k1
  have : Rows.uptoBulk (DataW.slice el sp) <= N := w3
  simp only [Rows.uptoBulk] at this
  rw [e] at k1
  omega
end Go.Proofs.YthgnhdnmcjpdmaaGreatDoor
