import Derived.Test.YtlkkllehaabebabPSGiven0ToSGiven
import Derived.Test.YtlkkllehaabebabPHListToHGiven
import Derived.Deep.RegionWith
import Derived.Test.YtlkkllehaabebabPBBaseToGRow
namespace Go.Proofs.Ytlkkllehaabebab
set_option linter.unusedVariables false
set_option maxRecDepth 100000
set_option maxHeartbeats 16000000
open Go.RowKit
end Go.Proofs.Ytlkkllehaabebab
namespace Go.Proofs.Ytlkkllehaabebab
set_option linter.unusedVariables false
set_option maxRecDepth 100000
set_option maxHeartbeats 16000000
open Go.RowKit Go.Maps
theorem SymRow.cells {w : World} {b off : Nat} {zs : List (Int × Int)} (hr : SymRow w (some ⟨b, off, none⟩) zs) (j : Nat) (u : Value) (hu : (symCells zs)[j]? = some u) : w.cell? ⟨b, off + j, none⟩ = some u := by
 have hj : j < zs.length * 2 := by have := (List.getElem?_eq_some_iff.1 hu).1; rwa [symCells_len] at this
 obtain ⟨b', off', e, _, hc⟩ := hr (by intro h; subst h; simp at hj)
 simp at e
 obtain ⟨rfl, rfl⟩ := e
 obtain ⟨c1, c2⟩ := hc (j / 2) (by omega)
 obtain ⟨g1, g2⟩ := symCells_get zs (j / 2) (by omega)
 by_cases h : j % 2 = 0
 ·have e : j / 2 * 2 = j := by omega
  rw [e] at c1 g1
  rw [c1, <- hu, g1]
 ·have e : j / 2 * 2 + 1 = j := by omega
  rw [e] at g2
  rw [show off + j / 2 * 2 + 1 = off + j by omega] at c2
  rw [c2, <- hu, g2]
structure FullS (w : World) (g : Nat) (zs : List (Int × Int)) : Prop where
 hg : w.heap[g]? = some (.cells (symCells zs).toArray 78 (0, 0))
theorem FullS.cell {w : World} {g : Nat} {zs : List (Int × Int)} (h : FullS w g zs) (j : Nat) (hj : j < zs.length) : w.cell? ⟨g, j * 2, none⟩ = some (.int .i64 (zs.getD j (0, 0)).1) /\ w.cell? ⟨g, j * 2 + 1, none⟩ = some (.int .i64 (zs.getD j (0, 0)).2) := by
 obtain ⟨g1, g2⟩ := symCells_get zs j hj
 simp only [World.cell?, h.hg]
 exact ⟨by simpa using g1, by simpa using g2⟩
theorem FullS.free {w : World} {g : Nat} {zs : List (Int × Int)} (h : FullS w g zs) (j : Nat) : w.frozen? ⟨g, j, none⟩ = false := by
 simp [World.frozen?, h.hg]
theorem symCells_set : ∀ (zs : List (Int × Int)) (j : Nat) (k n : Int), ((symCells zs).set (j * 2) (.int .i64 k)).set (j * 2 + 1) (.int .i64 n) = symCells (zs.set j (k, n))
 | [], j, k, n => by simp [symCells]
 | q :: r, 0, k, n => by simp [symCells]
 | q :: r, j + 1, k, n => by
  have e : ∀ q r, symCells (q :: r) = .int .i64 q.1 :: .int .i64 q.2 :: symCells r := fun _ _ => rfl
  rw [List.set_cons_succ, e, e, <- symCells_set r j k n, show (j + 1) * 2 = j * 2 + 1 + 1 by omega]
  rfl
theorem FullS.set {w : World} {g : Nat} {zs : List (Int × Int)} (h : FullS w g zs) (j : Nat) (k n : Int) : FullS ((w.setCell ⟨g, j * 2, none⟩ (.int .i64 k)).setCell ⟨g, j * 2 + 1, none⟩ (.int .i64 n)) g (zs.set j (k, n)) := by
 refine ⟨?_⟩
 rw [heap_set (heap_set h.hg _ _)]
 congr 2
 rw [<- symCells_set]
 simp
theorem FullS.later {w w' : World} {g : Nat} {zs : List (Int × Int)} (h : FullS w g zs) (hb : w'.heap[g]? = w.heap[g]?) : FullS w' g zs := ⟨hb.trans h.hg⟩
theorem FullS.row {w : World} {g : Nat} {zs : List (Int × Int)} (h : FullS w g zs) : SymRow w (some ⟨g, 0, none⟩) zs :=
 fun _ => ⟨g, 0, rfl, lt_of_block h.hg, fun i hi => by rw [Nat.zero_add]; exact h.cell i hi⟩
theorem FullS.rowTake {w : World} {g : Nat} {zs xs : List (Int × Int)} (h : FullS w g zs) (hx : zs.take xs.length = xs) : SymRow w (some ⟨g, 0, none⟩) xs := by
 refine fun _ => ⟨g, 0, rfl, lt_of_block h.hg, fun i hi => ?_⟩
 have hz : i < zs.length := by have := congrArg List.length hx; simp at this; omega
 have : xs.getD i (0, 0) = zs.getD i (0, 0) := by rw [<- hx]; simp [List.getD, hi]
 rw [Nat.zero_add, this]
 exact h.cell i hz
end Go.Proofs.Ytlkkllehaabebab
namespace Go.Proofs.Ytlkkllehaabebab
set_option linter.unusedVariables false
set_option maxRecDepth 100000
set_option maxHeartbeats 16000000
open Go.RowKit
structure FullI (w : World) (g : Nat) (zs : List Int) : Prop where
 hg : w.heap[g]? = some (.cells (zs.map (.int .i64 ·)).toArray 3 (0, 0))
theorem FullI.cell {w : World} {g : Nat} {zs : List Int} (h : FullI w g zs) (j : Nat) (hj : j < zs.length) : w.cell? ⟨g, j, none⟩ = some (.int .i64 (zs.getD j 0)) := by
 simp [World.cell?, h.hg, List.getD, hj]
theorem FullI.free {w : World} {g : Nat} {zs : List Int} (h : FullI w g zs) (j : Nat) : w.frozen? ⟨g, j, none⟩ = false := by
 simp [World.frozen?, h.hg]
theorem FullI.set {w : World} {g : Nat} {zs : List Int} (h : FullI w g zs) (j : Nat) (m : Int) : FullI (w.setCell ⟨g, j, none⟩ (.int .i64 m)) g (zs.set j m) := by
 refine ⟨?_⟩
 rw [heap_set h.hg]
 congr 2
 simp [List.map_set]
theorem FullI.later {w w' : World} {g : Nat} {zs : List Int} (h : FullI w g zs) (hb : w'.heap[g]? = w.heap[g]?) : FullI w' g zs := ⟨hb.trans h.hg⟩
theorem FullI.row {w : World} {g : Nat} {zs : List Int} (h : FullI w g zs) : InRow w (some ⟨g, 0, none⟩) zs :=
 fun _ => ⟨g, 0, rfl, lt_of_block h.hg, fun i hi => by rw [Nat.zero_add]; exact h.cell i hi⟩
end Go.Proofs.Ytlkkllehaabebab
