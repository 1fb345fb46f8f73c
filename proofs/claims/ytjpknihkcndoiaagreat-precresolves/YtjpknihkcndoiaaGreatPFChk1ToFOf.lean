import Derived.Test.YtjpknihkcndoiaaGreatPFBaseToFMem7
import Derived.Deep.QuietTactic
import Derived.BigQuiet
import Derived.RangeFuncNested
import Derived.RangeFuncLeaves
import Derived.Shelf.Abstract
import Derived.WalkKit
import Derived.OwnWalkIn
import Derived.TacticsInMore
import Derived.LoopNIn
import Derived.LoopIn
import Derived.RangeFuncCalls
namespace Go.Proofs.YtjpknihkcndoiaaGreat
set_option linter.unusedVariables false
set_option maxRecDepth 100000
set_option maxHeartbeats 16000000
open Go.RowKit
end Go.Proofs.YtjpknihkcndoiaaGreat
namespace Go.Proofs.YtjpknihkcndoiaaGreat
set_option linter.unusedVariables false
set_option maxRecDepth 100000
set_option maxHeartbeats 16000000
open Go.RowKit
end Go.Proofs.YtjpknihkcndoiaaGreat
namespace Go.Proofs.YtjpknihkcndoiaaGreat
set_option linter.unusedVariables false
set_option maxRecDepth 100000
set_option maxHeartbeats 16000000
open Go.RowKit Go.Shelf
def SymIn (n : Nat) (s : Int × Int) : Prop := (s.1 = 1 /\ 0 <= s.2 /\ s.2 < 64) ∨ (s.1 = 2 /\ 0 <= s.2 /\ s.2 < n)
abbrev BkA (n : Nat) := { x : Int × (Int × Int) // SymIn n x.2 }
theorem sub_list {β : Type} (p : β -> Prop) : ∀ L : List β, (∀ x ∈ L, p x) -> ∃ zs : List { x // p x }, zs.map Subtype.val = L
 | [], _ => ⟨[], rfl⟩
 | x :: L, h => by
  obtain ⟨zs, e⟩ := sub_list p L (fun y hy => h y (by simp [hy]))
  exact ⟨⟨x, h x (by simp)⟩ :: zs, by simp [e]⟩
def bkL (ls : List (Int × Int)) : List (Int × (Int × Int)) := (List.range ls.length).map fun j => (((ls.length - 1 - j : Nat) : Int), ls.getD (ls.length - 1 - j) (0, 0))
def KpB (n₀ Bs : Nat) (W W' : World) : Prop := Below n₀ W W' /\ W'.heap[Bs]? = W.heap[Bs]?
abbrev bkE (m : Nat) (x : BkA m) : Array Value := #[.int .i64 x.1.1, .agg #[.int .i64 x.1.2.1, .int .i64 x.1.2.2]]
def CellsAt (W : World) (B : Nat) (C : Array Value) (t : TypeId) : Prop := W.heap[B]? = some (.cells C t (0, 0))
theorem CellsAt.lt {W : World} {B : Nat} {C : Array Value} {t : TypeId} (h : CellsAt W B C t) : B < W.heap.size := lt_of_block h
theorem CellsAt.kept {W W' : World} {row : Option Nat} {B : Nat} {C : Array Value} {t : TypeId} (h : CellsAt W B C t) (hg : W.grownBy W' row) (hne : some B ≠ row) : CellsAt W' B C t := (hg.block B h.lt hne).trans h
theorem CellsAt.alloc {W : World} {B : Nat} {C : Array Value} {t : TypeId} (h : CellsAt W B C t) (o : Obj) : CellsAt (W.alloc o) B C t := ((below_alloc W o).block _ h.lt).trans h
theorem cellsAt_own {β : Type} (B : Nat) (t : TypeId) (f : β -> Array Value) : Own (fun s W => CellsAt W B (f s) t) := fun s X Y row hs hg hrow =>
 hs.kept hg (fun e' => by obtain ⟨o, ho, hc⟩ := hrow B e'.symm; rw [show X.heap[B]? = _ from hs] at ho; cases ho; cases hc)
theorem KpB.t {n₀ Bs : Nat} {A B C : World} (h : KpB n₀ Bs A B) (k : KpB n₀ Bs B C) : KpB n₀ Bs A C := ⟨h.1.trans k.1, k.2.trans h.2⟩
theorem KpB.b {n₀ Bs : Nat} {w : World} (hn : n₀ <= w.heap.size) (hB : Bs < w.heap.size) (W : World) (l : Nat) (o o' : Obj) (hl : w.heap.size <= l) (h : W.heap[l]? = some o) (hc : o.isCells = false) (hk : o.isWalk = false) : KpB n₀ Bs W (W.putObj l o') :=
 ⟨belowK_b hn W l o o' hl h hc hk, World.putObj_heap_other (by omega)⟩
theorem bkL_rev (ls : List (Int × Int)) : (bkL ls).map (·.2) = ls.reverse := by
 apply List.ext_getElem
 ·simp [bkL]
 ·intro i h1 h2
  simp only [bkL, List.length_map, List.length_range, List.length_reverse] at h1 h2
  simp [bkL, List.getElem_reverse, List.getD, show ls.length - 1 - i < ls.length by omega]
end Go.Proofs.YtjpknihkcndoiaaGreat
namespace Go.Proofs.YtjpknihkcndoiaaGreat
set_option linter.unusedVariables false
set_option maxRecDepth 100000
set_option maxHeartbeats 16000000
open Go.RowKit Go.Shelf
theorem backward_S (ao : Option Addr) (len cap : Nat) (w : World) : Calls Tryz.prog 80 #[.slice ao len cap] w fun e w' => e = .returned (.func (.func 105) #[] #[.pointer (some ⟨w.heap.size, 0, none⟩)]) /\ w' = w.alloc (.cells #[.slice ao len cap] 67) := by
 go_enter Tryz.func80, Tryz.ntmps80
 go_wp2
 go_ret
 exact ⟨rfl, rfl⟩
end Go.Proofs.YtjpknihkcndoiaaGreat
