import Derived.Test.YtlfiohdhcmmjbaaGreatDoorPRegXToFThy2
namespace Go.Proofs.YtlfiohdhcmmjbaaGreatDoor
set_option linter.unusedVariables false
set_option maxRecDepth 100000
set_option maxHeartbeats 16000000
open Go.RowKit
def wh1 (t : Bool) (M : List Bool) (s : Int × Int) : Bool := !(decide (s.1 = 2) && !M.getD s.2.toNat false || decide (s.1 = 1) && !t)
def wholeU (t : Bool) (M : List Bool) (l : List (Int × Int)) : Bool := l.all (wh1 t M)
def ClM (ps : List PV) (t : Bool) (C : Nat -> Prop) : Prop := ∀ p ∈ ps, (∀ s ∈ p.right, (s.1 = 2 -> C s.2.toNat) /\ (s.1 = 1 -> t = true)) -> C p.left.toNat
structure MLst (ps : List PV) (n : Nat) (t : Bool) (M : List Bool) : Prop where
 len : M.length = n
 clo : ∀ p ∈ ps, wholeU t M p.right = true -> M.getD p.left.toNat false = true
 lst : ∀ C, ClM ps t C -> ∀ i, M.getD i false = true -> C i
def falseU : List Bool -> Nat
 | [] => 0
 | b :: l => (if b then 0 else 1) + falseU l
theorem falseU_set : ∀ (M : List Bool) (i : Nat), i < M.length -> M.getD i false = false -> falseU (M.set i true) + 1 = falseU M
 | [], i, h, _ => by simp at h
 | b :: l, 0, _, h0 => by
  simp only [List.getD_cons_zero] at h0
  subst h0
  simp [falseU, Nat.add_comm]
 | b :: l, i + 1, h, h0 => by
  simp only [List.getD_cons_succ] at h0
  have := falseU_set l i (by simpa using h) h0
  simp only [List.set_cons_succ, falseU]
  omega
def falseC : List Value -> Nat
 | [] => 0
 | .bool b :: l => (if b then 0 else 1) + falseC l
 | _ :: l => falseC l
theorem falseC_map : ∀ M : List Bool, falseC (M.map Value.bool) = falseU M
 | [] => rfl
 | b :: l => by rw [List.map_cons, falseC, falseU, falseC_map l]
def mesB (b : Nat) (w : World) : Nat := match w.heap[b]? with
 | some (.cells C _ _) => falseC C.toList
 | _ => 0
theorem mesB_of {w : World} {b : Nat} {M : List Bool} (h : BB w b M) : mesB b w = falseU M := by
 unfold mesB
 rw [show w.heap[b]? = _ from h]
 exact falseC_map M
theorem getD_set_b {M : List Bool} {i j : Nat} {v : Bool} : (M.set i v).getD j false = if i = j /\ j < M.length then v else M.getD j false := by
 simp only [List.getD, List.getElem?_set]
 by_cases h1 : i = j
 ·subst h1
  by_cases h2 : i < M.length
  ·simp [h2]
  ·simp [h2]
 ·simp [h1]
theorem whole_in {t : Bool} {M : List Bool} {l : List (Int × Int)} (h : wholeU t M l = true) : ∀ s ∈ l, (s.1 = 2 -> M.getD s.2.toNat false = true) /\ (s.1 = 1 -> t = true) := fun s hs => by
 have := List.all_eq_true.1 h s hs
 unfold wh1 at this
 constructor
 ·intro e
  rw [e] at this
  cases q : M.getD s.2.toNat false
  ·rw [q] at this; simp at this
  ·rfl
 ·intro e
  rw [e] at this
  cases t
  ·simp at this
  ·rfl
theorem sound_set {ps : List PV} {t : Bool} {M : List Bool} {p : PV} (hp : p ∈ ps) (hM : ∀ C, ClM ps t C -> ∀ i, M.getD i false = true -> C i) (hw : wholeU t M p.right = true) : ∀ C, ClM ps t C -> ∀ i, (M.set p.left.toNat true).getD i false = true -> C i := fun C hC i hi => by
 rw [getD_set_b] at hi
 split at hi
 ·rename_i q
  rw [<- q.1]
  exact hC p hp fun s hs => ⟨fun e => hM C hC _ ((whole_in hw s hs).1 e), (whole_in hw s hs).2⟩
 ·exact hM C hC i hi
def tOf : Value -> Nat
 | .bool true => 1
 | _ => 0
structure MW (g : GV) (t : Bool) (w : World) (mb : Nat) (M : List Bool) (wr : World) : Prop where
 len : M.length = g.ns.length
 lst : ∀ C, ClM g.ps t C -> ∀ i, M.getD i false = true -> C i
 bb : BB wr mb M
 box : wr.heap[w.heap.size]? = some (gBox g)
 bel : Below w.heap.size w wr
theorem MW.set {g : GV} {t : Bool} {w wr : World} {mb : Nat} {M : List Bool} (h : MW g t w mb M wr) {p : PV} (hp : p ∈ g.ps) (hw : wholeU t M p.right = true) (hmb : w.heap.size < mb) : MW g t w mb (M.set p.left.toNat true) (wr.setCell ⟨mb, p.left.toNat, none⟩ (.bool true)) :=
 ⟨by rw [List.length_set]; exact h.len, sound_set hp h.lst hw, h.bb.set _ _, (Below.heap_setCell _ _ _ _ (by show w.heap.size ≠ mb; omega)).trans h.box, h.bel.setCell (p := ⟨mb, p.left.toNat, none⟩) (by show w.heap.size <= mb; omega) _⟩
end Go.Proofs.YtlfiohdhcmmjbaaGreatDoor
