import Derived.Test.YtpbpombjndlnbaaGreatPFThyToFSame
namespace Go.Proofs.YtpbpombjndlnbaaGreat
set_option linter.unusedVariables false
set_option maxRecDepth 100000
set_option maxHeartbeats 16000000
open Go.RowKit
def falseU : List Bool -> Nat
 | [] => 0
 | b :: l => (if b then 0 else 1) + falseU l
theorem falseU_set : ∀ (M : List Bool) (i : Nat), i < M.length -> M.getD i false = false -> falseU (M.set i true) + 1 = falseU M
 | [], i, h, _ => by simp at h
 | b :: l, 0, _, h0 => by
  simp only [List.getD_cons_zero] at h0
  subst h0
  simp [falseU, Nat.add_comm]
 | b :: l, i + 1, h, h0 => by
  simp only [List.getD_cons_succ] at h0
  have := falseU_set l i (by simpa using h) h0
  simp only [List.set_cons_succ, falseU]
  omega
def falseC : List Value -> Nat
 | [] => 0
 | .bool b :: l => (if b then 0 else 1) + falseC l
 | _ :: l => falseC l
theorem falseC_map : ∀ M : List Bool, falseC (M.map Value.bool) = falseU M
 | [] => rfl
 | b :: l => by rw [List.map_cons, falseC, falseU, falseC_map l]
def mesB (b : Nat) (w : World) : Nat := match w.heap[b]? with
 | some (.cells C _ _) => falseC C.toList
 | _ => 0
theorem mesB_of {w : World} {b : Nat} {M : List Bool} (h : BB w b M) : mesB b w = falseU M := by
 unfold mesB
 rw [show w.heap[b]? = _ from h]
 exact falseC_map M
theorem getD_set_b {M : List Bool} {i j : Nat} {v : Bool} : (M.set i v).getD j false = if i = j /\ j < M.length then v else M.getD j false := by
 simp only [List.getD, List.getElem?_set]
 by_cases h1 : i = j
 ·subst h1
  by_cases h2 : i < M.length
  ·simp [h2]
  ·simp [h2]
 ·simp [h1]
end Go.Proofs.YtpbpombjndlnbaaGreat
