import Derived.Test.YtaiebnppfabfgaaPFThyToFSame
namespace Go.Proofs.Ytaiebnppfabfgaa
set_option linter.unusedVariables false
set_option maxRecDepth 100000
set_option maxHeartbeats 16000000
open Go.RowKit
def wh1 (t : Bool) (M : List Bool) (s : Int × Int) : Bool := !(decide (s.1 = 2) && !M.getD s.2.toNat false || decide (s.1 = 1) && !t)
def wholeU (t : Bool) (M : List Bool) (l : List (Int × Int)) : Bool := l.all (wh1 t M)
theorem whole_R (ma : Option Addr) (mc : Nat) (M : List Bool) (la : Option Addr) (lc : Nat) (l : List (Int × Int)) (t : Bool) (w : World) (hM : BRow w ma M) (hl : SymRow w la l) (hll : l.length <= 1048576) (hnl : M.length <= 1048576) (hr : ∀ s ∈ l, s.1 = 2 -> 0 <= s.2 /\ s.2 < M.length) :
  Calls Try.prog 64 #[.slice la l.length lc, .slice ma M.length mc, .bool t] w fun e w' => e = .returned (.bool (wholeU t M l)) /\ w = w' := by
 have HK : Hid (BRow w ma M) := hM
 have HL : Hid (SymRow w la l) := hl
 have HR : Hid (∀ s ∈ l, s.1 = 2 -> 0 <= s.2 /\ s.2 < M.length) := hr
 have HF : Hid (∀ k, k < l.length -> wh1 t M (l.getD k (0, 0)) = false -> wholeU t M l = false) := fun k hk h => all_no hk h
 have HY : Hid ((∀ k, k < l.length -> wh1 t M (l.getD k (0, 0)) = true) -> wholeU t M l = true) := all_yes
 clear hM hl hr
 generalize hX : wholeU t M l = X at *
 clear hX
 go_enter Try.func64, Try.ntmps64
 go_wp2
 go_loopw [7] (fun z wr => ∃ k : Nat, k <= l.length /\ z = .int .i64 k /\ (∀ j, j < k -> wh1 t M (l.getD j (0, 0)) = true) /\ w = wr) (fun z _ => l.length - (intOf z).toNat)
 case atStart => exact ⟨0, Nat.zero_le _, rfl, fun j hj => absurd hj (Nat.not_lt_zero j), rfl⟩
 case round =>
  obtain ⟨k, hk, rfl, hf, rfl⟩ := hrel
  by_cases hlt : k < l.length
  ·obtain ⟨b, o, rfl, hbl, hc⟩ := HL.out (by intro e; rw [e] at hlt; simp at hlt)
   obtain ⟨c0, c1⟩ := hc k hlt
   have hin := HR.out _ (show l.getD k (0, 0) ∈ l by simp [List.getD, hlt])
   have HN : Hid (wh1 t M (l.getD k (0, 0)) = false -> X = false) := HF.out k hlt
   have klt : (k : Int) < (l.length : Int) := by omega
   have HS : Hid (wh1 t M (l.getD k (0, 0)) = true -> ∀ j, j < k + 1 -> wh1 t M (l.getD j (0, 0)) = true) := fun h j hj => by
    by_cases e : j = k
    ·subst e; exact h
    ·exact hf j (by omega)
   have VW : wh1 t M (l.getD k (0, 0)) = !(decide ((l.getD k (0, 0)).1 = 2) && !M.getD (l.getD k (0, 0)).2.toNat false || decide ((l.getD k (0, 0)).1 = 1) && !t) := rfl
   generalize l.getD k (0, 0) = x at *
   obtain ⟨x1, x2⟩ := x
   simp only at c0 c1 hin VW
   by_cases h2 : x1 = 2
   ·obtain ⟨i0, i1⟩ := hin h2
    obtain ⟨m, rfl⟩ : ∃ m : Nat, x2 = (m : Int) := ⟨x2.toNat, by omega⟩
    have hm2 : m < M.length := by omega
    have mlt : (m : Int) < (M.length : Int) := by omega
    obtain ⟨nb, no, rfl, hnb, hnc⟩ := HK.out (by intro e; rw [e] at hm2; simp at hm2)
    have kc := hnc m hm2
    have e2 : (x1 == 2) = true := by simpa using h2
    have e1 : (x1 == 1) = false := by rw [h2]; decide
    have V : Hid (wh1 t M (x1, (m : Int)) = M.getD m false) := by show _ = _; rw [VW, decide_eq_true h2, decide_eq_false (show ¬ x1 = 1 by omega)]; simp
    generalize M.getD m false = v at *
    clear VW hnc h2
    cases v
    ·have R : Hid (X = false) := HN.out V.out
     clear hc hf
     go_wp2
     go_ret
     exact ⟨by rw [R.out]; rfl, rfl⟩
    ·have R : Hid (∀ j, j < k + 1 -> wh1 t M (l.getD j (0, 0)) = true) := HS.out V.out
     clear hc hf
     go_wp2
     go_roundw
     case rel => exact ⟨k + 1, by omega, by go_num, R.out, by first | rfl | trivial⟩
     case measure => simp [intOf]; omega
   ·have e2 : (x1 == 2) = false := by simpa using h2
    by_cases h1 : x1 = 1
    ·have e1 : (x1 == 1) = true := by simpa using h1
     have V : Hid (wh1 t M (x1, x2) = t) := by show _ = _; rw [VW, decide_eq_false h2, decide_eq_true h1]; simp
     clear VW h1 h2
     cases t
     ·have R : Hid (X = false) := HN.out V.out
      clear hc hf
      go_wp2
      go_ret
      exact ⟨by rw [R.out]; rfl, rfl⟩
     ·have R : Hid (∀ j, j < k + 1 -> wh1 true M (l.getD j (0, 0)) = true) := HS.out V.out
      clear hc hf
      go_wp2
      go_roundw
      case rel => exact ⟨k + 1, by omega, by go_num, R.out, by first | rfl | trivial⟩
      case measure => simp [intOf]; omega
    ·have e1 : (x1 == 1) = false := by simpa using h1
     have V : Hid (wh1 t M (x1, x2) = true) := by show _ = _; rw [VW, decide_eq_false h2, decide_eq_false h1]; simp
     have R : Hid (∀ j, j < k + 1 -> wh1 t M (l.getD j (0, 0)) = true) := HS.out V.out
     clear VW h1 h2 hc hf
     go_wp2
     go_roundw
     case rel => exact ⟨k + 1, by omega, by go_num, R.out, by first | rfl | trivial⟩
     case measure => simp [intOf]; omega
  ·have R : Hid (X = true) := HY.out (fun j hj => hf j (by omega))
   have klt : ¬ (k : Int) < (l.length : Int) := by omega
   clear hf
   go_wp2
   go_ret
   exact ⟨by rw [R.out]; rfl, rfl⟩
def ClM (ps : List PV) (t : Bool) (C : Nat -> Prop) : Prop := ∀ p ∈ ps, (∀ s ∈ p.right, (s.1 = 2 -> C s.2.toNat) /\ (s.1 = 1 -> t = true)) -> C p.left.toNat
structure MLst (ps : List PV) (n : Nat) (t : Bool) (M : List Bool) : Prop where
 len : M.length = n
 clo : ∀ p ∈ ps, wholeU t M p.right = true -> M.getD p.left.toNat false = true
 lst : ∀ C, ClM ps t C -> ∀ i, M.getD i false = true -> C i
def falseU : List Bool -> Nat
 | [] => 0
 | b :: l => (if b then 0 else 1) + falseU l
theorem falseU_set : ∀ (M : List Bool) (i : Nat), i < M.length -> M.getD i false = false -> falseU (M.set i true) + 1 = falseU M
 | [], i, h, _ => by simp at h
 | b :: l, 0, _, h0 => by
  simp only [List.getD_cons_zero] at h0
  subst h0
  simp [falseU, Nat.add_comm]
 | b :: l, i + 1, h, h0 => by
  simp only [List.getD_cons_succ] at h0
  have := falseU_set l i (by simpa using h) h0
  simp only [List.set_cons_succ, falseU]
  omega
def falseC : List Value -> Nat
 | [] => 0
 | .bool b :: l => (if b then 0 else 1) + falseC l
 | _ :: l => falseC l
theorem falseC_map : ∀ M : List Bool, falseC (M.map Value.bool) = falseU M
 | [] => rfl
 | b :: l => by rw [List.map_cons, falseC, falseU, falseC_map l]
def mesB (b : Nat) (w : World) : Nat := match w.heap[b]? with
 | some (.cells C _ _) => falseC C.toList
 | _ => 0
theorem mesB_of {w : World} {b : Nat} {M : List Bool} (h : BB w b M) : mesB b w = falseU M := by
 unfold mesB
 rw [show w.heap[b]? = _ from h]
 exact falseC_map M
theorem getD_set_b {M : List Bool} {i j : Nat} {v : Bool} : (M.set i v).getD j false = if i = j /\ j < M.length then v else M.getD j false := by
 simp only [List.getD, List.getElem?_set]
 by_cases h1 : i = j
 ·subst h1
  by_cases h2 : i < M.length
  ·simp [h2]
  ·simp [h2]
 ·simp [h1]
theorem whole_in {t : Bool} {M : List Bool} {l : List (Int × Int)} (h : wholeU t M l = true) : ∀ s ∈ l, (s.1 = 2 -> M.getD s.2.toNat false = true) /\ (s.1 = 1 -> t = true) := fun s hs => by
 have := List.all_eq_true.1 h s hs
 unfold wh1 at this
 constructor
 ·intro e
  rw [e] at this
  cases q : M.getD s.2.toNat false
  ·rw [q] at this; simp at this
  ·rfl
 ·intro e
  rw [e] at this
  cases t
  ·simp at this
  ·rfl
theorem sound_set {ps : List PV} {t : Bool} {M : List Bool} {p : PV} (hp : p ∈ ps) (hM : ∀ C, ClM ps t C -> ∀ i, M.getD i false = true -> C i) (hw : wholeU t M p.right = true) : ∀ C, ClM ps t C -> ∀ i, (M.set p.left.toNat true).getD i false = true -> C i := fun C hC i hi => by
 rw [getD_set_b] at hi
 split at hi
 ·rename_i q
  rw [<- q.1]
  exact hC p hp fun s hs => ⟨fun e => hM C hC _ ((whole_in hw s hs).1 e), (whole_in hw s hs).2⟩
 ·exact hM C hC i hi
end Go.Proofs.Ytaiebnppfabfgaa
