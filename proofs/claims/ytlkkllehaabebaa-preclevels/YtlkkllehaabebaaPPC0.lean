import Derived.Test.YtlkkllehaabebaaPGOkToSCheckR
namespace Go.Proofs.Ytlkkllehaabebaa
set_option linter.unusedVariables false
set_option maxRecDepth 100000
set_option maxHeartbeats 16000000
open Go.RowKit
def levU (ls : List LV) (t : Int) : Int := match ls.findIdx? fun l => l.terms.contains t with
 | some i => (i : Int)
 | none => -1
theorem lev_at {ls : List LV} {t : Int} {k : Nat} (hk : k < ls.length) (h : ∀ j, j < k -> (ls.getD j .none).terms.contains t = false) (h1 : (ls.getD k .none).terms.contains t = true) : levU ls t = k := by
 unfold levU
 have : ls.findIdx? (fun l => l.terms.contains t) = some k := by
  rw [List.findIdx?_eq_some_iff_getElem]
  refine ⟨hk, by simpa [List.getD, hk] using h1, fun j hj => ?_⟩
  have := h j hj
  simpa [List.getD, show j < ls.length by omega] using this
 rw [this]
theorem lev_none {ls : List LV} {t : Int} (h : ∀ j, j < ls.length -> (ls.getD j .none).terms.contains t = false) : levU ls t = -1 := by
 unfold levU
 have : ls.findIdx? (fun l => l.terms.contains t) = none := by
  rw [List.findIdx?_eq_none_iff]
  intro l hl
  obtain ⟨j, hj, rfl⟩ := List.mem_iff_getElem.1 hl
  have := h j hj
  simpa [List.getD, hj] using this
 rw [this]
theorem lev_cases (ls : List LV) (t : Int) : (levU ls t = -1 /\ ∀ j, j < ls.length -> (ls.getD j .none).terms.contains t = false) ∨ ∃ k, k < ls.length /\ levU ls t = (k : Int) /\ (∀ j, j < k -> (ls.getD j .none).terms.contains t = false) /\ (ls.getD k .none).terms.contains t = true := by
 cases h : ls.findIdx? fun l => l.terms.contains t with
 | none =>
  left
  refine ⟨by unfold levU; rw [h], fun j hj => ?_⟩
  rw [List.findIdx?_eq_none_iff] at h
  have := h (ls.getD j .none) (mem_getD hj)
  simpa using this
 | some k =>
  right
  have h0 := h
  rw [List.findIdx?_eq_some_iff_getElem] at h
  obtain ⟨hk, h1, h2⟩ := h
  refine ⟨k, hk, by unfold levU; rw [h0], fun j hj => ?_, by simpa [List.getD, hk] using h1⟩
  have := h2 j hj
  simpa [List.getD, show j < ls.length by omega] using this
theorem lev_ge (ls : List LV) (t : Int) : -1 <= levU ls t /\ levU ls t < ls.length := by
 rcases lev_cases ls t with ⟨h, _⟩ | ⟨k, hk, h, _⟩ <;> omega
def lastT (l : List (Int × Int)) : Int := match l.reverse.find? fun s => s.1 == 1 with
 | some s => s.2
 | none => -1
theorem last_snoc (l : List (Int × Int)) (s : Int × Int) : lastT (l ++ [s]) = if s.1 = 1 then s.2 else lastT l := by
 unfold lastT
 rw [List.reverse_append, List.reverse_cons, List.reverse_nil, List.nil_append, List.singleton_append, List.find?_cons]
 by_cases h : s.1 = 1
 ·simp [h]
 ·rw [if_neg h]
  have : (s.1 == 1) = false := by simpa using h
  rw [this]
def ownU (p : PV) : Int := if p.prec ≠ -1 then p.prec else lastT p.right
def plvU (g : GV) (i : Nat) : Int := levU g.ls (ownU (g.ps.getD i .none))
structure DV where
 look : Int
 kind : Int
 prod : Int
 drop : List Int
 sd : Bool
 lev : Int
def DV.zero : DV := ⟨0, 0, 0, [], false, 0⟩
def noneD (t : Int) : DV := ⟨t, 0, -1, [], false, -1⟩
def redD (p t l : Int) : DV := ⟨t, 2, p, [], true, l⟩
def shiD (p t l : Int) : DV := ⟨t, 1, -1, [p], false, l⟩
def errD (p t l : Int) : DV := ⟨t, 3, -1, [p], true, l⟩
def eqD (a p t l : Int) : DV := if a = 1 then redD p t l else if a = 2 then shiD p t l else errD p t l
def duelD (g : GV) (P T p t : Int) : DV :=
 if P = -1 ∨ T = -1 then noneD t
 else if T < P then redD p t P
 else if P < T then shiD p t T
 else eqD (g.ls.getD P.toNat .none).assoc p t P
def decU (g : GV) (p : Nat) (t : Int) : DV := duelD g (plvU g p) (levU g.ls t) p t
end Go.Proofs.Ytlkkllehaabebaa
