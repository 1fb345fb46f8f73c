import Derived.Test.YtlkkllehaabebaaPPC15
import Derived.Test.YtlkkllehaabebaaPHByteToGIntactB
import Derived.Test.YtlkkllehaabebaaPGDec12ToGDec14
namespace Go.Proofs.Ytlkkllehaabebaa
set_option linter.unusedVariables false
set_option maxRecDepth 100000
set_option maxHeartbeats 16000000
open Go.RowKit Go.Maps
theorem lev_core (ls : List LV) (t : Int) : levU ls t = match (ls.map LV.core).findIdx? fun c => c.2.contains t with
  | some i => (i : Int)
  | none => -1 := by
 unfold levU
 rw [List.findIdx?_map]
 rfl
theorem same_lev {g x : GV} (h : SameG g x) (t : Int) : levU x.ls t = levU g.ls t := by rw [lev_core, lev_core, h.ls]
theorem same_own {g x : GV} (h : SameG g x) (i : Nat) : ownU (x.ps.getD i .none) = ownU (g.ps.getD i .none) := by
 have e : (x.ps.map PV.core).getD i (PV.core .none) = (g.ps.map PV.core).getD i (PV.core .none) := by rw [h.ps]
 have m : ∀ l : List PV, (l.map PV.core).getD i (PV.core .none) = PV.core (l.getD i .none) := fun l => by
  simp only [List.getD, List.getElem?_map]
  cases l[i]? <;> rfl
 rw [m, m] at e
 generalize x.ps.getD i .none = p at e
 generalize g.ps.getD i .none = q at e
 simp only [PV.core, Prod.mk.injEq] at e
 unfold ownU
 rw [e.2.1, e.2.2]
theorem same_len {g x : GV} (h : SameG g x) : x.ps.length = g.ps.length := by simpa using congrArg List.length h.ps
theorem same_assoc {g x : GV} (h : SameG g x) (i : Nat) : (x.ls.getD i .none).assoc = (g.ls.getD i .none).assoc := by
 have e : (x.ls.map LV.core).getD i (LV.core .none) = (g.ls.map LV.core).getD i (LV.core .none) := by rw [h.ls]
 have m : ∀ l : List LV, (l.map LV.core).getD i (LV.core .none) = LV.core (l.getD i .none) := fun l => by
  simp only [List.getD, List.getElem?_map]
  cases l[i]? <;> rfl
 rw [m, m] at e
 simp only [LV.core, Prod.mk.injEq] at e
 exact e.1
theorem same_inT {g x : GV} (h : SameG g x) (t : Int) : inT x t = inT g t := by unfold inT; rw [h.ts]
theorem same_inP {g x : GV} (h : SameG g x) (t : Int) : inP x t = inP g t := by unfold inP; rw [same_len h]
theorem same_levF {g x : GV} (h : SameG g x) (er t : Int) : levF x er t = levF g er t := by unfold levF; rw [same_inT h, same_lev h]
theorem same_terF {g x : GV} (h : SameG g x) (er t : Int) : terF x er t = terF g er t := by unfold terF; rw [same_inP h, same_own h]
theorem same_prlF {g x : GV} (h : SameG g x) (er t : Int) : prlF x er t = prlF g er t := by unfold prlF; rw [same_terF h, same_lev h]
theorem same_decU {g x : GV} (h : SameG g x) (p : Nat) (t : Int) : decU x p t = decU g p t := by
 unfold decU duelD plvU
 rw [same_own h, same_lev h, same_lev h, same_assoc h]
theorem same_decF {g x : GV} (h : SameG g x) (er p t : Int) : decF x er p t = decF g er p t := by unfold decF; rw [same_inP h, same_inT h, same_decU h]
theorem decU_len (g : GV) (p : Nat) (t : Int) : (decU g p t).drop.length <= 1 := by
 unfold decU duelD eqD
 repeat' split
 all_goals simp [noneD, redD, shiD, errD]
theorem dec_len (g : GV) (er p t : Int) : (decF g er p t).1.drop.length <= 1 := by
 unfold decF
 split
 ·simp [DV.zero]
 ·split
  ·simp [DV.zero]
  ·split
   ·simp [DV.zero]
   ·exact decU_len g _ _
end Go.Proofs.Ytlkkllehaabebaa
