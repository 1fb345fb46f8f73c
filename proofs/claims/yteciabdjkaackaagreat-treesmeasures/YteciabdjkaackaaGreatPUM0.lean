import Derived.Test.YteciabdjkaackaaGreatPUG2
namespace Go.Proofs.YteciabdjkaackaaGreat
set_option linter.unusedVariables false
open Go.RowKit
theorem sam_of_sgs {a b : TV} (h : sgs a = sgs b) : samV a b := by
 obtain ⟨⟨x, h1, h2⟩, -⟩ := bld_one a
 obtain ⟨⟨y, h3, h4⟩, -⟩ := bld_one b
 rw [h, h3] at h1
 injection h1 with h1
 subst h1
 exact samV_trans _ _ _ (samV_symm _ _ h2) h4
theorem path_one {π ρ : List Nat} {t : TV} (h : okP π t) (g : okP ρ t) (e : nuP π t = nuP ρ t) : getAt π t = getAt ρ t := by
 have h1 := pre_path π t h
 rw [e, pre_path ρ t g] at h1
 exact (Option.some.inj h1).symm
theorem graft_one {π ρ : List Nat} {t s : TV} (h : okP π t) (g : okP ρ t) (e : nuP π t = nuP ρ t) : samV (setAt π t s) (setAt ρ t s) := by
 obtain ⟨A, B, q1, q2, q3⟩ := pre_set π t h
 obtain ⟨C, D, r1, r2, r3⟩ := pre_set ρ t g
 rw [q2, path_one h g e, List.append_assoc, List.append_assoc] at r2
 obtain ⟨k1, k2⟩ := List.append_inj r2 (by rw [q1, r1, e])
 obtain ⟨-, k3⟩ := List.append_inj k2 rfl
 refine sam_of_sgs ?_
 unfold sgs
 rw [q3 s, r3 s, k1, k3]
theorem rat_path {π : List Nat} {t T : TV} {e : Int} (h : okP π t) (hr : rAtR t (nuP π t : Int) T e) : e = 0 /\ samV (getAt π t) T := by
 have hl := nu_lt _ _ h
 unfold rAtR at hr
 rw [if_pos ⟨by omega, by omega⟩] at hr
 obtain ⟨h1, h2⟩ := hr
 have e2 : (preT t).getD ((nuP π t : Nat) : Int).toNat .none = getAt π t := by
  rw [Int.toNat_natCast, List.getD, pre_path π t h]
  rfl
 rw [e2] at h2
 exact ⟨h1, h2⟩
theorem rgr_path {π : List Nat} {t s T : TV} {e : Int} (h : okP π t) (hr : rGrR t (nuP π t : Int) s T e) : e = 0 /\ samV T (setAt π t s) := by
 have hl := nu_lt _ _ h
 unfold rGrR at hr
 rw [if_pos ⟨by omega, by omega⟩] at hr
 obtain ⟨h1, ρ, g1, g2, g3⟩ := hr
 exact ⟨h1, samV_trans _ _ _ g3 (graft_one g1 h (by omega))⟩
theorem rat_out {t T : TV} {place e : Int} (h : ¬ (0 <= place /\ place < szT t)) (hr : rAtR t place T e) : e = 4 /\ T = .none := by
 unfold rAtR at hr
 rwa [if_neg h] at hr
theorem rgr_out {t s T : TV} {place e : Int} (h : ¬ (0 <= place /\ place < szT t)) (hr : rGrR t place s T e) : e = 4 /\ T = .none := by
 unfold rGrR at hr
 rwa [if_neg h] at hr
theorem place_ex (t : TV) (place : Int) : (∃ π, okP π t /\ place = (nuP π t : Int)) ∨ ¬ (0 <= place /\ place < szT t) := by
 by_cases h : 0 <= place /\ place < szT t
 ·obtain ⟨π, h1, h2, -⟩ := path_ex t 0 0 place.toNat (by omega)
  exact .inl ⟨π, h1, by omega⟩
 ·exact .inr h
end Go.Proofs.YteciabdjkaackaaGreat
