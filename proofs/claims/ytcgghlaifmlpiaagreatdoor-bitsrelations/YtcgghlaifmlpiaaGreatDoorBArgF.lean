import Derived.Test.YtcgghlaifmlpiaaGreatDoorBD1ToBD3
namespace Go.Proofs.YtcgghlaifmlpiaaGreatDoor
set_option linter.unusedVariables false
open Go.ChangeShapes Go.WideShapes Go.ChangeAt Go.RowKit

theorem pairs_fineB {H : Type} {ts : List TypeId} {ds : List (DataW H)} (hs : (DataW.weightsEach Tryz.prog ts ds).all (· ≤ reachBytes) = true) {j : Nat} {d : DataW H} {n : Nat} (ht : ts[j]? = some 22) (hd : ds[j]? = some d) (h : LD n d) : n ≤ 8796093022000 := by
  have := ld_weight2 (b := 16) Tryz.underlying22 (by decide +kernel) h fun k hk => by
    have := List.all_eq_true.1 hs k (DataW.weights_mem_each ht hd k hk)
    simpa using this
  omega
theorem lists_fineB {H : Type} {ts : List TypeId} {ds : List (DataW H)} (hs : (DataW.weightsEach Tryz.prog ts ds).all (· ≤ reachBytes) = true) {j : Nat} {d : DataW H} {L : List (List Int)} (ht : ts[j]? = some 24) (hd : ds[j]? = some d) (h : LLDB L d) : L.length ≤ 5864062014650 ∧ ∀ l ∈ L, l.length ≤ 17592186044000 := by
  have hw : ∀ k ∈ d.weights Tryz.prog 24, k ≤ reachBytes := fun k hk => by
    have := List.all_eq_true.1 hs k (DataW.weights_mem_each ht hd k hk)
    simpa using this
  rcases h with ⟨rfl, rfl⟩ | ⟨el, sp, rfl, e, hE⟩
  · exact ⟨by simp, fun l hl => by cases hl⟩
  · obtain ⟨h1, h2⟩ := slice_weight Tryz.underlying24 (by decide +kernel) hw
    have h3 := slice_weight2 (b := 24) Tryz.underlying24 (by decide +kernel) hw
    refine ⟨by omega, fun l hl => ?_⟩
    obtain ⟨i, hi, rfl⟩ := in_getD (d := []) hl
    have := ld_weight2 (b := 8) Tryz.underlying46 (by decide +kernel) (hE i hi) fun k hk => h2 _ (by simp [List.getD, show i < el.length by omega]) k hk
    omega
end Go.Proofs.YtcgghlaifmlpiaaGreatDoor
