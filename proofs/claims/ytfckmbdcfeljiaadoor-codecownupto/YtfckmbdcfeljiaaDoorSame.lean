import Derived.Test.YtfckmbdcfeljiaaDoorOwn
import Derived.Deep.QuietTactic
import Derived.BigQuiet
namespace Go.Proofs.YtfckmbdcfeljiaaDoor
set_option linter.unusedVariables false
open Go.RowKit

/-- The heap has not turned. -/
def Still (w w' : World) : Prop := ∀ B, Below B w w'
theorem Still.refl (w : World) : Still w w := fun B => Below.refl B w
theorem Still.drew {w w' : World} (h : Still w w') : Still w w'.drew := fun B => (h B).drew
theorem Still.trans {w w1 w2 : World} (h : Still w w1) (k : Still w1 w2) : Still w w2 := fun B => (h B).trans (k B)
theorem Still.cell {w w' : World} (h : Still w w') (b o : Nat) : w'.cell? ⟨b, o, none⟩ = w.cell? ⟨b, o, none⟩ := (h (b + 1)).cell (p := ⟨b, o, none⟩) (Nat.lt_succ_self b)
theorem Still.row {w w' : World} (h : Still w w') {ao : Option Addr} {xs : List Int} (hr : RowAt w ao xs) : RowAt w' ao xs := hr.later (h _)
theorem Still.own {w w' : World} (h : Still w w') {v : Value} {xs : List Int} (hr : Own w v xs) : Own w' v xs := hr.kept fun k _ => (h (k + 1)).block k (Nat.lt_succ_self k)

theorem take_eq_step {xs ys : List Int} {k : Nat} (h : xs.take k = ys.take k) (hx : k < xs.length) (hy : k < ys.length) (e : xs.getD k 0 = ys.getD k 0) : xs.take (k + 1) = ys.take (k + 1) := by
  rw [take_snoc xs k hx, take_snoc ys k hy, h, e]

set_option maxHeartbeats 1000000 in
theorem same_any (ao bo : Option Addr) (ca cb : Nat) (xs ys : List Int) (w : World) (hl : xs.length ≤ 140737488355328) (hl2 : ys.length ≤ 140737488355328) (hr : RowAt w ao xs) (hs : RowAt w bo ys) :
    Calls Tryd.prog 22 #[.slice ao xs.length ca, .slice bo ys.length cb] w fun e w' => e = .returned (.bool (decide (xs = ys))) ∧ Still w w' := by
  by_cases hlen : xs.length = ys.length
  · have hb : ((xs.length : Int) != ys.length) = false := by simp [hlen]
    have HL : Hid (xs.length = ys.length) := hlen
    clear hlen
    go_enter Tryd.func22, Tryd.ntmps22
    go_wp2
    go_loopw [5] (fun i wr => ∃ k : Nat, k ≤ xs.length ∧ i = .int .i64 k ∧ xs.take k = ys.take k ∧ Still w wr) (fun i _ => xs.length - (intOf i).toNat)
    case atStart => exact ⟨0, Nat.zero_le _, rfl, rfl, Still.refl _⟩
    case round =>
      obtain ⟨k, hk, rfl, htk, hst⟩ := hrel
      have HT : Hid (xs.take k = ys.take k) := htk
      clear htk
      by_cases hlt : k < xs.length
      · have hlt2 : k < ys.length := by have := HL.out; omega
        obtain ⟨b, off, rfl, hc⟩ := hr.2 (by intro h; subst h; simp at hlt)
        obtain ⟨b2, off2, rfl, hc2⟩ := hs.2 (by intro h; subst h; simp at hlt2)
        have h1 := (hst.cell b (off + k)).trans (hc k hlt)
        have h2 := (hst.cell b2 (off2 + k)).trans (hc2 k hlt2)
        have HX : Hid (xs.getD k 0 = ys.getD k 0 → xs.take (k + 1) = ys.take (k + 1)) := fun e => take_eq_step HT.out hlt hlt2 e
        have HN : Hid (xs.getD k 0 ≠ ys.getD k 0 → xs ≠ ys) := fun e h => e (by rw [h])
        have hbx := hr.1.at k
        have hby := hs.1.at k
        clear hc hc2 hr hs
        generalize xs.getD k 0 = x at *
        generalize ys.getD k 0 = y at *
        by_cases he : x = y
        · have het : (x != y) = false := by simp [he]
          have HE : Hid (x = y) := he
          clear he
          go_wp2
          go_region
          all_goals go_wp2
          all_goals go_roundw
          all_goals first
            | exact ⟨k + 1, by omega, by go_num, HX.out HE.out, hst.drew⟩
            | (simp [intOf]; omega)
        · have het : (x != y) = true := by simp [he]
          have HE : Hid (x ≠ y) := he
          clear he
          go_wp2
          go_region
          all_goals go_wp2
          all_goals go_ret
          all_goals exact ⟨by simp [HN.out HE.out], hst.drew⟩
      · go_wp2
        go_ret
        refine ⟨?_, hst⟩
        have e : xs = ys := by
          have := HT.out
          rwa [List.take_of_length_le (by omega), List.take_of_length_le (by have := HL.out; omega)] at this
        simp [e]
  · have hb : ((xs.length : Int) != ys.length) = true := by simp; omega
    go_enter Tryd.func22, Tryd.ntmps22
    go_wp2
    go_ret
    refine ⟨?_, Still.refl _⟩
    have hne : xs ≠ ys := fun h => hlen (by rw [h])
    simp [hne]
end Go.Proofs.YtfckmbdcfeljiaaDoor
