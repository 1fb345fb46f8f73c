import Derived.Test.YtchocojmideleaaGreatDoorGCheckPToGSame2
namespace Go.Proofs.YtchocojmideleaaGreatDoor
set_option linter.unusedVariables false
open Go.RowKit

set_option maxHeartbeats 1000000 in
theorem samecores_g (ao bo : Option Addr) (n m ca cb : Nat) (ss : List (Int × Int)) (w : World) (hn : n = ss.length) (hm : m = ss.length) (hl : ss.length ≤ 140737488355328) (hr : SymRow w ao ss) (hs : SymRow w bo ss) :
    Calls Tryz.prog 18 #[.slice ao n ca, .slice bo m cb] w fun e w' => e = .returned (.bool true) ∧ ∃ d, w' = w.drewN d := by
  subst hn hm
  have hb : ((ss.length : Int) != ss.length) = false := by simp
  go_enter Tryz.func18, Tryz.ntmps18
  go_wp2
  go_loopw [5] (fun i wr => ∃ k d : Nat, k ≤ ss.length ∧ i = .int .i64 k ∧ wr = w.drewN d) (fun i _ => ss.length - (intOf i).toNat)
  case atStart => exact ⟨0, 0, Nat.zero_le _, rfl, rfl⟩
  case round =>
    obtain ⟨k, d, hk, rfl, rfl⟩ := hrel
    by_cases hlt : k < ss.length
    · obtain ⟨b, off, rfl, _, hc⟩ := hr (by intro h; subst h; simp at hlt)
      obtain ⟨b2, off2, rfl, _, hc2⟩ := hs (by intro h; subst h; simp at hlt)
      obtain ⟨h1, h2⟩ := hc k hlt
      obtain ⟨h3, h4⟩ := hc2 k hlt
      clear hc hc2 hr hs
      generalize ss.getD k (0, 0) = q at *
      obtain ⟨q1, q2⟩ := q
      simp only at h1 h2 h3 h4
      have e1 : (q1 == q1) = true := by simp
      have e2 : (q2 == q2) = true := by simp
      go_wp2
      go_quiet (fail)
      go_wp2
      go_roundw
      case rel => exact ⟨k + 1, _, by omega, by go_num, rfl⟩
      case measure => simp [intOf]; omega
    · go_wp2
      go_ret
      exact ⟨rfl, _, rfl⟩

end Go.Proofs.YtchocojmideleaaGreatDoor
