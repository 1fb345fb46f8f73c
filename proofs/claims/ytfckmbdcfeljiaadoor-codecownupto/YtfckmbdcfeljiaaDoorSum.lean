import Derived.Test.YtfckmbdcfeljiaaDoorProg
import Derived.Test.YtfckmbdcfeljiaaDoorPlain
import Derived.WalkSpells
import Derived.WalkLawsBesides
import Derived.Handy
namespace Go.Proofs.YtfckmbdcfeljiaaDoor
set_option linter.unusedVariables false
open Go.RowKit

set_option maxHeartbeats 400000 in
theorem sum_any (ao : Option Addr) (cap : Nat) (xs : List Int) (w : World) (hl : xs.length ≤ 140737488355328) (hr : RowAt w ao xs) :
    Calls Tryd.prog 23 #[.slice ao xs.length cap] w fun e w' => e = .returned (.int .u32 (adler xs)) ∧ w' = w := by
  go_enter Tryd.func23, Tryd.ntmps23
  go_wp2
  go_loop [3, 4, 9] (fun x y i => ∃ k : Nat, k ≤ xs.length ∧ i = .int .i64 k ∧ x = .int .u32 (lo (xs.take k)) ∧ y = .int .u32 (hi (xs.take k))) (fun _ _ i => xs.length - (intOf i).toNat)
  case atStart => exact ⟨0, Nat.zero_le _, rfl, rfl, rfl⟩
  case round =>
    obtain ⟨k, hk, rfl, rfl, rfl⟩ := hrel
    have hlo := lo_bd (xs.take k)
    have hhi := hi_bd (xs.take k)
    by_cases hlt : k < xs.length
    · obtain ⟨b, off, rfl, hc⟩ := hr.2 (by intro h; subst h; simp at hlt)
      have hck := hc k hlt
      have hb := hr.1.at k
      have HS1 : Hid (lo (xs.take (k + 1)) = (lo (xs.take k) + xs.getD k 0) % 65521) := by rw [take_snoc xs k hlt, lo_snoc]; rfl
      have HS2 : Hid (hi (xs.take (k + 1)) = (hi (xs.take k) + (lo (xs.take k) + xs.getD k 0) % 65521) % 65521) := by rw [take_snoc xs k hlt, hi_snoc, lo_snoc]; rfl
      clear hc hr
      generalize hx : xs.getD k 0 = x at *
      clear hx
      go_wp2
      go_round
      case rel => exact ⟨k + 1, by omega, by go_num, by rw [HS1.out], by rw [HS2.out]⟩
      case measure => simp [intOf]; omega
    · go_wp2
      go_ret
      refine ⟨?_, rfl⟩
      have e : k = xs.length := by omega
      rw [e, List.take_length]
      rw [e, List.take_length] at hlo hhi
      show Ending.returned (Value.int _ (bits _ _ _ _)) = _
      rw [orJoin32 _ _ hhi.1 (by omega) hlo.1 (by omega)]
      rfl
end Go.Proofs.YtfckmbdcfeljiaaDoor
