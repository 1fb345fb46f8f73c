import Derived.Test.YtfckmbdcfeljiaaDoorOwn
namespace Go.Proofs.YtfckmbdcfeljiaaDoor
set_option linter.unusedVariables false
open Go.RowKit

def joinSum (xs : List Int) : Int := xs.foldl (fun a c => a * 256 % 4294967296 + c) 0
theorem joinSum_snoc (xs : List Int) (c : Int) : joinSum (xs ++ [c]) = joinSum xs * 256 % 4294967296 + c := by simp [joinSum]
theorem joinSum_bd (xs : List Int) (h : isBytes xs) : 0 ≤ joinSum xs ∧ joinSum xs < 4294967296 := by
  rcases List.eq_nil_or_concat xs with rfl | ⟨ys, c, rfl⟩
  · simp [joinSum]
  · rw [List.concat_eq_append, joinSum_snoc]
    have := h c (by simp)
    omega
theorem orJoin8 (a c : Int) (h0 : 0 ≤ c) (h1 : c < 256) : bits .or .u32 (a * 256 % 4294967296) c = a * 256 % 4294967296 + c := by
  rw [u32_or _ _ (by omega) (by omega) (by omega) (by omega), nat_join 8 _ _ (by omega) (by omega)]; omega

set_option maxHeartbeats 400000 in
theorem parsesum_any (ao : Option Addr) (cap : Nat) (xs : List Int) (w : World) (hl : xs.length ≤ 140737488355328) (hr : RowAt w ao xs) :
    Calls Tryd.prog 34 #[.slice ao xs.length cap] w fun e w' => e = .returned (.int .u32 (joinSum xs)) ∧ w' = w := by
  go_enter Tryd.func34, Tryd.ntmps34
  go_wp2
  go_loop [3, 8] (fun x i => ∃ k : Nat, k ≤ xs.length ∧ i = .int .i64 k ∧ x = .int .u32 (joinSum (xs.take k))) (fun _ i => xs.length - (intOf i).toNat)
  case atStart => exact ⟨0, Nat.zero_le _, rfl, rfl⟩
  case round =>
    obtain ⟨k, hk, rfl, rfl⟩ := hrel
    have hbd := joinSum_bd (xs.take k) (isBytes_take hr.1 k)
    by_cases hlt : k < xs.length
    · obtain ⟨b, off, rfl, hc⟩ := hr.2 (by intro h; subst h; simp at hlt)
      have hck := hc k hlt
      have hb := hr.1.at k
      have HS1 : Hid (joinSum (xs.take (k + 1)) = joinSum (xs.take k) * 256 % 4294967296 + xs.getD k 0) := by rw [take_snoc xs k hlt, joinSum_snoc]; rfl
      have HJ : Hid (bits .or .u32 (joinSum (xs.take k) * 256 % 4294967296) (xs.getD k 0) = joinSum (xs.take k) * 256 % 4294967296 + xs.getD k 0) := orJoin8 _ _ hb.1 (by omega)
      clear hc hr
      generalize hx : xs.getD k 0 = x at *
      clear hx
      go_wp2
      go_round
      case rel => exact ⟨k + 1, by omega, by go_num, by rw [HS1.out, ← HJ.out]⟩
      case measure => simp [intOf]; omega
    · go_wp2
      go_ret
      have e : k = xs.length := by omega
      rw [e, List.take_length]
      exact ⟨rfl, rfl⟩
end Go.Proofs.YtfckmbdcfeljiaaDoor
