import Derived.Test.YtfckmbdcfeljiaaDoorRefW2
namespace Go.Proofs.YtfckmbdcfeljiaaDoor
set_option linter.unusedVariables false
open Go.RowKit

set_option maxHeartbeats 400000 in
theorem refsum_any (ao : Option Addr) (cap : Nat) (xs : List Int) (w : World) (hl : xs.length ≤ 140737488355328) (hr : RowAt w ao xs) :
    Calls Tryd.prog 31 #[.slice ao xs.length cap] w fun e w' => e = .returned (.int .u32 (adler xs)) ∧ w = w' := by
  go_enter Tryd.func31, Tryd.ntmps31
  go_wp2
  go_loop [3, 4, 5] (fun x y i => ∃ k : Nat, k ≤ xs.length ∧ i = .int .i64 k ∧ x = .int .u32 (lo (xs.take k)) ∧ y = .int .u32 (hi (xs.take k))) (fun _ _ i => xs.length - (intOf i).toNat)
  case atStart => exact ⟨0, Nat.zero_le _, rfl, rfl, rfl⟩
  case round =>
    obtain ⟨k, hk, rfl, rfl, rfl⟩ := hrel
    have hlo := lo_bd (xs.take k)
    have hhi := hi_bd (xs.take k)
    by_cases hlt : k < xs.length
    · obtain ⟨b, off, rfl, hc⟩ := hr.2 (by intro h; subst h; simp at hlt)
      have hck := hc k hlt
      have hb := hr.1.at k
      have HS1 : Hid (lo (xs.take (k + 1)) = (lo (xs.take k) + xs.getD k 0) % 65521) := by rw [take_snoc xs k hlt, lo_snoc]; rfl
      have HS2 : Hid (hi (xs.take (k + 1)) = (hi (xs.take k) + (lo (xs.take k) + xs.getD k 0) % 65521) % 65521) := by rw [take_snoc xs k hlt, hi_snoc, lo_snoc]; rfl
      clear hc hr
      generalize hx : xs.getD k 0 = x at *
      clear hx
      go_wp2
      go_round
      case rel => exact ⟨k + 1, by omega, by go_num, by rw [HS1.out], by rw [HS2.out]⟩
      case measure => simp [intOf]; omega
    · go_wp2
      go_ret
      refine ⟨?_, rfl⟩
      have e : k = xs.length := by omega
      rw [e, List.take_length]
      rfl

theorem accStep' (k : Nat) (acc c : Int) (hk : k ≤ 9) (h0 : 0 ≤ acc) (h1 : acc < 128 ^ k) (hc0 : 0 ≤ c) (hc1 : c ≤ 255) (h9 : k = 9 → c = 1) :
    bits .or .u64 acc (IntKind.u64.wrap (c % 128 * 2 ^ (7 * k))) = acc + c % 128 * 128 ^ k := by
  have hl := lim k hk (c % 128) (by omega) (fun e => by have := h9 e; omega)
  have hp := pow_lim k hk
  have hq := pow_pos' k
  rw [pow2_7, IntKind.wrap_u64, Int.emod_eq_of_lt (Int.mul_nonneg (by omega) (by omega)) hl]
  rw [pow128] at h1 hl hp ⊢
  exact orAcc (7 * k) acc (c % 128) h0 h1 (by omega) hl (by omega)

set_option maxRecDepth 100000 in
set_option maxHeartbeats 2000000 in
theorem refnum_any (ao : Option Addr) (N cap at' : Nat) (xs : List Int) (w : World) (hN : N = xs.length) (hl : xs.length ≤ 140737488355328) (hat : at' ≤ xs.length) (hr : RowAt w ao xs) (n s er : Int) (hp : parse (xs.drop at') = (n, s, er)) :
    Calls Tryd.prog 76 #[.slice ao N cap, .int .i64 at'] w fun e w' => e = .returned (.tuple #[.int .u64 n, .int .i64 (at' + s), .int .i64 er]) ∧ w = w' := by
  subst hN
  have HP0 : Hid (parse (xs.drop at') = (n, s, er)) := hp
  clear hp
  go_enter Tryd.func76, Tryd.ntmps76
  go_wp2
  go_loop [7, 8] (fun x i => ∃ (k : Nat) (acc : Int), at' + k ≤ xs.length ∧ k ≤ 9 ∧ i = .int .i64 k ∧ x = .int .u64 acc ∧ 0 ≤ acc ∧ acc < 128 ^ k ∧ parseGo k acc (xs.drop (at' + k)) = (n, s, er)) (fun _ i => xs.length - (intOf i).toNat)
  case atStart => exact ⟨0, 0, by omega, by omega, rfl, rfl, by omega, by decide, HP0.out⟩
  case round =>
    obtain ⟨k, acc, hk, hk9, rfl, rfl, ha0, ha1, hp⟩ := hrel
    have HP : Hid (parseGo k acc (xs.drop (at' + k)) = (n, s, er)) := hp
    clear hp HP0
    by_cases hlt : at' + k < xs.length
    · obtain ⟨b, off, rfl, hc⟩ := hr.2 (by intro h; subst h; simp at hlt)
      have hck := hc (at' + k) hlt
      have hb := hr.1.at (at' + k)
      have HD : Hid (xs.drop (at' + k) = xs.getD (at' + k) 0 :: xs.drop (at' + (k + 1))) := by
        show _ = _
        have e : xs.getD (at' + k) 0 = xs[at' + k] := by simp [List.getD, hlt]
        rw [e, List.drop_eq_getElem_cons hlt]; rfl
      clear hc hr
      generalize hx : xs.getD (at' + k) 0 = c at *
      clear hx
      have HA : Hid ((k = 9 → c = 1) → bits .or .u64 acc (IntKind.u64.wrap (c % 128 * 2 ^ (7 * k))) = acc + c % 128 * 128 ^ k) := accStep' k acc c hk9 ha0 ha1 hb.1 hb.2
      have HN : Hid (0 ≤ acc + c % 128 * 128 ^ k ∧ acc + c % 128 * 128 ^ k < 128 ^ (k + 1)) := accNext k acc c ha0 ha1 hb.1
      have HA1 : Hid (acc < 128 ^ k) := ha1
      clear ha1
      by_cases hbad : k = 9 ∧ c ≠ 1 ∨ 0 < k ∧ c = 0
      · obtain ⟨rfl, rfl, rfl⟩ : n = 0 ∧ s = 0 ∧ er = 13 := by
          have := HP.out
          rw [HD.out, parseGo] at this
          by_cases h9 : k = 9 ∧ c ≠ 1
          · rw [if_pos h9] at this; simp at this; omega
          · obtain ⟨z1, z2⟩ := hbad.resolve_left h9
            rw [if_neg h9, if_neg (by omega), if_pos ⟨z2, z1⟩] at this; simp at this; omega
        clear HP HD HA HN
        by_cases h9 : k = 9 ∧ c ≠ 1
        · have h9b : ((k : Int) == 9) = true := by simp; omega
          have h1b : (c != 1) = true := by simp [h9.2]
          clear h9 hbad
          go_wp2
          go_ret3
          exact ⟨by simp, rfl⟩
        · obtain ⟨z1, z2⟩ := hbad.resolve_left h9
          have h9b : ((k : Int) == 9) = false := by simp; intro e; exact h9 ⟨by omega, by omega⟩
          have hcb : (c == 0) = true := by simp [z2]
          clear h9 hbad z2
          go_wp2
          go_ret3
          exact ⟨by simp, rfl⟩
      · have HB : Hid (¬ (k = 9 ∧ c ≠ 1) ∧ ¬ (c = 0 ∧ 0 < k)) := ⟨fun h => hbad (Or.inl h), fun h => hbad (Or.inr ⟨h.2, h.1⟩)⟩
        clear hbad
        have HST : Hid (bits .or .u64 acc (IntKind.u64.wrap (c % 128 * 2 ^ (7 * k))) = acc + c % 128 * 128 ^ k) := HA.out (fun h => Classical.byContradiction fun z => HB.out.1 ⟨h, z⟩)
        by_cases hbig : 128 ≤ c
        · have h9b : ((k : Int) == 9) = false := by simp; intro e; exact HB.out.1 ⟨by omega, by omega⟩
          have hcb : (c == 0) = false := by simp; omega
          by_cases hk0 : 0 < k
          · go_wp2
            go_round
            case rel => exact ⟨k + 1, _, by omega, by have := HB.out; simp at h9b; omega, by go_num, rfl, by rw [HST.out]; exact HN.out.1, by rw [HST.out]; exact HN.out.2, by rw [HST.out, ← HP.out, HD.out]; conv => rhs; rw [parseGo, if_neg HB.out.1, if_pos hbig]⟩
            case measure => simp [intOf]; omega
          · go_wp2
            go_round
            case rel => exact ⟨k + 1, _, by omega, by have := HB.out; simp at h9b; omega, by go_num, rfl, by rw [HST.out]; exact HN.out.1, by rw [HST.out]; exact HN.out.2, by rw [HST.out, ← HP.out, HD.out]; conv => rhs; rw [parseGo, if_neg HB.out.1, if_pos hbig]⟩
            case measure => simp [intOf]; omega
        · have HF : Hid (n = acc + c % 128 * 128 ^ k ∧ s = k + 1 ∧ er = 0) := by
            have := HP.out
            rw [HD.out, parseGo, if_neg HB.out.1, if_neg hbig, if_neg HB.out.2] at this
            simp at this; exact ⟨this.1.symm, this.2.1.symm, this.2.2.symm⟩
          clear HP HD
          have fin : ∀ m : Int, m = (at' : Int) + k + 1 → Ending.returned (.tuple #[.int .u64 (bits .or .u64 acc (IntKind.u64.wrap (c % 128 * 2 ^ (7 * k)))), .int .i64 m, .int .i64 0]) = Ending.returned (.tuple #[.int .u64 n, .int .i64 (at' + s), .int .i64 er]) := by
            intro m hm
            rw [HST.out, HF.out.1, HF.out.2.1, HF.out.2.2, hm, Int.add_assoc]
          have FIN : Hid _ := fin
          clear fin
          by_cases h9 : k = 9
          · have h1 : c = 1 := Classical.byContradiction fun z => HB.out.1 ⟨h9, z⟩
            have h9b : ((k : Int) == 9) = true := by simp; omega
            have h1b : (c != 1) = false := by simp [h1]
            have hcb : (c == 0) = false := by simp [h1]
            have hk0 : 0 < k := by omega
            clear h9 h1
            go_wp2
            go_ret3
            exact ⟨FIN.out _ rfl, rfl⟩
          · have h9b : ((k : Int) == 9) = false := by simp; omega
            clear h9
            by_cases hk0 : 0 < k
            · have hcb : (c == 0) = false := by simp; intro e; exact HB.out.2 ⟨e, hk0⟩
              go_wp2
              go_ret3
              exact ⟨FIN.out _ rfl, rfl⟩
            · go_wp2
              go_ret3
              exact ⟨FIN.out _ rfl, rfl⟩
    · obtain ⟨rfl, rfl, rfl⟩ : n = 0 ∧ s = 0 ∧ er = 11 := by
        have := HP.out
        rw [List.drop_eq_nil_of_le (by omega), parseGo] at this
        simp at this; omega
      go_wp2
      go_ret3
      exact ⟨by simp, rfl⟩
end Go.Proofs.YtfckmbdcfeljiaaDoor
