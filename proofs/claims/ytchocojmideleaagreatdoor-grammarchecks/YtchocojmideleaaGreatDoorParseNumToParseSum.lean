import Derived.Test.YtchocojmideleaaGreatDoorOwnToAppNum
namespace Go.Proofs.YtchocojmideleaaGreatDoor.C
set_option linter.unusedVariables false
open Go.RowKit

/-- The number with which the bytes begin, begun at byte i with acc: number, size, error. -/
def parseGo : Nat → Int → List Int → Int × Int × Int
  | _, _, [] => (0, 0, 11)
  | i, acc, c :: r =>
    if i = 9 ∧ c ≠ 1 then (0, 0, 13)
    else if 128 ≤ c then parseGo (i + 1) (acc + c % 128 * 128 ^ i) r
    else if c = 0 ∧ 0 < i then (0, 0, 13)
    else (acc + c % 128 * 128 ^ i, i + 1, 0)
def parse (xs : List Int) : Int × Int × Int := parseGo 0 0 xs
theorem andNot128 (c : Int) (h0 : 0 ≤ c) (h1 : c < 256) : bits .andNot .u8 c 128 = c % 128 := by
  rw [u8_andNot c 128 h0 h1 (by decide) (by decide)]
  have h : ∀ m : Nat, m < 256 → m &&& (255 - 128) = m % 128 := by decide +kernel
  have e := h c.toNat (by omega)
  show ((c.toNat &&& (255 - 128) : Nat) : Int) = _
  rw [e]; omega

theorem orAcc (i : Nat) (acc c : Int) (h0 : 0 ≤ acc) (h1 : acc < ((2 ^ i : Nat) : Int)) (hc0 : 0 ≤ c) (hlim : c * ((2 ^ i : Nat) : Int) < 18446744073709551616) (ha : acc < 18446744073709551616) :
    bits .or .u64 acc (c * ((2 ^ i : Nat) : Int)) = acc + c * ((2 ^ i : Nat) : Int) := by
  obtain ⟨a, rfl⟩ := Int.eq_ofNat_of_zero_le h0
  obtain ⟨d, rfl⟩ := Int.eq_ofNat_of_zero_le hc0
  have e : (d : Int) * ((2 ^ i : Nat) : Int) = ((d * 2 ^ i : Nat) : Int) := by simp
  rw [e] at hlim ⊢
  rw [u64_or_nat a (d * 2 ^ i) (by omega) (by omega), Nat.or_comm, nat_join i (d * 2 ^ i) a (by simp) (by omega)]
  simp [Int.add_comm]
theorem pow128 (k : Nat) : (128 : Int) ^ k = ((2 ^ (7 * k) : Nat) : Int) := by
  rw [Nat.pow_mul]; simp
theorem pow2_7 (k : Nat) : (2 : Int) ^ (7 * k) = 128 ^ k := by
  rw [Int.pow_mul]; rfl
theorem lim (k : Nat) (hk : k ≤ 9) (d : Int) (h1 : d < 128) (h9 : k = 9 → d ≤ 1) : d * 128 ^ k < 18446744073709551616 := by
  have h : k = 0 ∨ k = 1 ∨ k = 2 ∨ k = 3 ∨ k = 4 ∨ k = 5 ∨ k = 6 ∨ k = 7 ∨ k = 8 ∨ k = 9 := by omega
  rcases h with rfl | rfl | rfl | rfl | rfl | rfl | rfl | rfl | rfl | rfl <;> simp at h9 ⊢ <;> omega
theorem pow_lim (k : Nat) (hk : k ≤ 9) : (128 : Int) ^ k ≤ 9223372036854775808 := by
  have h : k = 0 ∨ k = 1 ∨ k = 2 ∨ k = 3 ∨ k = 4 ∨ k = 5 ∨ k = 6 ∨ k = 7 ∨ k = 8 ∨ k = 9 := by omega
  rcases h with rfl | rfl | rfl | rfl | rfl | rfl | rfl | rfl | rfl | rfl <;> simp
theorem pow_pos' (k : Nat) : (0 : Int) < 128 ^ k := by rw [pow128]; exact Int.natCast_pos.2 (Nat.two_pow_pos _)
theorem accStep (k : Nat) (acc c : Int) (hk : k ≤ 9) (h0 : 0 ≤ acc) (h1 : acc < 128 ^ k) (hc0 : 0 ≤ c) (hc1 : c ≤ 255) (h9 : k = 9 → c = 1) :
    bits .or .u64 acc (IntKind.u64.wrap (IntKind.u64.wrap (bits .andNot .u8 c 128) * 2 ^ (7 * k))) = acc + c % 128 * 128 ^ k := by
  have hl := lim k hk (c % 128) (by omega) (fun e => by have := h9 e; omega)
  have hp := pow_lim k hk
  have hq := pow_pos' k
  rw [andNot128 c hc0 (by omega), pow2_7, IntKind.wrap_u64, IntKind.wrap_u64, Int.emod_eq_of_lt (a := c % 128) (by omega) (by omega), Int.emod_eq_of_lt (Int.mul_nonneg (by omega) (by omega)) hl]
  rw [pow128] at h1 hl hp ⊢
  exact orAcc (7 * k) acc (c % 128) h0 h1 (by omega) hl (by omega)
theorem accNext (k : Nat) (acc c : Int) (h0 : 0 ≤ acc) (h1 : acc < 128 ^ k) (hc0 : 0 ≤ c) : 0 ≤ acc + c % 128 * 128 ^ k ∧ acc + c % 128 * 128 ^ k < 128 ^ (k + 1) := by
  have hq := pow_pos' k
  have h2 : c % 128 * 128 ^ k ≤ 127 * 128 ^ k := Int.mul_le_mul_of_nonneg_right (by omega) (by omega)
  have h3 : 0 ≤ c % 128 * 128 ^ k := Int.mul_nonneg (by omega) (by omega)
  rw [Int.pow_succ]
  omega

set_option maxRecDepth 100000 in
set_option maxHeartbeats 1000000 in
theorem parsenum_any (ao : Option Addr) (cap : Nat) (xs : List Int) (w : World) (hl : xs.length ≤ 140737488355328) (hr : RowAt w ao xs) :
    Calls Tryz.prog 143 #[.slice ao xs.length cap] w fun e w' => e = .returned (.tuple #[.int .u64 (parse xs).1, .int .i64 (parse xs).2.1, .int .i64 (parse xs).2.2]) ∧ w' = w := by
  go_enter Tryz.func143, Tryz.ntmps143
  go_wp2
  go_loop [5, 10] (fun x i => ∃ (k : Nat) (acc : Int), k ≤ xs.length ∧ k ≤ 9 ∧ i = .int .i64 k ∧ x = .int .u64 acc ∧ 0 ≤ acc ∧ acc < 128 ^ k ∧ parse xs = parseGo k acc (xs.drop k)) (fun _ i => xs.length - (intOf i).toNat)
  case atStart => exact ⟨0, 0, Nat.zero_le _, by omega, rfl, rfl, by omega, by decide, rfl⟩
  case round =>
    obtain ⟨k, acc, hk, hk9, rfl, rfl, ha0, ha1, hp⟩ := hrel
    have HP : Hid (parse xs = parseGo k acc (xs.drop k)) := hp
    clear hp
    by_cases hlt : k < xs.length
    · obtain ⟨b, off, rfl, hc⟩ := hr.2 (by intro h; subst h; simp at hlt)
      have hck := hc k hlt
      have hb := hr.1.at k
      have HD : Hid (xs.drop k = xs.getD k 0 :: xs.drop (k + 1)) := by
        show _ = _
        rw [List.drop_eq_getElem_cons hlt]; simp [List.getD, hlt]
      clear hc hr
      generalize hx : xs.getD k 0 = c at *
      clear hx
      have HA : Hid ((k = 9 → c = 1) → bits .or .u64 acc (IntKind.u64.wrap (IntKind.u64.wrap (bits .andNot .u8 c 128) * 2 ^ (7 * k))) = acc + c % 128 * 128 ^ k) := accStep k acc c hk9 ha0 ha1 hb.1 hb.2
      have HN : Hid (0 ≤ acc + c % 128 * 128 ^ k ∧ acc + c % 128 * 128 ^ k < 128 ^ (k + 1)) := accNext k acc c ha0 ha1 hb.1
      have HA1 : Hid (acc < 128 ^ k) := ha1
      clear ha1
      by_cases h9 : k = 9
      · have h9b : ((k : Int) == 9) = true := by simp; omega
        have H9 : Hid (k = 9) := h9
        clear h9
        by_cases h1 : c = 1
        · have h1b : (c != 1) = false := by simp [h1]
          have hcb : (c == 0) = false := by simp [h1]
          have hsm : c < 128 := by omega
          have fin : Ending.returned (.tuple #[.int .u64 (bits .or .u64 acc (IntKind.u64.wrap (IntKind.u64.wrap (bits .andNot .u8 c 128) * 2 ^ (7 * k)))), .int .i64 ((k : Int) + 1), .int .i64 0]) = Ending.returned (.tuple #[.int .u64 (parse xs).1, .int .i64 (parse xs).2.1, .int .i64 (parse xs).2.2]) := by
            rw [HA.out (fun _ => h1), HP.out, HD.out, parseGo, if_neg (fun h => h.2 h1), if_neg (by omega), if_neg (by omega)]
          have FIN : Hid _ := fin
          clear fin h1
          go_wp2
          go_ret3
          exact ⟨FIN.out, rfl⟩
        · have h1b : (c != 1) = true := by simp [h1]
          have fin : Ending.returned (.tuple #[.int .u64 0, .int .i64 0, .int .i64 13]) = Ending.returned (.tuple #[.int .u64 (parse xs).1, .int .i64 (parse xs).2.1, .int .i64 (parse xs).2.2]) := by
            rw [HP.out, HD.out, parseGo, if_pos ⟨H9.out, h1⟩]
          have FIN : Hid _ := fin
          clear fin h1
          go_wp2
          go_ret3
          exact ⟨FIN.out, rfl⟩
      · have h9b : ((k : Int) == 9) = false := by simp; omega
        have e1 : ¬ (k = 9 ∧ c ≠ 1) := fun h => h9 h.1
        have H9 : Hid (k ≠ 9) := h9
        have HE1 : Hid (¬ (k = 9 ∧ c ≠ 1)) := e1
        clear h9 e1
        by_cases hbig : 128 ≤ c
        · go_wp2
          go_round
          case rel => exact ⟨k + 1, _, by omega, by have := H9.out; omega, by go_num, rfl, by rw [HA.out (fun h => absurd h H9.out)]; exact HN.out.1, by rw [HA.out (fun h => absurd h H9.out)]; exact HN.out.2, by rw [HA.out (fun h => absurd h H9.out), HP.out, HD.out, parseGo, if_neg HE1.out, if_pos hbig]⟩
          case measure => simp [intOf]; omega
        · by_cases hz : c = 0 ∧ 0 < k
          · have hcb : (c == 0) = true := by simp [hz.1]
            have hk0 : 0 < k := hz.2
            have fin : Ending.returned (.tuple #[.int .u64 0, .int .i64 0, .int .i64 13]) = Ending.returned (.tuple #[.int .u64 (parse xs).1, .int .i64 (parse xs).2.1, .int .i64 (parse xs).2.2]) := by
              rw [HP.out, HD.out, parseGo, if_neg HE1.out, if_neg (by omega), if_pos hz]
            have FIN : Hid _ := fin
            clear fin hz
            go_wp2
            go_ret3
            exact ⟨FIN.out, rfl⟩
          · have HZ : Hid (¬ (c = 0 ∧ 0 < k)) := hz
            have fin : Ending.returned (.tuple #[.int .u64 (bits .or .u64 acc (IntKind.u64.wrap (IntKind.u64.wrap (bits .andNot .u8 c 128) * 2 ^ (7 * k)))), .int .i64 ((k : Int) + 1), .int .i64 0]) = Ending.returned (.tuple #[.int .u64 (parse xs).1, .int .i64 (parse xs).2.1, .int .i64 (parse xs).2.2]) := by
              rw [HA.out (fun h => absurd h H9.out), HP.out, HD.out, parseGo, if_neg HE1.out, if_neg hbig, if_neg HZ.out]
            have FIN : Hid _ := fin
            clear fin hz
            by_cases hc : c = 0
            · have hk0 : ¬ 0 < k := fun h => HZ.out ⟨hc, h⟩
              have hcb : (c == 0) = true := by simp [hc]
              clear hc
              go_wp2
              go_ret3
              exact ⟨FIN.out, rfl⟩
            · have hcb : (c == 0) = false := by simp [hc]
              clear hc
              go_wp2
              go_ret3
              exact ⟨FIN.out, rfl⟩
    · have fin : Ending.returned (.tuple #[.int .u64 0, .int .i64 0, .int .i64 11]) = Ending.returned (.tuple #[.int .u64 (parse xs).1, .int .i64 (parse xs).2.1, .int .i64 (parse xs).2.2]) := by
        rw [HP.out, List.drop_eq_nil_of_le (by omega), parseGo]
      have FIN : Hid _ := fin
      clear fin
      go_wp2
      go_ret3
      exact ⟨FIN.out, rfl⟩
end Go.Proofs.YtchocojmideleaaGreatDoor.C
namespace Go.Proofs.YtchocojmideleaaGreatDoor.C
set_option linter.unusedVariables false
open Go.RowKit

def joinSum (xs : List Int) : Int := xs.foldl (fun a c => a * 256 % 4294967296 + c) 0
theorem joinSum_snoc (xs : List Int) (c : Int) : joinSum (xs ++ [c]) = joinSum xs * 256 % 4294967296 + c := by simp [joinSum]
theorem joinSum_bd (xs : List Int) (h : isBytes xs) : 0 ≤ joinSum xs ∧ joinSum xs < 4294967296 := by
  rcases List.eq_nil_or_concat xs with rfl | ⟨ys, c, rfl⟩
  · simp [joinSum]
  · rw [List.concat_eq_append, joinSum_snoc]
    have := h c (by simp)
    omega
theorem orJoin8 (a c : Int) (h0 : 0 ≤ c) (h1 : c < 256) : bits .or .u32 (a * 256 % 4294967296) c = a * 256 % 4294967296 + c := by
  rw [u32_or _ _ (by omega) (by omega) (by omega) (by omega), nat_join 8 _ _ (by omega) (by omega)]; omega

set_option maxHeartbeats 400000 in
theorem parsesum_any (ao : Option Addr) (cap : Nat) (xs : List Int) (w : World) (hl : xs.length ≤ 140737488355328) (hr : RowAt w ao xs) :
    Calls Tryz.prog 144 #[.slice ao xs.length cap] w fun e w' => e = .returned (.int .u32 (joinSum xs)) ∧ w' = w := by
  go_enter Tryz.func144, Tryz.ntmps144
  go_wp2
  go_loop [3, 8] (fun x i => ∃ k : Nat, k ≤ xs.length ∧ i = .int .i64 k ∧ x = .int .u32 (joinSum (xs.take k))) (fun _ i => xs.length - (intOf i).toNat)
  case atStart => exact ⟨0, Nat.zero_le _, rfl, rfl⟩
  case round =>
    obtain ⟨k, hk, rfl, rfl⟩ := hrel
    have hbd := joinSum_bd (xs.take k) (isBytes_take hr.1 k)
    by_cases hlt : k < xs.length
    · obtain ⟨b, off, rfl, hc⟩ := hr.2 (by intro h; subst h; simp at hlt)
      have hck := hc k hlt
      have hb := hr.1.at k
      have HS1 : Hid (joinSum (xs.take (k + 1)) = joinSum (xs.take k) * 256 % 4294967296 + xs.getD k 0) := by rw [take_snoc xs k hlt, joinSum_snoc]; rfl
      have HJ : Hid (bits .or .u32 (joinSum (xs.take k) * 256 % 4294967296) (xs.getD k 0) = joinSum (xs.take k) * 256 % 4294967296 + xs.getD k 0) := orJoin8 _ _ hb.1 (by omega)
      clear hc hr
      generalize hx : xs.getD k 0 = x at *
      clear hx
      go_wp2
      go_round
      case rel => exact ⟨k + 1, by omega, by go_num, by rw [HS1.out, ← HJ.out]⟩
      case measure => simp [intOf]; omega
    · go_wp2
      go_ret
      have e : k = xs.length := by omega
      rw [e, List.take_length]
      exact ⟨rfl, rfl⟩
end Go.Proofs.YtchocojmideleaaGreatDoor.C
