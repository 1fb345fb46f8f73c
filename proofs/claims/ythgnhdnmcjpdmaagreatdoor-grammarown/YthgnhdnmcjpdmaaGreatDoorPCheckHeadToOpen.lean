import Derived.Test.YthgnhdnmcjpdmaaGreatDoorPPlainToHead
import Derived.Test.YthgnhdnmcjpdmaaGreatDoorPOwnToAppStr
import Derived.Deep.QuietTactic
import Derived.BigQuiet
namespace Go.Proofs.YthgnhdnmcjpdmaaGreatDoor.C
set_option linter.unusedVariables false
set_option maxRecDepth 100000
set_option maxHeartbeats 16000000
open Go.RowKit
def chk : List Int -> Nat -> List Int -> Int × Int
 | [], _, _ => (0, 0)
 | _ :: _, i, [] => (11, i)
 | h :: t, i, x :: r => if x = h then chk t (i + 1) r else (14, i)
def headBytes (k : Int) : List Int := [103, 116, 114, k]
def checkHead (k : Int) (xs : List Int) : Int × Int := chk (headBytes k) 0 xs
theorem index0 (k : Int) (w : World) : (Instr.index 142 (.agg #[.int .u8 103, .int .u8 116, .int .u8 114, .int .u8 k]) (.int .i64 0)).run Tryz.prog w = .ok (.int .u8 103) w := by kernel_rfl
theorem index1 (k : Int) (w : World) : (Instr.index 142 (.agg #[.int .u8 103, .int .u8 116, .int .u8 114, .int .u8 k]) (.int .i64 1)).run Tryz.prog w = .ok (.int .u8 116) w := by kernel_rfl
theorem index2 (k : Int) (w : World) : (Instr.index 142 (.agg #[.int .u8 103, .int .u8 116, .int .u8 114, .int .u8 k]) (.int .i64 2)).run Tryz.prog w = .ok (.int .u8 114) w := by kernel_rfl
theorem index3 (k : Int) (w : World) : (Instr.index 142 (.agg #[.int .u8 103, .int .u8 116, .int .u8 114, .int .u8 k]) (.int .i64 3)).run Tryz.prog w = .ok (.int .u8 k) w := by kernel_rfl
theorem checkhead_any (k : Int) (ao : Option Addr) (cap : Nat) (xs : List Int) (w : World) (hk0 : 0 <= k) (hk1 : k <= 255) (hl : xs.length <= 140737488355328) (hm : Magic w) (hr : RowAt w ao xs) :
  Calls Tryz.prog 93 #[.int .u8 k, .slice ao xs.length cap] w fun e w' => e = .returned (.tuple #[.int .i64 (checkHead k xs).1, .int .i64 (checkHead k xs).2]) /\ Below w.heap.size w w' := by
 have ix : ∀ j : Nat, j < 4 -> ∀ w, (Instr.index 142 (.agg #[.int .u8 103, .int .u8 116, .int .u8 114, .int .u8 k]) (.int .i64 j)).run Tryz.prog w = .ok (.int .u8 ((headBytes k).getD j 0)) w := by
  intro j hj w
  match j, hj with
  | 0, _ => exact index0 k w
  | 1, _ => exact index1 k w
  | 2, _ => exact index2 k w
  | 3, _ => exact index3 k w
 go_enter Tryz.func93, Tryz.ntmps93
 go_wp2_with (go_at_call 90; refine (head_any k w hm).mono ?_; rintro e w1 ⟨rfl, hb1⟩)
 go_loop [10] (fun i => ∃ j : Nat, j <= 4 /\ j <= xs.length /\ i = .int .i64 j /\ checkHead k xs = chk ((headBytes k).drop j) j (xs.drop j)) (fun i => 4 - (intOf i).toNat)
 case atStart => exact ⟨0, by omega, by omega, rfl, rfl⟩
 case round =>
  obtain ⟨j, hj4, hjl, rfl, hp⟩ := hrel
  have HP : Hid (checkHead k xs = chk ((headBytes k).drop j) j (xs.drop j)) := hp
  clear hp
  by_cases hj : j < 4
  ·have hix := ix j hj
   clear ix
   have hhb : 0 <= (headBytes k).getD j 0 /\ (headBytes k).getD j 0 <= 255 := by
    match j, hj with
    | 0, _ => exact ⟨by simp [headBytes], by simp [headBytes]⟩
    | 1, _ => exact ⟨by simp [headBytes], by simp [headBytes]⟩
    | 2, _ => exact ⟨by simp [headBytes], by simp [headBytes]⟩
    | 3, _ => exact ⟨hk0, hk1⟩
   have HH : Hid ((headBytes k).drop j = (headBytes k).getD j 0 :: (headBytes k).drop (j + 1)) := by
    match j, hj with
    | 0, _ => rfl
    | 1, _ => rfl
    | 2, _ => rfl
    | 3, _ => rfl
   generalize (headBytes k).getD j 0 = h at *
   by_cases hlt : j < xs.length
   ·obtain ⟨b, off, rfl, hc⟩ := hr.2 (by intro h; subst h; simp at hlt)
    have hck : w1.cell? ⟨b, off + j, none⟩ = some (.int .u8 (xs.getD j 0)) := (hb1.cell (p := ⟨b, off + j, none⟩) (World.block_lt_of_cell? w _ (hc j hlt))).trans (hc j hlt)
    have hb := hr.1.at j
    have HD : Hid (xs.drop j = xs.getD j 0 :: xs.drop (j + 1)) := by
     show _ = _
     rw [List.drop_eq_getElem_cons hlt]; simp [List.getD, hlt]
    have hne : ((j : Int) == (xs.length : Int)) = false := by simp; omega
    clear hc hr
    generalize xs.getD j 0 = c at *
    by_cases he : c = h
    ·have het : (c != h) = false := by simp [he]
     have HE : Hid (c = h) := he
     clear he
     go_wp2
     go_round
     case rel => exact ⟨j + 1, by omega, by omega, by go_num, by rw [HP.out, HH.out, HD.out, chk, if_pos HE.out]⟩
     case measure => simp [intOf]; omega
    ·have het : (c != h) = true := by simp [he]
     have HE : Hid (c ≠ h) := he
     clear he
     go_wp2
     go_ret2
     exact ⟨by rw [HP.out, HH.out, HD.out, chk, if_neg HE.out]; rfl, hb1⟩
   ·have hee : ((j : Int) == (xs.length : Int)) = true := by simp; omega
    have HD : Hid (xs.drop j = []) := List.drop_eq_nil_of_le (by omega)
    clear hr
    go_wp2
    go_ret2
    exact ⟨by rw [HP.out, HH.out, HD.out, chk]; rfl, hb1⟩
  ·have e4 : j = 4 := by omega
   subst e4
   go_wp2
   go_ret2
   exact ⟨by rw [HP.out]; rfl, hb1⟩
def sumBytes (s : Int) : List Int := [s / 16777216, s / 65536 % 256, s / 256 % 256, s % 256]
theorem sumBytes_bytes (s : Int) (h0 : 0 <= s) (h1 : s <= 4294967295) : isBytes (sumBytes s) := by intro x hx; simp [sumBytes] at hx; omega
theorem appsum_any (v : Value) (ys : List Int) (s : Int) (w : World) (h0 : 0 <= s) (h1 : s <= 4294967295) (hl : ys.length <= 140737488355300) (hown : Own w v ys) :
  Calls Tryz.prog 91 #[v, .int .u32 s] w fun e w' => ∃ g N c, e = .returned (.slice (some ⟨g, 0, none⟩) N c) /\ Own w' (.slice (some ⟨g, 0, none⟩) N c) (ys ++ sumBytes s) /\ Grew w w' v (.slice (some ⟨g, 0, none⟩) N c) := by
 go_enter Tryz.func91, Tryz.ntmps91
 go_wp2_with (at_builtin; refine wpList_own_append rfl _ _ rfl _ _ rfl (hown.alloc _) (some ⟨w.heap.size, 0, none⟩) 4 (sumBytes s) rfl ?hr no_nil ?hl ?_)
 case hr => exact rowAt_new _ _ _ _ (sumBytes_bytes s h0 h1)
 case hl => simp [sumBytes]; omega
 intro v1 w1 ho1 hg1 hn1
 go_wp2
 go_ret
 obtain ⟨g, N, c, rfl⟩ := own_shape ho1 (fun h => by first | exact hn1 h | (have := hn1.1 h; simp [sumBytes] at this))
 exact ⟨g, N, c, rfl, ho1, (((Grew.refl _ _).alloc _).trans hg1)⟩
def lead (k : Int) (xs : List Int) : List Int := headBytes k ++ enc 10 xs.length ++ xs
def frame (k : Int) (xs : List Int) : List Int := lead k xs ++ sumBytes (adler (lead k xs))
theorem headBytes_bytes (k : Int) (h0 : 0 <= k) (h1 : k <= 255) : isBytes (headBytes k) := by intro x hx; simp [headBytes] at hx; omega
theorem grew_new {w w1 w2 : World} {v v' : Value} (hb : Below w.heap.size w w1) (hv : ∀ k, v.ownBlock = some k -> w.heap.size <= k) (hg : Grew w1 w2 v v') : Below w.heap.size w w2 /\ ∀ k, v'.ownBlock = some k -> w.heap.size <= k := by
 refine ⟨hb.trans (grew_below hg hb.size hv), fun k hk => ?_⟩
 rcases hg.moved with e | ⟨q, e, hq⟩
 ·exact hv k (e ▸ hk)
 ·rw [hk] at e; have := Option.some.inj e; have := hb.size; omega
theorem seal_any (k : Int) (ao : Option Addr) (cap : Nat) (xs : List Int) (w : World) (hk0 : 0 <= k) (hk1 : k <= 255) (hl : xs.length <= 16777216) (hm : Magic w) (hr : RowAt w ao xs) (hn : ao = none -> cap = 0) :
  Calls Tryz.prog 35 #[.int .u8 k, .slice ao xs.length cap] w fun e w' => ∃ g N c, e = .returned (.tuple #[.slice (some ⟨g, 0, none⟩) N c, .int .i64 0]) /\ Own w' (.slice (some ⟨g, 0, none⟩) N c) (frame k xs) /\ w.heap.size <= g /\ Below w.heap.size w w' := by
 obtain ⟨i0, hi, hz0, hz1, hz2⟩ := info_parts info5
 have ix : ∀ j : Nat, j < 4 -> ∀ w, (Instr.index 142 (.agg #[.int .u8 103, .int .u8 116, .int .u8 114, .int .u8 k]) (.int .i64 j)).run Tryz.prog w = .ok (.int .u8 ((headBytes k).getD j 0)) w := by
  intro j hj w
  match j, hj with
  | 0, _ => exact index0 k w
  | 1, _ => exact index1 k w
  | 2, _ => exact index2 k w
  | 3, _ => exact index3 k w
 have IX : Hid _ := ix
 have HHB := headBytes_bytes k hk0 hk1
 clear ix
 go_enter Tryz.func35, Tryz.ntmps35
 go_wp2_with (at_make; refine wpList_make_own _ rfl _ _ 55 rfl 0 5 i0 (.int .u8 0) 1 Tryz.underlying55 hi hz0 hz1 _ _ _ (14 + xs.length + 4) rfl rfl ?b1 ?b2 ?b3 (Nat.zero_le _) ?_)
 case b1 => omega
 case b2 => rw [hz2]; omega
 case b3 => unfold maxLen; omega
 intro w0 hown0 hgrow0
 have hb0 : Below w.heap.size w w0 := (Below.refl _ _).grown hgrow0 (Nat.le_refl _) (fun k h => by cases h)
 have ho0 : Own w0 (.slice (some ⟨w.heap.size, 0, none⟩) 0 (14 + xs.length + 4)) [] := ⟨isBytes_nil, hown0⟩
 have hm0 := hm.later hb0 hm.lt
 clear hown0 hgrow0
 go_wp2_with (go_at_call 90; refine (head_any k w0 hm0).mono ?_; rintro e w1 ⟨rfl, hb1⟩)
 have hb1' : Below w.heap.size w w1 := hb0.trans (hb1.mono hb0.size)
 have ho1 : Own w1 (.slice (some ⟨w.heap.size, 0, none⟩) 0 (14 + xs.length + 4)) [] := ho0.kept fun k hk => hb1.block k (ho0.lt k hk)
 clear hb0 hb1 ho0
 go_loopw [6, 19] (fun s i wr => ∃ j : Nat, j <= 4 /\ i = .int .i64 j /\ Own wr s ((headBytes k).take j) /\ (∀ b, s.ownBlock = some b -> w.heap.size <= b) /\ Below w.heap.size w wr) (fun _ i _ => 4 - (intOf i).toNat)
 case atStart => exact ⟨0, by omega, rfl, ho1, fun b hb => by simp [Value.ownBlock] at hb; omega, hb1'⟩
 case round =>
  obtain ⟨j, hj4, rfl, ho, hv, hb⟩ := hrel
  by_cases hj : j < 4
  ·have hix := IX.out j hj
   have hhb := HHB.at j
   have HT : Hid ((headBytes k).take (j + 1) = (headBytes k).take j ++ [(headBytes k).getD j 0]) := take_snoc _ _ (by simpa [headBytes] using hj)
   have HL : Hid (((headBytes k).take j).length <= 4) := List.length_take_le' _ _
   clear hr
   generalize (headBytes k).getD j 0 = h at *
   generalize (headBytes k).take j = hs at *
   go_wp2_with (at_builtin; refine wpList_own_append rfl (.tmp 22) (.tmp 24) rfl _ hs rfl (ho.alloc _) (some ⟨wr.heap.size, 0, none⟩) 1 [h] rfl ?hr no_nil ?hl ?_)
   case hr => exact rowAt_one _ _ _ (by omega) (by omega)
   case hl => have := HL.out; (try simp); omega
   intro v1 w2 ho2 hg2 hn2
   go_wp2
   go_roundw
   case rel =>
    obtain ⟨q1, q2⟩ := grew_new hb hv (((Grew.refl _ _).alloc _).trans hg2)
    exact ⟨j + 1, by omega, by go_num, by rw [HT.out]; exact ho2, q2, q1⟩
   case measure => simp [intOf]; omega
  ·obtain rfl : j = 4 := by omega
   have ho' : Own wr u6 (headBytes k) := ho
   have hel := enc_len 10 (xs.length : Int)
   have H1 : Hid ((headBytes k).length <= 140737488355300) := by show _ <= _; simp [headBytes]
   have H2 : Hid ((headBytes k ++ enc 10 (xs.length : Int)).length + xs.length <= 140737488355328) := by show _ <= _; simp [headBytes]; omega
   have H3 : Hid ((lead k xs).length <= 140737488355300) := by show _ <= _; simp [lead, headBytes]; omega
   have H3' : Hid ((lead k xs).length <= 140737488355328) := Nat.le_trans H3.out (by decide)
   have HA := adler_bd (lead k xs)
   clear ho HHB IX hel
   go_wp2_with (first
    | (go_at_call 81; refine (appnum_any u6 (headBytes k) xs.length wr (by omega) (by omega) H1.out ho').mono ?_; rintro e w2 ⟨g2, N2, c2, rfl, ho2, hg2⟩; obtain ⟨q1, q2⟩ := grew_new hb hv hg2; have hr2 := hr.later q1)
    | (at_builtin; refine wpList_own_append rfl (.tmp 32) (.tmp 33) rfl _ _ rfl ho2 ao cap xs rfl hr2 hn H2.out ?_; intro v3 w3 ho3 hg3 hn3; change Own w3 v3 (lead k xs) at ho3; obtain ⟨g3, N3, c3, rfl⟩ := own_shape ho3 (fun h => not_nil (hn3.1 h)); obtain ⟨q3, q4⟩ := grew_new q1 q2 hg3; have OL : Hid _ := own_len ho3)
    | (go_at_call 92; refine (sum_at _ N3 c3 (lead k xs) w3 OL.out.1 H3'.out OL.out.2.1).mono ?_; rintro e w4 ⟨rfl, rfl⟩)
    | (go_at_call 91; refine (appsum_any _ (lead k xs) (adler (lead k xs)) w3 HA.1 HA.2 H3.out ho3).mono ?_; rintro e w5 ⟨g5, N5, c5, rfl, ho5, hg5⟩; obtain ⟨q5, q6⟩ := grew_new q3 q4 hg5))
   go_ret2
   exact ⟨g5, N5, c5, rfl, ho5, q6 _ rfl, q5⟩
def parseGo : Nat -> Int -> List Int -> Int × Int × Int
 | _, _, [] => (0, 0, 11)
 | i, acc, c :: r =>
  if i = 9 /\ c ≠ 1 then (0, 0, 13)
  else if 128 <= c then parseGo (i + 1) (acc + c % 128 * 128 ^ i) r
  else if c = 0 /\ 0 < i then (0, 0, 13)
  else (acc + c % 128 * 128 ^ i, i + 1, 0)
def parse (xs : List Int) : Int × Int × Int := parseGo 0 0 xs
theorem andNot128 (c : Int) (h0 : 0 <= c) (h1 : c < 256) : bits .andNot .u8 c 128 = c % 128 := by
 rw [u8_andNot c 128 h0 h1 (by decide) (by decide)]
 have h : ∀ m : Nat, m < 256 -> m &&& (255 - 128) = m % 128 := by decide +kernel
 have e := h c.toNat (by omega)
 show ((c.toNat &&& (255 - 128) : Nat) : Int) = _
 rw [e]; omega
theorem orAcc (i : Nat) (acc c : Int) (h0 : 0 <= acc) (h1 : acc < ((2 ^ i : Nat) : Int)) (hc0 : 0 <= c) (hlim : c * ((2 ^ i : Nat) : Int) < 18446744073709551616) (ha : acc < 18446744073709551616) :
  bits .or .u64 acc (c * ((2 ^ i : Nat) : Int)) = acc + c * ((2 ^ i : Nat) : Int) := by
 obtain ⟨a, rfl⟩ := Int.eq_ofNat_of_zero_le h0
 obtain ⟨d, rfl⟩ := Int.eq_ofNat_of_zero_le hc0
 have e : (d : Int) * ((2 ^ i : Nat) : Int) = ((d * 2 ^ i : Nat) : Int) := by simp
 rw [e] at hlim ⊢
 rw [u64_or_nat a (d * 2 ^ i) (by omega) (by omega), Nat.or_comm, nat_join i (d * 2 ^ i) a (by simp) (by omega)]
 simp [Int.add_comm]
theorem pow128 (k : Nat) : (128 : Int) ^ k = ((2 ^ (7 * k) : Nat) : Int) := by
 rw [Nat.pow_mul]; simp
theorem pow2_7 (k : Nat) : (2 : Int) ^ (7 * k) = 128 ^ k := by
 rw [Int.pow_mul]; rfl
theorem lim (k : Nat) (hk : k <= 9) (d : Int) (h1 : d < 128) (h9 : k = 9 -> d <= 1) : d * 128 ^ k < 18446744073709551616 := by
 have h : k = 0 ∨ k = 1 ∨ k = 2 ∨ k = 3 ∨ k = 4 ∨ k = 5 ∨ k = 6 ∨ k = 7 ∨ k = 8 ∨ k = 9 := by omega
 rcases h with rfl | rfl | rfl | rfl | rfl | rfl | rfl | rfl | rfl | rfl <;> simp at h9 ⊢ <;> omega
theorem pow_lim (k : Nat) (hk : k <= 9) : (128 : Int) ^ k <= 9223372036854775808 := by
 have h : k = 0 ∨ k = 1 ∨ k = 2 ∨ k = 3 ∨ k = 4 ∨ k = 5 ∨ k = 6 ∨ k = 7 ∨ k = 8 ∨ k = 9 := by omega
 rcases h with rfl | rfl | rfl | rfl | rfl | rfl | rfl | rfl | rfl | rfl <;> simp
theorem pow_pos' (k : Nat) : (0 : Int) < 128 ^ k := by rw [pow128]; exact Int.natCast_pos.2 (Nat.two_pow_pos _)
theorem accStep (k : Nat) (acc c : Int) (hk : k <= 9) (h0 : 0 <= acc) (h1 : acc < 128 ^ k) (hc0 : 0 <= c) (hc1 : c <= 255) (h9 : k = 9 -> c = 1) :
  bits .or .u64 acc (IntKind.u64.wrap (IntKind.u64.wrap (bits .andNot .u8 c 128) * 2 ^ (7 * k))) = acc + c % 128 * 128 ^ k := by
 have hl := lim k hk (c % 128) (by omega) (fun e => by have := h9 e; omega)
 have hp := pow_lim k hk
 have hq := pow_pos' k
 rw [andNot128 c hc0 (by omega), pow2_7, IntKind.wrap_u64, IntKind.wrap_u64, Int.emod_eq_of_lt (a := c % 128) (by omega) (by omega), Int.emod_eq_of_lt (Int.mul_nonneg (by omega) (by omega)) hl]
 rw [pow128] at h1 hl hp ⊢
 exact orAcc (7 * k) acc (c % 128) h0 h1 (by omega) hl (by omega)
theorem accNext (k : Nat) (acc c : Int) (h0 : 0 <= acc) (h1 : acc < 128 ^ k) (hc0 : 0 <= c) : 0 <= acc + c % 128 * 128 ^ k /\ acc + c % 128 * 128 ^ k < 128 ^ (k + 1) := by
 have hq := pow_pos' k
 have h2 : c % 128 * 128 ^ k <= 127 * 128 ^ k := Int.mul_le_mul_of_nonneg_right (by omega) (by omega)
 have h3 : 0 <= c % 128 * 128 ^ k := Int.mul_nonneg (by omega) (by omega)
 rw [Int.pow_succ]
 omega
theorem parsenum_any (ao : Option Addr) (cap : Nat) (xs : List Int) (w : World) (hl : xs.length <= 140737488355328) (hr : RowAt w ao xs) :
  Calls Tryz.prog 94 #[.slice ao xs.length cap] w fun e w' => e = .returned (.tuple #[.int .u64 (parse xs).1, .int .i64 (parse xs).2.1, .int .i64 (parse xs).2.2]) /\ w' = w := by
 go_enter Tryz.func94, Tryz.ntmps94
 go_wp2
 go_loop [5, 10] (fun x i => ∃ (k : Nat) (acc : Int), k <= xs.length /\ k <= 9 /\ i = .int .i64 k /\ x = .int .u64 acc /\ 0 <= acc /\ acc < 128 ^ k /\ parse xs = parseGo k acc (xs.drop k)) (fun _ i => xs.length - (intOf i).toNat)
 case atStart => exact ⟨0, 0, Nat.zero_le _, by omega, rfl, rfl, by omega, by decide, rfl⟩
 case round =>
  obtain ⟨k, acc, hk, hk9, rfl, rfl, ha0, ha1, hp⟩ := hrel
  have HP : Hid (parse xs = parseGo k acc (xs.drop k)) := hp
  clear hp
  by_cases hlt : k < xs.length
  ·obtain ⟨b, off, rfl, hc⟩ := hr.2 (by intro h; subst h; simp at hlt)
   have hck := hc k hlt
   have hb := hr.1.at k
   have HD : Hid (xs.drop k = xs.getD k 0 :: xs.drop (k + 1)) := by
    show _ = _
    rw [List.drop_eq_getElem_cons hlt]; simp [List.getD, hlt]
   clear hc hr
   generalize hx : xs.getD k 0 = c at *
   clear hx
   have HA : Hid ((k = 9 -> c = 1) -> bits .or .u64 acc (IntKind.u64.wrap (IntKind.u64.wrap (bits .andNot .u8 c 128) * 2 ^ (7 * k))) = acc + c % 128 * 128 ^ k) := accStep k acc c hk9 ha0 ha1 hb.1 hb.2
   have HN : Hid (0 <= acc + c % 128 * 128 ^ k /\ acc + c % 128 * 128 ^ k < 128 ^ (k + 1)) := accNext k acc c ha0 ha1 hb.1
   have HA1 : Hid (acc < 128 ^ k) := ha1
   clear ha1
   by_cases h9 : k = 9
   ·have h9b : ((k : Int) == 9) = true := by simp; omega
    have H9 : Hid (k = 9) := h9
    clear h9
    by_cases h1 : c = 1
    ·have h1b : (c != 1) = false := by simp [h1]
     have hcb : (c == 0) = false := by simp [h1]
     have hsm : c < 128 := by omega
     have fin : Ending.returned (.tuple #[.int .u64 (bits .or .u64 acc (IntKind.u64.wrap (IntKind.u64.wrap (bits .andNot .u8 c 128) * 2 ^ (7 * k)))), .int .i64 ((k : Int) + 1), .int .i64 0]) = Ending.returned (.tuple #[.int .u64 (parse xs).1, .int .i64 (parse xs).2.1, .int .i64 (parse xs).2.2]) := by
      rw [HA.out (fun _ => h1), HP.out, HD.out, parseGo, if_neg (fun h => h.2 h1), if_neg (by omega), if_neg (by omega)]
     have FIN : Hid _ := fin
     clear fin h1
     go_wp2
     go_ret3
     exact ⟨FIN.out, rfl⟩
    ·have h1b : (c != 1) = true := by simp [h1]
     have fin : Ending.returned (.tuple #[.int .u64 0, .int .i64 0, .int .i64 13]) = Ending.returned (.tuple #[.int .u64 (parse xs).1, .int .i64 (parse xs).2.1, .int .i64 (parse xs).2.2]) := by
      rw [HP.out, HD.out, parseGo, if_pos ⟨H9.out, h1⟩]
     have FIN : Hid _ := fin
     clear fin h1
     go_wp2
     go_ret3
     exact ⟨FIN.out, rfl⟩
   ·have h9b : ((k : Int) == 9) = false := by simp; omega
    have e1 : ¬ (k = 9 /\ c ≠ 1) := fun h => h9 h.1
    have H9 : Hid (k ≠ 9) := h9
    have HE1 : Hid (¬ (k = 9 /\ c ≠ 1)) := e1
    clear h9 e1
    by_cases hbig : 128 <= c
    ·go_wp2
     go_round
     case rel => exact ⟨k + 1, _, by omega, by have := H9.out; omega, by go_num, rfl, by rw [HA.out (fun h => absurd h H9.out)]; exact HN.out.1, by rw [HA.out (fun h => absurd h H9.out)]; exact HN.out.2, by rw [HA.out (fun h => absurd h H9.out), HP.out, HD.out, parseGo, if_neg HE1.out, if_pos hbig]⟩
     case measure => simp [intOf]; omega
    ·by_cases hz : c = 0 /\ 0 < k
     ·have hcb : (c == 0) = true := by simp [hz.1]
      have hk0 : 0 < k := hz.2
      have fin : Ending.returned (.tuple #[.int .u64 0, .int .i64 0, .int .i64 13]) = Ending.returned (.tuple #[.int .u64 (parse xs).1, .int .i64 (parse xs).2.1, .int .i64 (parse xs).2.2]) := by
       rw [HP.out, HD.out, parseGo, if_neg HE1.out, if_neg (by omega), if_pos hz]
      have FIN : Hid _ := fin
      clear fin hz
      go_wp2
      go_ret3
      exact ⟨FIN.out, rfl⟩
     ·have HZ : Hid (¬ (c = 0 /\ 0 < k)) := hz
      have fin : Ending.returned (.tuple #[.int .u64 (bits .or .u64 acc (IntKind.u64.wrap (IntKind.u64.wrap (bits .andNot .u8 c 128) * 2 ^ (7 * k)))), .int .i64 ((k : Int) + 1), .int .i64 0]) = Ending.returned (.tuple #[.int .u64 (parse xs).1, .int .i64 (parse xs).2.1, .int .i64 (parse xs).2.2]) := by
       rw [HA.out (fun h => absurd h H9.out), HP.out, HD.out, parseGo, if_neg HE1.out, if_neg hbig, if_neg HZ.out]
      have FIN : Hid _ := fin
      clear fin hz
      by_cases hc : c = 0
      ·have hk0 : ¬ 0 < k := fun h => HZ.out ⟨hc, h⟩
       have hcb : (c == 0) = true := by simp [hc]
       clear hc
       go_wp2
       go_ret3
       exact ⟨FIN.out, rfl⟩
      ·have hcb : (c == 0) = false := by simp [hc]
       clear hc
       go_wp2
       go_ret3
       exact ⟨FIN.out, rfl⟩
  ·have fin : Ending.returned (.tuple #[.int .u64 0, .int .i64 0, .int .i64 11]) = Ending.returned (.tuple #[.int .u64 (parse xs).1, .int .i64 (parse xs).2.1, .int .i64 (parse xs).2.2]) := by
    rw [HP.out, List.drop_eq_nil_of_le (by omega), parseGo]
   have FIN : Hid _ := fin
   clear fin
   go_wp2
   go_ret3
   exact ⟨FIN.out, rfl⟩
def joinSum (xs : List Int) : Int := xs.foldl (fun a c => a * 256 % 4294967296 + c) 0
theorem joinSum_snoc (xs : List Int) (c : Int) : joinSum (xs ++ [c]) = joinSum xs * 256 % 4294967296 + c := by simp [joinSum]
theorem joinSum_bd (xs : List Int) (h : isBytes xs) : 0 <= joinSum xs /\ joinSum xs < 4294967296 := by
 rcases List.eq_nil_or_concat xs with rfl | ⟨ys, c, rfl⟩
 ·simp [joinSum]
 ·rw [List.concat_eq_append, joinSum_snoc]
  have := h c (by simp)
  omega
theorem orJoin8 (a c : Int) (h0 : 0 <= c) (h1 : c < 256) : bits .or .u32 (a * 256 % 4294967296) c = a * 256 % 4294967296 + c := by
 rw [u32_or _ _ (by omega) (by omega) (by omega) (by omega), nat_join 8 _ _ (by omega) (by omega)]; omega
theorem parsesum_any (ao : Option Addr) (cap : Nat) (xs : List Int) (w : World) (hl : xs.length <= 140737488355328) (hr : RowAt w ao xs) :
  Calls Tryz.prog 95 #[.slice ao xs.length cap] w fun e w' => e = .returned (.int .u32 (joinSum xs)) /\ w' = w := by
 go_enter Tryz.func95, Tryz.ntmps95
 go_wp2
 go_loop [3, 8] (fun x i => ∃ k : Nat, k <= xs.length /\ i = .int .i64 k /\ x = .int .u32 (joinSum (xs.take k))) (fun _ i => xs.length - (intOf i).toNat)
 case atStart => exact ⟨0, Nat.zero_le _, rfl, rfl⟩
 case round =>
  obtain ⟨k, hk, rfl, rfl⟩ := hrel
  have hbd := joinSum_bd (xs.take k) (isBytes_take hr.1 k)
  by_cases hlt : k < xs.length
  ·obtain ⟨b, off, rfl, hc⟩ := hr.2 (by intro h; subst h; simp at hlt)
   have hck := hc k hlt
   have hb := hr.1.at k
   have HS1 : Hid (joinSum (xs.take (k + 1)) = joinSum (xs.take k) * 256 % 4294967296 + xs.getD k 0) := by rw [take_snoc xs k hlt, joinSum_snoc]; rfl
   have HJ : Hid (bits .or .u32 (joinSum (xs.take k) * 256 % 4294967296) (xs.getD k 0) = joinSum (xs.take k) * 256 % 4294967296 + xs.getD k 0) := orJoin8 _ _ hb.1 (by omega)
   clear hc hr
   generalize hx : xs.getD k 0 = x at *
   clear hx
   go_wp2
   go_round
   case rel => exact ⟨k + 1, by omega, by go_num, by rw [HS1.out, <- HJ.out]⟩
   case measure => simp [intOf]; omega
  ·go_wp2
   go_ret
   have e : k = xs.length := by omega
   rw [e, List.take_length]
   exact ⟨rfl, rfl⟩
theorem chk_none (k : Int) (xs : List Int) (h : (checkHead k xs).1 = 0) : ∃ r, xs = headBytes k ++ r /\ (checkHead k xs).2 = 0 := by
 unfold checkHead headBytes at *
 match xs with
 | [] => simp [chk] at h
 | [a] => simp [chk] at h; split at h <;> simp at h
 | [a, b] => simp [chk] at h; split at h <;> (try split at h) <;> simp at h
 | [a, b, c] => simp [chk] at h; split at h <;> (try split at h) <;> (try split at h) <;> simp at h
 | a :: b :: c :: d :: r =>
  simp [chk] at h ⊢
  by_cases ha : a = 103 <;> by_cases hb : b = 116 <;> by_cases hc : c = 114 <;> by_cases hd : d = k <;> simp_all
theorem RowAt.drop {w : World} {b off : Nat} {xs : List Int} (h : RowAt w (some ⟨b, off, none⟩) xs) (n : Nat) : RowAt w (some ⟨b, off + n, none⟩) (xs.drop n) := by
 refine ⟨isBytes_drop h.1 n, fun hne => ⟨b, off + n, rfl, fun i hi => ?_⟩⟩
 have hx : xs ≠ [] := fun e => hne (by rw [e]; simp)
 obtain ⟨b', off', he, hc⟩ := h.2 hx
 simp only [Option.some.injEq, Addr.mk.injEq, and_true] at he
 obtain ⟨rfl, rfl⟩ := he
 simp only [List.length_drop] at hi
 have := hc (n + i) (by omega)
 rw [show off + (n + i) = off + n + i by omega] at this
 rw [this]; simp [List.getD]
theorem RowAt.take {w : World} {ao : Option Addr} {xs : List Int} (h : RowAt w ao xs) (n : Nat) : RowAt w ao (xs.take n) := by
 refine ⟨isBytes_take h.1 n, fun hne => ?_⟩
 have hx : xs ≠ [] := fun e => hne (by rw [e]; simp)
 obtain ⟨b, off, rfl, hc⟩ := h.2 hx
 refine ⟨b, off, rfl, fun i hi => ?_⟩
 simp only [List.length_take] at hi
 rw [hc i (by omega)]
 simp [List.getD, show i < n by omega]
theorem RowAt.drewN {w : World} {ao : Option Addr} {xs : List Int} (h : RowAt w ao xs) (n : Nat) : RowAt (w.drewN n) ao xs := h.later (below_drewN (Below.refl _ _) n)
theorem parsenum_eq (ao : Option Addr) (N cap : Nat) (xs : List Int) (w : World) (n s e : Int) (hp : parse xs = (n, s, e)) (hN : N = xs.length) (hl : xs.length <= 140737488355328) (hr : RowAt w ao xs) :
  Calls Tryz.prog 94 #[.slice ao N cap] w fun r w' => r = .returned (.tuple #[.int .u64 n, .int .i64 s, .int .i64 e]) /\ w = w' := by
 subst hN
 have h := parsenum_any ao cap xs w hl hr
 rw [hp] at h
 exact h.mono fun e w' h => ⟨h.1, h.2.symm⟩
theorem checkhead_eq (k : Int) (ao : Option Addr) (cap : Nat) (xs : List Int) (w : World) (ec ac : Int) (hc : checkHead k xs = (ec, ac)) (hk0 : 0 <= k) (hk1 : k <= 255) (hl : xs.length <= 140737488355328) (hm : Magic w) (hr : RowAt w ao xs) :
  Calls Tryz.prog 93 #[.int .u8 k, .slice ao xs.length cap] w fun e w' => e = .returned (.tuple #[.int .i64 ec, .int .i64 ac]) /\ Below w.heap.size w w' := by
 have h := checkhead_any k ao cap xs w hk0 hk1 hl hm hr
 rw [hc] at h
 exact h
theorem checkhead_four (k : Int) (ao : Option Addr) (cap : Nat) (xs : List Int) (w : World) (ec ac : Int) (hc : checkHead k xs = (ec, ac)) (hk0 : 0 <= k) (hk1 : k <= 255) (h4 : xs.length = 4) (hm : Magic w) (hr : RowAt w ao xs) :
  Calls Tryz.prog 93 #[.int .u8 k, .slice ao 4 cap] w fun e w' => e = .returned (.tuple #[.int .i64 ec, .int .i64 ac]) /\ Below w.heap.size w w' := by
 have h := checkhead_eq k ao cap xs w ec ac hc hk0 hk1 (by omega) hm hr
 rw [h4] at h
 exact h
theorem sum_q (ao : Option Addr) (N cap : Nat) (xs : List Int) (w : World) (hN : N = xs.length) (hl : xs.length <= 140737488355328) (hr : RowAt w ao xs) :
  Calls Tryz.prog 92 #[.slice ao N cap] w fun e w' => e = .returned (.int .u32 (adler xs)) /\ w' = w := by
 subst hN
 exact sum_any ao cap xs w hl hr
theorem clone_at (ad : Addr) (N cap : Nat) (xs : List Int) (w : World) (hN : N = xs.length) (hl : xs.length <= 140737488355328) (hr : RowAt w (some ad) xs) :
  Calls Tryz.prog 89 #[.slice (some ad) N cap] w fun e w' => ∃ g N' c, e = .returned (.slice (some ⟨g, 0, none⟩) N' c) /\ Own w' (.slice (some ⟨g, 0, none⟩) N' c) xs /\ w.heap.size <= g /\ Below w.heap.size w w' := by
 subst hN
 exact (clone_some ad cap xs w hl hr).mono fun e w' ⟨g, c, h⟩ => ⟨g, _, c, h⟩
theorem parsesum_at (ao : Option Addr) (N cap : Nat) (xs : List Int) (w : World) (hN : N = xs.length) (hl : xs.length <= 140737488355328) (hr : RowAt w ao xs) :
  Calls Tryz.prog 95 #[.slice ao N cap] w fun e w' => e = .returned (.int .u32 (joinSum xs)) /\ w' = w := by
 subst hN
 exact parsesum_any ao cap xs w hl hr
def openS (k : Int) (xs : List Int) : List Int × Int × Int :=
 if (checkHead k xs).1 ≠ 0 then ([], (checkHead k xs).1, (checkHead k xs).2)
 else if (parse (xs.drop 4)).2.2 = 11 then ([], 11, xs.length)
 else if (parse (xs.drop 4)).2.2 ≠ 0 then ([], (parse (xs.drop 4)).2.2, 4)
 else if 16777216 < (parse (xs.drop 4)).1 then ([], 5, 4)
 else if (xs.length : Int) < 4 + (parse (xs.drop 4)).2.1 + (parse (xs.drop 4)).1 + 4 then ([], 11, xs.length)
 else if 4 + (parse (xs.drop 4)).2.1 + (parse (xs.drop 4)).1 + 4 < (xs.length : Int) then ([], 12, 4 + (parse (xs.drop 4)).2.1 + (parse (xs.drop 4)).1 + 4)
 else if joinSum (xs.drop (4 + (parse (xs.drop 4)).2.1 + (parse (xs.drop 4)).1).toNat) ≠ adler (xs.take (4 + (parse (xs.drop 4)).2.1 + (parse (xs.drop 4)).1).toNat) then ([], 15, 4 + (parse (xs.drop 4)).2.1 + (parse (xs.drop 4)).1)
 else ((xs.take (4 + (parse (xs.drop 4)).2.1 + (parse (xs.drop 4)).1).toNat).drop (4 + (parse (xs.drop 4)).2.1).toNat, 0, 0)
theorem parseGo_facts (xs : List Int) (hb : isBytes xs) : ∀ (i : Nat) (acc : Int), i <= 9 -> 0 <= acc -> acc < 128 ^ i -> ∀ n s e, parseGo i acc xs = (n, s, e) -> (e = 11 ∨ e = 13 ∨ e = 0) /\ (e = 0 -> (i : Int) + 1 <= s /\ s <= 10 /\ s <= i + xs.length /\ 0 <= n /\ n < 18446744073709551616) := by
 induction xs with
 | nil => intro i acc _ _ _ n s e h; simp [parseGo] at h; obtain ⟨rfl, rfl, rfl⟩ := h; simp
 | cons c r ih =>
  intro i acc hi ha hlt n s e h
  have hc := hb c (by simp)
  rw [parseGo] at h
  by_cases h9 : i = 9 /\ c ≠ 1
  ·rw [if_pos h9] at h; simp at h; obtain ⟨rfl, rfl, rfl⟩ := h; simp
  ·rw [if_neg h9] at h
   have hnx := accNext i acc c ha hlt hc.1
   by_cases hbig : 128 <= c
   ·rw [if_pos hbig] at h
    have hi9 : i ≠ 9 := fun q => by have : c = 1 := Classical.byContradiction fun z => h9 ⟨q, z⟩; omega
    obtain ⟨q1, q2⟩ := ih (fun x hx => hb x (by simp [hx])) (i + 1) _ (by omega) hnx.1 hnx.2 n s e h
    refine ⟨q1, fun h0 => ?_⟩
    have := q2 h0
    simp only [List.length_cons]
    omega
   ·rw [if_neg hbig] at h
    by_cases hz : c = 0 /\ 0 < i
    ·rw [if_pos hz] at h; simp at h; obtain ⟨rfl, rfl, rfl⟩ := h; simp
    ·rw [if_neg hz] at h
     simp only [Prod.mk.injEq] at h
     obtain ⟨rfl, rfl, rfl⟩ := h
     refine ⟨by simp, fun _ => ?_⟩
     have hlim := lim i hi (c % 128) (by omega) (fun q => by have : c = 1 := Classical.byContradiction fun z => h9 ⟨q, z⟩; omega)
     have hp := pow_lim i hi
     simp only [List.length_cons]
     refine ⟨by omega, by omega, by omega, hnx.1, ?_⟩
     by_cases hi9 : i = 9
     ·have : c = 1 := Classical.byContradiction fun z => h9 ⟨hi9, z⟩
      subst this
      subst hi9
      simp at hlt ⊢; omega
     ·have : (128 : Int) ^ (i + 1) <= 9223372036854775808 := pow_lim (i + 1) (by omega)
      omega
theorem parse_facts (xs : List Int) (hb : isBytes xs) (n s e : Int) (h : parse xs = (n, s, e)) : (e = 11 ∨ e = 13 ∨ e = 0) /\ (e = 0 -> 1 <= s /\ s <= 10 /\ s <= xs.length /\ 0 <= n /\ n < 18446744073709551616) := by
 have := parseGo_facts xs hb 0 0 (by omega) (by omega) (by decide) n s e h
 simpa using this
def OpenEnds (k : Int) (xs : List Int) (w : World) (e : Ending) (w' : World) : Prop :=
 ∃ v, e = .returned (.tuple #[v, .int .i64 (openS k xs).2.1, .int .i64 (openS k xs).2.2]) /\ Own w' v (openS k xs).1 /\ (∀ b, v.ownBlock = some b -> w.heap.size <= b) /\ Below w.heap.size w w'
theorem openEnds_nil {k : Int} {xs : List Int} {w w' : World} {er at' : Int} (h : openS k xs = ([], er, at')) (hb : Below w.heap.size w w') : OpenEnds k xs w (.returned (.tuple #[.slice none 0 0, .int .i64 er, .int .i64 at'])) w' :=
 ⟨.slice none 0 0, by rw [h], by rw [h]; exact Own.nil _, fun b hb => by simp [Value.ownBlock] at hb, hb⟩
theorem open_head (k : Int) (ao : Option Addr) (cap : Nat) (xs : List Int) (w : World) (hk0 : 0 <= k) (hk1 : k <= 255) (hl : xs.length <= 140737488355328) (hm : Magic w) (hr : RowAt w ao xs) (h1 : (checkHead k xs).1 ≠ 0) :
  Calls Tryz.prog 36 #[.int .u8 k, .slice ao xs.length cap] w (OpenEnds k xs w) := by
 have fin := fun w' => @openEnds_nil k xs w w' (checkHead k xs).1 (checkHead k xs).2 (by rw [openS, if_pos h1])
 have FIN : Hid _ := fin
 obtain ⟨ec, ac, hc⟩ : ∃ ec ac, checkHead k xs = (ec, ac) := ⟨_, _, rfl⟩
 rw [hc] at FIN h1
 have hne : (ec != 0) = true := by simpa using h1
 have HC : Hid _ := hc
 clear hc h1 fin
 go_enter Tryz.func36, Tryz.ntmps36
 go_wp2_with (go_at_call 93; refine (checkhead_eq k _ cap xs w ec ac HC.out hk0 hk1 hl hm hr).mono ?_; rintro e w1 ⟨rfl, hb1⟩)
 go_ret3
 exact FIN.out w1 hb1
theorem open_four (k : Int) (b off : Nat) (xs : List Int) (w : World) (hk0 : 0 <= k) (hk1 : k <= 255) (h4 : xs.length = 4) (hm : Magic w) (hr : RowAt w (some ⟨b, off, none⟩) xs)
  (h1 : (checkHead k xs).1 = 0) : Calls Tryz.prog 36 #[.int .u8 k, .slice (some ⟨b, off, none⟩) 4 4] w (OpenEnds k xs w) := by
 obtain ⟨rest, hx, hc2⟩ := chk_none k xs h1
 have HC : Hid (checkHead k xs = (0, 0)) := Prod.ext h1 hc2
 have hd : xs.drop 4 = [] := List.drop_eq_nil_of_le (by omega)
 have FIN : Hid _ := fun w' => @openEnds_nil k xs w w' 11 4 (by rw [openS, if_neg (by simp [h1]), hd]; simp [parse, parseGo, h4])
 have H4 : Hid _ := h4
 clear hx hc2 h1 hd h4
 go_enter Tryz.func36, Tryz.ntmps36
 go_wp2_with (first
  | (go_at_call 93; refine (checkhead_four k _ 4 xs w 0 0 HC.out hk0 hk1 H4.out hm hr).mono ?_; rintro e w1 ⟨rfl, hb1⟩)
  | (go_at_call 94; refine (parsenum_eq _ _ _ [] w1 0 0 11 rfl rfl (by simp) (RowAt.nil _ _)).mono ?_; rintro e w2 ⟨rfl, rfl⟩))
 go_ret3
 exact FIN.out _ hb1
theorem open_rest (k : Int) (b off : Nat) (cap : Nat) (xs : List Int) (w : World) (hk0 : 0 <= k) (hk1 : k <= 255) (hl : xs.length <= 140737488355328) (hcap : xs.length <= cap) (hc4 : 4 < cap) (hm : Magic w) (hr : RowAt w (some ⟨b, off, none⟩) xs)
  (h1 : (checkHead k xs).1 = 0) : Calls Tryz.prog 36 #[.int .u8 k, .slice (some ⟨b, off, none⟩) xs.length cap] w (OpenEnds k xs w) := by
 obtain ⟨rest, hx, hc2⟩ := chk_none k xs h1
 have h4 : 4 <= xs.length := by rw [hx]; simp [headBytes]
 have HC : Hid (checkHead k xs = (0, 0)) := Prod.ext h1 hc2
 obtain ⟨n, s, ep, hp⟩ : ∃ n s e, parse (xs.drop 4) = (n, s, e) := ⟨_, _, _, rfl⟩
 have hO : openS k xs = openS k xs := rfl
 conv at hO => rhs; rw [openS, if_neg (by simp [h1]), hp]
 obtain ⟨hpe, hpf⟩ := parse_facts (xs.drop 4) (isBytes_drop hr.1 4) n s ep hp
 have HP : Hid _ := hp
 have HN : Hid (xs.length - 4 = (xs.drop 4).length) := by show _ = _; simp
 have HL : Hid ((xs.drop 4).length <= 140737488355328) := by show _ <= _; simp; omega
 clear hx hc2 h1 hp
 rcases hpe with rfl | rfl | rfl
 ·conv at hO => rhs; rw [if_pos rfl]
  have FIN : Hid _ := fun w' => @openEnds_nil k xs w w' _ _ hO
  clear hO hpf
  go_enter Tryz.func36, Tryz.ntmps36
  go_wp2_with (first | (go_at_call 93; refine (checkhead_eq k _ cap xs w 0 0 HC.out hk0 hk1 hl hm hr).mono ?_; rintro e w1 ⟨rfl, hb1⟩; have hr1 := hr.later hb1) | (go_at_call 94; refine (parsenum_eq _ _ _ (xs.drop 4) w1 n s 11 HP.out HN.out HL.out (hr1.drop 4)).mono ?_; rintro e w2 ⟨rfl, rfl⟩))
  go_ret3
  exact FIN.out _ hb1
 ·conv at hO => rhs; rw [if_neg (by simp), if_pos (by simp)]
  have FIN : Hid _ := fun w' => @openEnds_nil k xs w w' _ _ hO
  clear hO hpf
  go_enter Tryz.func36, Tryz.ntmps36
  go_wp2_with (first | (go_at_call 93; refine (checkhead_eq k _ cap xs w 0 0 HC.out hk0 hk1 hl hm hr).mono ?_; rintro e w1 ⟨rfl, hb1⟩; have hr1 := hr.later hb1) | (go_at_call 94; refine (parsenum_eq _ _ _ (xs.drop 4) w1 n s 13 HP.out HN.out HL.out (hr1.drop 4)).mono ?_; rintro e w2 ⟨rfl, rfl⟩))
  go_ret3
  exact FIN.out _ hb1
 ·conv at hO => rhs; rw [if_neg (by simp), if_neg (by simp)]
  obtain ⟨hs1, hs2, hs3, hn1, hn2⟩ := hpf rfl
  clear hpf
  simp only [List.length_drop] at hs3
  by_cases hlong : 16777216 < n
  ·conv at hO => rhs; rw [if_pos hlong]
   have FIN : Hid _ := fun w' => @openEnds_nil k xs w w' _ _ hO
   clear hO
   go_enter Tryz.func36, Tryz.ntmps36
   go_wp2_with (first | (go_at_call 93; refine (checkhead_eq k _ cap xs w 0 0 HC.out hk0 hk1 hl hm hr).mono ?_; rintro e w1 ⟨rfl, hb1⟩; have hr1 := hr.later hb1) | (go_at_call 94; refine (parsenum_eq _ _ _ (xs.drop 4) w1 n s 0 HP.out HN.out HL.out (hr1.drop 4)).mono ?_; rintro e w2 ⟨rfl, rfl⟩))
   go_ret3
   exact FIN.out _ hb1
  ·conv at hO => rhs; rw [if_neg hlong]
   by_cases hshort : (xs.length : Int) < 4 + s + n + 4
   ·conv at hO => rhs; rw [if_pos hshort]
    have FIN : Hid _ := fun w' => @openEnds_nil k xs w w' _ _ hO
    clear hO
    go_enter Tryz.func36, Tryz.ntmps36
    go_wp2_with (first | (go_at_call 93; refine (checkhead_eq k _ cap xs w 0 0 HC.out hk0 hk1 hl hm hr).mono ?_; rintro e w1 ⟨rfl, hb1⟩; have hr1 := hr.later hb1) | (go_at_call 94; refine (parsenum_eq _ _ _ (xs.drop 4) w1 n s 0 HP.out HN.out HL.out (hr1.drop 4)).mono ?_; rintro e w2 ⟨rfl, rfl⟩))
    go_ret3
    exact FIN.out _ hb1
   ·conv at hO => rhs; rw [if_neg hshort]
    by_cases htail : 4 + s + n + 4 < (xs.length : Int)
    ·conv at hO => rhs; rw [if_pos htail]
     have FIN : Hid _ := fun w' => @openEnds_nil k xs w w' _ _ hO
     clear hO
     go_enter Tryz.func36, Tryz.ntmps36
     go_wp2_with (first | (go_at_call 93; refine (checkhead_eq k _ cap xs w 0 0 HC.out hk0 hk1 hl hm hr).mono ?_; rintro e w1 ⟨rfl, hb1⟩; have hr1 := hr.later hb1) | (go_at_call 94; refine (parsenum_eq _ _ _ (xs.drop 4) w1 n s 0 HP.out HN.out HL.out (hr1.drop 4)).mono ?_; rintro e w2 ⟨rfl, rfl⟩))
     go_ret3
     exact FIN.out _ hb1
    ·conv at hO => rhs; rw [if_neg htail]
     obtain ⟨n, rfl⟩ := Int.eq_ofNat_of_zero_le hn1
     obtain ⟨s, rfl⟩ := Int.eq_ofNat_of_zero_le (show 0 <= s by omega)
     have hT : (4 + (s : Int) + (n : Int)).toNat = 4 + s + n := by omega
     have hF : (4 + (s : Int)).toNat = 4 + s := by omega
     rw [hT, hF] at hO
     have hlen : xs.length = 4 + s + n + 4 := by omega
     have HK1 : Hid (xs.length - (4 + s + n) = (xs.drop (4 + s + n)).length) := by show _ = _; simp
     have HK2 : Hid (4 + s + n = (xs.take (4 + s + n)).length) := by show _ = _; simp; omega
     have HK3 : Hid ((xs.drop (4 + s + n)).length <= 140737488355328) := by show _ <= _; simp; omega
     have HK4 : Hid ((xs.take (4 + s + n)).length <= 140737488355328) := by show _ <= _; simp; omega
     have hle : 4 + s + n + 4 <= xs.length := by omega
     have hge : xs.length <= 4 + s + n + 4 := by omega
     have hn3 : n <= 16777216 := by omega
     have hs4 : s <= 10 := by omega
     clear hlen hT hF hshort htail hlong hs1 hs2 hs3 hn1 hn2
     by_cases hsum : joinSum (xs.drop (4 + s + n)) = adler (xs.take (4 + s + n))
     ·conv at hO => rhs; rw [if_neg (by simp [hsum])]
      have hne : (joinSum (xs.drop (4 + s + n)) != adler (xs.take (4 + s + n))) = false := by simpa using hsum
      have HO : Hid _ := hO
      have HK5 : Hid (n = ((xs.take (4 + s + n)).drop (4 + s)).length) := by show _ = _; simp; omega
      have HK6 : Hid (((xs.take (4 + s + n)).drop (4 + s)).length <= 140737488355328) := by show _ <= _; simp; omega
      clear hO hsum
      go_enter Tryz.func36, Tryz.ntmps36
      go_wp2_with (first | (go_at_call 93; refine (checkhead_eq k _ cap xs w 0 0 HC.out hk0 hk1 hl hm hr).mono ?_; rintro e w1 ⟨rfl, hb1⟩; have hr1 := hr.later hb1) | (go_at_call 94; refine (parsenum_eq _ _ _ (xs.drop 4) w1 (n : Int) (s : Int) 0 HP.out HN.out HL.out (hr1.drop 4)).mono ?_; rintro e w2 ⟨rfl, rfl⟩))
      go_quiet ((first | (go_at_call 95; exact Calls.quiet_of_same (parsesum_at _ _ _ (xs.drop (4 + s + n)) _ HK1.out HK3.out (hr1.drop (4 + s + n)))) | (go_at_call 92; exact Calls.quiet_of_same (sum_q _ _ _ (xs.take (4 + s + n)) _ HK2.out HK4.out (hr1.take (4 + s + n))))))
      go_wp2_with (go_at_call 89; refine (clone_at _ _ _ ((xs.take (4 + s + n)).drop (4 + s)) (w1.drewN _) HK5.out HK6.out (((hr1.take (4 + s + n)).drop (4 + s)).drewN _)).mono ?_; rintro e w3 ⟨g, N3, c3, rfl, ho3, hg3, hb3⟩)
      go_ret3
      refine ⟨_, by rw [HO.out]; rfl, by rw [HO.out]; exact ho3, fun q hq => ?_, ?_⟩
      ·simp [Value.ownBlock] at hq
       have := hb1.size
       simp at hg3
       omega
      ·exact (below_drewN hb1 _).trans (hb3.mono (by simpa using hb1.size))
     ·conv at hO => rhs; rw [if_pos hsum]
      have FIN : Hid _ := fun w' => @openEnds_nil k xs w w' _ _ hO
      have hne : (joinSum (xs.drop (4 + s + n)) != adler (xs.take (4 + s + n))) = true := by simpa using hsum
      clear hO hsum
      go_enter Tryz.func36, Tryz.ntmps36
      go_wp2_with (first | (go_at_call 93; refine (checkhead_eq k _ cap xs w 0 0 HC.out hk0 hk1 hl hm hr).mono ?_; rintro e w1 ⟨rfl, hb1⟩; have hr1 := hr.later hb1) | (go_at_call 94; refine (parsenum_eq _ _ _ (xs.drop 4) w1 (n : Int) (s : Int) 0 HP.out HN.out HL.out (hr1.drop 4)).mono ?_; rintro e w2 ⟨rfl, rfl⟩))
      go_quiet ((first | (go_at_call 95; exact Calls.quiet_of_same (parsesum_at _ _ _ (xs.drop (4 + s + n)) _ HK1.out HK3.out (hr1.drop (4 + s + n)))) | (go_at_call 92; exact Calls.quiet_of_same (sum_q _ _ _ (xs.take (4 + s + n)) _ HK2.out HK4.out (hr1.take (4 + s + n))))))
      go_wp2
      go_ret3
      exact FIN.out _ (below_drewN hb1 _)
end Go.Proofs.YthgnhdnmcjpdmaaGreatDoor.C
