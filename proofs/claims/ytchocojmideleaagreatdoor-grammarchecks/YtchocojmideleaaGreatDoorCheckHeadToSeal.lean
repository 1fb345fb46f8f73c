import Derived.Test.YtchocojmideleaaGreatDoorPlainToHead
import Derived.Test.YtchocojmideleaaGreatDoorOwnToAppNum
namespace Go.Proofs.YtchocojmideleaaGreatDoor.C
set_option linter.unusedVariables false
open Go.RowKit

def chk : List Int → Nat → List Int → Int × Int
  | [], _, _ => (0, 0)
  | _ :: _, i, [] => (11, i)
  | h :: t, i, x :: r => if x = h then chk t (i + 1) r else (14, i)
def headBytes (k : Int) : List Int := [103, 116, 114, k]
def checkHead (k : Int) (xs : List Int) : Int × Int := chk (headBytes k) 0 xs

theorem index0 (k : Int) (w : World) : (Instr.index 202 (.agg #[.int .u8 103, .int .u8 116, .int .u8 114, .int .u8 k]) (.int .i64 0)).run Tryz.prog w = .ok (.int .u8 103) w := by kernel_rfl
theorem index1 (k : Int) (w : World) : (Instr.index 202 (.agg #[.int .u8 103, .int .u8 116, .int .u8 114, .int .u8 k]) (.int .i64 1)).run Tryz.prog w = .ok (.int .u8 116) w := by kernel_rfl
theorem index2 (k : Int) (w : World) : (Instr.index 202 (.agg #[.int .u8 103, .int .u8 116, .int .u8 114, .int .u8 k]) (.int .i64 2)).run Tryz.prog w = .ok (.int .u8 114) w := by kernel_rfl
theorem index3 (k : Int) (w : World) : (Instr.index 202 (.agg #[.int .u8 103, .int .u8 116, .int .u8 114, .int .u8 k]) (.int .i64 3)).run Tryz.prog w = .ok (.int .u8 k) w := by kernel_rfl

set_option maxRecDepth 100000 in
set_option maxHeartbeats 1000000 in
theorem checkhead_any (k : Int) (ao : Option Addr) (cap : Nat) (xs : List Int) (w : World) (hk0 : 0 ≤ k) (hk1 : k ≤ 255) (hl : xs.length ≤ 140737488355328) (hm : Magic w) (hr : RowAt w ao xs) :
    Calls Tryz.prog 142 #[.int .u8 k, .slice ao xs.length cap] w fun e w' => e = .returned (.tuple #[.int .i64 (checkHead k xs).1, .int .i64 (checkHead k xs).2]) ∧ Below w.heap.size w w' := by
  have ix : ∀ j : Nat, j < 4 → ∀ w, (Instr.index 202 (.agg #[.int .u8 103, .int .u8 116, .int .u8 114, .int .u8 k]) (.int .i64 j)).run Tryz.prog w = .ok (.int .u8 ((headBytes k).getD j 0)) w := by
    intro j hj w
    match j, hj with
    | 0, _ => exact index0 k w
    | 1, _ => exact index1 k w
    | 2, _ => exact index2 k w
    | 3, _ => exact index3 k w
  go_enter Tryz.func142, Tryz.ntmps142
  go_wp2_with (go_at_call 135; refine (head_any k w hm).mono ?_; rintro e w1 ⟨rfl, hb1⟩)
  go_loop [10] (fun i => ∃ j : Nat, j ≤ 4 ∧ j ≤ xs.length ∧ i = .int .i64 j ∧ checkHead k xs = chk ((headBytes k).drop j) j (xs.drop j)) (fun i => 4 - (intOf i).toNat)
  case atStart => exact ⟨0, by omega, by omega, rfl, rfl⟩
  case round =>
    obtain ⟨j, hj4, hjl, rfl, hp⟩ := hrel
    have HP : Hid (checkHead k xs = chk ((headBytes k).drop j) j (xs.drop j)) := hp
    clear hp
    by_cases hj : j < 4
    · have hix := ix j hj
      clear ix
      have hhb : 0 ≤ (headBytes k).getD j 0 ∧ (headBytes k).getD j 0 ≤ 255 := by
        match j, hj with
        | 0, _ => exact ⟨by simp [headBytes], by simp [headBytes]⟩
        | 1, _ => exact ⟨by simp [headBytes], by simp [headBytes]⟩
        | 2, _ => exact ⟨by simp [headBytes], by simp [headBytes]⟩
        | 3, _ => exact ⟨hk0, hk1⟩
      have HH : Hid ((headBytes k).drop j = (headBytes k).getD j 0 :: (headBytes k).drop (j + 1)) := by
        match j, hj with
        | 0, _ => rfl
        | 1, _ => rfl
        | 2, _ => rfl
        | 3, _ => rfl
      generalize (headBytes k).getD j 0 = h at *
      by_cases hlt : j < xs.length
      · obtain ⟨b, off, rfl, hc⟩ := hr.2 (by intro h; subst h; simp at hlt)
        have hck : w1.cell? ⟨b, off + j, none⟩ = some (.int .u8 (xs.getD j 0)) := (hb1.cell (p := ⟨b, off + j, none⟩) (World.block_lt_of_cell? w _ (hc j hlt))).trans (hc j hlt)
        have hb := hr.1.at j
        have HD : Hid (xs.drop j = xs.getD j 0 :: xs.drop (j + 1)) := by
          show _ = _
          rw [List.drop_eq_getElem_cons hlt]; simp [List.getD, hlt]
        have hne : ((j : Int) == (xs.length : Int)) = false := by simp; omega
        clear hc hr
        generalize xs.getD j 0 = c at *
        by_cases he : c = h
        · have het : (c != h) = false := by simp [he]
          have HE : Hid (c = h) := he
          clear he
          go_wp2
          go_round
          case rel => exact ⟨j + 1, by omega, by omega, by go_num, by rw [HP.out, HH.out, HD.out, chk, if_pos HE.out]⟩
          case measure => simp [intOf]; omega
        · have het : (c != h) = true := by simp [he]
          have HE : Hid (c ≠ h) := he
          clear he
          go_wp2
          go_ret2
          exact ⟨by rw [HP.out, HH.out, HD.out, chk, if_neg HE.out]; rfl, hb1⟩
      · have hee : ((j : Int) == (xs.length : Int)) = true := by simp; omega
        have HD : Hid (xs.drop j = []) := List.drop_eq_nil_of_le (by omega)
        clear hr
        go_wp2
        go_ret2
        exact ⟨by rw [HP.out, HH.out, HD.out, chk]; rfl, hb1⟩
    · have e4 : j = 4 := by omega
      subst e4
      go_wp2
      go_ret2
      exact ⟨by rw [HP.out]; rfl, hb1⟩
end Go.Proofs.YtchocojmideleaaGreatDoor.C
namespace Go.Proofs.YtchocojmideleaaGreatDoor.C
set_option linter.unusedVariables false
open Go.RowKit

def sumBytes (s : Int) : List Int := [s / 16777216, s / 65536 % 256, s / 256 % 256, s % 256]
theorem sumBytes_bytes (s : Int) (h0 : 0 ≤ s) (h1 : s ≤ 4294967295) : isBytes (sumBytes s) := by intro x hx; simp [sumBytes] at hx; omega

set_option maxRecDepth 100000 in
set_option maxHeartbeats 400000 in
theorem appsum_any (v : Value) (ys : List Int) (s : Int) (w : World) (h0 : 0 ≤ s) (h1 : s ≤ 4294967295) (hl : ys.length ≤ 140737488355300) (hown : Own w v ys) :
    Calls Tryz.prog 136 #[v, .int .u32 s] w fun e w' => ∃ g N c, e = .returned (.slice (some ⟨g, 0, none⟩) N c) ∧ Own w' (.slice (some ⟨g, 0, none⟩) N c) (ys ++ sumBytes s) ∧ Grew w w' v (.slice (some ⟨g, 0, none⟩) N c) := by
  go_enter Tryz.func136, Tryz.ntmps136
  go_wp2_with (at_builtin; refine wpList_own_append rfl _ _ rfl _ _ rfl (hown.alloc _) (some ⟨w.heap.size, 0, none⟩) 4 (sumBytes s) rfl ?hr no_nil ?hl ?_)
  case hr => exact rowAt_new _ _ _ _ (sumBytes_bytes s h0 h1)
  case hl => simp [sumBytes]; omega
  intro v1 w1 ho1 hg1 hn1
  go_wp2
  go_ret
  obtain ⟨g, N, c, rfl⟩ := own_shape ho1 (fun h => by first | exact hn1 h | (have := hn1.1 h; simp [sumBytes] at this))
  exact ⟨g, N, c, rfl, ho1, (((Grew.refl _ _).alloc _).trans hg1)⟩
end Go.Proofs.YtchocojmideleaaGreatDoor.C
namespace Go.Proofs.YtchocojmideleaaGreatDoor.C
set_option linter.unusedVariables false
open Go.RowKit

def lead (k : Int) (xs : List Int) : List Int := headBytes k ++ enc 10 xs.length ++ xs
def frame (k : Int) (xs : List Int) : List Int := lead k xs ++ sumBytes (adler (lead k xs))
theorem headBytes_bytes (k : Int) (h0 : 0 ≤ k) (h1 : k ≤ 255) : isBytes (headBytes k) := by intro x hx; simp [headBytes] at hx; omega

theorem seal_long (k : Int) (ao : Option Addr) (cap n : Nat) (w : World) (hl : n ≤ 140737488355328) (h : 16777216 < n) :
    Calls Tryz.prog 82 #[.int .u8 k, .slice ao n cap] w fun e w' => e = .returned (.tuple #[.slice none 0 0, .int .i64 5]) ∧ w = w' := by
  go_enter Tryz.func82, Tryz.ntmps82
  go_wp2
  go_ret2
  exact ⟨rfl, rfl⟩

theorem grew_new {w w1 w2 : World} {v v' : Value} (hb : Below w.heap.size w w1) (hv : ∀ k, v.ownBlock = some k → w.heap.size ≤ k) (hg : Grew w1 w2 v v') : Below w.heap.size w w2 ∧ ∀ k, v'.ownBlock = some k → w.heap.size ≤ k := by
  refine ⟨hb.trans (grew_below hg hb.size hv), fun k hk => ?_⟩
  rcases hg.moved with e | ⟨q, e, hq⟩
  · exact hv k (e ▸ hk)
  · rw [hk] at e; have := Option.some.inj e; have := hb.size; omega

set_option maxRecDepth 100000 in
set_option maxHeartbeats 400000 in
theorem seal_any (k : Int) (ao : Option Addr) (cap : Nat) (xs : List Int) (w : World) (hk0 : 0 ≤ k) (hk1 : k ≤ 255) (hl : xs.length ≤ 16777216) (hm : Magic w) (hr : RowAt w ao xs) (hn : ao = none → cap = 0) :
    Calls Tryz.prog 82 #[.int .u8 k, .slice ao xs.length cap] w fun e w' => ∃ g N c, e = .returned (.tuple #[.slice (some ⟨g, 0, none⟩) N c, .int .i64 0]) ∧ Own w' (.slice (some ⟨g, 0, none⟩) N c) (frame k xs) ∧ w.heap.size ≤ g ∧ Below w.heap.size w w' := by
  obtain ⟨i0, hi, hz0, hz1, hz2⟩ := info_parts info5
  have ix : ∀ j : Nat, j < 4 → ∀ w, (Instr.index 202 (.agg #[.int .u8 103, .int .u8 116, .int .u8 114, .int .u8 k]) (.int .i64 j)).run Tryz.prog w = .ok (.int .u8 ((headBytes k).getD j 0)) w := by
    intro j hj w
    match j, hj with
    | 0, _ => exact index0 k w
    | 1, _ => exact index1 k w
    | 2, _ => exact index2 k w
    | 3, _ => exact index3 k w
  have IX : Hid _ := ix
  have HHB := headBytes_bytes k hk0 hk1
  clear ix
  go_enter Tryz.func82, Tryz.ntmps82
  go_wp2_with (at_make; refine wpList_make_own _ rfl _ _ 68 rfl 0 5 i0 (.int .u8 0) 1 Tryz.underlying68 hi hz0 hz1 _ _ _ (14 + xs.length + 4) rfl rfl ?b1 ?b2 ?b3 (Nat.zero_le _) ?_)
  case b1 => omega
  case b2 => rw [hz2]; omega
  case b3 => unfold maxLen; omega
  intro w0 hown0 hgrow0
  have hb0 : Below w.heap.size w w0 := (Below.refl _ _).grown hgrow0 (Nat.le_refl _) (fun k h => by cases h)
  have ho0 : Own w0 (.slice (some ⟨w.heap.size, 0, none⟩) 0 (14 + xs.length + 4)) [] := ⟨isBytes_nil, hown0⟩
  have hm0 := hm.later hb0 hm.lt
  clear hown0 hgrow0
  go_wp2_with (go_at_call 135; refine (head_any k w0 hm0).mono ?_; rintro e w1 ⟨rfl, hb1⟩)
  have hb1' : Below w.heap.size w w1 := hb0.trans (hb1.mono hb0.size)
  have ho1 : Own w1 (.slice (some ⟨w.heap.size, 0, none⟩) 0 (14 + xs.length + 4)) [] := ho0.kept fun k hk => hb1.block k (ho0.lt k hk)
  clear hb0 hb1 ho0
  go_loopw [6, 19] (fun s i wr => ∃ j : Nat, j ≤ 4 ∧ i = .int .i64 j ∧ Own wr s ((headBytes k).take j) ∧ (∀ b, s.ownBlock = some b → w.heap.size ≤ b) ∧ Below w.heap.size w wr) (fun _ i _ => 4 - (intOf i).toNat)
  case atStart => exact ⟨0, by omega, rfl, ho1, fun b hb => by simp [Value.ownBlock] at hb; omega, hb1'⟩
  case round =>
    obtain ⟨j, hj4, rfl, ho, hv, hb⟩ := hrel
    by_cases hj : j < 4
    · have hix := IX.out j hj
      have hhb := HHB.at j
      have HT : Hid ((headBytes k).take (j + 1) = (headBytes k).take j ++ [(headBytes k).getD j 0]) := take_snoc _ _ (by simpa [headBytes] using hj)
      have HL : Hid (((headBytes k).take j).length ≤ 4) := List.length_take_le' _ _
      clear hr
      generalize (headBytes k).getD j 0 = h at *
      generalize (headBytes k).take j = hs at *
      go_wp2_with (at_builtin; refine wpList_own_append rfl (.tmp 22) (.tmp 24) rfl _ hs rfl (ho.alloc _) (some ⟨wr.heap.size, 0, none⟩) 1 [h] rfl ?hr no_nil ?hl ?_)
      case hr => exact rowAt_one _ _ _ (by omega) (by omega)
      case hl => have := HL.out; (try simp); omega
      intro v1 w2 ho2 hg2 hn2
      go_wp2
      go_roundw
      case rel =>
        obtain ⟨q1, q2⟩ := grew_new hb hv (((Grew.refl _ _).alloc _).trans hg2)
        exact ⟨j + 1, by omega, by go_num, by rw [HT.out]; exact ho2, q2, q1⟩
      case measure => simp [intOf]; omega
    · obtain rfl : j = 4 := by omega
      have ho' : Own wr u6 (headBytes k) := ho
      have hel := enc_len 10 (xs.length : Int)
      have H1 : Hid ((headBytes k).length ≤ 140737488355300) := by show _ ≤ _; simp [headBytes]
      have H2 : Hid ((headBytes k ++ enc 10 (xs.length : Int)).length + xs.length ≤ 140737488355328) := by show _ ≤ _; simp [headBytes]; omega
      have H3 : Hid ((lead k xs).length ≤ 140737488355300) := by show _ ≤ _; simp [lead, headBytes]; omega
      have H3' : Hid ((lead k xs).length ≤ 140737488355328) := Nat.le_trans H3.out (by decide)
      have HA := adler_bd (lead k xs)
      clear ho HHB IX hel
      go_wp2_with (first
        | (go_at_call 126; refine (appnum_any u6 (headBytes k) xs.length wr (by omega) (by omega) H1.out ho').mono ?_; rintro e w2 ⟨g2, N2, c2, rfl, ho2, hg2⟩; obtain ⟨q1, q2⟩ := grew_new hb hv hg2; have hr2 := hr.later q1)
        | (at_builtin; refine wpList_own_append rfl (.tmp 32) (.tmp 33) rfl _ _ rfl ho2 ao cap xs rfl hr2 hn H2.out ?_; intro v3 w3 ho3 hg3 hn3; change Own w3 v3 (lead k xs) at ho3; obtain ⟨g3, N3, c3, rfl⟩ := own_shape ho3 (fun h => not_nil (hn3.1 h)); obtain ⟨q3, q4⟩ := grew_new q1 q2 hg3; have OL : Hid _ := own_len ho3)
        | (go_at_call 137; refine (sum_at _ N3 c3 (lead k xs) w3 OL.out.1 H3'.out OL.out.2.1).mono ?_; rintro e w4 ⟨rfl, rfl⟩)
        | (go_at_call 136; refine (appsum_any _ (lead k xs) (adler (lead k xs)) w3 HA.1 HA.2 H3.out ho3).mono ?_; rintro e w5 ⟨g5, N5, c5, rfl, ho5, hg5⟩; obtain ⟨q5, q6⟩ := grew_new q3 q4 hg5))
      go_ret2
      exact ⟨g5, N5, c5, rfl, ho5, q6 _ rfl, q5⟩
end Go.Proofs.YtchocojmideleaaGreatDoor.C
