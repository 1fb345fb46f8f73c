import Derived.Test.YtfckmbdcfeljiaaDoorHead
namespace Go.Proofs.YtfckmbdcfeljiaaDoor
set_option linter.unusedVariables false
open Go.RowKit

def chk : List Int → Nat → List Int → Int × Int
  | [], _, _ => (0, 0)
  | _ :: _, i, [] => (11, i)
  | h :: t, i, x :: r => if x = h then chk t (i + 1) r else (14, i)
def headBytes (k : Int) : List Int := [103, 116, 114, k]
def checkHead (k : Int) (xs : List Int) : Int × Int := chk (headBytes k) 0 xs

theorem index0 (k : Int) (w : World) : (Instr.index 79 (.agg #[.int .u8 103, .int .u8 116, .int .u8 114, .int .u8 k]) (.int .i64 0)).run Tryd.prog w = .ok (.int .u8 103) w := by kernel_rfl
theorem index1 (k : Int) (w : World) : (Instr.index 79 (.agg #[.int .u8 103, .int .u8 116, .int .u8 114, .int .u8 k]) (.int .i64 1)).run Tryd.prog w = .ok (.int .u8 116) w := by kernel_rfl
theorem index2 (k : Int) (w : World) : (Instr.index 79 (.agg #[.int .u8 103, .int .u8 116, .int .u8 114, .int .u8 k]) (.int .i64 2)).run Tryd.prog w = .ok (.int .u8 114) w := by kernel_rfl
theorem index3 (k : Int) (w : World) : (Instr.index 79 (.agg #[.int .u8 103, .int .u8 116, .int .u8 114, .int .u8 k]) (.int .i64 3)).run Tryd.prog w = .ok (.int .u8 k) w := by kernel_rfl

set_option maxRecDepth 100000 in
set_option maxHeartbeats 1000000 in
theorem checkhead_any (k : Int) (ao : Option Addr) (cap : Nat) (xs : List Int) (w : World) (hk0 : 0 ≤ k) (hk1 : k ≤ 255) (hl : xs.length ≤ 140737488355328) (hm : Magic w) (hr : RowAt w ao xs) :
    Calls Tryd.prog 32 #[.int .u8 k, .slice ao xs.length cap] w fun e w' => e = .returned (.tuple #[.int .i64 (checkHead k xs).1, .int .i64 (checkHead k xs).2]) ∧ Below w.heap.size w w' := by
  have ix : ∀ j : Nat, j < 4 → ∀ w, (Instr.index 79 (.agg #[.int .u8 103, .int .u8 116, .int .u8 114, .int .u8 k]) (.int .i64 j)).run Tryd.prog w = .ok (.int .u8 ((headBytes k).getD j 0)) w := by
    intro j hj w
    match j, hj with
    | 0, _ => exact index0 k w
    | 1, _ => exact index1 k w
    | 2, _ => exact index2 k w
    | 3, _ => exact index3 k w
  go_enter Tryd.func32, Tryd.ntmps32
  go_wp2_with (go_at_call 28; refine (head_any k w hm).mono ?_; rintro e w1 ⟨rfl, hb1⟩)
  go_loop [10] (fun i => ∃ j : Nat, j ≤ 4 ∧ j ≤ xs.length ∧ i = .int .i64 j ∧ checkHead k xs = chk ((headBytes k).drop j) j (xs.drop j)) (fun i => 4 - (intOf i).toNat)
  case atStart => exact ⟨0, by omega, by omega, rfl, rfl⟩
  case round =>
    obtain ⟨j, hj4, hjl, rfl, hp⟩ := hrel
    have HP : Hid (checkHead k xs = chk ((headBytes k).drop j) j (xs.drop j)) := hp
    clear hp
    by_cases hj : j < 4
    · have hix := ix j hj
      clear ix
      have hhb : 0 ≤ (headBytes k).getD j 0 ∧ (headBytes k).getD j 0 ≤ 255 := by
        match j, hj with
        | 0, _ => exact ⟨by simp [headBytes], by simp [headBytes]⟩
        | 1, _ => exact ⟨by simp [headBytes], by simp [headBytes]⟩
        | 2, _ => exact ⟨by simp [headBytes], by simp [headBytes]⟩
        | 3, _ => exact ⟨hk0, hk1⟩
      have HH : Hid ((headBytes k).drop j = (headBytes k).getD j 0 :: (headBytes k).drop (j + 1)) := by
        match j, hj with
        | 0, _ => rfl
        | 1, _ => rfl
        | 2, _ => rfl
        | 3, _ => rfl
      generalize (headBytes k).getD j 0 = h at *
      by_cases hlt : j < xs.length
      · obtain ⟨b, off, rfl, hc⟩ := hr.2 (by intro h; subst h; simp at hlt)
        have hck : w1.cell? ⟨b, off + j, none⟩ = some (.int .u8 (xs.getD j 0)) := (hb1.cell (p := ⟨b, off + j, none⟩) (World.block_lt_of_cell? w _ (hc j hlt))).trans (hc j hlt)
        have hb := hr.1.at j
        have HD : Hid (xs.drop j = xs.getD j 0 :: xs.drop (j + 1)) := by
          show _ = _
          rw [List.drop_eq_getElem_cons hlt]; simp [List.getD, hlt]
        have hne : ((j : Int) == (xs.length : Int)) = false := by simp; omega
        clear hc hr
        generalize xs.getD j 0 = c at *
        by_cases he : c = h
        · have het : (c != h) = false := by simp [he]
          have HE : Hid (c = h) := he
          clear he
          go_wp2
          go_round
          case rel => exact ⟨j + 1, by omega, by omega, by go_num, by rw [HP.out, HH.out, HD.out, chk, if_pos HE.out]⟩
          case measure => simp [intOf]; omega
        · have het : (c != h) = true := by simp [he]
          have HE : Hid (c ≠ h) := he
          clear he
          go_wp2
          go_ret2
          exact ⟨by rw [HP.out, HH.out, HD.out, chk, if_neg HE.out]; rfl, hb1⟩
      · have hee : ((j : Int) == (xs.length : Int)) = true := by simp; omega
        have HD : Hid (xs.drop j = []) := List.drop_eq_nil_of_le (by omega)
        clear hr
        go_wp2
        go_ret2
        exact ⟨by rw [HP.out, HH.out, HD.out, chk]; rfl, hb1⟩
    · have e4 : j = 4 := by omega
      subst e4
      go_wp2
      go_ret2
      exact ⟨by rw [HP.out]; rfl, hb1⟩
end Go.Proofs.YtfckmbdcfeljiaaDoor
