import Derived.Test.YtcgghlaifmlpiaaGreatDoorBT5
import Derived.Test.YtcgghlaifmlpiaaGreatDoorBBaseToGRow
namespace Go.Proofs.YtcgghlaifmlpiaaGreatDoor
set_option linter.unusedVariables false
open Go.RowKit Go.Shelf

set_option maxRecDepth 100000 in
set_option maxHeartbeats 4000000 in
theorem lowest_SB (i x : Nat) (hi : i ≤ 1000) (hx : x < 18446744073709551616) (h0 : x ≠ 0) (w : World) (hT : TabB w) : Calls Tryz.prog 56 #[.int .i64 (i : Int), .int .u64 (x : Int)] w fun e w' => e = .returned (.int .i64 ((64 * i + Lib.ctz 64 x : Nat) : Int)) ∧ w' = w := by
  have TZ : Hid (Calls Tryz.prog 100 #[.int .u64 (x : Int)] w fun e w' => e = .returned (.int .i64 (Lib.ctz 64 x : Int)) ∧ w' = w) := tz_S x hx w hT
  have hc := (ctz_spec h0 hx).1
  generalize Lib.ctz 64 x = c at *
  clear hT h0 hx
  go_enter Tryz.func56, Tryz.ntmps56
  go_wp2_with (go_at_call 100; refine TZ.out.mono ?_; rintro e w1 ⟨rfl, hz⟩; rw [hz]; clear hz w1)
  go_ret
  refine ⟨?_, rfl⟩
  show Ending.returned (Value.int .i64 ((i : Int) * 64 + (c : Int))) = _
  rw [show ((64 * i + c : Nat) : Int) = (i : Int) * 64 + (c : Int) by omega]
/-- The numbers of a set below a bound, rising. -/
def bitsU (N n : Nat) : List Nat := (List.range n).filter fun j => N.testBit j
def bitsL (N n : Nat) : List Int := (bitsU N n).map fun (j : Nat) => (j : Int)
theorem bitsU_add (N a b : Nat) : bitsU N (a + b) = bitsU N a ++ ((List.range b).filter fun j => N.testBit (a + j)).map (a + ·) := by
  unfold bitsU
  rw [List.range_add, List.filter_append, List.filter_map]
  rfl
theorem bitsU_none (N a : Nat) : ∀ b, (∀ j, a ≤ j → j < a + b → N.testBit j = false) → bitsU N (a + b) = bitsU N a := fun b h => by
  rw [bitsU_add, List.filter_eq_nil_iff.2 (fun j hj => by rw [h (a + j) (by omega) (by have := List.mem_range.1 hj; omega)]; decide), List.map_nil, List.append_nil]
theorem bitsU_one (N a t : Nat) (ht : N.testBit (a + t) = true) (h : ∀ j, j < t → N.testBit (a + j) = false) : bitsU N (a + t + 1) = bitsU N a ++ [a + t] := by
  rw [bitsU_add N (a + t) 1, bitsU_none N a t (fun j h1 h2 => by have := h (j - a) (by omega); rwa [show a + (j - a) = j by omega] at this)]
  congr 1
  simp [ht]
theorem bitsU_len (N : Nat) : ∀ n, (bitsU N n).length = popB N n
  | 0 => rfl
  | n + 1 => by
    rw [bitsU_add N n 1, List.length_append, bitsU_len N n]
    show _ = popB N n + (N.testBit n).toNat
    congr 1
    cases h : N.testBit n <;> simp [h]
theorem bitsL_len (N n : Nat) : (bitsL N n).length = popB N n := by rw [bitsL, List.length_map, bitsU_len]
theorem bitsL_size {N m : Nat} (h : N < 2 ^ m) : bitsL N (64 * nwB m) = bitsL N m := by
  have e : 64 * nwB m = m + (64 * nwB m - m) := by unfold nwB; omega
  unfold bitsL
  rw [e, bitsU_none N m _ (fun j h1 _ => Nat.testBit_lt_two_pow (Nat.lt_of_lt_of_le h (Nat.pow_le_pow_right (by decide) h1)))]
/-- The lowest bit goes. -/
theorem clear_low {W : Nat} (h0 : W ≠ 0) (hx : W < 18446744073709551616) (j : Nat) : (W &&& (W - 1)).testBit j = (W.testBit j && decide (Lib.ctz 64 W < j)) := by
  have h1 : Lib.ctz 64 W = Lib.ctzFrom 64 W := by unfold Lib.ctz; rw [if_neg h0]
  obtain ⟨q, hq, hl⟩ := Lib.ctzFrom_spec 64 W (by omega) hx
  rw [h1]
  generalize Lib.ctzFrom 64 W = t at *
  have hp : 0 < 2 ^ t := Nat.two_pow_pos t
  have e1 : W = 2 ^ (t + 1) * q + 2 ^ t := by rw [hq, Nat.pow_succ, Nat.mul_add, Nat.mul_one, ← Nat.mul_assoc]
  have e2 : W - 1 = 2 ^ (t + 1) * q + (2 ^ t - 1) := by omega
  have l1 : 2 ^ t < 2 ^ (t + 1) := Nat.pow_lt_pow_right (by decide) (Nat.lt_succ_self t)
  rw [Nat.testBit_and, e2]
  rw [e1]
  rw [Nat.testBit_two_pow_mul_add q l1 j, Nat.testBit_two_pow_mul_add q (show 2 ^ t - 1 < 2 ^ (t + 1) by omega) j]
  by_cases hj : j < t + 1
  · rw [if_pos hj, if_pos hj, Nat.testBit_two_pow, Nat.testBit_two_pow_sub_one, decide_eq_false (show ¬ t < j by omega), Bool.and_false]
    by_cases e : t = j
    · subst e; simp
    · simp [e]
  · rw [if_neg hj, if_neg hj, decide_eq_true (show t < j by omega), Bool.and_self, Bool.and_true]
theorem make_cap (c : Nat) (hc : c ≤ 1048576) (w : World) : (Instr.makeSlice 46 (.int .i64 0) (.int .i64 (c : Int))).run Tryz.prog w = .ok (.slice (some ⟨w.heap.size, 0, none⟩) 0 c) (w.alloc (.cells (madeCells #[.int .i64 0] c) 3)) := by
  obtain ⟨i0, hi, hz0, hz1, hz2⟩ := infoInt_parts
  have := run_makeSlice w 46 3 i0 (.int .i64 0) Tryz.underlying46 hi hz0 .i64 .i64 (0 : Int) (c : Int) (by omega) (by omega) (by rw [hz1]; simp; omega) (by rw [hz2]; omega) (by omega)
  rw [hz1] at this
  simpa [Value.cells] using this
theorem IL.cap (w : World) (c : Nat) (hc : c ≤ 1048576) : IL (w.alloc (.cells (madeCells #[.int .i64 0] c) 3)) (.slice (some ⟨w.heap.size, 0, none⟩) 0 c) [] :=
  World.ownsRow_made w _ c (Nat.zero_le _) (by unfold maxLen; omega) (by rw [made_listB]; simp)
/-- A list of its own under way, all else as it was. -/
structure LBs (w : World) (l : List Int) (v : Value) (wr : World) : Prop where
  il : IL wr v l
  own : ∀ j, v.ownBlock = some j → w.heap.size ≤ j
  bel : Below w.heap.size w wr
theorem LBs.any {w wr w1 : World} {l : List Int} {v : Value} (h : LBs w l v wr) (hb : Below wr.heap.size wr w1) : LBs w l v w1 := ⟨h.il.later hb, h.own, h.bel.trans (hb.mono h.bel.size)⟩
theorem LBs.app {w wr w1 w4 : World} {l l' : List Int} {v v' : Value} (h : LBs w l v wr) (hb : Below wr.heap.size wr w1) (hg : Grew w1 w4 v v') (hi : IL w4 v' l') : LBs w l' v' w4 := by
  have b1 : Below w.heap.size w w1 := h.bel.trans (hb.mono h.bel.size)
  refine ⟨hi, fun j hj => ?_, ⟨hg.grown.os.trans b1.os, hg.grown.tape.trans b1.tape, hg.grown.output.trans b1.output, Nat.le_trans b1.size hg.grown.size, fun j hj => (hg.grown.block j (by have := b1.size; omega) (fun e => by have := h.own j e.symm; omega)).trans (b1.block j hj)⟩⟩
  rcases hg.moved with e | ⟨i, e, hi2⟩
  · exact h.own j (by rw [← e]; exact hj)
  · rw [e] at hj
    simp at hj
    have := b1.size
    omega
theorem bitsL_one (N a t : Nat) (ht : N.testBit (a + t) = true) (h : ∀ j, j < t → N.testBit (a + j) = false) : bitsL N (a + t + 1) = bitsL N a ++ [((a + t : Nat) : Int)] := by
  unfold bitsL
  rw [bitsU_one N a t ht h, List.map_append]
  rfl
theorem word_zero {N i c W : Nat} (hc : c ≤ 64) (hW : ∀ j, j < 64 → W.testBit j = (decide (c ≤ j) && N.testBit (64 * i + j))) (h0 : W = 0) : bitsL N (64 * i + c) = bitsL N (64 * (i + 1)) := by
  unfold bitsL
  rw [show 64 * (i + 1) = 64 * i + c + (64 - c) by omega, bitsU_none N (64 * i + c) (64 - c) (fun j h1 h2 => by
    have := hW (j - 64 * i) (by omega)
    rw [h0, Nat.zero_testBit, decide_eq_true (show c ≤ j - 64 * i by omega), Bool.true_and, show 64 * i + (j - 64 * i) = j by omega] at this
    exact this.symm)]
theorem word_next {N i c W : Nat} (hW : ∀ j, j < 64 → W.testBit j = (decide (c ≤ j) && N.testBit (64 * i + j))) (hl : W < 18446744073709551616) (h0 : W ≠ 0) : Lib.ctz 64 W < 64 ∧ bitsL N (64 * i + (Lib.ctz 64 W + 1)) = bitsL N (64 * i + c) ++ [((64 * i + Lib.ctz 64 W : Nat) : Int)] ∧ ∀ j, j < 64 → (W &&& (W - 1)).testBit j = (decide (Lib.ctz 64 W + 1 ≤ j) && N.testBit (64 * i + j)) := by
  obtain ⟨h1, h2, h3⟩ := ctz_spec h0 hl
  have hcl := fun j => clear_low h0 hl j
  generalize Lib.ctz 64 W = t at *
  have e1 := hW t h1
  rw [h2] at e1
  have hct : c ≤ t := by
    by_cases q : c ≤ t
    · exact q
    · rw [decide_eq_false q] at e1; cases e1
  rw [decide_eq_true hct, Bool.true_and] at e1
  refine ⟨h1, ?_, fun j hj => ?_⟩
  · have := bitsL_one N (64 * i + c) (t - c) (by rw [show 64 * i + c + (t - c) = 64 * i + t by omega]; exact e1.symm) (fun j hj => by
      have q := hW (c + j) (by omega)
      rw [h3 (c + j) (by omega), decide_eq_true (show c ≤ c + j by omega), Bool.true_and, show 64 * i + (c + j) = 64 * i + c + j by omega] at q
      exact q.symm)
    rw [show 64 * i + (t + 1) = 64 * i + c + (t - c) + 1 by omega, this, show 64 * i + c + (t - c) = 64 * i + t by omega]
  · rw [hcl j, hW j hj]
    by_cases q : t < j
    · rw [decide_eq_true q, decide_eq_true (show c ≤ j by omega), decide_eq_true (show t + 1 ≤ j by omega)]
      simp
    · rw [decide_eq_false q, decide_eq_false (show ¬ t + 1 ≤ j by omega)]
      simp
set_option maxRecDepth 100000 in
set_option maxHeartbeats 4000000 in
theorem list_SB {w : World} {k m N : Nat} (h : SB w k m N) (hT : TabB w) : Calls Tryz.prog 23 #[.pointer (some ⟨k + 1, 0, none⟩)] w fun e w' => ∃ v, e = .returned v ∧ LBs w (bitsL N m) v w' := by
  have hnw := nwB_le h.ml
  have hml := h.ml
  have HSB : Hid (SB w k m N) := h
  have HTB : Hid (TabB w) := hT
  have HC : Hid (Calls Tryz.prog 52 #[.pointer (some ⟨k + 1, 0, none⟩)] w fun e w' => e = .returned (.int .i64 (popB N m : Int)) ∧ w' = w) := count_SB h
  have hpm := popB_le N m
  have hmk := make_cap (popB N m) (by omega)
  have L0 : Hid (LBs w [] (.slice (some ⟨w.heap.size, 0, none⟩) 0 (popB N m)) (w.alloc (.cells (madeCells #[.int .i64 0] (popB N m)) 3))) := ⟨IL.cap w _ (by omega), fun j hj => by simp [Value.ownBlock] at hj; omega, below_alloc w _⟩
  have HS : Hid (Calls Tryz.prog 55 #[.pointer (some ⟨k + 1, 0, none⟩)] (w.alloc (.cells (madeCells #[.int .i64 0] (popB N m)) 3)) fun e w' => e = .returned (.slice (some ⟨k, 0, none⟩) (nwB m) (nwB m)) ∧ w' = (w.alloc (.cells (madeCells #[.int .i64 0] (popB N m)) 3))) := held_SB (h.later (below_alloc w _))
  have HBL : Hid (∀ i, (bitsL N i).length ≤ i) := fun i => by rw [bitsL_len]; exact popB_le N i
  have HFIN : Hid (bitsL N (64 * nwB m) = bitsL N m) := bitsL_size h.lt
  generalize popB N m = pc at *
  clear h hT
  go_enter Tryz.func23, Tryz.ntmps23
  go_wp2_with (first
    | (go_at_call 52; refine HC.out.mono ?_; rintro e w1 ⟨rfl, hz⟩; rw [hz]; clear hz w1)
    | (go_at_call 55; refine HS.out.mono ?_; rintro e w1 ⟨rfl, hz⟩; rw [hz]; clear hz w1))
  clear HC HS hmk
  go_loopw [3, 12] (fun v z wr => ∃ i : Nat, i ≤ nwB m ∧ z = .int .i64 (i : Int) ∧ LBs w (bitsL N (64 * i)) v wr) (fun _ z _ => nwB m - (intOf z).toNat)
  case atStart => exact ⟨0, Nat.zero_le _, rfl, L0.out⟩
  case round =>
    clear L0
    obtain ⟨i, hi, rfl, hL⟩ := hrel
    by_cases hlt : i < nwB m
    · have ilt : (i : Int) < ((nwB m : Nat) : Int) := by omega
      have c := (HSB.out.later hL.bel).word hlt
      have HL : Hid (LBs w (bitsL N (64 * i)) u3 wr) := hL
      have HW0 : Hid (∀ j, j < 64 → (wdB N i).testBit j = (decide (0 ≤ j) && N.testBit (64 * i + j))) := fun j hj => by rw [wdB_bit]; simp [hj]
      have HWL : Hid (wdB N i < 18446744073709551616) := wdB_lt N i
      generalize wdB N i = W0 at *
      clear hL
      obtain ⟨wz, rfl⟩ : ∃ wz : World, wz = wr := ⟨_, rfl⟩
      go_wp2
      clear c
      go_loopw [3, 5] (fun v z wr => ∃ c W : Nat, c ≤ 64 ∧ W < 18446744073709551616 ∧ z = .int .u64 (W : Int) ∧ (∀ j, j < 64 → W.testBit j = (decide (c ≤ j) && N.testBit (64 * i + j))) ∧ LBs w (bitsL N (64 * i + c)) v wr) (fun _ z _ => (intOf z).toNat)
      case atStart => exact ⟨0, W0, Nat.zero_le _, HWL.out, rfl, HW0.out, HL.out⟩
      case round =>
        clear HL HW0 HWL
        obtain ⟨c, W, hc, hWl, rfl, hWb, hL⟩ := hrel
        by_cases h0 : W = 0
        · have HZ : Hid (bitsL N (64 * i + c) = bitsL N (64 * (i + 1))) := word_zero hc hWb h0
          have HL : Hid (LBs w (bitsL N (64 * i + c)) u3 wr) := hL
          subst h0
          clear hWb hL
          go_wp2
          go_roundw
          case rel => exact ⟨i + 1, by omega, by go_num, by rw [← HZ.out]; exact HL.out⟩
          case measure => simp [intOf]; omega
        · obtain ⟨ht, hb1, hb2⟩ := word_next hWb hWl h0
          have LO : Hid (Calls Tryz.prog 56 #[.int .i64 (i : Int), .int .u64 (W : Int)] wr fun e w' => e = .returned (.int .i64 ((64 * i + Lib.ctz 64 W : Nat) : Int)) ∧ w' = wr) := lowest_SB i W (by omega) hWl h0 wr (HTB.out.later hL.bel)
          have HL : Hid (LBs w (bitsL N (64 * i + c)) u3 wr) := hL
          have nz : ((W : Int) != 0) = true := by simpa using h0
          have nz2 : ((W : Int) == 0) = false := by simpa using h0
          have wS : IntKind.u64.wrap ((W : Int) - 1) = (W : Int) - 1 := u64_in (by omega) (by omega)
          have eS : bits .and .u64 (W : Int) ((W : Int) - 1) = ((W &&& (W - 1) : Nat) : Int) := by
            have := bits_and_u64_nat W (W - 1) hWl (by omega)
            rwa [show ((W - 1 : Nat) : Int) = (W : Int) - 1 by omega] at this
          have HX : Hid (W &&& (W - 1) < W) := Nat.lt_of_le_of_lt Nat.and_le_right (by omega)
          have HLN : Hid ((bitsL N (64 * i + c)).length ≤ 100000000) := Nat.le_trans (HBL.out _) (by omega)
          have HB1 : Hid (bitsL N (64 * i + (Lib.ctz 64 W + 1)) = bitsL N (64 * i + c) ++ [((64 * i + Lib.ctz 64 W : Nat) : Int)]) := hb1
          have HB2 : Hid (∀ j, j < 64 → (W &&& (W - 1)).testBit j = (decide (Lib.ctz 64 W + 1 ≤ j) && N.testBit (64 * i + j))) := hb2
          have HT1 : Hid (Lib.ctz 64 W + 1 ≤ 64) := ht
          have HWL : Hid (W < 18446744073709551616) := hWl
          generalize W &&& (W - 1) = V at *
          generalize Lib.ctz 64 W = t at *
          obtain ⟨y, hy⟩ : ∃ y : Int, ((64 * i + t : Nat) : Int) = y := ⟨_, rfl⟩
          rw [hy] at LO HB1
          clear hWb hL hb1 hb2 ht h0 hy
          go_wp2_with (first
            | (go_at_call 56; refine LO.out.mono ?_; rintro e w1 ⟨rfl, hz⟩; rw [hz]; clear hz w1)
            | (at_builtin; refine wpList_il_append_w rfl _ _ rfl u3 (bitsL N (64 * i + c)) rfl (HL.out.il.later (below_alloc _ _)) wr.heap.size 1 y rfl (by simp) HLN.out ?_; intro a4 n4 c4 w4 ho4 hg4; have W4 : Hid (LBs w (bitsL N (64 * i + c) ++ [y]) (.slice a4 n4 c4) w4) := HL.out.app (below_alloc _ _) hg4 ho4; clear ho4 hg4))
          go_roundw
          case rel => exact ⟨t + 1, V, HT1.out, by have := HX.out; have := HWL.out; omega, rfl, HB2.out, by rw [HB1.out]; exact W4.out⟩
          case measure => simpa [intOf] using HX.out
    · obtain rfl : i = nwB m := by omega
      have ilt : ¬ ((nwB m : Nat) : Int) < ((nwB m : Nat) : Int) := by omega
      rw [HFIN.out] at hL
      have HL : Hid (LBs w (bitsL N m) u3 wr) := hL
      clear hL
      go_wp2
      go_ret
      exact ⟨_, rfl, HL.out⟩
end Go.Proofs.YtcgghlaifmlpiaaGreatDoor
