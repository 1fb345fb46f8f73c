import Derived.Test.YtlfiohdhcmmjbaaGreatDoorPBT0ToBT4
namespace Go.Proofs.YtlfiohdhcmmjbaaGreatDoor
set_option linter.unusedVariables false
open Go.RowKit

/-- The words of a set under way: the first i turned. -/
def mixB (M N m i : Nat) : List Nat := (wdsB M m).take i ++ (wdsB N m).drop i
theorem mixB_get {M N m i : Nat} (h : i < nwB m) : (mixB M N m i)[i]? = some (wdB N i) := by
  unfold mixB
  have hl : ((wdsB M m).take i).length = i := by rw [List.length_take, wdsB_len]; omega
  rw [List.getElem?_append_right (by omega), hl, List.getElem?_drop, Nat.sub_self, Nat.add_zero, wdsB_get _ _ h]
theorem mixB_set {M N m i : Nat} (h : i < nwB m) : (mixB M N m i).set i (wdB M i) = mixB M N m (i + 1) := by
  apply List.ext_getElem?
  intro j
  rw [List.getElem?_set]
  unfold mixB
  have h1 : ((wdsB M m).take i).length = i := by rw [List.length_take, wdsB_len]; omega
  have h2 : ((wdsB M m).take (i + 1)).length = i + 1 := by rw [List.length_take, wdsB_len]; omega
  by_cases e : i = j
  · subst e
    rw [if_pos rfl, if_pos (by rw [List.length_append, h1, List.length_drop, wdsB_len]; omega), List.getElem?_append_left (by omega), List.getElem?_take, if_pos (Nat.lt_succ_self i), wdsB_get _ _ h]
  · rw [if_neg e]
    rcases Nat.lt_or_ge j i with q | q
    · rw [List.getElem?_append_left (by omega), List.getElem?_append_left (by omega), List.getElem?_take, List.getElem?_take, if_pos q, if_pos (by omega)]
    · rw [List.getElem?_append_right (by omega), List.getElem?_append_right (by omega), h1, h2, List.getElem?_drop, List.getElem?_drop]
      congr 1
      omega
theorem mixB_zero (M N m : Nat) : mixB M N m 0 = wdsB N m := by simp [mixB]
theorem mixB_all (M N m : Nat) : mixB M N m (nwB m) = wdsB M m := by
  unfold mixB
  rw [List.take_of_length_le (by rw [wdsB_len]; exact Nat.le_refl _), List.drop_eq_nil_of_le (by rw [wdsB_len]; exact Nat.le_refl _), List.append_nil]
structure MXB (w : World) (k m N M i : Nat) (wr : World) : Prop where
  hd : wr.heap[k + 1]? = some (.cells #[.int .i64 (m : Int), .slice (some ⟨k, 0, none⟩) (nwB m) (nwB m)] 203)
  wd : wr.heap[k]? = some (.cells ((mixB M N m i).map fun (x : Nat) => Value.int .u64 (x : Int)).toArray 200)
  fr : FrB (· = k) w wr
theorem MXB.word {w wr : World} {k m N M i : Nat} (h : MXB w k m N M i wr) (hi : i < nwB m) : wr.cell? ⟨k, i, none⟩ = some (.int .u64 (wdB N i : Int)) := by
  rw [cellq_any h.wd]
  simp only [List.getElem?_toArray, List.getElem?_map, mixB_get hi, Option.map_some]
theorem MXB.cells {w wr : World} {k m N M i : Nat} (h : MXB w k m N M i wr) : wr.cell? ⟨k + 1, 0, none⟩ = some (.int .i64 (m : Int)) ∧ wr.cell? ⟨k + 1, 1, none⟩ = some (.slice (some ⟨k, 0, none⟩) (nwB m) (nwB m)) := ⟨(cellq_any h.hd).trans rfl, (cellq_any h.hd).trans rfl⟩
theorem MXB.free {w wr : World} {k m N M i : Nat} (h : MXB w k m N M i wr) (j : Nat) : wr.frozen? ⟨k, j, none⟩ = false := by
  simp [World.frozen?, h.wd]
theorem MXB.put {w wr : World} {k m N M i : Nat} (h : MXB w k m N M i wr) (hi : i < nwB m) : MXB w k m N M (i + 1) (wr.setCell ⟨k, i, none⟩ (.int .u64 (wdB M i : Int))) := by
  refine ⟨?_, ?_, h.fr.trans (frB_setCell wr k i _)⟩
  · rw [Below.heap_setCell _ _ _ _ (show k + 1 ≠ k by omega)]
    exact h.hd
  · rw [heap_set h.wd i (.int .u64 (wdB M i : Int)), List.setIfInBounds_toArray, ← mixB_set hi, List.map_set]
theorem MXB.begin {w : World} {k m N M : Nat} (h : SB w k m N) : MXB w k m N M 0 w := ⟨h.hd, by rw [mixB_zero]; exact h.wd, Below.frB (Below.refl _ _)⟩
theorem MXB.fin {w wr : World} {k m N M : Nat} (h : MXB w k m N M (nwB m) wr) (hM : M < 2 ^ m) (hm : m ≤ 4096) : SB wr k m M := ⟨h.hd, by have := h.wd; rw [mixB_all] at this; exact this, hM, hm⟩
theorem MXB.wordCell {w wr : World} {k m N M i : Nat} (h : MXB w k m N M (i + 1) wr) (hi : i < nwB m) : wr.cell? ⟨k, i, none⟩ = some (.int .u64 (wdB M i : Int)) := by
  rw [cellq_any h.wd]
  have : (mixB M N m (i + 1))[i]? = some (wdB M i) := by
    unfold mixB
    rw [List.getElem?_append_left (by rw [List.length_take, wdsB_len]; omega), List.getElem?_take, if_pos (Nat.lt_succ_self i), wdsB_get _ _ hi]
  simp only [List.getElem?_toArray, List.getElem?_map, this, Option.map_some]
/-- Has one of the first words turned. -/
def anyB (M N i : Nat) : Bool := (List.range i).any fun j => decide (wdB M j ≠ wdB N j)
theorem anyB_next (M N i : Nat) : anyB M N (i + 1) = (anyB M N i || decide (wdB M i ≠ wdB N i)) := by
  unfold anyB
  rw [List.range_succ, List.any_append]
  simp
theorem anyB_all {M N m : Nat} (hM : M < 2 ^ m) (hN : N < 2 ^ m) : anyB M N (nwB m) = decide (M ≠ N) := by
  rw [Bool.eq_iff_iff]
  unfold anyB
  rw [List.any_eq_true]
  constructor
  · rintro ⟨j, _, hj⟩
    exact decide_eq_true (fun e => by rw [e] at hj; simp at hj)
  · intro h
    have hne := of_decide_eq_true h
    apply Classical.byContradiction
    intro hno
    exact hne (words_ext hM hN (fun i hi => Classical.byContradiction fun q => hno ⟨i, List.mem_range.2 hi, decide_eq_true q⟩))
set_option maxRecDepth 100000 in
set_option maxHeartbeats 4000000 in
theorem room_MX {w : World} {k m : Nat} (c0 : w.cell? ⟨k + 1, 0, none⟩ = some (.int .i64 (m : Int))) (hml : m ≤ 4096) (i : Nat) : Calls Tryz.prog 182 #[.pointer (some ⟨k + 1, 0, none⟩), .int .i64 (i : Int)] w fun e w' => e = .returned (.int .u64 (roomB m i : Int)) ∧ w' = w := by
  by_cases hi : i < m / 64
  · have d1 : ((i : Int) < ((m / 64 : Nat) : Int)) := by omega
    have E : Hid (roomB m i = 18446744073709551615) := by show _ = _; unfold roomB; rw [if_pos hi]
    go_enter Tryz.func182, Tryz.ntmps182
    go_wp2
    go_ret
    exact ⟨by rw [E.out]; rfl, rfl⟩
  · have d1 : ¬ ((i : Int) < ((m / 64 : Nat) : Int)) := by omega
    have E : Hid (roomB m i = 2 ^ (m % 64) - 1) := by show _ = _; unfold roomB; rw [if_neg hi]
    have BS : Hid (Calls Tryz.prog 152 #[.int .i64 (m : Int)] w fun e w' => e = .returned (.int .u64 ((2 ^ (m % 64) : Nat) : Int)) ∧ w' = w) := bit_SB m (by omega) w
    have hp : 0 < 2 ^ (m % 64) := Nat.two_pow_pos _
    have hl : 2 ^ (m % 64) < 2 ^ 64 := Nat.pow_lt_pow_right (by decide) (Nat.mod_lt _ (by decide))
    generalize 2 ^ (m % 64) = P at *
    have hl2 : P < 18446744073709551616 := hl
    clear hl
    go_enter Tryz.func182, Tryz.ntmps182
    go_wp2_with (go_at_call 152; refine BS.out.mono ?_; rintro e w1 ⟨rfl, rfl⟩)
    go_ret
    refine ⟨?_, rfl⟩
    rw [E.out]
    show Ending.returned (Value.int .u64 ((P : Int) - 1)) = _
    rw [show ((P - 1 : Nat) : Int) = (P : Int) - 1 by omega]
theorem roomB_lt (m i : Nat) : roomB m i < 18446744073709551616 := by
  unfold roomB
  split
  · decide
  · have : 2 ^ (m % 64) < 2 ^ 64 := Nat.pow_lt_pow_right (by decide) (Nat.mod_lt _ (by decide))
    have e : (2 : Nat) ^ 64 = 18446744073709551616 := rfl
    omega
set_option maxRecDepth 100000 in
set_option maxHeartbeats 4000000 in
theorem union1_S (a b : Nat) (ha : a < 18446744073709551616) (hb : b < 18446744073709551616) (w : World) : Calls Tryz.prog 174 #[.int .u64 (a : Int), .int .u64 (b : Int)] w fun e w' => e = .returned (.int .u64 ((a ||| b : Nat) : Int)) ∧ w' = w := by
  have E := bits_or_u64_nat a b ha hb
  go_enter Tryz.func174, Tryz.ntmps174
  go_wp2
  go_ret
  exact ⟨rfl, rfl⟩
set_option maxRecDepth 100000 in
set_option maxHeartbeats 4000000 in
theorem union_ch {w : World} {k m N M : Nat} (tp ot : Value) (h : SB w k m N) (hM : ∀ i, i < nwB m → wdB M i < 18446744073709551616)
    (HT : Calls Tryz.prog 153 #[tp] w fun e w' => e = .returned ot ∧ w' = w)
    (HO : ∀ wr i, i < nwB m → MXB w k m N ((N ||| M) % 2 ^ m) i wr → Calls Tryz.prog 181 #[ot, .int .i64 (i : Int)] wr fun e w' => e = .returned (.int .u64 (wdB M i : Int)) ∧ w' = wr) :
    Calls Tryz.prog 173 #[.pointer (some ⟨k + 1, 0, none⟩), tp, .func (.func 174) #[] #[]] w fun e w' => e = .returned (.bool (decide ((N ||| M) % 2 ^ m ≠ N))) ∧ SB w' k m ((N ||| M) % 2 ^ m) ∧ FrB (· = k) w w' := by
  have hml := h.ml
  have hnw := nwB_le h.ml
  have HS : Hid (Calls Tryz.prog 153 #[.pointer (some ⟨k + 1, 0, none⟩)] w fun e w' => e = .returned (.slice (some ⟨k, 0, none⟩) (nwB m) (nwB m)) ∧ w' = w) := held_SB h
  have HT2 : Hid (Calls Tryz.prog 153 #[tp] w fun e w' => e = .returned ot ∧ w' = w) := HT
  have HO2 : Hid (∀ wr i, i < nwB m → MXB w k m N ((N ||| M) % 2 ^ m) i wr → Calls Tryz.prog 181 #[ot, .int .i64 (i : Int)] wr fun e w' => e = .returned (.int .u64 (wdB M i : Int)) ∧ w' = wr) := HO
  have HWD : Hid (∀ i, i < nwB m → wdB ((N ||| M) % 2 ^ m) i = (wdB N i ||| wdB M i) &&& roomB m i) := fun i hi => by rw [wd_room _ _ _ hi, wd_or]
  have HX : Hid ((N ||| M) % 2 ^ m < 2 ^ m) := Nat.mod_lt _ (Nat.two_pow_pos m)
  have M0 : Hid (MXB w k m N ((N ||| M) % 2 ^ m) 0 w) := MXB.begin h
  have HLT : Hid (N < 2 ^ m) := h.lt
  have HMW : Hid (∀ i, i < nwB m → wdB M i < 18446744073709551616) := hM
  generalize (N ||| M) % 2 ^ m = X at *
  clear h HT HO hM
  go_enter Tryz.func173, Tryz.ntmps173
  go_wp2_with (first
    | (go_at_call 153; refine HS.out.mono ?_; rintro e w1 ⟨rfl, hz⟩; rw [hz]; clear hz w1)
    | (go_at_call 153; refine HT2.out.mono ?_; rintro e w1 ⟨rfl, hz⟩; rw [hz]; clear hz w1))
  clear HS HT2
  go_loopw [9, 18] (fun z9 z18 wr => ∃ i : Nat, i ≤ nwB m ∧ z18 = .int .i64 (i : Int) ∧ z9 = .bool (anyB X N i) ∧ MXB w k m N X i wr) (fun _ z _ => nwB m - (intOf z).toNat)
  case atStart => exact ⟨0, Nat.zero_le _, rfl, rfl, M0.out⟩
  case round =>
    clear M0
    obtain ⟨i, hi, rfl, rfl, hMX⟩ := hrel
    by_cases hlt : i < nwB m
    · have ilt : (i : Int) < ((nwB m : Nat) : Int) := by omega
      have c2 := hMX.word hlt
      obtain ⟨c0, c1⟩ := hMX.cells
      have fz := hMX.free i
      have WA : Hid (Calls Tryz.prog 181 #[ot, .int .i64 (i : Int)] wr fun e w' => e = .returned (.int .u64 (wdB M i : Int)) ∧ w' = wr) := HO2.out wr i hlt hMX
      have RM : Hid (Calls Tryz.prog 182 #[.pointer (some ⟨k + 1, 0, none⟩), .int .i64 (i : Int)] wr fun e w' => e = .returned (.int .u64 (roomB m i : Int)) ∧ w' = wr) := room_MX c0 hml i
      have PM : Hid (MXB w k m N X (i + 1) (wr.setCell ⟨k, i, none⟩ (.int .u64 (wdB X i : Int)))) := hMX.put hlt
      have hwd := HWD.out i hlt
      have hWM := HMW.out i hlt
      have hWN := wdB_lt N i
      have hRo := roomB_lt m i
      have cx := PM.out.wordCell hlt
      have HAN : Hid (anyB X N (i + 1) = (anyB X N i || decide (wdB X i ≠ wdB N i))) := anyB_next X N i
      obtain ⟨A, hA⟩ : ∃ A, wdB N i = A := ⟨_, rfl⟩
      obtain ⟨B, hB⟩ : ∃ B, wdB M i = B := ⟨_, rfl⟩
      obtain ⟨D, hD⟩ : ∃ D, wdB X i = D := ⟨_, rfl⟩
      obtain ⟨R, hR⟩ : ∃ R, roomB m i = R := ⟨_, rfl⟩
      rw [hA] at c2 hwd hWN HAN
      rw [hB] at WA hwd hWM
      rw [hD] at PM hwd cx HAN
      rw [hR] at RM hwd hRo
      have DO : Hid (Calls Tryz.prog 174 #[.int .u64 (A : Int), .int .u64 (B : Int)] wr fun e w' => e = .returned (.int .u64 ((A ||| B : Nat) : Int)) ∧ w' = wr) := union1_S A B hWN hWM wr
      have eA := bits_and_u64_nat (A ||| B) R (Nat.or_lt_two_pow (n := 64) hWN hWM) hRo
      rw [← hwd] at eA
      have dN : ((D : Int) != (A : Int)) = decide (D ≠ A) := by
        by_cases q : D = A
        · rw [q]; simp
        · rw [decide_eq_true q]
          exact bne_iff_ne.2 (fun e => q (Int.ofNat_inj.1 e))
      clear hMX hA hB hD hR hwd hWM hWN hRo
      generalize (A ||| B) = E0 at *
      obtain ⟨an, han⟩ : ∃ an, anyB X N i = an := ⟨_, rfl⟩
      rw [han] at HAN ⊢
      clear han
      cases an with
      | true =>
        go_wp2_with (first
          | (go_at_call 181; refine WA.out.mono ?_; rintro e w1 ⟨rfl, hz⟩; rw [hz]; clear hz w1)
          | (go_at_call 174; refine DO.out.mono ?_; rintro e w1 ⟨rfl, hz⟩; rw [hz]; clear hz w1)
          | (go_at_call 182; refine RM.out.mono ?_; rintro e w1 ⟨rfl, hz⟩; rw [hz]; clear hz w1))
        go_roundw
        case rel => exact ⟨i + 1, by omega, by go_num, by rw [HAN.out]; rfl, PM.out⟩
        case measure => simp [intOf]; omega
      | false =>
        go_wp2_with (first
          | (go_at_call 181; refine WA.out.mono ?_; rintro e w1 ⟨rfl, hz⟩; rw [hz]; clear hz w1)
          | (go_at_call 174; refine DO.out.mono ?_; rintro e w1 ⟨rfl, hz⟩; rw [hz]; clear hz w1)
          | (go_at_call 182; refine RM.out.mono ?_; rintro e w1 ⟨rfl, hz⟩; rw [hz]; clear hz w1))
        go_roundw
        case rel => exact ⟨i + 1, by omega, by go_num, by rw [HAN.out]; simp, PM.out⟩
        case measure => simp [intOf]; omega
    · obtain rfl : i = nwB m := by omega
      have ilt : ¬ ((nwB m : Nat) : Int) < ((nwB m : Nat) : Int) := by omega
      have HM2 : Hid (MXB w k m N X (nwB m) wr) := hMX
      have HAA : Hid (anyB X N (nwB m) = decide (X ≠ N)) := anyB_all HX.out HLT.out
      clear hMX
      go_wp2
      go_ret
      refine ⟨?_, HM2.out.fin HX.out hml, HM2.out.fr⟩
      show Ending.returned (Value.bool (anyB X N (nwB m))) = _
      rw [HAA.out]
      simp
end Go.Proofs.YtlfiohdhcmmjbaaGreatDoor
