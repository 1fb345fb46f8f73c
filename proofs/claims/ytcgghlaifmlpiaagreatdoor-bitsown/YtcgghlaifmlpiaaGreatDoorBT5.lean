import Derived.Test.YtcgghlaifmlpiaaGreatDoorBT4
import Derived.Test.YtcgghlaifmlpiaaGreatDoorBT3
import Derived.Shelf.Spec.TrailingZeros
namespace Go.Proofs.YtcgghlaifmlpiaaGreatDoor
set_option linter.unusedVariables false
open Go.RowKit Go.Shelf

theorem bits_and_i64_127 (V : Nat) (h : V < 9223372036854775808) : bits .and .i64 (V : Int) 127 = ((V % 128 : Nat) : Int) := by
  have h1 : (BitVec.ofInt 64 (V : Int)).toNat = V := by
    rw [BitVec.ofInt_natCast, BitVec.toNat_ofNat]; exact Nat.mod_eq_of_lt (by omega)
  have h2 : (BitVec.ofInt 64 (127 : Int)).toNat = 127 := by decide
  show IntKind.i64.wrap ((BitVec.ofInt 64 (V : Int) &&& BitVec.ofInt 64 127).toNat : Int) = _
  rw [BitVec.toNat_and, h1, h2, show (127 : Nat) = 2 ^ 7 - 1 from rfl, Nat.and_two_pow_sub_one_eq_mod]
  exact IntWalk.i64_in _ ⟨by omega, by omega⟩
set_option maxRecDepth 100000 in
set_option maxHeartbeats 4000000 in
theorem ones_S (x : Nat) (hx : x < 18446744073709551616) (w : World) : Calls Tryz.prog 96 #[.int .u64 (x : Int)] w fun e w' => e = .returned (.int .i64 (popB x 64 : Int)) ∧ w' = w := by
  obtain ⟨Y, Z, V, h1, h2, h3, hY, h4, hZ, h5, hV, h6, h7⟩ := oc_all x hx
  have HP : Hid (V % 128 = popB x 64) := h7
  have E1 := bits_and_u64_nat (x / 2) 6148914691236517205 (by omega) (by decide)
  have E2 := bits_and_u64_nat x 6148914691236517205 hx (by decide)
  have H1 : (x / 2 &&& 6148914691236517205) + (x &&& 6148914691236517205) = oc1 x := rfl
  have H2 : (oc1 x / 4 &&& 3689348814741910323) + (oc1 x &&& 3689348814741910323) = oc2 (oc1 x) := rfl
  have H3 : (oc2 (oc1 x) / 16 + oc2 (oc1 x)) &&& 1085102592571150095 = oc3 (oc2 (oc1 x)) := rfl
  have E4 := bits_and_u64_nat (oc1 x / 4) 3689348814741910323 (by omega) (by decide)
  have E5 := bits_and_u64_nat (oc1 x) 3689348814741910323 h1 (by decide)
  have E8 := bits_and_u64_nat (oc2 (oc1 x) / 16 + oc2 (oc1 x)) 1085102592571150095 h3 (by decide)
  rw [H3] at E8
  have h8 : oc3 (oc2 (oc1 x)) < 18446744073709551616 := by omega
  generalize oc3 (oc2 (oc1 x)) = X3 at *
  generalize oc2 (oc1 x) = X2 at *
  generalize oc1 x = X1 at *
  generalize (x / 2 &&& 6148914691236517205) = A1 at *
  generalize (x &&& 6148914691236517205) = A2 at *
  generalize (X1 / 4 &&& 3689348814741910323) = A3 at *
  generalize (X1 &&& 3689348814741910323) = A4 at *
  have F1 : ((x / 2 : Nat) : Int) = (x : Int) / 2 := by omega
  have F2 : ((X1 / 4 : Nat) : Int) = (X1 : Int) / 4 := by omega
  rw [F1] at E1
  rw [F2] at E4
  obtain ⟨S, hS⟩ : ∃ S, X2 / 16 + X2 = S := ⟨_, rfl⟩
  rw [hS] at E8 h3
  have E3 : IntKind.u64.wrap ((A1 : Int) + (A2 : Int)) = (X1 : Int) := by rw [u64_in (by omega) (by omega)]; omega
  have E6 : IntKind.u64.wrap ((A3 : Int) + (A4 : Int)) = (X2 : Int) := by rw [u64_in (by omega) (by omega)]; omega
  have E7 : IntKind.u64.wrap ((X2 : Int) / 16 + (X2 : Int)) = (S : Int) := by rw [u64_in (by omega) (by omega)]; omega
  have E9 : IntKind.u64.wrap ((X3 : Int) + (X3 : Int) / 256) = (Y : Int) := by rw [u64_in (by omega) (by omega)]; omega
  have E10 : IntKind.u64.wrap ((Y : Int) + (Y : Int) / 65536) = (Z : Int) := by rw [u64_in (by omega) (by omega)]; omega
  have E11 : IntKind.u64.wrap ((Z : Int) + (Z : Int) / 4294967296) = (V : Int) := by rw [u64_in (by omega) (by omega)]; omega
  have E12 : IntKind.i64.wrap (V : Int) = (V : Int) := IntWalk.i64_in _ ⟨by omega, by omega⟩
  have E13 := bits_and_i64_127 V h6
  have G1 : bits .and .u64 ((x : Int) / 2) (6148914691236517205 : Int) = (A1 : Int) := E1
  have G2 : bits .and .u64 (x : Int) (6148914691236517205 : Int) = (A2 : Int) := E2
  have G4 : bits .and .u64 ((X1 : Int) / 4) (3689348814741910323 : Int) = (A3 : Int) := E4
  have G5 : bits .and .u64 (X1 : Int) (3689348814741910323 : Int) = (A4 : Int) := E5
  have G8 : bits .and .u64 (S : Int) (1085102592571150095 : Int) = (X3 : Int) := E8
  clear h1 h2 h3 hY h4 hZ h5 hV h6 h7 h8 H1 H2 H3 F1 F2 hS E1 E2 E4 E5 E8
  go_enter Tryz.func96, Tryz.ntmps96
  go_wp2
  go_ret
  refine ⟨?_, rfl⟩
  rw [← HP.out]
  rfl
theorem pop_word (N i : Nat) : popB N (64 * (i + 1)) = popB N (64 * i) + popB (wdB N i) 64 := by
  rw [show 64 * (i + 1) = 64 * i + 64 by omega, popB_add]
  congr 1
  unfold wdB
  exact (popB_mod _ 64).symm
theorem popB_zero : ∀ n, popB 0 n = 0
  | 0 => rfl
  | n + 1 => by
    show popB 0 n + ((0 : Nat).testBit n).toNat = 0
    rw [popB_zero n, Nat.zero_testBit]
    rfl
theorem pop_size {N m : Nat} (h : N < 2 ^ m) : popB N (64 * nwB m) = popB N m := by
  have e : 64 * nwB m = m + (64 * nwB m - m) := by unfold nwB; omega
  rw [e, popB_add, Nat.div_eq_of_lt h, popB_zero, Nat.add_zero]
set_option maxRecDepth 100000 in
set_option maxHeartbeats 4000000 in
theorem count_SB {w : World} {k m N : Nat} (h : SB w k m N) : Calls Tryz.prog 52 #[.pointer (some ⟨k + 1, 0, none⟩)] w fun e w' => e = .returned (.int .i64 (popB N m : Int)) ∧ w' = w := by
  have hnw := nwB_le h.ml
  have HS : Hid (Calls Tryz.prog 55 #[.pointer (some ⟨k + 1, 0, none⟩)] w fun e w' => e = .returned (.slice (some ⟨k, 0, none⟩) (nwB m) (nwB m)) ∧ w' = w) := held_SB h
  have HW : Hid (∀ i, i < nwB m → w.cell? ⟨k, i, none⟩ = some (.int .u64 (wdB N i : Int))) := fun i hi => h.word hi
  have HE : Hid (popB N (64 * nwB m) = popB N m) := pop_size h.lt
  clear h
  go_enter Tryz.func52, Tryz.ntmps52
  go_wp2_with (go_at_call 55; refine HS.out.mono ?_; rintro e w1 ⟨rfl, hz⟩; rw [hz]; clear hz w1)
  clear HS
  go_loopw [3, 9] (fun z3 z9 wr => ∃ i : Nat, i ≤ nwB m ∧ z9 = .int .i64 (i : Int) ∧ z3 = .int .i64 (popB N (64 * i) : Int) ∧ w = wr) (fun _ z _ => nwB m - (intOf z).toNat)
  case atStart => exact ⟨0, Nat.zero_le _, rfl, rfl, rfl⟩
  case round =>
    obtain ⟨i, hi, rfl, rfl, rfl⟩ := hrel
    by_cases hlt : i < nwB m
    · have ilt : (i : Int) < ((nwB m : Nat) : Int) := by omega
      have c := HW.out i hlt
      have OC : Hid (Calls Tryz.prog 96 #[.int .u64 (wdB N i : Int)] w fun e w' => e = .returned (.int .i64 (popB (wdB N i) 64 : Int)) ∧ w' = w) := ones_S _ (wdB_lt N i) w
      have HP : Hid (popB N (64 * (i + 1)) = popB N (64 * i) + popB (wdB N i) 64) := pop_word N i
      have b1 := popB_le N (64 * i)
      have b2 := popB_le (wdB N i) 64
      generalize popB (wdB N i) 64 = q at *
      generalize wdB N i = W at *
      generalize popB N (64 * i) = p at *
      go_wp2_with (go_at_call 96; refine OC.out.mono ?_; rintro e w1 ⟨rfl, hz⟩; rw [hz]; clear hz w1)
      go_roundw
      case rel => exact ⟨i + 1, by omega, by go_num, by rw [HP.out]; go_num, trivial⟩
      case measure => simp [intOf]; omega
    · obtain rfl : i = nwB m := by omega
      have ilt : ¬ ((nwB m : Nat) : Int) < ((nwB m : Nat) : Int) := by omega
      rw [HE.out]
      go_wp2
      go_ret
      exact ⟨rfl, rfl⟩
noncomputable def tzRen : Ren := ⟨fun _ => 100, fun | 0 => 0 | 3 => 3 | 4 => 4 | 5 => 5 | 22 => 118 | 25 => 183 | 54 => 185 | n => n, fun _ => (Tryz.prog.globals.findIdx? (·.name == "math/bits.deBruijn64tab")).getD 0⟩
theorem tz_lays : Lays7.n29 Tryz.prog tzRen := {
  mixed := by kernel_rfl
  f29 := by kernel_rfl
  t0 := by kernel_rfl
  a0 := fun _ => by kernel_rfl
  z0 := fun _ => by kernel_rfl
  v0 := fun _ => by kernel_rfl
  i0 := by kernel_rfl
  t3 := by kernel_rfl
  a3 := fun _ => by kernel_rfl
  z3 := fun _ => by kernel_rfl
  v3 := fun _ => by kernel_rfl
  i3 := by kernel_rfl
  t4 := by kernel_rfl
  a4 := fun _ => by kernel_rfl
  z4 := fun _ => by kernel_rfl
  v4 := fun _ => by kernel_rfl
  i4 := by kernel_rfl
  t5 := by kernel_rfl
  a5 := fun _ => by kernel_rfl
  z5 := fun _ => by kernel_rfl
  v5 := fun _ => by kernel_rfl
  i5 := by kernel_rfl
  t22 := by kernel_rfl
  a22 := fun _ => by kernel_rfl
  z22 := fun _ => by kernel_rfl
  v22 := fun _ => by kernel_rfl
  i22 := by kernel_rfl
  t25 := by kernel_rfl
  a25 := fun _ => by kernel_rfl
  z25 := fun _ => by kernel_rfl
  v25 := fun _ => by kernel_rfl
  i25 := by kernel_rfl
  t54 := by kernel_rfl
  a54 := fun _ => by kernel_rfl
  z54 := fun _ => by kernel_rfl
  g1 := by kernel_rfl }
/-- The library's table in its variable. -/
def TabB (w : World) : Prop := TabAt (tzRen.g 1) Lib.deBruijn64tab w
theorem TabB.frB {X : Nat → Prop} {w w' : World} (h : TabB w) (hf : FrB X w w') (hX : ∀ j, X j → j ≠ tzRen.g 1) : TabB w' := fun j hj => by
  have c := h j hj
  have hl : tzRen.g 1 < w.heap.size := World.block_lt_of_cell? w _ c
  rw [← c]
  have e := hf.block _ hl (fun q => hX _ q rfl)
  simp only [World.cell?, e]
theorem TabB.later {w w' : World} (h : TabB w) (hb : Below w.heap.size w w') : TabB w' := h.frB (X := fun _ => False) (Below.frB hb) (fun _ q => q.elim)
theorem tz_S (x : Nat) (hx : x < 18446744073709551616) (w : World) (hT : TabB w) : Calls Tryz.prog 100 #[.int .u64 (x : Int)] w fun e w' => e = .returned (.int .i64 (Lib.ctz 64 x : Int)) ∧ w' = w := Any7.bits_TrailingZeros64 tz_lays x hx w (fun _ => hT)
theorem ctz_spec {x : Nat} (h0 : x ≠ 0) (hx : x < 18446744073709551616) : Lib.ctz 64 x < 64 ∧ x.testBit (Lib.ctz 64 x) = true ∧ (∀ j, j < Lib.ctz 64 x → x.testBit j = false) := by
  have h1 : Lib.ctz 64 x = Lib.ctzFrom 64 x := by unfold Lib.ctz; rw [if_neg h0]
  obtain ⟨q, hq, hl⟩ := Lib.ctzFrom_spec 64 x (by omega) hx
  rw [h1]
  generalize Lib.ctzFrom 64 x = c at *
  refine ⟨hl, ?_, fun j hj => ?_⟩
  · rw [hq, Nat.testBit_two_pow_mul]
    simp
  · rw [hq, Nat.testBit_two_pow_mul]
    simp
    omega
end Go.Proofs.YtcgghlaifmlpiaaGreatDoor
