import Derived.Test.YtmpdgmigpjfcpaaDoorBA1
namespace Go.Proofs.YtmpdgmigpjfcpaaDoor
set_option linter.unusedVariables false
open Go.RowKit Go.Shelf

theorem popB_split (X Y : Nat) : ∀ n, popB (minusB X Y) n + popB (X &&& Y) n = popB X n
  | 0 => rfl
  | n + 1 => by
    show popB (minusB X Y) n + ((minusB X Y).testBit n).toNat + (popB (X &&& Y) n + ((X &&& Y).testBit n).toNat) = popB X n + (X.testBit n).toNat
    have h := popB_split X Y n
    rw [minusB_bit, Nat.testBit_and]
    have : (X.testBit n && !Y.testBit n).toNat + (X.testBit n && Y.testBit n).toNat = (X.testBit n).toNat := by
      cases X.testBit n <;> cases Y.testBit n <;> rfl
    omega
theorem same_ps (X Y Z : Nat) : decide ((X &&& Y ||| X &&& Z) ^^^ (X &&& (Y ||| Z)) = 0) = true := by
  rw [← Nat.and_or_distrib_left, Nat.xor_self]
  rfl
theorem same_sp (X Y Z : Nat) : decide ((X &&& (Y ||| Z)) ^^^ (X &&& Y ||| X &&& Z) = 0) = true := by
  rw [← Nat.and_or_distrib_left, Nat.xor_self]
  rfl
theorem same_ux (X Y : Nat) : decide ((minusB X Y ||| X &&& Y) ^^^ X = 0) = true := by
  have : minusB X Y ||| X &&& Y = X := Nat.eq_of_testBit_eq fun j => by
    rw [Nat.testBit_or, minusB_bit, Nat.testBit_and]
    cases X.testBit j <;> cases Y.testBit j <;> rfl
  rw [this, Nat.xor_self]
  rfl
theorem minus_zero {X Y : Nat} : minusB X Y = 0 ↔ ∀ j, X.testBit j = true → Y.testBit j = true := by
  constructor
  · intro h j hj
    have := congrArg (fun N => N.testBit j) h
    simp only [minusB_bit, Nat.zero_testBit, hj, Bool.true_and] at this
    simpa using this
  · intro h
    refine Nat.eq_of_testBit_eq fun j => ?_
    rw [minusB_bit, Nat.zero_testBit]
    cases e : X.testBit j with
    | false => rfl
    | true => rw [h j e]; rfl
theorem within_px (X Y Z : Nat) : decide (minusB (X &&& Y ||| X &&& Z) X = 0) = true := by
  refine decide_eq_true (minus_zero.2 fun j hj => ?_)
  rw [Nat.testBit_or, Nat.testBit_and, Nat.testBit_and] at hj
  cases e : X.testBit j with
  | true => rfl
  | false => rw [e] at hj; simp at hj
theorem same_two (X Y : Nat) : decide (X ^^^ Y = 0) = (decide (minusB X Y = 0) && decide (minusB Y X = 0)) := by
  rw [Bool.eq_iff_iff, Bool.and_eq_true, decide_eq_true_iff, decide_eq_true_iff, decide_eq_true_iff, minus_zero, minus_zero]
  constructor
  · intro h
    have e : X = Y := Nat.eq_of_testBit_eq fun j => by
      have := congrArg (fun N => N.testBit j) h
      simp only [Nat.testBit_xor, Nat.zero_testBit] at this
      cases e1 : X.testBit j <;> cases e2 : Y.testBit j <;> simp_all
    subst e
    exact ⟨fun _ h => h, fun _ h => h⟩
  · rintro ⟨h1, h2⟩
    have e : X = Y := Nat.eq_of_testBit_eq fun j => by
      cases e1 : X.testBit j with
      | true => exact (h1 j e1).symm
      | false =>
        cases e2 : Y.testBit j with
        | false => rfl
        | true => rw [h2 j e2] at e1; cases e1
    rw [e, Nat.xor_self]
set_option maxRecDepth 100000 in
set_option maxHeartbeats 16000000 in
theorem algebra_walk {w : World} (hT : TabB w) (aa ba ca : Option Addr) (la lb lc : List Int) (ha : InRow w aa la) (hb : InRow w ba lb) (hc : InRow w ca lc) (hla : la.length ≤ 140737488355328) (hlb : lb.length ≤ 140737488355328) (hlc : lc.length ≤ 140737488355328) (c1 c2 c3 : Nat) :
    Calls Tryd.prog 4 #[.slice aa la.length c1, .slice ba lb.length c2, .slice ca lc.length c3] w fun e w' => e = .returned (.bool true) ∧ Below w.heap.size w w' := by
  have HT : Hid (TabB w) := hT
  have AL : Hid (Calls Tryd.prog 24 #[] w fun e w' => e = .returned (.bool true) ∧ Below w.heap.size w w') := alive_SB hT
  have FA : Hid (∀ w0, Below w.heap.size w w0 → Calls Tryd.prog 25 #[.slice aa la.length c1] w0 fun e w' => e = .returned (.pointer (some ⟨w0.heap.size + 1, 0, none⟩)) ∧ SB w' w0.heap.size 200 (fiN la 0) ∧ Below w0.heap.size w0 w') := fun w0 b0 => filled_SB (ha.later b0) hla c1
  have FB : Hid (∀ w0, Below w.heap.size w w0 → Calls Tryd.prog 25 #[.slice ba lb.length c2] w0 fun e w' => e = .returned (.pointer (some ⟨w0.heap.size + 1, 0, none⟩)) ∧ SB w' w0.heap.size 200 (fiN lb 0) ∧ Below w0.heap.size w0 w') := fun w0 b0 => filled_SB (hb.later b0) hlb c2
  have FC : Hid (∀ w0, Below w.heap.size w w0 → Calls Tryd.prog 25 #[.slice ca lc.length c3] w0 fun e w' => e = .returned (.pointer (some ⟨w0.heap.size + 1, 0, none⟩)) ∧ SB w' w0.heap.size 200 (fiN lc 0) ∧ Below w0.heap.size w0 w') := fun w0 b0 => filled_SB (hc.later b0) hlc c3
  generalize fiN la 0 = X at FA
  generalize fiN lb 0 = Y at FB
  generalize fiN lc 0 = Z at FC
  generalize la.length = na at *
  generalize lb.length = nb at *
  generalize lc.length = nc at *
  clear hT ha hb hc hla hlb hlc
  go_enter Tryd.func4, Tryd.ntmps4
  go_wp2_with (go_at_call 24; refine AL.out.mono ?_)
  rintro e w0 ⟨rfl, b0⟩
  have F0 : Hid (FamB w [] w0) := ⟨fun p hp => (by cases hp), fun i j p q hi => (by simp at hi), b0, fun p hp => (by cases hp)⟩
  clear b0 AL
  go_wp2_with (go_at_call 25; refine (FA.out _ F0.out.bel).mono ?_)
  rintro e w1 ⟨rfl, s1, b1⟩
  have hx1 := F0.out.snoc (Nat.le_refl _) s1 b1
  generalize w0.heap.size = kx at *
  have F1 : Hid (FamB w [(kx, X)] w1) := hx1
  clear s1 b1 hx1 F0 FA
  go_wp2_with (go_at_call 25; refine (FB.out _ F1.out.bel).mono ?_)
  rintro e w2 ⟨rfl, s2, b2⟩
  have hx2 := F1.out.snoc (Nat.le_refl _) s2 b2
  generalize w1.heap.size = ky at *
  have F2 : Hid (FamB w [(kx, X), (ky, Y)] w2) := hx2
  clear s2 b2 hx2 F1 FB
  go_wp2_with (go_at_call 25; refine (FC.out _ F2.out.bel).mono ?_)
  rintro e w3 ⟨rfl, s3, b3⟩
  have hx3 := F2.out.snoc (Nat.le_refl _) s3 b3
  generalize w2.heap.size = kz at *
  have F3 : Hid (FamB w [(kx, X), (ky, Y), (kz, Z)] w3) := hx3
  clear s3 b3 hx3 F2 FC
  have C3 : Hid (Calls Tryd.prog 21 #[.pointer (some ⟨kx + 1, 0, none⟩)] w3 fun e w' => ∃ k', e = .returned (.pointer (some ⟨k' + 1, 0, none⟩)) ∧ FamB w ([(kx, X), (ky, Y), (kz, Z)] ++ [(k', X)]) w') := F3.out.copy (by simp)
  go_wp2_with (go_at_call 21; refine C3.out.mono ?_)
  rintro e w4 ⟨kp, rfl, h⟩
  have F4 : Hid (FamB w [(kx, X), (ky, Y), (kz, Z), (kp, X)] w4) := h
  clear h C3 F3
  have C4 : Hid (Calls Tryd.prog 21 #[.pointer (some ⟨kx + 1, 0, none⟩)] w4 fun e w' => ∃ k', e = .returned (.pointer (some ⟨k' + 1, 0, none⟩)) ∧ FamB w ([(kx, X), (ky, Y), (kz, Z), (kp, X)] ++ [(k', X)]) w') := F4.out.copy (by simp)
  go_wp2_with (go_at_call 21; refine C4.out.mono ?_)
  rintro e w5 ⟨kq, rfl, h⟩
  have F5 : Hid (FamB w [(kx, X), (ky, Y), (kz, Z), (kp, X), (kq, X)] w5) := h
  clear h C4 F4
  have C5 : Hid (Calls Tryd.prog 16 #[.pointer (some ⟨kp + 1, 0, none⟩), .pointer (some ⟨ky + 1, 0, none⟩)] w5 fun e w' => ∃ bv, e = .returned (.bool bv) ∧ FamB w (([(kx, X), (ky, Y), (kz, Z), (kp, X), (kq, X)]).set 3 (kp, X &&& Y)) w') := F5.out.meet 3 1 rfl rfl (by decide)
  go_wp2_with (go_at_call 16; refine C5.out.mono ?_)
  rintro e w6 ⟨bv5, rfl, h⟩
  have F6 : Hid (FamB w [(kx, X), (ky, Y), (kz, Z), (kp, X &&& Y), (kq, X)] w6) := h
  clear h C5 F5
  have C6 : Hid (Calls Tryd.prog 16 #[.pointer (some ⟨kq + 1, 0, none⟩), .pointer (some ⟨kz + 1, 0, none⟩)] w6 fun e w' => ∃ bv, e = .returned (.bool bv) ∧ FamB w (([(kx, X), (ky, Y), (kz, Z), (kp, X &&& Y), (kq, X)]).set 4 (kq, X &&& Z)) w') := F6.out.meet 4 2 rfl rfl (by decide)
  go_wp2_with (go_at_call 16; refine C6.out.mono ?_)
  rintro e w7 ⟨bv6, rfl, h⟩
  have F7 : Hid (FamB w [(kx, X), (ky, Y), (kz, Z), (kp, X &&& Y), (kq, X &&& Z)] w7) := h
  clear h C6 F6
  have C7 : Hid (Calls Tryd.prog 14 #[.pointer (some ⟨kp + 1, 0, none⟩), .pointer (some ⟨kq + 1, 0, none⟩)] w7 fun e w' => ∃ bv, e = .returned (.bool bv) ∧ FamB w (([(kx, X), (ky, Y), (kz, Z), (kp, X &&& Y), (kq, X &&& Z)]).set 3 (kp, X &&& Y ||| X &&& Z)) w') := F7.out.union 3 4 rfl rfl (by decide)
  go_wp2_with (go_at_call 14; refine C7.out.mono ?_)
  rintro e w8 ⟨bv7, rfl, h⟩
  have F8 : Hid (FamB w [(kx, X), (ky, Y), (kz, Z), (kp, X &&& Y ||| X &&& Z), (kq, X &&& Z)] w8) := h
  clear h C7 F7
  have C8 : Hid (Calls Tryd.prog 21 #[.pointer (some ⟨ky + 1, 0, none⟩)] w8 fun e w' => ∃ k', e = .returned (.pointer (some ⟨k' + 1, 0, none⟩)) ∧ FamB w ([(kx, X), (ky, Y), (kz, Z), (kp, X &&& Y ||| X &&& Z), (kq, X &&& Z)] ++ [(k', Y)]) w') := F8.out.copy (by simp)
  go_wp2_with (go_at_call 21; refine C8.out.mono ?_)
  rintro e w9 ⟨kr, rfl, h⟩
  have F9 : Hid (FamB w [(kx, X), (ky, Y), (kz, Z), (kp, X &&& Y ||| X &&& Z), (kq, X &&& Z), (kr, Y)] w9) := h
  clear h C8 F8
  have C9 : Hid (Calls Tryd.prog 14 #[.pointer (some ⟨kr + 1, 0, none⟩), .pointer (some ⟨kz + 1, 0, none⟩)] w9 fun e w' => ∃ bv, e = .returned (.bool bv) ∧ FamB w (([(kx, X), (ky, Y), (kz, Z), (kp, X &&& Y ||| X &&& Z), (kq, X &&& Z), (kr, Y)]).set 5 (kr, Y ||| Z)) w') := F9.out.union 5 2 rfl rfl (by decide)
  go_wp2_with (go_at_call 14; refine C9.out.mono ?_)
  rintro e w10 ⟨bv9, rfl, h⟩
  have F10 : Hid (FamB w [(kx, X), (ky, Y), (kz, Z), (kp, X &&& Y ||| X &&& Z), (kq, X &&& Z), (kr, Y ||| Z)] w10) := h
  clear h C9 F9
  have C10 : Hid (Calls Tryd.prog 21 #[.pointer (some ⟨kx + 1, 0, none⟩)] w10 fun e w' => ∃ k', e = .returned (.pointer (some ⟨k' + 1, 0, none⟩)) ∧ FamB w ([(kx, X), (ky, Y), (kz, Z), (kp, X &&& Y ||| X &&& Z), (kq, X &&& Z), (kr, Y ||| Z)] ++ [(k', X)]) w') := F10.out.copy (by simp)
  go_wp2_with (go_at_call 21; refine C10.out.mono ?_)
  rintro e w11 ⟨ks, rfl, h⟩
  have F11 : Hid (FamB w [(kx, X), (ky, Y), (kz, Z), (kp, X &&& Y ||| X &&& Z), (kq, X &&& Z), (kr, Y ||| Z), (ks, X)] w11) := h
  clear h C10 F10
  have C11 : Hid (Calls Tryd.prog 16 #[.pointer (some ⟨ks + 1, 0, none⟩), .pointer (some ⟨kr + 1, 0, none⟩)] w11 fun e w' => ∃ bv, e = .returned (.bool bv) ∧ FamB w (([(kx, X), (ky, Y), (kz, Z), (kp, X &&& Y ||| X &&& Z), (kq, X &&& Z), (kr, Y ||| Z), (ks, X)]).set 6 (ks, X &&& (Y ||| Z))) w') := F11.out.meet 6 5 rfl rfl (by decide)
  go_wp2_with (go_at_call 16; refine C11.out.mono ?_)
  rintro e w12 ⟨bv11, rfl, h⟩
  have F12 : Hid (FamB w [(kx, X), (ky, Y), (kz, Z), (kp, X &&& Y ||| X &&& Z), (kq, X &&& Z), (kr, Y ||| Z), (ks, X &&& (Y ||| Z))] w12) := h
  clear h C11 F11
  have C12 : Hid (Calls Tryd.prog 21 #[.pointer (some ⟨kx + 1, 0, none⟩)] w12 fun e w' => ∃ k', e = .returned (.pointer (some ⟨k' + 1, 0, none⟩)) ∧ FamB w ([(kx, X), (ky, Y), (kz, Z), (kp, X &&& Y ||| X &&& Z), (kq, X &&& Z), (kr, Y ||| Z), (ks, X &&& (Y ||| Z))] ++ [(k', X)]) w') := F12.out.copy (by simp)
  go_wp2_with (go_at_call 21; refine C12.out.mono ?_)
  rintro e w13 ⟨ku, rfl, h⟩
  have F13 : Hid (FamB w [(kx, X), (ky, Y), (kz, Z), (kp, X &&& Y ||| X &&& Z), (kq, X &&& Z), (kr, Y ||| Z), (ks, X &&& (Y ||| Z)), (ku, X)] w13) := h
  clear h C12 F12
  have C13 : Hid (Calls Tryd.prog 21 #[.pointer (some ⟨kx + 1, 0, none⟩)] w13 fun e w' => ∃ k', e = .returned (.pointer (some ⟨k' + 1, 0, none⟩)) ∧ FamB w ([(kx, X), (ky, Y), (kz, Z), (kp, X &&& Y ||| X &&& Z), (kq, X &&& Z), (kr, Y ||| Z), (ks, X &&& (Y ||| Z)), (ku, X)] ++ [(k', X)]) w') := F13.out.copy (by simp)
  go_wp2_with (go_at_call 21; refine C13.out.mono ?_)
  rintro e w14 ⟨kv, rfl, h⟩
  have F14 : Hid (FamB w [(kx, X), (ky, Y), (kz, Z), (kp, X &&& Y ||| X &&& Z), (kq, X &&& Z), (kr, Y ||| Z), (ks, X &&& (Y ||| Z)), (ku, X), (kv, X)] w14) := h
  clear h C13 F13
  have C14 : Hid (Calls Tryd.prog 17 #[.pointer (some ⟨ku + 1, 0, none⟩), .pointer (some ⟨ky + 1, 0, none⟩)] w14 fun e w' => ∃ bv, e = .returned (.bool bv) ∧ FamB w (([(kx, X), (ky, Y), (kz, Z), (kp, X &&& Y ||| X &&& Z), (kq, X &&& Z), (kr, Y ||| Z), (ks, X &&& (Y ||| Z)), (ku, X), (kv, X)]).set 7 (ku, minusB X Y)) w') := F14.out.minus 7 1 rfl rfl (by decide)
  go_wp2_with (go_at_call 17; refine C14.out.mono ?_)
  rintro e w15 ⟨bv14, rfl, h⟩
  have F15 : Hid (FamB w [(kx, X), (ky, Y), (kz, Z), (kp, X &&& Y ||| X &&& Z), (kq, X &&& Z), (kr, Y ||| Z), (ks, X &&& (Y ||| Z)), (ku, minusB X Y), (kv, X)] w15) := h
  clear h C14 F14
  have C15 : Hid (Calls Tryd.prog 16 #[.pointer (some ⟨kv + 1, 0, none⟩), .pointer (some ⟨ky + 1, 0, none⟩)] w15 fun e w' => ∃ bv, e = .returned (.bool bv) ∧ FamB w (([(kx, X), (ky, Y), (kz, Z), (kp, X &&& Y ||| X &&& Z), (kq, X &&& Z), (kr, Y ||| Z), (ks, X &&& (Y ||| Z)), (ku, minusB X Y), (kv, X)]).set 8 (kv, X &&& Y)) w') := F15.out.meet 8 1 rfl rfl (by decide)
  go_wp2_with (go_at_call 16; refine C15.out.mono ?_)
  rintro e w16 ⟨bv15, rfl, h⟩
  have F16 : Hid (FamB w [(kx, X), (ky, Y), (kz, Z), (kp, X &&& Y ||| X &&& Z), (kq, X &&& Z), (kr, Y ||| Z), (ks, X &&& (Y ||| Z)), (ku, minusB X Y), (kv, X &&& Y)] w16) := h
  clear h C15 F15
  have CU : Hid (Calls Tryd.prog 26 #[.pointer (some ⟨ku + 1, 0, none⟩)] w16 fun e w' => e = .returned (.int .i64 (popB (minusB X Y) 200 : Int)) ∧ w' = w16) := count_SB (F16.out.sb (ku, minusB X Y) (by simp))
  have CV : Hid (Calls Tryd.prog 26 #[.pointer (some ⟨kv + 1, 0, none⟩)] w16 fun e w' => e = .returned (.int .i64 (popB (X &&& Y) 200 : Int)) ∧ w' = w16) := count_SB (F16.out.sb (kv, X &&& Y) (by simp))
  have hc1 := popB_le (minusB X Y) 200
  have hc2 := popB_le (X &&& Y) 200
  have HPS : Hid (popB (minusB X Y) 200 + popB (X &&& Y) 200 = popB X 200) := popB_split X Y 200
  obtain ⟨c1, hc1e⟩ : ∃ c1, popB (minusB X Y) 200 = c1 := ⟨_, rfl⟩
  obtain ⟨c2, hc2e⟩ : ∃ c2, popB (X &&& Y) 200 = c2 := ⟨_, rfl⟩
  rw [hc1e] at CU hc1 HPS
  rw [hc2e] at CV hc2 HPS
  clear hc1e hc2e
  go_wp2_with (go_at_call 26; refine CU.out.mono ?_)
  rintro e w9 ⟨rfl, hz⟩
  rw [hz]
  clear hz w9 CU
  go_wp2_with (go_at_call 26; refine CV.out.mono ?_)
  rintro e w9 ⟨rfl, hz⟩
  rw [hz]
  clear hz w9 CV
  have C16 : Hid (Calls Tryd.prog 14 #[.pointer (some ⟨ku + 1, 0, none⟩), .pointer (some ⟨kv + 1, 0, none⟩)] w16 fun e w' => ∃ bv, e = .returned (.bool bv) ∧ FamB w (([(kx, X), (ky, Y), (kz, Z), (kp, X &&& Y ||| X &&& Z), (kq, X &&& Z), (kr, Y ||| Z), (ks, X &&& (Y ||| Z)), (ku, minusB X Y), (kv, X &&& Y)]).set 7 (ku, minusB X Y ||| X &&& Y)) w') := F16.out.union 7 8 rfl rfl (by decide)
  go_wp2_with (go_at_call 14; refine C16.out.mono ?_)
  rintro e w17 ⟨bv16, rfl, h⟩
  have F17 : Hid (FamB w [(kx, X), (ky, Y), (kz, Z), (kp, X &&& Y ||| X &&& Z), (kq, X &&& Z), (kr, Y ||| Z), (ks, X &&& (Y ||| Z)), (ku, minusB X Y ||| X &&& Y), (kv, X &&& Y)] w17) := h
  clear h C16 F16
  have S1 : Hid (Calls Tryd.prog 18 #[.pointer (some ⟨kp + 1, 0, none⟩), .pointer (some ⟨ks + 1, 0, none⟩)] w17 fun e w' => e = .returned (.bool (true)) ∧ w' = w17) := by
    have q := same_SB (F17.out.sb (kp, X &&& Y ||| X &&& Z) (by simp)) (F17.out.sb (ks, X &&& (Y ||| Z)) (by simp))
    simp only at q
    rw [same_ps X Y Z] at q
    exact q
  have S2 : Hid (Calls Tryd.prog 18 #[.pointer (some ⟨ks + 1, 0, none⟩), .pointer (some ⟨kp + 1, 0, none⟩)] w17 fun e w' => e = .returned (.bool (true)) ∧ w' = w17) := by
    have q := same_SB (F17.out.sb (ks, X &&& (Y ||| Z)) (by simp)) (F17.out.sb (kp, X &&& Y ||| X &&& Z) (by simp))
    simp only at q
    rw [same_sp X Y Z] at q
    exact q
  have S3 : Hid (Calls Tryd.prog 18 #[.pointer (some ⟨ku + 1, 0, none⟩), .pointer (some ⟨kx + 1, 0, none⟩)] w17 fun e w' => e = .returned (.bool (true)) ∧ w' = w17) := by
    have q := same_SB (F17.out.sb (ku, minusB X Y ||| X &&& Y) (by simp)) (F17.out.sb (kx, X) (by simp))
    simp only at q
    rw [same_ux X Y] at q
    exact q
  have S4 : Hid (Calls Tryd.prog 20 #[.pointer (some ⟨kp + 1, 0, none⟩), .pointer (some ⟨kx + 1, 0, none⟩)] w17 fun e w' => e = .returned (.bool (true)) ∧ w' = w17) := by
    have q := within_SB (F17.out.sb (kp, X &&& Y ||| X &&& Z) (by simp)) (F17.out.sb (kx, X) (by simp))
    simp only at q
    rw [within_px X Y Z] at q
    exact q
  have S5 : Hid (Calls Tryd.prog 20 #[.pointer (some ⟨kx + 1, 0, none⟩), .pointer (some ⟨ky + 1, 0, none⟩)] w17 fun e w' => e = .returned (.bool (decide (minusB X Y = 0))) ∧ w' = w17) := within_SB (F17.out.sb (kx, X) (by simp)) (F17.out.sb (ky, Y) (by simp))
  have S6 : Hid (Calls Tryd.prog 20 #[.pointer (some ⟨ky + 1, 0, none⟩), .pointer (some ⟨kx + 1, 0, none⟩)] w17 fun e w' => e = .returned (.bool (decide (minusB Y X = 0))) ∧ w' = w17) := within_SB (F17.out.sb (ky, Y) (by simp)) (F17.out.sb (kx, X) (by simp))
  have S7 : Hid (Calls Tryd.prog 18 #[.pointer (some ⟨kx + 1, 0, none⟩), .pointer (some ⟨ky + 1, 0, none⟩)] w17 fun e w' => e = .returned (.bool (decide (minusB X Y = 0) && decide (minusB Y X = 0))) ∧ w' = w17) := by
    have q := same_SB (F17.out.sb (kx, X) (by simp)) (F17.out.sb (ky, Y) (by simp))
    simp only at q
    rw [same_two X Y] at q
    exact q
  have CX : Hid (Calls Tryd.prog 26 #[.pointer (some ⟨kx + 1, 0, none⟩)] w17 fun e w' => e = .returned (.int .i64 ((c1 : Int) + (c2 : Int))) ∧ w' = w17) := by
    have q := count_SB (F17.out.sb (kx, X) (by simp))
    simp only at q
    rw [← HPS.out] at q
    exact q
  have LX : Hid (Calls Tryd.prog 27 #[.pointer (some ⟨kx + 1, 0, none⟩)] w17 fun e w' => ∃ a c, e = .returned (.slice a (c1 + c2) c) ∧ SB w' kx 200 X ∧ Below w.heap.size w w') := (list_SB (F17.out.sb (kx, X) (by simp)) (HT.out.later F17.out.bel)).mono fun e w' ⟨v, q1, q2⟩ => by
    have h1 := q2.il
    rw [bitsL_nI] at h1
    obtain ⟨a, c, rfl⟩ := il_lenB h1
    rw [bitsU_len, ← HPS.out] at q1
    exact ⟨a, c, q1, (F17.out.sb (kx, X) (by simp)).later q2.bel, F17.out.bel.trans (q2.bel.mono F17.out.bel.size)⟩
  have CY : Hid (∀ w1, SB w1 kx 200 X → Calls Tryd.prog 26 #[.pointer (some ⟨kx + 1, 0, none⟩)] w1 fun e w' => e = .returned (.int .i64 ((c1 : Int) + (c2 : Int))) ∧ w' = w1) := fun w1 s1 => by
    have q := count_SB s1
    rw [← HPS.out] at q
    exact q
  generalize decide (minusB X Y = 0) = b1 at *
  generalize decide (minusB Y X = 0) = b2 at *
  clear HPS F17
  go_wp2_with (go_at_call 18; refine S1.out.mono ?_)
  rintro e w9 ⟨rfl, hz⟩
  rw [hz]
  clear hz w9 S1
  go_wp2_with (go_at_call 18; refine S2.out.mono ?_)
  rintro e w9 ⟨rfl, hz⟩
  rw [hz]
  clear hz w9 S2
  go_wp2_with (go_at_call 18; refine S3.out.mono ?_)
  rintro e w9 ⟨rfl, hz⟩
  rw [hz]
  clear hz w9 S3
  go_wp2_with (go_at_call 26; refine CX.out.mono ?_)
  rintro e w9 ⟨rfl, hz⟩
  rw [hz]
  clear hz w9 CX
  go_wp2_with (go_at_call 20; refine S4.out.mono ?_)
  rintro e w9 ⟨rfl, hz⟩
  rw [hz]
  clear hz w9 S4
  go_wp2_with (go_at_call 20; refine S5.out.mono ?_)
  rintro e w9 ⟨rfl, hz⟩
  rw [hz]
  clear hz w9 S5
  cases b1 with
  | false =>
    simp only [Bool.false_and] at S7
    go_wp2_with (go_at_call 18; refine S7.out.mono ?_)
    rintro e w9 ⟨rfl, hz⟩
    rw [hz]
    clear hz w9 S7
    go_wp2_with (go_at_call 27; refine LX.out.mono ?_)
    rintro e w8 ⟨la, lc, rfl, s8, b8⟩
    have CY2 := CY.out w8 s8
    have CY3 : Hid (Calls Tryd.prog 26 #[.pointer (some ⟨kx + 1, 0, none⟩)] w8 fun e w' => e = .returned (.int .i64 ((c1 : Int) + (c2 : Int))) ∧ w' = w8) := CY2
    have B8 : Hid (Below w.heap.size w w8) := b8
    clear CY2 s8 b8 CY
    go_wp2_with (go_at_call 26; refine CY3.out.mono ?_; rintro e w9 ⟨rfl, hz⟩; rw [hz]; clear hz w9)
    go_ret
    exact ⟨by simp, B8.out⟩
  | true =>
    simp only [Bool.true_and] at S7
    go_wp2_with (go_at_call 20; refine S6.out.mono ?_)
    rintro e w9 ⟨rfl, hz⟩
    rw [hz]
    clear hz w9 S6
    go_wp2_with (go_at_call 18; refine S7.out.mono ?_)
    rintro e w9 ⟨rfl, hz⟩
    rw [hz]
    clear hz w9 S7
    have bb : (b2 == b2) = true := by simp
    go_wp2_with (go_at_call 27; refine LX.out.mono ?_)
    rintro e w8 ⟨la, lc, rfl, s8, b8⟩
    have CY2 := CY.out w8 s8
    have CY3 : Hid (Calls Tryd.prog 26 #[.pointer (some ⟨kx + 1, 0, none⟩)] w8 fun e w' => e = .returned (.int .i64 ((c1 : Int) + (c2 : Int))) ∧ w' = w8) := CY2
    have B8 : Hid (Below w.heap.size w w8) := b8
    clear CY2 s8 b8 CY
    go_wp2_with (go_at_call 26; refine CY3.out.mono ?_; rintro e w9 ⟨rfl, hz⟩; rw [hz]; clear hz w9)
    go_ret
    exact ⟨by simp, B8.out⟩
end Go.Proofs.YtmpdgmigpjfcpaaDoor
