import Derived.Test.YtcgghlaifmlpiaaGreatDoorBT2
namespace Go.Proofs.YtcgghlaifmlpiaaGreatDoor
set_option linter.unusedVariables false
open Go.RowKit

/-- How many of the first bits are set. -/
def popB (N : Nat) : Nat → Nat
  | 0 => 0
  | n + 1 => popB N n + (N.testBit n).toNat
theorem popB_le (N : Nat) : ∀ n, popB N n ≤ n
  | 0 => Nat.le_refl _
  | n + 1 => by
    have := popB_le N n
    have h : (N.testBit n).toNat ≤ 1 := Bool.toNat_le _
    show popB N n + (N.testBit n).toNat ≤ n + 1
    omega
theorem popB_add (N a : Nat) : ∀ b, popB N (a + b) = popB N a + popB (N / 2 ^ a) b
  | 0 => rfl
  | b + 1 => by
    show popB N (a + b) + (N.testBit (a + b)).toNat = popB N a + (popB (N / 2 ^ a) b + ((N / 2 ^ a).testBit b).toNat)
    rw [popB_add N a b, Nat.testBit_div_two_pow, Nat.add_comm b a]
    omega
theorem popB_congr {N M : Nat} : ∀ n, (∀ j, j < n → N.testBit j = M.testBit j) → popB N n = popB M n
  | 0, _ => rfl
  | n + 1, h => by
    show popB N n + (N.testBit n).toNat = popB M n + (M.testBit n).toNat
    rw [popB_congr n (fun j hj => h j (by omega)), h n (by omega)]
theorem popB_mod (N n : Nat) : popB (N % 2 ^ n) n = popB N n := popB_congr n (fun j hj => by rw [Nat.testBit_mod_two_pow]; simp [hj])
/-- The steps on one byte. -/
def pb1 (x : Nat) : Nat := (x / 2 &&& 85) + (x &&& 85)
def pb2 (x : Nat) : Nat := (x / 4 &&& 51) + (x &&& 51)
def pb3 (x : Nat) : Nat := (x / 16 + x) &&& 15
theorem pb_all : ∀ x, x < 256 → pb3 (pb2 (pb1 x)) = popB x 8 := by decide +kernel
def ofB : List Nat → Nat
  | [] => 0
  | b :: l => b + 256 * ofB l
theorem and_byte {b c : Nat} (y m : Nat) (hb : b < 256) (hc : c < 256) : (b + 256 * y) &&& (c + 256 * m) = (b &&& c) + 256 * (y &&& m) := by
  have hbc : b &&& c < 2 ^ 8 := Nat.and_lt_two_pow _ hc
  apply Nat.eq_of_testBit_eq
  intro j
  have t : ∀ (a y : Nat), a < 2 ^ 8 → (a + 256 * y).testBit j = if j < 8 then a.testBit j else y.testBit (j - 8) := fun a y ha => by
    rw [Nat.add_comm]
    exact Nat.testBit_two_pow_mul_add y ha j
  rw [Nat.testBit_and, t b y hb, t c m hc, t _ _ hbc]
  split
  · rw [Nat.testBit_and]
  · rw [Nat.testBit_and]
theorem p1_byte : ∀ b, b < 256 → ∀ c, c < 2 → (b / 2 + 128 * c) &&& 85 = b / 2 &&& 85 := by decide +kernel
theorem p2_byte : ∀ b, b < 256 → ∀ c, c < 4 → (b / 4 + 64 * c) &&& 51 = b / 4 &&& 51 := by decide +kernel
theorem p3_byte : ∀ b, b < 128 → ∀ c, c < 5 → (b / 16 + 16 * c + b) &&& 15 = (b / 16 + b) &&& 15 := by decide +kernel
theorem pb1_lt : ∀ b, b < 256 → pb1 b < 256 := by decide +kernel
theorem pb2_bd : ∀ b, b < 256 → pb2 (pb1 b) ≤ 68 ∧ pb2 (pb1 b) % 16 ≤ 4 := by decide +kernel
theorem pb3_le : ∀ b, b < 256 → pb3 (pb2 (pb1 b)) ≤ 8 := by decide +kernel
def mkB (c : Nat) (l : List Nat) : Nat := ofB (l.map fun _ => c)
theorem st1_B : ∀ l : List Nat, (∀ b ∈ l, b < 256) → (ofB l / 2 &&& mkB 85 l) + (ofB l &&& mkB 85 l) = ofB (l.map pb1)
  | [], _ => rfl
  | b :: l, h => by
    have hb := h b (List.mem_cons_self ..)
    have ih := st1_B l (fun x hx => h x (List.mem_cons_of_mem _ hx))
    have e1 : (b + 256 * ofB l) / 2 = (b / 2 + 128 * (ofB l % 2)) + 256 * (ofB l / 2) := by omega
    show ((b + 256 * ofB l) / 2 &&& (85 + 256 * mkB 85 l)) + ((b + 256 * ofB l) &&& (85 + 256 * mkB 85 l)) = pb1 b + 256 * ofB (l.map pb1)
    rw [e1, and_byte _ _ (by omega) (by decide), and_byte _ _ hb (by decide), p1_byte b hb _ (Nat.mod_lt _ (by decide)), ← ih]
    unfold pb1
    omega
theorem st2_B : ∀ l : List Nat, (∀ b ∈ l, b < 256) → (ofB l / 4 &&& mkB 51 l) + (ofB l &&& mkB 51 l) = ofB (l.map pb2)
  | [], _ => rfl
  | b :: l, h => by
    have hb := h b (List.mem_cons_self ..)
    have ih := st2_B l (fun x hx => h x (List.mem_cons_of_mem _ hx))
    have e1 : (b + 256 * ofB l) / 4 = (b / 4 + 64 * (ofB l % 4)) + 256 * (ofB l / 4) := by omega
    show ((b + 256 * ofB l) / 4 &&& (51 + 256 * mkB 51 l)) + ((b + 256 * ofB l) &&& (51 + 256 * mkB 51 l)) = pb2 b + 256 * ofB (l.map pb2)
    rw [e1, and_byte _ _ (by omega) (by decide), and_byte _ _ hb (by decide), p2_byte b hb _ (Nat.mod_lt _ (by decide)), ← ih]
    unfold pb2
    omega
theorem ofB_mod16 : ∀ l : List Nat, (∀ b ∈ l, b ≤ 68 ∧ b % 16 ≤ 4) → ofB l % 16 ≤ 4
  | [], _ => by decide
  | b :: l, h => by
    have := h b (List.mem_cons_self ..)
    show (b + 256 * ofB l) % 16 ≤ 4
    omega
theorem st3_B : ∀ l : List Nat, (∀ b ∈ l, b ≤ 68 ∧ b % 16 ≤ 4) → (ofB l / 16 + ofB l) &&& mkB 15 l = ofB (l.map pb3)
  | [], _ => rfl
  | b :: l, h => by
    have hb := h b (List.mem_cons_self ..)
    have hl : ∀ x ∈ l, x ≤ 68 ∧ x % 16 ≤ 4 := fun x hx => h x (List.mem_cons_of_mem _ hx)
    have ih := st3_B l hl
    have hm := ofB_mod16 l hl
    have e1 : (b + 256 * ofB l) / 16 + (b + 256 * ofB l) = (b / 16 + 16 * (ofB l % 16) + b) + 256 * (ofB l / 16 + ofB l) := by omega
    show ((b + 256 * ofB l) / 16 + (b + 256 * ofB l)) &&& (15 + 256 * mkB 15 l) = pb3 b + 256 * ofB (l.map pb3)
    rw [e1, and_byte _ _ (by omega) (by decide), p3_byte b (by omega) _ (by omega), ih]
    rfl
theorem bytes8 (x : Nat) (hx : x < 18446744073709551616) : ∃ a b c d e f g h : Nat, x = ofB [a, b, c, d, e, f, g, h] ∧ a < 256 ∧ b < 256 ∧ c < 256 ∧ d < 256 ∧ e < 256 ∧ f < 256 ∧ g < 256 ∧ h < 256 :=
  ⟨x % 256, x / 256 % 256, x / 65536 % 256, x / 16777216 % 256, x / 4294967296 % 256, x / 1099511627776 % 256, x / 281474976710656 % 256, x / 72057594037927936, by simp only [ofB]; omega, by omega, by omega, by omega, by omega, by omega, by omega, by omega, by omega⟩
theorem pop_byte (b y : Nat) (hb : b < 256) (n : Nat) : popB (b + 256 * y) (8 + n) = popB b 8 + popB y n := by
  rw [popB_add]
  congr 1
  · exact popB_congr 8 (fun j hj => by
      have := Nat.testBit_two_pow_mul_add (i := 8) y hb j
      rw [if_pos hj] at this
      rw [Nat.add_comm]
      exact this)
  · rw [show (b + 256 * y) / 2 ^ 8 = y by show (b + 256 * y) / 256 = y; omega]
theorem pop_ofB (a b c d e f g h : Nat) (ha : a < 256) (hb : b < 256) (hc : c < 256) (hd : d < 256) (he : e < 256) (hf : f < 256) (hg : g < 256) (hh : h < 256) : popB (ofB [a, b, c, d, e, f, g, h]) 64 = popB a 8 + popB b 8 + popB c 8 + popB d 8 + popB e 8 + popB f 8 + popB g 8 + popB h 8 := by
  simp only [ofB]
  rw [show (64 : Nat) = 8 + (8 + (8 + (8 + (8 + (8 + (8 + (8 + 0))))))) from rfl, pop_byte _ _ ha, pop_byte _ _ hb, pop_byte _ _ hc, pop_byte _ _ hd, pop_byte _ _ he, pop_byte _ _ hf, pop_byte _ _ hg, pop_byte _ _ hh]
  show popB a 8 + (popB b 8 + (popB c 8 + (popB d 8 + (popB e 8 + (popB f 8 + (popB g 8 + (popB h 8 + 0))))))) = _
  omega
theorem lt_B {r1 r2 r3 r4 r5 r6 r7 r8 : Nat} (a1 : r1 ≤ 255) (a2 : r2 ≤ 255) (a3 : r3 ≤ 255) (a4 : r4 ≤ 255) (a5 : r5 ≤ 255) (a6 : r6 ≤ 255) (a7 : r7 ≤ 255) (a8 : r8 ≤ 255) : ofB [r1, r2, r3, r4, r5, r6, r7, r8] < 18446744073709551616 := by
  simp only [ofB]
  omega
theorem lt2_B {r1 r2 r3 r4 r5 r6 r7 r8 : Nat} (a1 : r1 ≤ 68) (a2 : r2 ≤ 68) (a3 : r3 ≤ 68) (a4 : r4 ≤ 68) (a5 : r5 ≤ 68) (a6 : r6 ≤ 68) (a7 : r7 ≤ 68) (a8 : r8 ≤ 68) : ofB [r1, r2, r3, r4, r5, r6, r7, r8] / 16 + ofB [r1, r2, r3, r4, r5, r6, r7, r8] < 18446744073709551616 := by
  have : ofB [r1, r2, r3, r4, r5, r6, r7, r8] < 9223372036854775808 := by
    simp only [ofB]
    omega
  generalize ofB [r1, r2, r3, r4, r5, r6, r7, r8] = X at *
  clear a1 a2 a3 a4 a5 a6 a7 a8
  omega
set_option maxHeartbeats 2000000 in
theorem fin_B {p1 p2 p3 p4 p5 p6 p7 p8 X : Nat} (d1 : p1 ≤ 8) (d2 : p2 ≤ 8) (d3 : p3 ≤ 8) (d4 : p4 ≤ 8) (d5 : p5 ≤ 8) (d6 : p6 ≤ 8) (d7 : p7 ≤ 8) (d8 : p8 ≤ 8) (hX : X = p1 + 256 * (p2 + 256 * (p3 + 256 * (p4 + 256 * (p5 + 256 * (p6 + 256 * (p7 + 256 * p8))))))) : ∃ Y Z V, X + X / 256 = Y ∧ Y < 18446744073709551616 ∧ Y + Y / 65536 = Z ∧ Z < 18446744073709551616 ∧ Z + Z / 4294967296 = V ∧ V < 9223372036854775808 ∧ V % 128 = p1 + p2 + p3 + p4 + p5 + p6 + p7 + p8 := by
  have hY : X + X / 256 = (p1 + p2) + 256 * ((p2 + p3) + 256 * ((p3 + p4) + 256 * ((p4 + p5) + 256 * ((p5 + p6) + 256 * ((p6 + p7) + 256 * ((p7 + p8) + 256 * p8)))))) := by omega
  obtain ⟨Y, hY2⟩ : ∃ Y, X + X / 256 = Y := ⟨_, rfl⟩
  rw [hY2] at hY
  have hZ : Y + Y / 65536 = (p1 + p2 + p3 + p4) + 256 * ((p2 + p3 + p4 + p5) + 256 * ((p3 + p4 + p5 + p6) + 256 * ((p4 + p5 + p6 + p7) + 256 * ((p5 + p6 + p7 + p8) + 256 * ((p6 + p7 + p8) + 256 * ((p7 + p8) + 256 * p8)))))) := by clear hX hY2; omega
  obtain ⟨Z, hZ2⟩ : ∃ Z, Y + Y / 65536 = Z := ⟨_, rfl⟩
  rw [hZ2] at hZ
  have hV : Z + Z / 4294967296 = (p1 + p2 + p3 + p4 + p5 + p6 + p7 + p8) + 256 * ((p2 + p3 + p4 + p5 + p6 + p7 + p8) + 256 * ((p3 + p4 + p5 + p6 + p7 + p8) + 256 * ((p4 + p5 + p6 + p7 + p8) + 256 * ((p5 + p6 + p7 + p8) + 256 * ((p6 + p7 + p8) + 256 * ((p7 + p8) + 256 * p8)))))) := by clear hX hY2 hY hZ2; omega
  obtain ⟨V, hV2⟩ : ∃ V, Z + Z / 4294967296 = V := ⟨_, rfl⟩
  rw [hV2] at hV
  exact ⟨Y, Z, V, hY2, by clear hX hY2 hZ hZ2 hV hV2; omega, hZ2, by clear hX hY2 hY hZ2 hV hV2; omega, hV2, by clear hX hY2 hY hZ2 hZ hV2; omega, by clear hX hY2 hY hZ2 hZ hV2; omega⟩
/-- What OnesCount64 reckons. -/
def oc1 (x : Nat) : Nat := (x / 2 &&& 6148914691236517205) + (x &&& 6148914691236517205)
def oc2 (x : Nat) : Nat := (x / 4 &&& 3689348814741910323) + (x &&& 3689348814741910323)
def oc3 (x : Nat) : Nat := (x / 16 + x) &&& 1085102592571150095
theorem oc_all (x : Nat) (hx : x < 18446744073709551616) : ∃ Y Z V, oc1 x < 18446744073709551616 ∧ oc2 (oc1 x) < 18446744073709551616 ∧ oc2 (oc1 x) / 16 + oc2 (oc1 x) < 18446744073709551616 ∧ oc3 (oc2 (oc1 x)) + oc3 (oc2 (oc1 x)) / 256 = Y ∧ Y < 18446744073709551616 ∧ Y + Y / 65536 = Z ∧ Z < 18446744073709551616 ∧ Z + Z / 4294967296 = V ∧ V < 9223372036854775808 ∧ V % 128 = popB x 64 := by
  obtain ⟨a, b, c, d, e, f, g, h, rfl, ha, hb, hc, hd, he, hf, hg, hh⟩ := bytes8 x hx
  have e1 : oc1 (ofB [a, b, c, d, e, f, g, h]) = ofB [pb1 a, pb1 b, pb1 c, pb1 d, pb1 e, pb1 f, pb1 g, pb1 h] := by
    have := st1_B [a, b, c, d, e, f, g, h] (by simp [ha, hb, hc, hd, he, hf, hg, hh])
    rw [show mkB 85 [a, b, c, d, e, f, g, h] = 6148914691236517205 by simp [mkB, ofB]] at this
    exact this
  have e2 : oc2 (ofB [pb1 a, pb1 b, pb1 c, pb1 d, pb1 e, pb1 f, pb1 g, pb1 h]) = ofB [pb2 (pb1 a), pb2 (pb1 b), pb2 (pb1 c), pb2 (pb1 d), pb2 (pb1 e), pb2 (pb1 f), pb2 (pb1 g), pb2 (pb1 h)] := by
    have := st2_B [pb1 a, pb1 b, pb1 c, pb1 d, pb1 e, pb1 f, pb1 g, pb1 h] (by simp [pb1_lt, ha, hb, hc, hd, he, hf, hg, hh])
    rw [show mkB 51 [pb1 a, pb1 b, pb1 c, pb1 d, pb1 e, pb1 f, pb1 g, pb1 h] = 3689348814741910323 by simp [mkB, ofB]] at this
    exact this
  have e3 : oc3 (ofB [pb2 (pb1 a), pb2 (pb1 b), pb2 (pb1 c), pb2 (pb1 d), pb2 (pb1 e), pb2 (pb1 f), pb2 (pb1 g), pb2 (pb1 h)]) = ofB [pb3 (pb2 (pb1 a)), pb3 (pb2 (pb1 b)), pb3 (pb2 (pb1 c)), pb3 (pb2 (pb1 d)), pb3 (pb2 (pb1 e)), pb3 (pb2 (pb1 f)), pb3 (pb2 (pb1 g)), pb3 (pb2 (pb1 h))] := by
    have := st3_B [pb2 (pb1 a), pb2 (pb1 b), pb2 (pb1 c), pb2 (pb1 d), pb2 (pb1 e), pb2 (pb1 f), pb2 (pb1 g), pb2 (pb1 h)] (by simp only [List.forall_mem_cons]; exact ⟨pb2_bd a ha, pb2_bd b hb, pb2_bd c hc, pb2_bd d hd, pb2_bd e he, pb2_bd f hf, pb2_bd g hg, pb2_bd h hh, fun _ q => by cases q⟩)
    rw [show mkB 15 [pb2 (pb1 a), pb2 (pb1 b), pb2 (pb1 c), pb2 (pb1 d), pb2 (pb1 e), pb2 (pb1 f), pb2 (pb1 g), pb2 (pb1 h)] = 1085102592571150095 by simp [mkB, ofB]] at this
    exact this
  rw [e1, e2, e3, pop_ofB a b c d e f g h ha hb hc hd he hf hg hh, ← pb_all a ha, ← pb_all b hb, ← pb_all c hc, ← pb_all d hd, ← pb_all e he, ← pb_all f hf, ← pb_all g hg, ← pb_all h hh]
  have b1 : ∀ x, x < 256 → pb1 x ≤ 255 := fun x hx => Nat.le_of_lt_succ (pb1_lt x hx)
  obtain ⟨Y, Z, V, f1, f2, f3, f4, f5, f6, f7⟩ := fin_B (pb3_le a ha) (pb3_le b hb) (pb3_le c hc) (pb3_le d hd) (pb3_le e he) (pb3_le f hf) (pb3_le g hg) (pb3_le h hh) rfl
  have c1 := (pb2_bd a ha).1; have c2 := (pb2_bd b hb).1; have c3 := (pb2_bd c hc).1; have c4 := (pb2_bd d hd).1; have c5 := (pb2_bd e he).1; have c6 := (pb2_bd f hf).1; have c7 := (pb2_bd g hg).1; have c8 := (pb2_bd h hh).1
  exact ⟨Y, Z, V, lt_B (b1 a ha) (b1 b hb) (b1 c hc) (b1 d hd) (b1 e he) (b1 f hf) (b1 g hg) (b1 h hh), lt_B (by omega) (by omega) (by omega) (by omega) (by omega) (by omega) (by omega) (by omega), lt2_B c1 c2 c3 c4 c5 c6 c7 c8, f1, f2, f3, f4, f5, f6, f7⟩
end Go.Proofs.YtcgghlaifmlpiaaGreatDoor
