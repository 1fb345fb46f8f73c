import Derived.Test.YtcjejnenklppiaaDoorBZ15ToBZ16
namespace Go.Proofs.YtcjejnenklppiaaDoor
set_option linter.unusedVariables false
open Go.RowKit Go.Shelf

/-- A set by the page: a truth for each number. -/
def mCells (N m : Nat) : List Value := (List.range m).map fun (j : Nat) => Value.bool (N.testBit j)
theorem mCells_len (N m : Nat) : (mCells N m).length = m := by simp [mCells]
theorem mCells_get (N m : Nat) {j : Nat} (h : j < m) : (mCells N m)[j]? = some (.bool (N.testBit j)) := by
  unfold mCells
  rw [List.getElem?_map, List.getElem?_range h]
  rfl
theorem mCells_ext {N M m : Nat} (h : ∀ j, j < m → N.testBit j = M.testBit j) : mCells N m = mCells M m := by
  unfold mCells
  apply List.map_congr_left
  intro j hj
  rw [h j (List.mem_range.1 hj)]
structure MB (w : World) (kb kh m N : Nat) : Prop where
  hd : w.heap[kh]? = some (.cells #[.slice (some ⟨kb, 0, none⟩) m m] 32)
  bl : w.heap[kb]? = some (.cells (mCells N m).toArray 4)
  lt : N < 2 ^ m
  ml : m ≤ 4096
  ne : kb ≠ kh
theorem MB.szh {w : World} {kb kh m N : Nat} (h : MB w kb kh m N) : kh < w.heap.size := lt_of_block h.hd
theorem MB.szb {w : World} {kb kh m N : Nat} (h : MB w kb kh m N) : kb < w.heap.size := lt_of_block h.bl
theorem MB.frB {X : Nat → Prop} {w w' : World} {kb kh m N : Nat} (h : MB w kb kh m N) (hf : FrB X w w') (h0 : ¬ X kb) (h1 : ¬ X kh) : MB w' kb kh m N :=
  ⟨(hf.block _ h.szh h1).trans h.hd, (hf.block _ h.szb h0).trans h.bl, h.lt, h.ml, h.ne⟩
theorem MB.later {w w' : World} {kb kh m N : Nat} (h : MB w kb kh m N) (hb : Below w.heap.size w w') : MB w' kb kh m N := h.frB (X := fun _ => False) (Below.frB hb) (fun q => q) (fun q => q)
theorem MB.head {w : World} {kb kh m N : Nat} (h : MB w kb kh m N) : w.cell? ⟨kh, 0, none⟩ = some (.slice (some ⟨kb, 0, none⟩) m m) := (cellq_any h.hd).trans rfl
theorem MB.at {w : World} {kb kh m N : Nat} (h : MB w kb kh m N) {j : Nat} (hj : j < m) : w.cell? ⟨kb, j, none⟩ = some (.bool (N.testBit j)) := by
  rw [cellq_any h.bl]
  simp only [List.getElem?_toArray, mCells_get _ _ hj]
theorem MB.free {w : World} {kb kh m N : Nat} (h : MB w kb kh m N) (i : Nat) : w.frozen? ⟨kb, i, none⟩ = false := by
  simp [World.frozen?, h.bl]
/-- One number in, or out. -/
def putN (N x : Nat) (b : Bool) : Nat := if b then addN N x else remN N x
theorem putN_bit (N x : Nat) (b : Bool) (j : Nat) : (putN N x b).testBit j = if x = j then b else N.testBit j := by
  unfold putN
  cases b
  · rw [if_neg (by decide), remN_bit]
    by_cases e : x = j <;> simp [e]
  · rw [if_pos rfl, addN_bit]
    by_cases e : x = j <;> simp [e]
theorem remN_lt {N x m : Nat} (h : N < 2 ^ m) : remN N x < 2 ^ m := by
  apply Nat.lt_pow_two_of_testBit
  intro j hj
  rw [remN_bit, Nat.testBit_lt_two_pow (Nat.lt_of_lt_of_le h (Nat.pow_le_pow_right (by decide) hj)), Bool.false_and]
theorem putN_lt {N x m : Nat} {b : Bool} (h : N < 2 ^ m) (hx : x < m) : putN N x b < 2 ^ m := by
  unfold putN
  split
  · exact addN_lt h hx
  · exact remN_lt h
theorem mCells_put (N m x : Nat) (b : Bool) : mCells (putN N x b) m = (mCells N m).set x (.bool b) := by
  apply List.ext_getElem?
  intro j
  rw [List.getElem?_set, mCells_len]
  by_cases hj : j < m
  · rw [mCells_get _ _ hj, mCells_get _ _ hj, putN_bit]
    by_cases e : x = j
    · subst e; rw [if_pos rfl, if_pos rfl, if_pos hj]
    · rw [if_neg e, if_neg e]
  · have h1 : ∀ M, (mCells M m)[j]? = none := fun M => List.getElem?_eq_none (by rw [mCells_len]; omega)
    rw [h1, h1]
    by_cases e : x = j
    · rw [if_pos e, if_neg (by omega)]
    · rw [if_neg e]
theorem MB.set {w : World} {kb kh m N : Nat} (h : MB w kb kh m N) {x : Nat} (hx : x < m) (b : Bool) : MB (w.setCell ⟨kb, x, none⟩ (.bool b)) kb kh m (putN N x b) := by
  refine ⟨?_, ?_, putN_lt h.lt hx, h.ml, h.ne⟩
  · rw [Below.heap_setCell _ _ _ _ (show kh ≠ kb from fun q => h.ne q.symm)]
    exact h.hd
  · rw [heap_set h.bl x (.bool b), List.setIfInBounds_toArray, mCells_put]
set_option maxRecDepth 100000 in
set_option maxHeartbeats 4000000 in
theorem has_M {w : World} {kb kh m N : Nat} (h : MB w kb kh m N) (x : Int) : Calls Tryd.prog 11 #[.pointer (some ⟨kh, 0, none⟩), .int .i64 x] w fun e w' => e = .returned (.bool (hasB N m x)) ∧ w' = w := by
  have c0 := h.head
  have hml := h.ml
  by_cases h0 : 0 ≤ x
  · by_cases h1 : x < (m : Int)
    · obtain ⟨n, rfl⟩ : ∃ n : Nat, x = (n : Int) := ⟨x.toNat, by omega⟩
      have c1 := h.at (show n < m by omega)
      rw [show hasB N m (n : Int) = N.testBit n by simp [hasB, show n < m by omega]]
      generalize N.testBit n = bv at *
      clear h
      go_enter Tryd.func11, Tryd.ntmps11
      go_wp2
      go_ret
      exact ⟨rfl, rfl⟩
    · rw [show hasB N m x = false by simp [hasB, h1]]
      clear h
      go_enter Tryd.func11, Tryd.ntmps11
      go_wp2
      go_ret
      exact ⟨rfl, rfl⟩
  · rw [show hasB N m x = false by simp [hasB, h0]]
    clear h
    go_enter Tryd.func11, Tryd.ntmps11
    go_wp2
    go_ret
    exact ⟨rfl, rfl⟩
/-- What put leaves, and whether it turned anything. -/
def putX (N m : Nat) (x : Int) (b : Bool) : Nat := if 0 ≤ x ∧ x < (m : Int) then putN N x.toNat b else N
def putD (N m : Nat) (x : Int) (b : Bool) : Bool := decide (0 ≤ x ∧ x < (m : Int)) && (N.testBit x.toNat != b)
theorem putN_same {N x : Nat} {b : Bool} (h : N.testBit x = b) : putN N x b = N := by
  apply bit_ext
  intro j
  rw [putN_bit]
  by_cases e : x = j
  · subst e; rw [if_pos rfl, h]
  · rw [if_neg e]
set_option maxRecDepth 100000 in
set_option maxHeartbeats 4000000 in
theorem put_M {w : World} {kb kh m N : Nat} (h : MB w kb kh m N) (x : Int) (b : Bool) : Calls Tryd.prog 8 #[.pointer (some ⟨kh, 0, none⟩), .int .i64 x, .bool b] w fun e w' => e = .returned (.bool (putD N m x b)) ∧ MB w' kb kh m (putX N m x b) ∧ FrB (· = kb) w w' := by
  have c0 := h.head
  have hml := h.ml
  by_cases h0 : 0 ≤ x
  · by_cases h1 : x < (m : Int)
    · obtain ⟨n, rfl⟩ : ∃ n : Nat, x = (n : Int) := ⟨x.toNat, by omega⟩
      have hn : n < m := by omega
      have c1 := h.at hn
      have hfz := h.free n
      rw [show putD N m (n : Int) b = (N.testBit n != b) by simp [putD, hn], show putX N m (n : Int) b = putN N n b by unfold putX; rw [if_pos ⟨h0, h1⟩]; rfl]
      by_cases e : N.testBit n = b
      · have HM : Hid (MB w kb kh m (putN N n b)) := by show MB _ _ _ _ _; rw [putN_same e]; exact h
        rw [e] at c1 ⊢
        clear h e
        rw [show (b != b) = false by cases b <;> rfl]
        have eb : (b == b) = true := by cases b <;> rfl
        go_enter Tryd.func8, Tryd.ntmps8
        go_wp2
        go_ret
        exact ⟨rfl, HM.out, Below.frB (Below.refl _ _)⟩
      · have HM : Hid (MB (w.setCell ⟨kb, n, none⟩ (.bool b)) kb kh m (putN N n b)) := h.set hn b
        have HF : Hid (FrB (· = kb) w (w.setCell ⟨kb, n, none⟩ (.bool b))) := frB_setCell w kb n (.bool b)
        have eb : (N.testBit n == b) = false := by simpa using e
        rw [show (N.testBit n != b) = true by simpa using e]
        clear h e
        generalize N.testBit n = bv at *
        go_enter Tryd.func8, Tryd.ntmps8
        go_wp2
        go_ret
        exact ⟨rfl, HM.out, HF.out⟩
    · have HM : Hid (MB w kb kh m N) := h
      rw [show putD N m x b = false by simp [putD, h1], show putX N m x b = N by unfold putX; rw [if_neg (fun q => h1 q.2)]]
      clear h
      go_enter Tryd.func8, Tryd.ntmps8
      go_wp2
      go_ret
      exact ⟨rfl, HM.out, Below.frB (Below.refl _ _)⟩
  · have HM : Hid (MB w kb kh m N) := h
    have h2 : x < 0 := by omega
    rw [show putD N m x b = false by simp [putD, h0], show putX N m x b = N by unfold putX; rw [if_neg (fun q => h0 q.1)]]
    clear h
    go_enter Tryd.func8, Tryd.ntmps8
    go_wp2
    go_ret
    exact ⟨rfl, HM.out, Below.frB (Below.refl _ _)⟩
theorem bitsL_next (N i : Nat) : bitsL N (i + 1) = if N.testBit i then bitsL N i ++ [(i : Int)] else bitsL N i := by
  unfold bitsL bitsU
  rw [List.range_succ, List.filter_append, List.map_append]
  cases hb : N.testBit i <;> simp [hb]
set_option maxRecDepth 100000 in
set_option maxHeartbeats 4000000 in
theorem list_M {w : World} {kb kh m N : Nat} (h : MB w kb kh m N) : Calls Tryd.prog 20 #[.pointer (some ⟨kh, 0, none⟩)] w fun e w' => ∃ v, e = .returned v ∧ LBs w (bitsL N m) v w' := by
  have hml := h.ml
  have HMB : Hid (MB w kb kh m N) := h
  have HBL : Hid (∀ i, (bitsL N i).length ≤ i) := fun i => by rw [bitsL_len]; exact popB_le N i
  have L0 : Hid (LBs w (bitsL N 0) (.slice none 0 0) w) := ⟨IL.nil w, fun j hj => by simp [Value.ownBlock] at hj, Below.refl _ _⟩
  clear h
  go_enter Tryd.func20, Tryd.ntmps20
  go_wp2
  go_loopw [3, 4] (fun v z wr => ∃ i : Nat, i ≤ m ∧ z = .int .i64 (i : Int) ∧ LBs w (bitsL N i) v wr) (fun _ z _ => m - (intOf z).toNat)
  case atStart => exact ⟨0, Nat.zero_le _, rfl, L0.out⟩
  case round =>
    clear L0
    obtain ⟨i, hi, rfl, hL⟩ := hrel
    have c0 := (HMB.out.later hL.bel).head
    by_cases hlt : i < m
    · have ilt : (i : Int) < (m : Int) := by omega
      have c1 := (HMB.out.later hL.bel).at hlt
      have HL : Hid (LBs w (bitsL N i) u3 wr) := hL
      have HLN : Hid ((bitsL N i).length ≤ 100000000) := Nat.le_trans (HBL.out _) (by omega)
      have HNX := bitsL_next N i
      clear hL
      cases hb : N.testBit i with
      | true =>
        rw [hb] at c1 HNX
        have HN : Hid (bitsL N (i + 1) = bitsL N i ++ [(i : Int)]) := by show _ = _; rw [HNX]; rfl
        clear hb HNX
        go_wp2_with (at_builtin; refine wpList_il_append_w rfl _ _ rfl u3 (bitsL N i) rfl (HL.out.il.later (below_alloc _ _)) wr.heap.size 1 (i : Int) rfl (by simp) HLN.out ?_; intro a4 n4 c4 w4 ho4 hg4; have W4 : Hid (LBs w (bitsL N i ++ [(i : Int)]) (.slice a4 n4 c4) w4) := HL.out.app (below_alloc _ _) hg4 ho4; clear ho4 hg4)
        go_roundw
        case rel => exact ⟨i + 1, by omega, by go_num, by rw [HN.out]; exact W4.out⟩
        case measure => simp [intOf]; omega
      | false =>
        rw [hb] at c1 HNX
        have HN : Hid (bitsL N (i + 1) = bitsL N i) := by show _ = _; rw [HNX]; rfl
        clear hb HNX
        go_wp2
        go_roundw
        case rel => exact ⟨i + 1, by omega, by go_num, by rw [HN.out]; exact HL.out⟩
        case measure => simp [intOf]; omega
    · obtain rfl : i = m := by omega
      have ilt : ¬ (i : Int) < (i : Int) := by omega
      have HL : Hid (LBs w (bitsL N i) u3 wr) := hL
      clear hL
      go_wp2
      go_ret
      exact ⟨_, rfl, HL.out⟩
end Go.Proofs.YtcjejnenklppiaaDoor
namespace Go.Proofs.YtcjejnenklppiaaDoor
set_option linter.unusedVariables false
open Go.RowKit Go.Shelf

theorem minus_zeroB {X Y : Nat} : minusB X Y = 0 ↔ ∀ j, X.testBit j = true → Y.testBit j = true := by
  constructor
  · intro h j hj
    have := congrArg (fun N => N.testBit j) h
    simp only [minusB_bit, Nat.zero_testBit, hj, Bool.true_and] at this
    simpa using this
  · intro h
    refine Nat.eq_of_testBit_eq fun j => ?_
    rw [minusB_bit, Nat.zero_testBit]
    cases e : X.testBit j with
    | false => rfl
    | true => rw [h j e]; rfl
theorem hasB_nat {M m : Nat} (h : M < 2 ^ m) (i : Nat) : hasB M m (i : Int) = M.testBit i := by
  unfold hasB
  rw [decide_eq_true (show (0 : Int) ≤ (i : Int) by omega), Bool.true_and, Int.toNat_natCast]
  by_cases e : i < m
  · rw [decide_eq_true (show (i : Int) < (m : Int) by omega), Bool.true_and]
  · rw [decide_eq_false (show ¬ (i : Int) < (m : Int) by omega), Bool.false_and, Nat.testBit_lt_two_pow (Nat.lt_of_lt_of_le h (Nat.pow_le_pow_right (by decide) (by omega)))]
theorem bit_far {M m i : Nat} (h : M < 2 ^ m) (hi : m ≤ i) : M.testBit i = false := Nat.testBit_lt_two_pow (Nat.lt_of_lt_of_le h (Nat.pow_le_pow_right (by decide) hi))
set_option maxRecDepth 100000 in
set_option maxHeartbeats 4000000 in
theorem within_M {w : World} {kb kh m N kb2 kh2 m2 M : Nat} (h : MB w kb kh m N) (h2 : MB w kb2 kh2 m2 M) : Calls Tryd.prog 17 #[.pointer (some ⟨kh, 0, none⟩), .pointer (some ⟨kh2, 0, none⟩)] w fun e w' => e = .returned (.bool (decide (minusB N M = 0))) ∧ w' = w := by
  have hml := h.ml
  have HB1 : Hid (MB w kb kh m N) := h
  have HAS : Hid (∀ i : Nat, Calls Tryd.prog 11 #[.pointer (some ⟨kh2, 0, none⟩), .int .i64 (i : Int)] w fun e w' => e = .returned (.bool (M.testBit i)) ∧ w' = w) := fun i => by
    have := has_M h2 (i : Int)
    rwa [hasB_nat h2.lt] at this
  have HYES : Hid ((∀ j, j < m → N.testBit j = true → M.testBit j = true) → decide (minusB N M = 0) = true) := fun q => decide_eq_true (minus_zeroB.2 fun j hj => by
    by_cases e : j < m
    · exact q j e hj
    · rw [bit_far h.lt (by omega)] at hj; cases hj)
  have HNO : Hid (∀ j, N.testBit j = true → M.testBit j = false → decide (minusB N M = 0) = false) := fun j h1 h2 => decide_eq_false fun q => by
    have := minus_zeroB.1 q j h1
    rw [h2] at this; cases this
  generalize decide (minusB N M = 0) = bv at *
  clear h h2
  go_enter Tryd.func17, Tryd.ntmps17
  go_wp2
  go_loopw [5] (fun z wr => ∃ i : Nat, i ≤ m ∧ z = .int .i64 (i : Int) ∧ wr = w ∧ ∀ j, j < i → N.testBit j = true → M.testBit j = true) (fun z _ => m - (intOf z).toNat)
  case atStart => exact ⟨0, Nat.zero_le _, rfl, rfl, fun j hj => absurd hj (by omega)⟩
  case round =>
    obtain ⟨i, hi, rfl, rfl, hall⟩ := hrel
    have c0 := HB1.out.head
    by_cases hlt : i < m
    · have ilt : (i : Int) < (m : Int) := by omega
      have c1 := HB1.out.at hlt
      have HI := HAS.out i
      have HNI := HNO.out i
      have HNX : Hid (M.testBit i = true ∨ N.testBit i = false → ∀ j, j < i + 1 → N.testBit j = true → M.testBit j = true) := fun q j hj hn => by
        rcases Nat.lt_succ_iff_lt_or_eq.1 hj with e | e
        · exact hall j e hn
        · subst e
          rcases q with q | q
          · exact q
          · rw [q] at hn; cases hn
      clear hall
      cases hb : N.testBit i with
      | true =>
        cases hb2 : M.testBit i with
        | true =>
          have HN : Hid (∀ j, j < i + 1 → N.testBit j = true → M.testBit j = true) := HNX.out (Or.inl hb2)
          rw [hb] at c1
          rw [hb2] at HI
          have HC : Hid (Calls Tryd.prog 11 #[.pointer (some ⟨kh2, 0, none⟩), .int .i64 (i : Int)] wr fun e w' => e = .returned (.bool true) ∧ w' = wr) := HI
          clear HI HNX hb hb2 HNI
          go_wp2_with (go_at_call 11; refine HC.out.mono ?_; rintro e w1 ⟨rfl, hz⟩; rw [hz]; clear hz w1)
          go_roundw
          case rel => exact ⟨i + 1, by omega, by go_num, by first | rfl | trivial, HN.out⟩
          case measure => simp [intOf]; omega
        | false =>
          have HN : Hid (bv = false) := HNI hb hb2
          rw [hb] at c1
          rw [hb2] at HI
          have HC : Hid (Calls Tryd.prog 11 #[.pointer (some ⟨kh2, 0, none⟩), .int .i64 (i : Int)] wr fun e w' => e = .returned (.bool false) ∧ w' = wr) := HI
          clear HI HNX hb hb2 HNI
          go_wp2_with (go_at_call 11; refine HC.out.mono ?_; rintro e w1 ⟨rfl, hz⟩; rw [hz]; clear hz w1)
          go_ret
          refine ⟨?_, rfl⟩
          rw [HN.out]; rfl
      | false =>
        have HN : Hid (∀ j, j < i + 1 → N.testBit j = true → M.testBit j = true) := HNX.out (Or.inr hb)
        rw [hb] at c1
        clear HI HNX hb HNI
        go_wp2
        go_roundw
        case rel => exact ⟨i + 1, by omega, by go_num, by first | rfl | trivial, HN.out⟩
        case measure => simp [intOf]; omega
    · obtain rfl : i = m := by omega
      have ilt : ¬ (i : Int) < (i : Int) := by omega
      have HN : Hid (bv = true) := HYES.out hall
      clear hall
      go_wp2
      go_ret
      refine ⟨?_, rfl⟩
      rw [HN.out]; rfl
/-- Where the first i numbers have turned already. -/
def mixN (X N Y i : Nat) : Prop := ∀ j, Y.testBit j = if j < i then X.testBit j else N.testBit j
def anyN (X N i : Nat) : Bool := (List.range i).any fun j => X.testBit j != N.testBit j
theorem anyN_next (X N i : Nat) : anyN X N (i + 1) = (anyN X N i || (X.testBit i != N.testBit i)) := by
  unfold anyN
  rw [List.range_succ, List.any_append]
  simp
theorem anyN_all {X N m : Nat} (hX : X < 2 ^ m) (hN : N < 2 ^ m) : anyN X N m = decide (X ≠ N) := by
  rw [Bool.eq_iff_iff]
  unfold anyN
  rw [List.any_eq_true, decide_eq_true_eq]
  constructor
  · rintro ⟨j, -, h⟩ e
    subst e
    simp at h
  · intro h
    apply Classical.byContradiction
    intro q
    apply h
    apply bit_ext
    intro j
    by_cases e : j < m
    · apply Classical.byContradiction
      intro g
      exact q ⟨j, List.mem_range.2 e, by simpa using g⟩
    · rw [bit_far hX (by omega), bit_far hN (by omega)]
structure JnB (w : World) (kb kh m X N i : Nat) (wr : World) : Prop where
  mb : ∃ Y, MB wr kb kh m Y ∧ mixN X N Y i
  fr : FrB (· = kb) w wr
theorem JnB.next {w wr w1 : World} {kb kh m X N i Y : Nat} {b : Bool} (hf : FrB (· = kb) w wr) (hm : mixN X N Y i) (hi : i < m) (hx : X.testBit i = b) (h1 : MB w1 kb kh m (putX Y m (i : Int) b)) (f1 : FrB (· = kb) wr w1) : JnB w kb kh m X N (i + 1) w1 := by
  refine ⟨⟨_, h1, fun j => ?_⟩, hf.trans f1⟩
  unfold putX
  rw [if_pos ⟨by omega, by omega⟩, Int.toNat_natCast, putN_bit, hm j]
  by_cases e : i = j
  · subst e
    rw [if_pos rfl, if_pos (by omega), hx]
  · rw [if_neg e]
    by_cases q : j < i
    · rw [if_pos q, if_pos (by omega)]
    · rw [if_neg q, if_neg (by omega)]
theorem putD_is {X N Y m i : Nat} {b : Bool} (hm : mixN X N Y i) (hi : i < m) (hx : X.testBit i = b) : putD Y m (i : Int) b = (X.testBit i != N.testBit i) := by
  unfold putD
  rw [decide_eq_true ⟨by omega, by omega⟩, Bool.true_and, Int.toNat_natCast, hm i, if_neg (by omega), hx]
  cases N.testBit i <;> cases b <;> rfl
set_option linter.unusedSimpArgs false in
set_option maxRecDepth 100000 in
set_option maxHeartbeats 8000000 in
theorem join_M3 {w : World} {kb kh m N kb2 kh2 m2 M X : Nat} (h : MB w kb kh m N) (h2 : MB w kb2 kh2 m2 M) (hn1 : kb2 ≠ kb) (hn2 : kh2 ≠ kb) (hX : X < 2 ^ m) (hb : ∀ j, j < m → X.testBit j = (N.testBit j || M.testBit j)) : Calls Tryd.prog 13 #[.pointer (some ⟨kh, 0, none⟩), .pointer (some ⟨kh2, 0, none⟩), .int .i64 3] w fun e w' => e = .returned (.bool (decide (X ≠ N))) ∧ MB w' kb kh m X ∧ FrB (· = kb) w w' := by
  have hml := h.ml
  have HAS : Hid (∀ (wr : World), FrB (· = kb) w wr → ∀ i : Nat, Calls Tryd.prog 11 #[.pointer (some ⟨kh2, 0, none⟩), .int .i64 (i : Int)] wr fun e w' => e = .returned (.bool (M.testBit i)) ∧ w' = wr) := fun wr hf i => by
    have := has_M (h2.frB hf hn1 hn2) (i : Int)
    rwa [hasB_nat h2.lt] at this
  have HOP : Hid (∀ j, j < m → X.testBit j = (N.testBit j || M.testBit j)) := hb
  have HAN : Hid (anyN X N m = decide (X ≠ N)) := anyN_all hX h.lt
  have J0 : Hid (JnB w kb kh m X N 0 w) := ⟨⟨N, h, fun j => by rw [if_neg (by omega)]⟩, Below.frB (Below.refl _ _)⟩
  have HFI : Hid (∀ wr, JnB w kb kh m X N m wr → MB wr kb kh m X ∧ FrB (· = kb) w wr) := fun wr hj => by
    obtain ⟨⟨Y, hY, hm⟩, hf⟩ := hj
    have : Y = X := bit_ext fun j => by
      rw [hm j]
      by_cases e : j < m
      · rw [if_pos e]
      · rw [if_neg e, bit_far h.lt (by omega), bit_far hX (by omega)]
    subst this
    exact ⟨hY, hf⟩
  generalize decide (X ≠ N) = bv at *
  clear h h2 hb
  go_enter Tryd.func13, Tryd.ntmps13
  go_wp2
  go_loopw [7, 8] (fun y z wr => ∃ i : Nat, i ≤ m ∧ z = .int .i64 (i : Int) ∧ y = .bool (anyN X N i) ∧ JnB w kb kh m X N i wr) (fun _ z _ => m - (intOf z).toNat)
  case atStart => exact ⟨0, Nat.zero_le _, rfl, rfl, J0.out⟩
  case round =>
    clear J0
    obtain ⟨i, hi, rfl, rfl, hJ⟩ := hrel
    by_cases hlt : i < m
    · have ilt : (i : Int) < (m : Int) := by omega
      have op := HOP.out i hlt
      obtain ⟨⟨Y, hY, hmx⟩, hf⟩ := hJ
      have c0 := hY.head
      have c1 := hY.at hlt
      have hyi : Y.testBit i = N.testBit i := by rw [hmx i, if_neg (by omega)]
      rw [hyi] at c1
      have HH := HAS.out wr hf i
      have HNX : Hid (∀ b, X.testBit i = b → Calls Tryd.prog 8 #[.pointer (some ⟨kh, 0, none⟩), .int .i64 (i : Int), .bool b] wr fun e w' => e = .returned (.bool (X.testBit i != N.testBit i)) ∧ JnB w kb kh m X N (i + 1) w') := fun b q => (put_M hY (i : Int) b).mono fun e w' ⟨q1, q2, q3⟩ => ⟨by rw [q1, putD_is hmx hlt q], JnB.next hf hmx hlt q q2 q3⟩
      have HA : Hid (anyN X N (i + 1) = (anyN X N i || (X.testBit i != N.testBit i))) := anyN_next X N i
      clear hY hmx hf hyi
      generalize anyN X N i = an at *
      obtain ⟨nb, hb1⟩ : ∃ b, N.testBit i = b := ⟨_, rfl⟩
      obtain ⟨mb, hb2⟩ : ∃ b, M.testBit i = b := ⟨_, rfl⟩
      rw [hb1, hb2] at op
      rw [hb1] at c1
      rw [hb2] at HH
      have HD : Hid (Calls Tryd.prog 11 #[.pointer (some ⟨kh2, 0, none⟩), .int .i64 (i : Int)] wr fun e w' => e = .returned (.bool mb) ∧ w' = wr) := HH
      have HE : Hid (Calls Tryd.prog 8 #[.pointer (some ⟨kh, 0, none⟩), .int .i64 (i : Int), .bool ((nb || mb))] wr fun e w' => e = .returned (.bool ((nb || mb) != nb)) ∧ JnB w kb kh m X N (i + 1) w') := by
        have := HNX.out _ op
        rwa [hb1, op] at this
      have HF : Hid (anyN X N (i + 1) = (an || ((nb || mb) != nb))) := by
        have := HA.out
        rwa [hb1, op] at this
      clear HH HA HNX op hb1 hb2
      cases nb <;> cases mb <;> (
        (try simp only [Bool.or_true, Bool.or_false, Bool.true_or, Bool.false_or, Bool.and_true, Bool.and_false, Bool.true_and, Bool.false_and, Bool.not_true, Bool.not_false, bne_self_eq_false, Bool.bne_true, Bool.bne_false, Bool.true_bne, Bool.false_bne] at HE HF)
        go_wp2_with (first
          | (go_at_call 11; refine HD.out.mono ?_; rintro e w1 ⟨rfl, hz⟩; rw [hz]; clear hz w1)
          | (go_at_call 8; refine HE.out.mono ?_; rintro e w1 ⟨rfl, j1⟩; have J1 : Hid (JnB w kb kh m X N (i + 1) w1) := j1; clear j1))
        go_roundw
        case rel => exact ⟨i + 1, by omega, by go_num, by rw [HF.out], J1.out⟩
        case measure => simp [intOf]; omega)
    · obtain rfl : i = m := by omega
      have ilt : ¬ (i : Int) < (i : Int) := by omega
      have HN : Hid (MB wr kb kh i X ∧ FrB (· = kb) w wr) := HFI.out wr hJ
      obtain ⟨⟨Y, hY, hmx⟩, hf⟩ := hJ
      have c0 := hY.head
      clear hY hmx hf
      go_wp2
      go_ret
      exact ⟨by rw [HAN.out]; rfl, HN.out.1, HN.out.2⟩
set_option linter.unusedSimpArgs false in
set_option maxRecDepth 100000 in
set_option maxHeartbeats 8000000 in
theorem join_M4 {w : World} {kb kh m N kb2 kh2 m2 M X : Nat} (h : MB w kb kh m N) (h2 : MB w kb2 kh2 m2 M) (hn1 : kb2 ≠ kb) (hn2 : kh2 ≠ kb) (hX : X < 2 ^ m) (hb : ∀ j, j < m → X.testBit j = (N.testBit j && M.testBit j)) : Calls Tryd.prog 13 #[.pointer (some ⟨kh, 0, none⟩), .pointer (some ⟨kh2, 0, none⟩), .int .i64 4] w fun e w' => e = .returned (.bool (decide (X ≠ N))) ∧ MB w' kb kh m X ∧ FrB (· = kb) w w' := by
  have hml := h.ml
  have HAS : Hid (∀ (wr : World), FrB (· = kb) w wr → ∀ i : Nat, Calls Tryd.prog 11 #[.pointer (some ⟨kh2, 0, none⟩), .int .i64 (i : Int)] wr fun e w' => e = .returned (.bool (M.testBit i)) ∧ w' = wr) := fun wr hf i => by
    have := has_M (h2.frB hf hn1 hn2) (i : Int)
    rwa [hasB_nat h2.lt] at this
  have HOP : Hid (∀ j, j < m → X.testBit j = (N.testBit j && M.testBit j)) := hb
  have HAN : Hid (anyN X N m = decide (X ≠ N)) := anyN_all hX h.lt
  have J0 : Hid (JnB w kb kh m X N 0 w) := ⟨⟨N, h, fun j => by rw [if_neg (by omega)]⟩, Below.frB (Below.refl _ _)⟩
  have HFI : Hid (∀ wr, JnB w kb kh m X N m wr → MB wr kb kh m X ∧ FrB (· = kb) w wr) := fun wr hj => by
    obtain ⟨⟨Y, hY, hm⟩, hf⟩ := hj
    have : Y = X := bit_ext fun j => by
      rw [hm j]
      by_cases e : j < m
      · rw [if_pos e]
      · rw [if_neg e, bit_far h.lt (by omega), bit_far hX (by omega)]
    subst this
    exact ⟨hY, hf⟩
  generalize decide (X ≠ N) = bv at *
  clear h h2 hb
  go_enter Tryd.func13, Tryd.ntmps13
  go_wp2
  go_loopw [7, 8] (fun y z wr => ∃ i : Nat, i ≤ m ∧ z = .int .i64 (i : Int) ∧ y = .bool (anyN X N i) ∧ JnB w kb kh m X N i wr) (fun _ z _ => m - (intOf z).toNat)
  case atStart => exact ⟨0, Nat.zero_le _, rfl, rfl, J0.out⟩
  case round =>
    clear J0
    obtain ⟨i, hi, rfl, rfl, hJ⟩ := hrel
    by_cases hlt : i < m
    · have ilt : (i : Int) < (m : Int) := by omega
      have op := HOP.out i hlt
      obtain ⟨⟨Y, hY, hmx⟩, hf⟩ := hJ
      have c0 := hY.head
      have c1 := hY.at hlt
      have hyi : Y.testBit i = N.testBit i := by rw [hmx i, if_neg (by omega)]
      rw [hyi] at c1
      have HH := HAS.out wr hf i
      have HNX : Hid (∀ b, X.testBit i = b → Calls Tryd.prog 8 #[.pointer (some ⟨kh, 0, none⟩), .int .i64 (i : Int), .bool b] wr fun e w' => e = .returned (.bool (X.testBit i != N.testBit i)) ∧ JnB w kb kh m X N (i + 1) w') := fun b q => (put_M hY (i : Int) b).mono fun e w' ⟨q1, q2, q3⟩ => ⟨by rw [q1, putD_is hmx hlt q], JnB.next hf hmx hlt q q2 q3⟩
      have HA : Hid (anyN X N (i + 1) = (anyN X N i || (X.testBit i != N.testBit i))) := anyN_next X N i
      clear hY hmx hf hyi
      generalize anyN X N i = an at *
      obtain ⟨nb, hb1⟩ : ∃ b, N.testBit i = b := ⟨_, rfl⟩
      obtain ⟨mb, hb2⟩ : ∃ b, M.testBit i = b := ⟨_, rfl⟩
      rw [hb1, hb2] at op
      rw [hb1] at c1
      rw [hb2] at HH
      have HD : Hid (Calls Tryd.prog 11 #[.pointer (some ⟨kh2, 0, none⟩), .int .i64 (i : Int)] wr fun e w' => e = .returned (.bool mb) ∧ w' = wr) := HH
      have HE : Hid (Calls Tryd.prog 8 #[.pointer (some ⟨kh, 0, none⟩), .int .i64 (i : Int), .bool ((nb && mb))] wr fun e w' => e = .returned (.bool ((nb && mb) != nb)) ∧ JnB w kb kh m X N (i + 1) w') := by
        have := HNX.out _ op
        rwa [hb1, op] at this
      have HF : Hid (anyN X N (i + 1) = (an || ((nb && mb) != nb))) := by
        have := HA.out
        rwa [hb1, op] at this
      clear HH HA HNX op hb1 hb2
      cases nb <;> cases mb <;> (
        (try simp only [Bool.or_true, Bool.or_false, Bool.true_or, Bool.false_or, Bool.and_true, Bool.and_false, Bool.true_and, Bool.false_and, Bool.not_true, Bool.not_false, bne_self_eq_false, Bool.bne_true, Bool.bne_false, Bool.true_bne, Bool.false_bne] at HE HF)
        go_wp2_with (first
          | (go_at_call 11; refine HD.out.mono ?_; rintro e w1 ⟨rfl, hz⟩; rw [hz]; clear hz w1)
          | (go_at_call 8; refine HE.out.mono ?_; rintro e w1 ⟨rfl, j1⟩; have J1 : Hid (JnB w kb kh m X N (i + 1) w1) := j1; clear j1))
        go_roundw
        case rel => exact ⟨i + 1, by omega, by go_num, by rw [HF.out], J1.out⟩
        case measure => simp [intOf]; omega)
    · obtain rfl : i = m := by omega
      have ilt : ¬ (i : Int) < (i : Int) := by omega
      have HN : Hid (MB wr kb kh i X ∧ FrB (· = kb) w wr) := HFI.out wr hJ
      obtain ⟨⟨Y, hY, hmx⟩, hf⟩ := hJ
      have c0 := hY.head
      clear hY hmx hf
      go_wp2
      go_ret
      exact ⟨by rw [HAN.out]; rfl, HN.out.1, HN.out.2⟩
set_option linter.unusedSimpArgs false in
set_option maxRecDepth 100000 in
set_option maxHeartbeats 8000000 in
theorem join_M5 {w : World} {kb kh m N kb2 kh2 m2 M X : Nat} (h : MB w kb kh m N) (h2 : MB w kb2 kh2 m2 M) (hn1 : kb2 ≠ kb) (hn2 : kh2 ≠ kb) (hX : X < 2 ^ m) (hb : ∀ j, j < m → X.testBit j = (N.testBit j && !M.testBit j)) : Calls Tryd.prog 13 #[.pointer (some ⟨kh, 0, none⟩), .pointer (some ⟨kh2, 0, none⟩), .int .i64 5] w fun e w' => e = .returned (.bool (decide (X ≠ N))) ∧ MB w' kb kh m X ∧ FrB (· = kb) w w' := by
  have hml := h.ml
  have HAS : Hid (∀ (wr : World), FrB (· = kb) w wr → ∀ i : Nat, Calls Tryd.prog 11 #[.pointer (some ⟨kh2, 0, none⟩), .int .i64 (i : Int)] wr fun e w' => e = .returned (.bool (M.testBit i)) ∧ w' = wr) := fun wr hf i => by
    have := has_M (h2.frB hf hn1 hn2) (i : Int)
    rwa [hasB_nat h2.lt] at this
  have HOP : Hid (∀ j, j < m → X.testBit j = (N.testBit j && !M.testBit j)) := hb
  have HAN : Hid (anyN X N m = decide (X ≠ N)) := anyN_all hX h.lt
  have J0 : Hid (JnB w kb kh m X N 0 w) := ⟨⟨N, h, fun j => by rw [if_neg (by omega)]⟩, Below.frB (Below.refl _ _)⟩
  have HFI : Hid (∀ wr, JnB w kb kh m X N m wr → MB wr kb kh m X ∧ FrB (· = kb) w wr) := fun wr hj => by
    obtain ⟨⟨Y, hY, hm⟩, hf⟩ := hj
    have : Y = X := bit_ext fun j => by
      rw [hm j]
      by_cases e : j < m
      · rw [if_pos e]
      · rw [if_neg e, bit_far h.lt (by omega), bit_far hX (by omega)]
    subst this
    exact ⟨hY, hf⟩
  generalize decide (X ≠ N) = bv at *
  clear h h2 hb
  go_enter Tryd.func13, Tryd.ntmps13
  go_wp2
  go_loopw [7, 8] (fun y z wr => ∃ i : Nat, i ≤ m ∧ z = .int .i64 (i : Int) ∧ y = .bool (anyN X N i) ∧ JnB w kb kh m X N i wr) (fun _ z _ => m - (intOf z).toNat)
  case atStart => exact ⟨0, Nat.zero_le _, rfl, rfl, J0.out⟩
  case round =>
    clear J0
    obtain ⟨i, hi, rfl, rfl, hJ⟩ := hrel
    by_cases hlt : i < m
    · have ilt : (i : Int) < (m : Int) := by omega
      have op := HOP.out i hlt
      obtain ⟨⟨Y, hY, hmx⟩, hf⟩ := hJ
      have c0 := hY.head
      have c1 := hY.at hlt
      have hyi : Y.testBit i = N.testBit i := by rw [hmx i, if_neg (by omega)]
      rw [hyi] at c1
      have HH := HAS.out wr hf i
      have HNX : Hid (∀ b, X.testBit i = b → Calls Tryd.prog 8 #[.pointer (some ⟨kh, 0, none⟩), .int .i64 (i : Int), .bool b] wr fun e w' => e = .returned (.bool (X.testBit i != N.testBit i)) ∧ JnB w kb kh m X N (i + 1) w') := fun b q => (put_M hY (i : Int) b).mono fun e w' ⟨q1, q2, q3⟩ => ⟨by rw [q1, putD_is hmx hlt q], JnB.next hf hmx hlt q q2 q3⟩
      have HA : Hid (anyN X N (i + 1) = (anyN X N i || (X.testBit i != N.testBit i))) := anyN_next X N i
      clear hY hmx hf hyi
      generalize anyN X N i = an at *
      obtain ⟨nb, hb1⟩ : ∃ b, N.testBit i = b := ⟨_, rfl⟩
      obtain ⟨mb, hb2⟩ : ∃ b, M.testBit i = b := ⟨_, rfl⟩
      rw [hb1, hb2] at op
      rw [hb1] at c1
      rw [hb2] at HH
      have HD : Hid (Calls Tryd.prog 11 #[.pointer (some ⟨kh2, 0, none⟩), .int .i64 (i : Int)] wr fun e w' => e = .returned (.bool mb) ∧ w' = wr) := HH
      have HE : Hid (Calls Tryd.prog 8 #[.pointer (some ⟨kh, 0, none⟩), .int .i64 (i : Int), .bool ((nb && !mb))] wr fun e w' => e = .returned (.bool ((nb && !mb) != nb)) ∧ JnB w kb kh m X N (i + 1) w') := by
        have := HNX.out _ op
        rwa [hb1, op] at this
      have HF : Hid (anyN X N (i + 1) = (an || ((nb && !mb) != nb))) := by
        have := HA.out
        rwa [hb1, op] at this
      clear HH HA HNX op hb1 hb2
      cases nb <;> cases mb <;> (
        (try simp only [Bool.or_true, Bool.or_false, Bool.true_or, Bool.false_or, Bool.and_true, Bool.and_false, Bool.true_and, Bool.false_and, Bool.not_true, Bool.not_false, bne_self_eq_false, Bool.bne_true, Bool.bne_false, Bool.true_bne, Bool.false_bne] at HE HF)
        go_wp2_with (first
          | (go_at_call 11; refine HD.out.mono ?_; rintro e w1 ⟨rfl, hz⟩; rw [hz]; clear hz w1)
          | (go_at_call 8; refine HE.out.mono ?_; rintro e w1 ⟨rfl, j1⟩; have J1 : Hid (JnB w kb kh m X N (i + 1) w1) := j1; clear j1))
        go_roundw
        case rel => exact ⟨i + 1, by omega, by go_num, by rw [HF.out], J1.out⟩
        case measure => simp [intOf]; omega)
    · obtain rfl : i = m := by omega
      have ilt : ¬ (i : Int) < (i : Int) := by omega
      have HN : Hid (MB wr kb kh i X ∧ FrB (· = kb) w wr) := HFI.out wr hJ
      obtain ⟨⟨Y, hY, hmx⟩, hf⟩ := hJ
      have c0 := hY.head
      clear hY hmx hf
      go_wp2
      go_ret
      exact ⟨by rw [HAN.out]; rfl, HN.out.1, HN.out.2⟩
end Go.Proofs.YtcjejnenklppiaaDoor
