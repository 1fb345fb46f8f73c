import Derived.Test.YtcgghlaifmlpiaaGreatDoorBT0
namespace Go.Proofs.YtcgghlaifmlpiaaGreatDoor
set_option linter.unusedVariables false
open Go.RowKit

set_option maxRecDepth 100000 in
set_option maxHeartbeats 2000000 in
theorem below_SB (x n : Int) (w : World) : Calls Tryz.prog 83 #[.int .i64 x, .int .i64 n] w fun e w' => e = .returned (.bool (decide (0 ≤ x) && decide (x < n))) ∧ w' = w := by
  by_cases h : 0 ≤ x
  · have e1 : decide (0 ≤ x) = true := decide_eq_true h
    rw [e1]
    go_enter Tryz.func83, Tryz.ntmps83
    go_wp2
    go_ret
    exact ⟨by simp, rfl⟩
  · have e1 : decide (0 ≤ x) = false := decide_eq_false h
    rw [e1]
    go_enter Tryz.func83, Tryz.ntmps83
    go_wp2
    go_ret
    exact ⟨by simp, rfl⟩
set_option maxRecDepth 100000 in
set_option maxHeartbeats 2000000 in
theorem allowed_SB (n : Int) (w : World) : Calls Tryz.prog 81 #[.int .i64 n] w fun e w' => e = .returned (.bool (decide (0 ≤ n) && decide (n ≤ 4096))) ∧ w' = w := by
  by_cases h : 0 ≤ n
  · have e1 : decide (0 ≤ n) = true := decide_eq_true h
    rw [e1]
    go_enter Tryz.func81, Tryz.ntmps81
    go_wp2
    go_ret
    exact ⟨by simp, rfl⟩
  · have e1 : decide (0 ≤ n) = false := decide_eq_false h
    rw [e1]
    go_enter Tryz.func81, Tryz.ntmps81
    go_wp2
    go_ret
    exact ⟨by simp, rfl⟩
set_option maxRecDepth 100000 in
set_option maxHeartbeats 2000000 in
theorem size_SB {w : World} {k m N : Nat} (h : SB w k m N) : Calls Tryz.prog 73 #[.pointer (some ⟨k + 1, 0, none⟩)] w fun e w' => e = .returned (.int .i64 (m : Int)) ∧ w' = w := by
  obtain ⟨c0, c1⟩ := h.cells
  clear h
  go_enter Tryz.func73, Tryz.ntmps73
  go_wp2
  go_ret
  exact ⟨rfl, rfl⟩
set_option maxRecDepth 100000 in
set_option maxHeartbeats 2000000 in
theorem held_SB {w : World} {k m N : Nat} (h : SB w k m N) : Calls Tryz.prog 55 #[.pointer (some ⟨k + 1, 0, none⟩)] w fun e w' => e = .returned (.slice (some ⟨k, 0, none⟩) (nwB m) (nwB m)) ∧ w' = w := by
  obtain ⟨c0, c1⟩ := h.cells
  clear h
  go_enter Tryz.func55, Tryz.ntmps55
  go_wp2
  go_ret
  exact ⟨rfl, rfl⟩
theorem u64_in {x : Int} (h0 : 0 ≤ x) (h1 : x < 18446744073709551616) : IntKind.u64.wrap x = x := by
  simp only [IntKind.wrap, IntKind.signed, IntKind.bits]
  exact Int.emod_eq_of_lt h0 h1
theorem pow_nat (j : Nat) : ((2 ^ j : Nat) : Int) = (2 : Int) ^ j := by simp
theorem pow_wrap (n : Nat) : IntKind.u64.wrap ((2 : Int) ^ (n % 64)) = ((2 ^ (n % 64) : Nat) : Int) := by
  rw [← pow_nat]
  have hl : 2 ^ (n % 64) < 2 ^ 64 := Nat.pow_lt_pow_right (by decide) (Nat.mod_lt _ (by decide))
  generalize 2 ^ (n % 64) = P at hl ⊢
  exact u64_in (by omega) (by have : (2 : Nat) ^ 64 = 18446744073709551616 := rfl; omega)
set_option maxRecDepth 100000 in
set_option maxHeartbeats 2000000 in
theorem bit_SB (n : Nat) (hn : n ≤ 1000000) (w : World) : Calls Tryz.prog 95 #[.int .i64 (n : Int)] w fun e w' => e = .returned (.int .u64 ((2 ^ (n % 64) : Nat) : Int)) ∧ w' = w := by
  go_enter Tryz.func95, Tryz.ntmps95
  go_wp2
  go_ret
  exact ⟨by rw [pow_wrap]; rfl, rfl⟩
theorem wdB_far {N m i : Nat} (h : N < 2 ^ m) (hi : nwB m ≤ i) : wdB N i = 0 := by
  unfold wdB
  have : N < 2 ^ (64 * i) := Nat.lt_of_lt_of_le h (Nat.pow_le_pow_right (by decide) (by unfold nwB at hi; omega))
  rw [Nat.div_eq_of_lt this]
theorem nwB_le {m : Nat} (h : m ≤ 4096) : nwB m ≤ 65 := by unfold nwB; omega
set_option maxRecDepth 100000 in
set_option maxHeartbeats 2000000 in
theorem wordAt_SB (k n c i : Nat) (x : Nat) (w : World) (h : i < n → w.cell? ⟨k, i, none⟩ = some (.int .u64 (x : Int))) (h0 : ¬ i < n → x = 0) (hn : n ≤ 1000000) : Calls Tryz.prog 124 #[.slice (some ⟨k, 0, none⟩) n c, .int .i64 (i : Int)] w fun e w' => e = .returned (.int .u64 (x : Int)) ∧ w' = w := by
  by_cases hi : i < n
  · have c0 := h hi
    have hi2 : (i : Int) < (n : Int) := by omega
    clear h h0
    go_enter Tryz.func124, Tryz.ntmps124
    go_wp2
    go_ret
    exact ⟨rfl, rfl⟩
  · have e := h0 hi
    subst e
    have hi2 : ¬ (i : Int) < (n : Int) := by omega
    clear h h0
    go_enter Tryz.func124, Tryz.ntmps124
    go_wp2
    go_ret
    exact ⟨rfl, rfl⟩
theorem SB.wordAt {w : World} {k m N : Nat} (h : SB w k m N) (i : Nat) : Calls Tryz.prog 124 #[.slice (some ⟨k, 0, none⟩) (nwB m) (nwB m), .int .i64 (i : Int)] w fun e w' => e = .returned (.int .u64 (wdB N i : Int)) ∧ w' = w :=
  wordAt_SB k (nwB m) (nwB m) i (wdB N i) w (fun hi => h.word hi) (fun hi => wdB_far h.lt (by omega)) (by have := nwB_le h.ml; omega)
/-- The bits of a word that stand for numbers below the size. -/
def roomB (m i : Nat) : Nat := if i < m / 64 then 18446744073709551615 else 2 ^ (m % 64) - 1
set_option maxRecDepth 100000 in
set_option maxHeartbeats 2000000 in
theorem room_SB {w : World} {k m N : Nat} (h : SB w k m N) (i : Nat) : Calls Tryz.prog 126 #[.pointer (some ⟨k + 1, 0, none⟩), .int .i64 (i : Int)] w fun e w' => e = .returned (.int .u64 (roomB m i : Int)) ∧ w' = w := by
  obtain ⟨c0, c1⟩ := h.cells
  have hml := h.ml
  clear h c1
  by_cases hi : i < m / 64
  · have d1 : ((i : Int) < ((m / 64 : Nat) : Int)) := by omega
    have E : Hid (roomB m i = 18446744073709551615) := by show _ = _; unfold roomB; rw [if_pos hi]
    go_enter Tryz.func126, Tryz.ntmps126
    go_wp2
    go_ret
    exact ⟨by rw [E.out]; rfl, rfl⟩
  · have d1 : ¬ ((i : Int) < ((m / 64 : Nat) : Int)) := by omega
    have E : Hid (roomB m i = 2 ^ (m % 64) - 1) := by show _ = _; unfold roomB; rw [if_neg hi]
    have BS : Hid (Calls Tryz.prog 95 #[.int .i64 (m : Int)] w fun e w' => e = .returned (.int .u64 ((2 ^ (m % 64) : Nat) : Int)) ∧ w' = w) := bit_SB m (by omega) w
    have hp : 0 < 2 ^ (m % 64) := Nat.two_pow_pos _
    have hl : 2 ^ (m % 64) < 2 ^ 64 := Nat.pow_lt_pow_right (by decide) (Nat.mod_lt _ (by decide))
    generalize 2 ^ (m % 64) = P at *
    have hl2 : P < 18446744073709551616 := hl
    clear hl
    go_enter Tryz.func126, Tryz.ntmps126
    go_wp2_with (go_at_call 95; refine BS.out.mono ?_; rintro e w1 ⟨rfl, rfl⟩)
    go_ret
    refine ⟨?_, rfl⟩
    rw [E.out]
    show Ending.returned (Value.int .u64 ((P : Int) - 1)) = _
    rw [show ((P - 1 : Nat) : Int) = (P : Int) - 1 by omega]
theorem infoU64 : ∃ i, Tryz.prog.info? 118 = some i ∧ i.zero = some (.int .u64 0) ∧ i.size = 1 ∧ i.bytes = 8 := by
  have h : (Tryz.prog.info? 118).map (fun i => (i.zero, i.size, i.bytes)) = some (some (.int .u64 0), 1, 8) := by kernel_rfl
  cases e : Tryz.prog.info? 118 with
  | none => rw [e] at h; cases h
  | some i => rw [e] at h; simp at h; exact ⟨i, rfl, h⟩
theorem make_u64 (n : Nat) (hn : n ≤ 1048576) (w : World) : (Instr.makeSlice 75 (.int .i64 (n : Int)) (.int .i64 (n : Int))).run Tryz.prog w = .ok (.slice (some ⟨w.heap.size, 0, none⟩) n n) (w.alloc (.cells (madeCells #[.int .u64 0] n) 118)) := by
  obtain ⟨i0, hi, hz0, hz1, hz2⟩ := infoU64
  have := run_makeSlice w 75 118 i0 (.int .u64 0) Tryz.underlying75 hi hz0 .i64 .i64 (n : Int) (n : Int) (by omega) (by omega) (by rw [hz1]; simp; omega) (by rw [hz2]; omega) (by omega)
  rw [hz1] at this
  simpa [Value.cells] using this
theorem made_listB (z : Value) (n : Nat) : madeCells #[z] n = (List.replicate n z).toArray := by
  apply Array.toList_inj.1
  exact toList_madeCells_one z n
theorem wCells_zero (m : Nat) : wCells 0 m = List.replicate (nwB m) (.int .u64 0) := by
  apply List.ext_getElem?
  intro i
  unfold wCells
  by_cases hi : i < nwB m
  · rw [List.getElem?_map, wdsB_get _ _ hi, List.getElem?_replicate, if_pos hi]
    simp [wdB]
  · rw [List.getElem?_eq_none (by rw [List.length_map, wdsB_len]; omega), List.getElem?_eq_none (by rw [List.length_replicate]; omega)]
theorem SB.made (w : World) (m : Nat) (hm : m ≤ 4096) : SB ((w.alloc (.cells (madeCells #[.int .u64 0] (nwB m)) 118)).alloc (.cells #[.int .i64 (m : Int), .slice (some ⟨w.heap.size, 0, none⟩) (nwB m) (nwB m)] 77)) w.heap.size m 0 := by
  refine ⟨?_, ?_, Nat.two_pow_pos _, hm⟩
  · have := heap_alloc_new (w.alloc (.cells (madeCells #[.int .u64 0] (nwB m)) 118)) (.cells #[.int .i64 (m : Int), .slice (some ⟨w.heap.size, 0, none⟩) (nwB m) (nwB m)] 77)
    rwa [show (w.alloc (.cells (madeCells #[.int .u64 0] (nwB m)) 118)).heap.size = w.heap.size + 1 by simp] at this
  · rw [(below_alloc (w.alloc (.cells (madeCells #[.int .u64 0] (nwB m)) 118)) _).block _ (by simp), heap_alloc_new, made_listB, wCells_zero]
set_option maxRecDepth 100000 in
set_option maxHeartbeats 2000000 in
theorem empty_SB (m : Nat) (hm : m ≤ 4096) (w : World) : Calls Tryz.prog 87 #[.int .i64 (m : Int)] w fun e w' => e = .returned (.pointer (some ⟨w.heap.size + 1, 0, none⟩)) ∧ SB w' w.heap.size m 0 ∧ Below w.heap.size w w' ∧ w'.heap.size = w.heap.size + 2 := by
  have HS : Hid (SB ((w.alloc (.cells (madeCells #[.int .u64 0] (nwB m)) 118)).alloc (.cells #[.int .i64 (m : Int), .slice (some ⟨w.heap.size, 0, none⟩) (nwB m) (nwB m)] 77)) w.heap.size m 0) := SB.made w m hm
  have hmk := make_u64 (nwB m) (by have := nwB_le hm; omega)
  have e1 : ((nwB m : Nat) : Int) = (m : Int) / 64 + 1 := by unfold nwB; omega
  rw [e1] at hmk
  have B1 : Hid (Below w.heap.size w ((w.alloc (.cells (madeCells #[.int .u64 0] (nwB m)) 118)).alloc (.cells #[.int .i64 (m : Int), .slice (some ⟨w.heap.size, 0, none⟩) (nwB m) (nwB m)] 77))) := (below_alloc w _).alloc (below_alloc w _).size _
  clear e1
  generalize nwB m = n at *
  go_enter Tryz.func87, Tryz.ntmps87
  go_wp2
  go_ret
  exact ⟨rfl, HS.out, B1.out, by simp⟩
/-- Is a number in. -/
def hasB (N m : Nat) (x : Int) : Bool := decide (0 ≤ x) && decide (x < (m : Int)) && N.testBit x.toNat
theorem and_bit {a j : Nat} (h : a < 18446744073709551616) (hj : j < 64) : (a &&& 2 ^ j = 0) = (a.testBit j = false) := by
  apply propext
  constructor
  · intro e
    have : (a &&& 2 ^ j).testBit j = false := by rw [e]; exact Nat.zero_testBit j
    rw [Nat.testBit_and, Nat.testBit_two_pow] at this
    simpa using this
  · intro e
    apply Nat.eq_of_testBit_eq
    intro i
    rw [Nat.testBit_and, Nat.testBit_two_pow, Nat.zero_testBit]
    by_cases q : j = i
    · subst q; rw [e]; rfl
    · simp [q]
set_option maxRecDepth 100000 in
set_option maxHeartbeats 4000000 in
theorem has_no {w : World} {k m N : Nat} (h : SB w k m N) (x : Int) (hx : (decide (0 ≤ x) && decide (x < (m : Int))) = false) : Calls Tryz.prog 51 #[.pointer (some ⟨k + 1, 0, none⟩), .int .i64 x] w fun e w' => e = .returned (.bool false) ∧ Below w.heap.size w w' := by
  have SZ : Hid (∀ w', w' = w.drew → Calls Tryz.prog 73 #[.pointer (some ⟨k + 1, 0, none⟩)] w' fun e w'' => e = .returned (.int .i64 (m : Int)) ∧ w'' = w.drew) := fun w' e => by
    subst e
    exact size_SB (h.later (Below.refl _ _).drew)
  have BL : Hid (∀ w', w' = w.drew → Calls Tryz.prog 83 #[.int .i64 x, .int .i64 (m : Int)] w' fun e w'' => e = .returned (.bool false) ∧ w'' = w.drew) := fun w' e => by
    subst e
    have := below_SB x (m : Int) w.drew
    rwa [hx] at this
  clear h hx
  go_enter Tryz.func51, Tryz.ntmps51
  go_wp2
  refine wp_region_q (C := fun w' => w' = w.drew) (by kernel_rfl) (by kernel_rfl) rfl ?_
  refine qt_yes (v := ?_) (by rfl) ?_ ?_
  rotate_left
  · (intro w hSw; clear hSw; go_simp; with_reducible rfl)
  (try simp only [Act.put, List.setIfInBounds_toArray, List.set_cons_zero, List.set_cons_succ])
  refine qt_yes (v := ?_) (by rfl) ?_ ?_
  rotate_left
  · (intro w hSw; clear hSw; go_simp; with_reducible rfl)
  (try simp only [Act.put, List.setIfInBounds_toArray, List.set_cons_zero, List.set_cons_succ])
  refine qt_call (v := .int .i64 (m : Int)) 73 #[.pointer (some ⟨k + 1, 0, none⟩)] (by rfl) (by intro w hSw; clear hSw; go_simp) SZ.out ?_
  (try simp only [Act.put, List.setIfInBounds_toArray, List.set_cons_zero, List.set_cons_succ])
  refine qt_call (v := .bool false) 83 #[.int .i64 x, .int .i64 (m : Int)] (by rfl) (by intro w hSw; clear hSw; go_simp) BL.out ?_
  (try simp only [Act.put, List.setIfInBounds_toArray, List.set_cons_zero, List.set_cons_succ])
  refine qt_yes (v := ?_) (by rfl) ?_ ?_
  rotate_left
  · (intro w hSw; clear hSw; go_simp; with_reducible rfl)
  (try simp only [Act.put, List.setIfInBounds_toArray, List.set_cons_zero, List.set_cons_succ])
  refine qt_no (by rfl) ?_
  (try simp only [Act.put, List.setIfInBounds_toArray, List.set_cons_zero, List.set_cons_succ])
  refine qt_no (by rfl) ?_
  (try simp only [Act.put, List.setIfInBounds_toArray, List.set_cons_zero, List.set_cons_succ])
  refine qt_no (by rfl) ?_
  (try simp only [Act.put, List.setIfInBounds_toArray, List.set_cons_zero, List.set_cons_succ])
  refine qt_no (by rfl) ?_
  (try simp only [Act.put, List.setIfInBounds_toArray, List.set_cons_zero, List.set_cons_succ])
  refine qt_no (by rfl) ?_
  (try simp only [Act.put, List.setIfInBounds_toArray, List.set_cons_zero, List.set_cons_succ])
  refine qt_no (by rfl) ?_
  (try simp only [Act.put, List.setIfInBounds_toArray, List.set_cons_zero, List.set_cons_succ])
  refine qt_no (by rfl) ?_
  (try simp only [Act.put, List.setIfInBounds_toArray, List.set_cons_zero, List.set_cons_succ])
  refine qt_no (by rfl) ?_
  (try simp only [Act.put, List.setIfInBounds_toArray, List.set_cons_zero, List.set_cons_succ])
  refine qt_no (by rfl) ?_
  (try simp only [Act.put, List.setIfInBounds_toArray, List.set_cons_zero, List.set_cons_succ])
  refine qt_no (by rfl) ?_
  (try simp only [Act.put, List.setIfInBounds_toArray, List.set_cons_zero, List.set_cons_succ])
  refine qt_no (by rfl) ?_
  (try simp only [Act.put, List.setIfInBounds_toArray, List.set_cons_zero, List.set_cons_succ])
  refine qt_no (by rfl) ?_
  (try simp only [Act.put, List.setIfInBounds_toArray, List.set_cons_zero, List.set_cons_succ])
  refine qt_yes (v := ?_) (by rfl) ?_ ?_
  rotate_left
  · (intro w hSw; clear hSw; go_simp; with_reducible rfl)
  (try simp only [Act.put, List.setIfInBounds_toArray, List.set_cons_zero, List.set_cons_succ])
  refine qt_yes (v := ?_) (by rfl) ?_ ?_
  rotate_left
  · (intro w hSw; clear hSw; go_simp; with_reducible rfl)
  (try simp only [Act.put, List.setIfInBounds_toArray, List.set_cons_zero, List.set_cons_succ])
  refine qt_nil ?_
  intro w' hw'
  subst hw'
  go_wp2
  go_ret
  exact ⟨rfl, (Below.refl _ _).drew⟩
set_option maxRecDepth 100000 in
set_option maxHeartbeats 4000000 in
theorem has_yes {w : World} {k m N : Nat} (h : SB w k m N) (n : Nat) (hx : n < m) : Calls Tryz.prog 51 #[.pointer (some ⟨k + 1, 0, none⟩), .int .i64 (n : Int)] w fun e w' => e = .returned (.bool (N.testBit n)) ∧ Below w.heap.size w w' := by
  have hml := h.ml
  have SZ : Hid (∀ w', w' = w.drew → Calls Tryz.prog 73 #[.pointer (some ⟨k + 1, 0, none⟩)] w' fun e w'' => e = .returned (.int .i64 (m : Int)) ∧ w'' = w.drew) := fun w' e => by
    subst e
    exact size_SB (h.later (Below.refl _ _).drew)
  have BL : Hid (∀ w', w' = w.drew → Calls Tryz.prog 83 #[.int .i64 (n : Int), .int .i64 (m : Int)] w' fun e w'' => e = .returned (.bool true) ∧ w'' = w.drew) := fun w' e => by
    subst e
    have := below_SB (n : Int) (m : Int) w.drew
    rwa [decide_eq_true (show (0 : Int) ≤ (n : Int) by omega), decide_eq_true (show (n : Int) < (m : Int) by omega)] at this
  have BI : Hid (∀ w', w' = w.drew → Calls Tryz.prog 95 #[.int .i64 (n : Int)] w' fun e w'' => e = .returned (.int .u64 ((2 ^ (n % 64) : Nat) : Int)) ∧ w'' = w.drew) := fun w' e => by
    subst e
    exact bit_SB n (by omega) w.drew
  obtain ⟨-, c1⟩ := (h.later (Below.refl _ _).drew).cells
  have hni : n / 64 < nwB m := by unfold nwB; omega
  have c2 := (h.later (Below.refl _ _).drew).word hni
  have E : Hid ((wdB N (n / 64) &&& 2 ^ (n % 64) = 0) = (N.testBit n = false)) := by
    show _ = _
    rw [and_bit (wdB_lt _ _) (Nat.mod_lt _ (by decide)), wdB_bit, decide_eq_true (Nat.mod_lt n (show 0 < 64 by decide)), Bool.true_and, Nat.div_add_mod]
  have hP : 2 ^ (n % 64) < 18446744073709551616 := Nat.pow_lt_pow_right (n := 64) (by decide) (Nat.mod_lt _ (by decide))
  obtain ⟨q, hq⟩ : ∃ q, n / 64 = q := ⟨_, rfl⟩
  have hq2 : (n : Int) / 64 = (q : Int) := by omega
  have wq : IntKind.i64.wrap (q : Int) = (q : Int) := IntWalk.i64_in _ ⟨by omega, by omega⟩
  rw [hq] at c2 hni E
  have l1 : (q : Int) < ((nwB m : Nat) : Int) := by omega
  have hW := wdB_lt N q
  generalize wdB N q = W at *
  generalize 2 ^ (n % 64) = P at *
  clear h hx hq
  go_enter Tryz.func51, Tryz.ntmps51
  go_wp2
  refine wp_region_q (C := fun w' => w' = w.drew) (by kernel_rfl) (by kernel_rfl) rfl ?_
  refine qt_yes (v := ?_) (by rfl) ?_ ?_
  rotate_left
  · (intro w hSw; clear hSw; go_simp; with_reducible rfl)
  (try simp only [Act.put, List.setIfInBounds_toArray, List.set_cons_zero, List.set_cons_succ])
  refine qt_yes (v := ?_) (by rfl) ?_ ?_
  rotate_left
  · (intro w hSw; clear hSw; go_simp; with_reducible rfl)
  (try simp only [Act.put, List.setIfInBounds_toArray, List.set_cons_zero, List.set_cons_succ])
  refine qt_call (v := .int .i64 (m : Int)) 73 #[.pointer (some ⟨k + 1, 0, none⟩)] (by rfl) (by intro w hSw; clear hSw; go_simp) SZ.out ?_
  (try simp only [Act.put, List.setIfInBounds_toArray, List.set_cons_zero, List.set_cons_succ])
  refine qt_call (v := .bool true) 83 #[.int .i64 (n : Int), .int .i64 (m : Int)] (by rfl) (by intro w hSw; clear hSw; go_simp) BL.out ?_
  (try simp only [Act.put, List.setIfInBounds_toArray, List.set_cons_zero, List.set_cons_succ])
  refine qt_yes (v := ?_) (by rfl) ?_ ?_
  rotate_left
  · (intro w hSw; clear hSw; go_simp; with_reducible rfl)
  (try simp only [Act.put, List.setIfInBounds_toArray, List.set_cons_zero, List.set_cons_succ])
  refine qt_yes (v := ?_) (by rfl) ?_ ?_
  rotate_left
  · (intro w hSw; rw [hSw]; clear hSw; go_simp; with_reducible rfl)
  (try simp only [Act.put, List.setIfInBounds_toArray, List.set_cons_zero, List.set_cons_succ])
  refine qt_yes (v := ?_) (by rfl) ?_ ?_
  rotate_left
  · (intro w hSw; rw [hSw]; clear hSw; go_simp; with_reducible rfl)
  (try simp only [Act.put, List.setIfInBounds_toArray, List.set_cons_zero, List.set_cons_succ])
  refine qt_yes (v := ?_) (by rfl) ?_ ?_
  rotate_left
  · (intro w hSw; rw [hSw]; clear hSw; go_simp; with_reducible rfl)
  (try simp only [Act.put, List.setIfInBounds_toArray, List.set_cons_zero, List.set_cons_succ])
  refine qt_yes (v := ?_) (by rfl) ?_ ?_
  rotate_left
  · (intro w hSw; rw [hSw]; clear hSw; go_simp; with_reducible rfl)
  (try simp only [Act.put, List.setIfInBounds_toArray, List.set_cons_zero, List.set_cons_succ])
  refine qt_yes (v := ?_) (by rfl) ?_ ?_
  rotate_left
  · (intro w hSw; rw [hSw]; clear hSw; go_simp; with_reducible rfl)
  (try simp only [Act.put, List.setIfInBounds_toArray, List.set_cons_zero, List.set_cons_succ])
  refine qt_yes (v := ?_) (by rfl) ?_ ?_
  rotate_left
  · (intro w hSw; rw [hSw]; clear hSw; go_simp; with_reducible rfl)
  (try simp only [Act.put, List.setIfInBounds_toArray, List.set_cons_zero, List.set_cons_succ])
  refine qt_yes (v := ?_) (by rfl) ?_ ?_
  rotate_left
  · (intro w hSw; rw [hSw]; clear hSw; go_simp; with_reducible rfl)
  (try simp only [Act.put, List.setIfInBounds_toArray, List.set_cons_zero, List.set_cons_succ])
  refine qt_yes (v := ?_) (by rfl) ?_ ?_
  rotate_left
  · (intro w hSw; rw [hSw]; clear hSw; go_simp; with_reducible rfl)
  (try simp only [Act.put, List.setIfInBounds_toArray, List.set_cons_zero, List.set_cons_succ])
  refine qt_yes (v := ?_) (by rfl) ?_ ?_
  rotate_left
  · (intro w hSw; rw [hSw]; clear hSw; go_simp; with_reducible rfl)
  (try simp only [Act.put, List.setIfInBounds_toArray, List.set_cons_zero, List.set_cons_succ])
  refine qt_call (v := .int .u64 (P : Int)) 95 #[.int .i64 (n : Int)] (by rfl) (by intro w hSw; clear hSw; go_simp) BI.out ?_
  (try simp only [Act.put, List.setIfInBounds_toArray, List.set_cons_zero, List.set_cons_succ])
  refine qt_yes (v := ?_) (by rfl) ?_ ?_
  rotate_left
  · (intro w hSw; rw [hSw]; clear hSw; go_simp; with_reducible rfl)
  (try simp only [Act.put, List.setIfInBounds_toArray, List.set_cons_zero, List.set_cons_succ])
  refine qt_yes (v := ?_) (by rfl) ?_ ?_
  rotate_left
  · (intro w hSw; rw [hSw]; clear hSw; go_simp; with_reducible rfl)
  (try simp only [Act.put, List.setIfInBounds_toArray, List.set_cons_zero, List.set_cons_succ])
  refine qt_yes (v := ?_) (by rfl) ?_ ?_
  rotate_left
  · (intro w hSw; rw [hSw]; clear hSw; go_simp; with_reducible rfl)
  (try simp only [Act.put, List.setIfInBounds_toArray, List.set_cons_zero, List.set_cons_succ])
  refine qt_yes (v := ?_) (by rfl) ?_ ?_
  rotate_left
  · (intro w hSw; rw [hSw]; clear hSw; go_simp; with_reducible rfl)
  (try simp only [Act.put, List.setIfInBounds_toArray, List.set_cons_zero, List.set_cons_succ])
  refine qt_nil ?_
  intro w' hw'
  subst hw'
  go_wp2
  go_ret
  refine ⟨?_, (Below.refl _ _).drew⟩
  show Ending.returned (Value.bool (bits BinOp.and IntKind.u64 (W : Int) (P : Int) != 0)) = _
  rw [bits_and_u64_nat W P hW hP]
  congr 2
  have e := E.out
  cases hb : N.testBit n with
  | true =>
    rw [hb] at e
    have : ¬ W &&& P = 0 := fun z => by rw [z] at e; simp at e
    simpa using this
  | false =>
    rw [hb] at e
    have : W &&& P = 0 := by rw [e]
    simp [this]
theorem has_SB {w : World} {k m N : Nat} (h : SB w k m N) (x : Int) : Calls Tryz.prog 51 #[.pointer (some ⟨k + 1, 0, none⟩), .int .i64 x] w fun e w' => e = .returned (.bool (hasB N m x)) ∧ Below w.heap.size w w' := by
  by_cases h0 : 0 ≤ x
  · by_cases h1 : x < (m : Int)
    · obtain ⟨n, rfl⟩ : ∃ n : Nat, x = (n : Int) := ⟨x.toNat, by omega⟩
      have := has_yes h n (by omega)
      rwa [show N.testBit n = hasB N m (n : Int) by simp [hasB, show n < m by omega]] at this
    · have := has_no h x (by simp [h1])
      rwa [show false = hasB N m x by simp [hasB, h1]] at this
  · have := has_no h x (by simp [h0])
    rwa [show false = hasB N m x by simp [hasB, h0]] at this
end Go.Proofs.YtcgghlaifmlpiaaGreatDoor
