import Derived.Test.YtcjejnenklppiaaDoorRRow
import Derived.Test.YtcjejnenklppiaaDoorRegS
import Derived.Laws.Bits64b
namespace Go.Proofs.YtcjejnenklppiaaDoor
set_option linter.unusedVariables false
open Go.RowKit

/-- A set of numbers as one number: its words of 64 bits. -/
def nwB (m : Nat) : Nat := m / 64 + 1
def wdB (N i : Nat) : Nat := N / 2 ^ (64 * i) % 18446744073709551616
def wdsB (N m : Nat) : List Nat := (List.range (nwB m)).map (wdB N)
theorem wdB_lt (N i : Nat) : wdB N i < 18446744073709551616 := Nat.mod_lt _ (by decide)
theorem wdB_bit (N i j : Nat) : (wdB N i).testBit j = (decide (j < 64) && N.testBit (64 * i + j)) := by
  unfold wdB
  rw [show (18446744073709551616 : Nat) = 2 ^ 64 from rfl, Nat.testBit_mod_two_pow, Nat.testBit_div_two_pow]
  congr 2
  omega
theorem wdsB_len (N m : Nat) : (wdsB N m).length = nwB m := by simp [wdsB]
theorem wdsB_get (N m : Nat) {i : Nat} (h : i < nwB m) : (wdsB N m)[i]? = some (wdB N i) := by
  unfold wdsB
  rw [List.getElem?_map, List.getElem?_range h]
  rfl
theorem wds_ext {N M m : Nat} (h : ∀ i, i < nwB m → wdB N i = wdB M i) : wdsB N m = wdsB M m := by
  unfold wdsB
  apply List.map_congr_left
  intro i hi
  exact h i (List.mem_range.1 hi)
/-- One number more, one less. -/
def addN (N x : Nat) : Nat := N ||| 2 ^ x
theorem addN_bit (N x j : Nat) : (addN N x).testBit j = (N.testBit j || decide (x = j)) := by
  unfold addN
  rw [Nat.testBit_or, Nat.testBit_two_pow]
theorem addN_lt {N x m : Nat} (h : N < 2 ^ m) (hx : x < m) : addN N x < 2 ^ m := Nat.or_lt_two_pow h (Nat.pow_lt_pow_right (by decide) hx)
theorem bit_ext {a b : Nat} (h : ∀ j, a.testBit j = b.testBit j) : a = b := Nat.eq_of_testBit_eq h
theorem word_ext {a b : Nat} (ha : a < 18446744073709551616) (hb : b < 18446744073709551616) (h : ∀ j, j < 64 → a.testBit j = b.testBit j) : a = b := by
  apply Nat.eq_of_testBit_eq
  intro j
  by_cases q : j < 64
  · exact h j q
  · have e : (18446744073709551616 : Nat) ≤ 2 ^ j := by
      have : 2 ^ 64 ≤ 2 ^ j := Nat.pow_le_pow_right (by decide) (by omega)
      exact this
    rw [Nat.testBit_lt_two_pow (Nat.lt_of_lt_of_le ha e), Nat.testBit_lt_two_pow (Nat.lt_of_lt_of_le hb e)]
theorem wd_add_same (N x : Nat) : wdB (addN N x) (x / 64) = wdB N (x / 64) ||| 2 ^ (x % 64) := by
  have hl : 2 ^ (x % 64) < 2 ^ 64 := Nat.pow_lt_pow_right (by decide) (Nat.mod_lt _ (by decide))
  refine word_ext (wdB_lt _ _) (Nat.or_lt_two_pow (n := 64) (wdB_lt _ _) hl) (fun j hj => ?_)
  rw [wdB_bit, addN_bit, Nat.testBit_or, wdB_bit, Nat.testBit_two_pow]
  simp only [hj, decide_true, Bool.true_and]
  congr 1
  apply decide_eq_decide.2
  omega
theorem wd_add_other (N x : Nat) {i : Nat} (h : i ≠ x / 64) : wdB (addN N x) i = wdB N i := by
  refine word_ext (wdB_lt _ _) (wdB_lt _ _) (fun j hj => ?_)
  rw [wdB_bit, addN_bit, wdB_bit]
  simp only [hj, decide_true, Bool.true_and]
  rw [decide_eq_false (by omega), Bool.or_false]
theorem wds_add (N x m : Nat) : wdsB (addN N x) m = (wdsB N m).set (x / 64) (wdB N (x / 64) ||| 2 ^ (x % 64)) := by
  apply List.ext_getElem?
  intro i
  rw [List.getElem?_set]
  by_cases hi : i < nwB m
  · rw [wdsB_get _ _ hi, wdsB_get _ _ hi]
    by_cases e : x / 64 = i
    · subst e
      rw [if_pos rfl, if_pos (by rw [wdsB_len]; exact hi), wd_add_same]
    · rw [if_neg e, wd_add_other N x (fun q => e q.symm)]
  · have h1 : (wdsB (addN N x) m)[i]? = none := List.getElem?_eq_none (by rw [wdsB_len]; omega)
    have h2 : (wdsB N m)[i]? = none := List.getElem?_eq_none (by rw [wdsB_len]; omega)
    rw [h1, h2]
    by_cases e : x / 64 = i
    · rw [if_pos e, if_neg (by rw [wdsB_len]; omega)]
    · rw [if_neg e]
/-- What has turned: the blocks of X alone. -/
structure FrB (X : Nat → Prop) (w w' : World) : Prop where
  os : w'.os = w.os
  tape : w'.tape = w.tape
  output : w'.output = w.output
  size : w.heap.size ≤ w'.heap.size
  block : ∀ j, j < w.heap.size → ¬ X j → w'.heap[j]? = w.heap[j]?
theorem Below.frB {X : Nat → Prop} {w w' : World} (h : Below w.heap.size w w') : FrB X w w' := ⟨h.os, h.tape, h.output, h.size, fun j hj _ => h.block j hj⟩
theorem FrB.trans {X : Nat → Prop} {a b c : World} (h : FrB X a b) (h' : FrB X b c) : FrB X a c := ⟨h'.os.trans h.os, h'.tape.trans h.tape, h'.output.trans h.output, Nat.le_trans h.size h'.size, fun j hj hx => (h'.block j (Nat.lt_of_lt_of_le hj h.size) hx).trans (h.block j hj hx)⟩
theorem FrB.mono {X Y : Nat → Prop} {a b : World} (h : FrB X a b) (hxy : ∀ j, j < a.heap.size → X j → Y j) : FrB Y a b := ⟨h.os, h.tape, h.output, h.size, fun j hj hy => h.block j hj (fun hx => hy (hxy j hj hx))⟩
theorem FrB.below {X : Nat → Prop} {n : Nat} {a b c : World} (h : Below n a b) (h' : FrB X b c) (hn : n ≤ b.heap.size) (hX : ∀ j, X j → n ≤ j) : Below n a c :=
  ⟨h'.os.trans h.os, h'.tape.trans h.tape, h'.output.trans h.output, Nat.le_trans h.size h'.size, fun j hj => (h'.block j (Nat.lt_of_lt_of_le hj hn) (fun q => by have := hX j q; omega)).trans (h.block j hj)⟩
theorem frB_setCell (w : World) (k i : Nat) (v : Value) : FrB (· = k) w (w.setCell ⟨k, i, none⟩ v) := by
  have hb := (Below.refl 0 w).setCell (p := ⟨k, i, none⟩) (Nat.zero_le _) v
  exact ⟨hb.os, hb.tape, hb.output, hb.size, fun j _ hj => Below.heap_setCell _ _ _ _ (by show j ≠ k; exact hj)⟩
/-- A set in memory: its words in block k, what points to them behind it. -/
def wCells (N m : Nat) : List Value := (wdsB N m).map fun (x : Nat) => Value.int .u64 (x : Int)
structure SB (w : World) (k m N : Nat) : Prop where
  hd : w.heap[k + 1]? = some (.cells #[.int .i64 (m : Int), .slice (some ⟨k, 0, none⟩) (nwB m) (nwB m)] 61)
  wd : w.heap[k]? = some (.cells (wCells N m).toArray 58)
  lt : N < 2 ^ m
  ml : m ≤ 4096
theorem SB.size {w : World} {k m N : Nat} (h : SB w k m N) : k + 1 < w.heap.size := lt_of_block h.hd
theorem SB.frB {X : Nat → Prop} {w w' : World} {k m N : Nat} (h : SB w k m N) (hf : FrB X w w') (h0 : ¬ X k) (h1 : ¬ X (k + 1)) : SB w' k m N :=
  ⟨(hf.block _ h.size h1).trans h.hd, (hf.block _ (Nat.lt_of_succ_lt h.size) h0).trans h.wd, h.lt, h.ml⟩
theorem SB.later {w w' : World} {k m N : Nat} (h : SB w k m N) (hb : Below w.heap.size w w') : SB w' k m N := h.frB (X := fun _ => False) (Below.frB hb) (fun q => q) (fun q => q)
theorem SB.cells {w : World} {k m N : Nat} (h : SB w k m N) : w.cell? ⟨k + 1, 0, none⟩ = some (.int .i64 (m : Int)) ∧ w.cell? ⟨k + 1, 1, none⟩ = some (.slice (some ⟨k, 0, none⟩) (nwB m) (nwB m)) := ⟨(cellq_any h.hd).trans rfl, (cellq_any h.hd).trans rfl⟩
theorem SB.word {w : World} {k m N : Nat} (h : SB w k m N) {i : Nat} (hi : i < nwB m) : w.cell? ⟨k, i, none⟩ = some (.int .u64 (wdB N i : Int)) := by
  rw [cellq_any h.wd]
  simp only [wCells, List.getElem?_toArray, List.getElem?_map, wdsB_get _ _ hi, Option.map_some]
theorem SB.free {w : World} {k m N : Nat} (h : SB w k m N) (i : Nat) : w.frozen? ⟨k, i, none⟩ = false := by
  simp [World.frozen?, h.wd]
end Go.Proofs.YtcjejnenklppiaaDoor
namespace Go.Proofs.YtcjejnenklppiaaDoor
set_option linter.unusedVariables false
open Go.RowKit

set_option maxRecDepth 100000 in
set_option maxHeartbeats 2000000 in
theorem below_SB (x n : Int) (w : World) : Calls Tryd.prog 27 #[.int .i64 x, .int .i64 n] w fun e w' => e = .returned (.bool (decide (0 ≤ x) && decide (x < n))) ∧ w' = w := by
  by_cases h : 0 ≤ x
  · have e1 : decide (0 ≤ x) = true := decide_eq_true h
    rw [e1]
    go_enter Tryd.func27, Tryd.ntmps27
    go_wp2
    go_ret
    exact ⟨by simp, rfl⟩
  · have e1 : decide (0 ≤ x) = false := decide_eq_false h
    rw [e1]
    go_enter Tryd.func27, Tryd.ntmps27
    go_wp2
    go_ret
    exact ⟨by simp, rfl⟩
set_option maxRecDepth 100000 in
set_option maxHeartbeats 2000000 in
theorem allowed_SB (n : Int) (w : World) : Calls Tryd.prog 25 #[.int .i64 n] w fun e w' => e = .returned (.bool (decide (0 ≤ n) && decide (n ≤ 4096))) ∧ w' = w := by
  by_cases h : 0 ≤ n
  · have e1 : decide (0 ≤ n) = true := decide_eq_true h
    rw [e1]
    go_enter Tryd.func25, Tryd.ntmps25
    go_wp2
    go_ret
    exact ⟨by simp, rfl⟩
  · have e1 : decide (0 ≤ n) = false := decide_eq_false h
    rw [e1]
    go_enter Tryd.func25, Tryd.ntmps25
    go_wp2
    go_ret
    exact ⟨by simp, rfl⟩
set_option maxRecDepth 100000 in
set_option maxHeartbeats 2000000 in
theorem size_SB {w : World} {k m N : Nat} (h : SB w k m N) : Calls Tryd.prog 28 #[.pointer (some ⟨k + 1, 0, none⟩)] w fun e w' => e = .returned (.int .i64 (m : Int)) ∧ w' = w := by
  obtain ⟨c0, c1⟩ := h.cells
  clear h
  go_enter Tryd.func28, Tryd.ntmps28
  go_wp2
  go_ret
  exact ⟨rfl, rfl⟩
set_option maxRecDepth 100000 in
set_option maxHeartbeats 2000000 in
theorem held_SB {w : World} {k m N : Nat} (h : SB w k m N) : Calls Tryd.prog 37 #[.pointer (some ⟨k + 1, 0, none⟩)] w fun e w' => e = .returned (.slice (some ⟨k, 0, none⟩) (nwB m) (nwB m)) ∧ w' = w := by
  obtain ⟨c0, c1⟩ := h.cells
  clear h
  go_enter Tryd.func37, Tryd.ntmps37
  go_wp2
  go_ret
  exact ⟨rfl, rfl⟩
theorem u64_in {x : Int} (h0 : 0 ≤ x) (h1 : x < 18446744073709551616) : IntKind.u64.wrap x = x := by
  simp only [IntKind.wrap, IntKind.signed, IntKind.bits]
  exact Int.emod_eq_of_lt h0 h1
theorem pow_nat (j : Nat) : ((2 ^ j : Nat) : Int) = (2 : Int) ^ j := by simp
theorem pow_wrap (n : Nat) : IntKind.u64.wrap ((2 : Int) ^ (n % 64)) = ((2 ^ (n % 64) : Nat) : Int) := by
  rw [← pow_nat]
  have hl : 2 ^ (n % 64) < 2 ^ 64 := Nat.pow_lt_pow_right (by decide) (Nat.mod_lt _ (by decide))
  generalize 2 ^ (n % 64) = P at hl ⊢
  exact u64_in (by omega) (by have : (2 : Nat) ^ 64 = 18446744073709551616 := rfl; omega)
set_option maxRecDepth 100000 in
set_option maxHeartbeats 2000000 in
theorem bit_SB (n : Nat) (hn : n ≤ 1000000) (w : World) : Calls Tryd.prog 29 #[.int .i64 (n : Int)] w fun e w' => e = .returned (.int .u64 ((2 ^ (n % 64) : Nat) : Int)) ∧ w' = w := by
  go_enter Tryd.func29, Tryd.ntmps29
  go_wp2
  go_ret
  exact ⟨by rw [pow_wrap]; rfl, rfl⟩
theorem wdB_far {N m i : Nat} (h : N < 2 ^ m) (hi : nwB m ≤ i) : wdB N i = 0 := by
  unfold wdB
  have : N < 2 ^ (64 * i) := Nat.lt_of_lt_of_le h (Nat.pow_le_pow_right (by decide) (by unfold nwB at hi; omega))
  rw [Nat.div_eq_of_lt this]
theorem nwB_le {m : Nat} (h : m ≤ 4096) : nwB m ≤ 65 := by unfold nwB; omega
set_option maxRecDepth 100000 in
set_option maxHeartbeats 2000000 in
theorem wordAt_SB (k n c i : Nat) (x : Nat) (w : World) (h : i < n → w.cell? ⟨k, i, none⟩ = some (.int .u64 (x : Int))) (h0 : ¬ i < n → x = 0) (hn : n ≤ 1000000) : Calls Tryd.prog 46 #[.slice (some ⟨k, 0, none⟩) n c, .int .i64 (i : Int)] w fun e w' => e = .returned (.int .u64 (x : Int)) ∧ w' = w := by
  by_cases hi : i < n
  · have c0 := h hi
    have hi2 : (i : Int) < (n : Int) := by omega
    clear h h0
    go_enter Tryd.func46, Tryd.ntmps46
    go_wp2
    go_ret
    exact ⟨rfl, rfl⟩
  · have e := h0 hi
    subst e
    have hi2 : ¬ (i : Int) < (n : Int) := by omega
    clear h h0
    go_enter Tryd.func46, Tryd.ntmps46
    go_wp2
    go_ret
    exact ⟨rfl, rfl⟩
theorem SB.wordAt {w : World} {k m N : Nat} (h : SB w k m N) (i : Nat) : Calls Tryd.prog 46 #[.slice (some ⟨k, 0, none⟩) (nwB m) (nwB m), .int .i64 (i : Int)] w fun e w' => e = .returned (.int .u64 (wdB N i : Int)) ∧ w' = w :=
  wordAt_SB k (nwB m) (nwB m) i (wdB N i) w (fun hi => h.word hi) (fun hi => wdB_far h.lt (by omega)) (by have := nwB_le h.ml; omega)
/-- The bits of a word that stand for numbers below the size. -/
def roomB (m i : Nat) : Nat := if i < m / 64 then 18446744073709551615 else 2 ^ (m % 64) - 1
set_option maxRecDepth 100000 in
set_option maxHeartbeats 2000000 in
theorem room_SB {w : World} {k m N : Nat} (h : SB w k m N) (i : Nat) : Calls Tryd.prog 47 #[.pointer (some ⟨k + 1, 0, none⟩), .int .i64 (i : Int)] w fun e w' => e = .returned (.int .u64 (roomB m i : Int)) ∧ w' = w := by
  obtain ⟨c0, c1⟩ := h.cells
  have hml := h.ml
  clear h c1
  by_cases hi : i < m / 64
  · have d1 : ((i : Int) < ((m / 64 : Nat) : Int)) := by omega
    have E : Hid (roomB m i = 18446744073709551615) := by show _ = _; unfold roomB; rw [if_pos hi]
    go_enter Tryd.func47, Tryd.ntmps47
    go_wp2
    go_ret
    exact ⟨by rw [E.out]; rfl, rfl⟩
  · have d1 : ¬ ((i : Int) < ((m / 64 : Nat) : Int)) := by omega
    have E : Hid (roomB m i = 2 ^ (m % 64) - 1) := by show _ = _; unfold roomB; rw [if_neg hi]
    have BS : Hid (Calls Tryd.prog 29 #[.int .i64 (m : Int)] w fun e w' => e = .returned (.int .u64 ((2 ^ (m % 64) : Nat) : Int)) ∧ w' = w) := bit_SB m (by omega) w
    have hp : 0 < 2 ^ (m % 64) := Nat.two_pow_pos _
    have hl : 2 ^ (m % 64) < 2 ^ 64 := Nat.pow_lt_pow_right (by decide) (Nat.mod_lt _ (by decide))
    generalize 2 ^ (m % 64) = P at *
    have hl2 : P < 18446744073709551616 := hl
    clear hl
    go_enter Tryd.func47, Tryd.ntmps47
    go_wp2_with (go_at_call 29; refine BS.out.mono ?_; rintro e w1 ⟨rfl, rfl⟩)
    go_ret
    refine ⟨?_, rfl⟩
    rw [E.out]
    show Ending.returned (Value.int .u64 ((P : Int) - 1)) = _
    rw [show ((P - 1 : Nat) : Int) = (P : Int) - 1 by omega]
theorem infoU64 : ∃ i, Tryd.prog.info? 58 = some i ∧ i.zero = some (.int .u64 0) ∧ i.size = 1 ∧ i.bytes = 8 := by
  have h : (Tryd.prog.info? 58).map (fun i => (i.zero, i.size, i.bytes)) = some (some (.int .u64 0), 1, 8) := by kernel_rfl
  cases e : Tryd.prog.info? 58 with
  | none => rw [e] at h; cases h
  | some i => rw [e] at h; simp at h; exact ⟨i, rfl, h⟩
theorem make_u64 (n : Nat) (hn : n ≤ 1048576) (w : World) : (Instr.makeSlice 59 (.int .i64 (n : Int)) (.int .i64 (n : Int))).run Tryd.prog w = .ok (.slice (some ⟨w.heap.size, 0, none⟩) n n) (w.alloc (.cells (madeCells #[.int .u64 0] n) 58)) := by
  obtain ⟨i0, hi, hz0, hz1, hz2⟩ := infoU64
  have := run_makeSlice w 59 58 i0 (.int .u64 0) Tryd.underlying59 hi hz0 .i64 .i64 (n : Int) (n : Int) (by omega) (by omega) (by rw [hz1]; simp; omega) (by rw [hz2]; omega) (by omega)
  rw [hz1] at this
  simpa [Value.cells] using this
theorem made_listB (z : Value) (n : Nat) : madeCells #[z] n = (List.replicate n z).toArray := by
  apply Array.toList_inj.1
  exact toList_madeCells_one z n
theorem wCells_zero (m : Nat) : wCells 0 m = List.replicate (nwB m) (.int .u64 0) := by
  apply List.ext_getElem?
  intro i
  unfold wCells
  by_cases hi : i < nwB m
  · rw [List.getElem?_map, wdsB_get _ _ hi, List.getElem?_replicate, if_pos hi]
    simp [wdB]
  · rw [List.getElem?_eq_none (by rw [List.length_map, wdsB_len]; omega), List.getElem?_eq_none (by rw [List.length_replicate]; omega)]
theorem SB.made (w : World) (m : Nat) (hm : m ≤ 4096) : SB ((w.alloc (.cells (madeCells #[.int .u64 0] (nwB m)) 58)).alloc (.cells #[.int .i64 (m : Int), .slice (some ⟨w.heap.size, 0, none⟩) (nwB m) (nwB m)] 61)) w.heap.size m 0 := by
  refine ⟨?_, ?_, Nat.two_pow_pos _, hm⟩
  · have := heap_alloc_new (w.alloc (.cells (madeCells #[.int .u64 0] (nwB m)) 58)) (.cells #[.int .i64 (m : Int), .slice (some ⟨w.heap.size, 0, none⟩) (nwB m) (nwB m)] 61)
    rwa [show (w.alloc (.cells (madeCells #[.int .u64 0] (nwB m)) 58)).heap.size = w.heap.size + 1 by simp] at this
  · rw [(below_alloc (w.alloc (.cells (madeCells #[.int .u64 0] (nwB m)) 58)) _).block _ (by simp), heap_alloc_new, made_listB, wCells_zero]
set_option maxRecDepth 100000 in
set_option maxHeartbeats 2000000 in
theorem empty_SB (m : Nat) (hm : m ≤ 4096) (w : World) : Calls Tryd.prog 26 #[.int .i64 (m : Int)] w fun e w' => e = .returned (.pointer (some ⟨w.heap.size + 1, 0, none⟩)) ∧ SB w' w.heap.size m 0 ∧ Below w.heap.size w w' ∧ w'.heap.size = w.heap.size + 2 := by
  have HS : Hid (SB ((w.alloc (.cells (madeCells #[.int .u64 0] (nwB m)) 58)).alloc (.cells #[.int .i64 (m : Int), .slice (some ⟨w.heap.size, 0, none⟩) (nwB m) (nwB m)] 61)) w.heap.size m 0) := SB.made w m hm
  have hmk := make_u64 (nwB m) (by have := nwB_le hm; omega)
  have e1 : ((nwB m : Nat) : Int) = (m : Int) / 64 + 1 := by unfold nwB; omega
  rw [e1] at hmk
  have B1 : Hid (Below w.heap.size w ((w.alloc (.cells (madeCells #[.int .u64 0] (nwB m)) 58)).alloc (.cells #[.int .i64 (m : Int), .slice (some ⟨w.heap.size, 0, none⟩) (nwB m) (nwB m)] 61))) := (below_alloc w _).alloc (below_alloc w _).size _
  clear e1
  generalize nwB m = n at *
  go_enter Tryd.func26, Tryd.ntmps26
  go_wp2
  go_ret
  exact ⟨rfl, HS.out, B1.out, by simp⟩
/-- Is a number in. -/
def hasB (N m : Nat) (x : Int) : Bool := decide (0 ≤ x) && decide (x < (m : Int)) && N.testBit x.toNat
theorem and_bit {a j : Nat} (h : a < 18446744073709551616) (hj : j < 64) : (a &&& 2 ^ j = 0) = (a.testBit j = false) := by
  apply propext
  constructor
  · intro e
    have : (a &&& 2 ^ j).testBit j = false := by rw [e]; exact Nat.zero_testBit j
    rw [Nat.testBit_and, Nat.testBit_two_pow] at this
    simpa using this
  · intro e
    apply Nat.eq_of_testBit_eq
    intro i
    rw [Nat.testBit_and, Nat.testBit_two_pow, Nat.zero_testBit]
    by_cases q : j = i
    · subst q; rw [e]; rfl
    · simp [q]
set_option maxRecDepth 100000 in
set_option maxHeartbeats 4000000 in
theorem has_no {w : World} {k m N : Nat} (h : SB w k m N) (x : Int) (hx : (decide (0 ≤ x) && decide (x < (m : Int))) = false) : Calls Tryd.prog 10 #[.pointer (some ⟨k + 1, 0, none⟩), .int .i64 x] w fun e w' => e = .returned (.bool false) ∧ Below w.heap.size w w' := by
  have SZ : Hid (∀ w', w' = w.drew → Calls Tryd.prog 28 #[.pointer (some ⟨k + 1, 0, none⟩)] w' fun e w'' => e = .returned (.int .i64 (m : Int)) ∧ w'' = w.drew) := fun w' e => by
    subst e
    exact size_SB (h.later (Below.refl _ _).drew)
  have BL : Hid (∀ w', w' = w.drew → Calls Tryd.prog 27 #[.int .i64 x, .int .i64 (m : Int)] w' fun e w'' => e = .returned (.bool false) ∧ w'' = w.drew) := fun w' e => by
    subst e
    have := below_SB x (m : Int) w.drew
    rwa [hx] at this
  clear h hx
  go_enter Tryd.func10, Tryd.ntmps10
  go_wp2
  refine wp_region_q (C := fun w' => w' = w.drew) (by kernel_rfl) (by kernel_rfl) rfl ?_
  refine qt_yes (v := ?_) (by rfl) ?_ ?_
  rotate_left
  · (intro w hSw; clear hSw; go_simp; with_reducible rfl)
  (try simp only [Act.put, List.setIfInBounds_toArray, List.set_cons_zero, List.set_cons_succ])
  refine qt_yes (v := ?_) (by rfl) ?_ ?_
  rotate_left
  · (intro w hSw; clear hSw; go_simp; with_reducible rfl)
  (try simp only [Act.put, List.setIfInBounds_toArray, List.set_cons_zero, List.set_cons_succ])
  refine qt_call (v := .int .i64 (m : Int)) 28 #[.pointer (some ⟨k + 1, 0, none⟩)] (by rfl) (by intro w hSw; clear hSw; go_simp) SZ.out ?_
  (try simp only [Act.put, List.setIfInBounds_toArray, List.set_cons_zero, List.set_cons_succ])
  refine qt_call (v := .bool false) 27 #[.int .i64 x, .int .i64 (m : Int)] (by rfl) (by intro w hSw; clear hSw; go_simp) BL.out ?_
  (try simp only [Act.put, List.setIfInBounds_toArray, List.set_cons_zero, List.set_cons_succ])
  refine qt_yes (v := ?_) (by rfl) ?_ ?_
  rotate_left
  · (intro w hSw; clear hSw; go_simp; with_reducible rfl)
  (try simp only [Act.put, List.setIfInBounds_toArray, List.set_cons_zero, List.set_cons_succ])
  refine qt_no (by rfl) ?_
  (try simp only [Act.put, List.setIfInBounds_toArray, List.set_cons_zero, List.set_cons_succ])
  refine qt_no (by rfl) ?_
  (try simp only [Act.put, List.setIfInBounds_toArray, List.set_cons_zero, List.set_cons_succ])
  refine qt_no (by rfl) ?_
  (try simp only [Act.put, List.setIfInBounds_toArray, List.set_cons_zero, List.set_cons_succ])
  refine qt_no (by rfl) ?_
  (try simp only [Act.put, List.setIfInBounds_toArray, List.set_cons_zero, List.set_cons_succ])
  refine qt_no (by rfl) ?_
  (try simp only [Act.put, List.setIfInBounds_toArray, List.set_cons_zero, List.set_cons_succ])
  refine qt_no (by rfl) ?_
  (try simp only [Act.put, List.setIfInBounds_toArray, List.set_cons_zero, List.set_cons_succ])
  refine qt_no (by rfl) ?_
  (try simp only [Act.put, List.setIfInBounds_toArray, List.set_cons_zero, List.set_cons_succ])
  refine qt_no (by rfl) ?_
  (try simp only [Act.put, List.setIfInBounds_toArray, List.set_cons_zero, List.set_cons_succ])
  refine qt_no (by rfl) ?_
  (try simp only [Act.put, List.setIfInBounds_toArray, List.set_cons_zero, List.set_cons_succ])
  refine qt_no (by rfl) ?_
  (try simp only [Act.put, List.setIfInBounds_toArray, List.set_cons_zero, List.set_cons_succ])
  refine qt_no (by rfl) ?_
  (try simp only [Act.put, List.setIfInBounds_toArray, List.set_cons_zero, List.set_cons_succ])
  refine qt_no (by rfl) ?_
  (try simp only [Act.put, List.setIfInBounds_toArray, List.set_cons_zero, List.set_cons_succ])
  refine qt_yes (v := ?_) (by rfl) ?_ ?_
  rotate_left
  · (intro w hSw; clear hSw; go_simp; with_reducible rfl)
  (try simp only [Act.put, List.setIfInBounds_toArray, List.set_cons_zero, List.set_cons_succ])
  refine qt_yes (v := ?_) (by rfl) ?_ ?_
  rotate_left
  · (intro w hSw; clear hSw; go_simp; with_reducible rfl)
  (try simp only [Act.put, List.setIfInBounds_toArray, List.set_cons_zero, List.set_cons_succ])
  refine qt_nil ?_
  intro w' hw'
  subst hw'
  go_wp2
  go_ret
  exact ⟨rfl, (Below.refl _ _).drew⟩
set_option maxRecDepth 100000 in
set_option maxHeartbeats 4000000 in
theorem has_yes {w : World} {k m N : Nat} (h : SB w k m N) (n : Nat) (hx : n < m) : Calls Tryd.prog 10 #[.pointer (some ⟨k + 1, 0, none⟩), .int .i64 (n : Int)] w fun e w' => e = .returned (.bool (N.testBit n)) ∧ Below w.heap.size w w' := by
  have hml := h.ml
  have SZ : Hid (∀ w', w' = w.drew → Calls Tryd.prog 28 #[.pointer (some ⟨k + 1, 0, none⟩)] w' fun e w'' => e = .returned (.int .i64 (m : Int)) ∧ w'' = w.drew) := fun w' e => by
    subst e
    exact size_SB (h.later (Below.refl _ _).drew)
  have BL : Hid (∀ w', w' = w.drew → Calls Tryd.prog 27 #[.int .i64 (n : Int), .int .i64 (m : Int)] w' fun e w'' => e = .returned (.bool true) ∧ w'' = w.drew) := fun w' e => by
    subst e
    have := below_SB (n : Int) (m : Int) w.drew
    rwa [decide_eq_true (show (0 : Int) ≤ (n : Int) by omega), decide_eq_true (show (n : Int) < (m : Int) by omega)] at this
  have BI : Hid (∀ w', w' = w.drew → Calls Tryd.prog 29 #[.int .i64 (n : Int)] w' fun e w'' => e = .returned (.int .u64 ((2 ^ (n % 64) : Nat) : Int)) ∧ w'' = w.drew) := fun w' e => by
    subst e
    exact bit_SB n (by omega) w.drew
  obtain ⟨-, c1⟩ := (h.later (Below.refl _ _).drew).cells
  have hni : n / 64 < nwB m := by unfold nwB; omega
  have c2 := (h.later (Below.refl _ _).drew).word hni
  have E : Hid ((wdB N (n / 64) &&& 2 ^ (n % 64) = 0) = (N.testBit n = false)) := by
    show _ = _
    rw [and_bit (wdB_lt _ _) (Nat.mod_lt _ (by decide)), wdB_bit, decide_eq_true (Nat.mod_lt n (show 0 < 64 by decide)), Bool.true_and, Nat.div_add_mod]
  have hP : 2 ^ (n % 64) < 18446744073709551616 := Nat.pow_lt_pow_right (n := 64) (by decide) (Nat.mod_lt _ (by decide))
  obtain ⟨q, hq⟩ : ∃ q, n / 64 = q := ⟨_, rfl⟩
  have hq2 : (n : Int) / 64 = (q : Int) := by omega
  have wq : IntKind.i64.wrap (q : Int) = (q : Int) := IntWalk.i64_in _ ⟨by omega, by omega⟩
  rw [hq] at c2 hni E
  have l1 : (q : Int) < ((nwB m : Nat) : Int) := by omega
  have hW := wdB_lt N q
  generalize wdB N q = W at *
  generalize 2 ^ (n % 64) = P at *
  clear h hx hq
  go_enter Tryd.func10, Tryd.ntmps10
  go_wp2
  refine wp_region_q (C := fun w' => w' = w.drew) (by kernel_rfl) (by kernel_rfl) rfl ?_
  refine qt_yes (v := ?_) (by rfl) ?_ ?_
  rotate_left
  · (intro w hSw; clear hSw; go_simp; with_reducible rfl)
  (try simp only [Act.put, List.setIfInBounds_toArray, List.set_cons_zero, List.set_cons_succ])
  refine qt_yes (v := ?_) (by rfl) ?_ ?_
  rotate_left
  · (intro w hSw; clear hSw; go_simp; with_reducible rfl)
  (try simp only [Act.put, List.setIfInBounds_toArray, List.set_cons_zero, List.set_cons_succ])
  refine qt_call (v := .int .i64 (m : Int)) 28 #[.pointer (some ⟨k + 1, 0, none⟩)] (by rfl) (by intro w hSw; clear hSw; go_simp) SZ.out ?_
  (try simp only [Act.put, List.setIfInBounds_toArray, List.set_cons_zero, List.set_cons_succ])
  refine qt_call (v := .bool true) 27 #[.int .i64 (n : Int), .int .i64 (m : Int)] (by rfl) (by intro w hSw; clear hSw; go_simp) BL.out ?_
  (try simp only [Act.put, List.setIfInBounds_toArray, List.set_cons_zero, List.set_cons_succ])
  refine qt_yes (v := ?_) (by rfl) ?_ ?_
  rotate_left
  · (intro w hSw; clear hSw; go_simp; with_reducible rfl)
  (try simp only [Act.put, List.setIfInBounds_toArray, List.set_cons_zero, List.set_cons_succ])
  refine qt_yes (v := ?_) (by rfl) ?_ ?_
  rotate_left
  · (intro w hSw; rw [hSw]; clear hSw; go_simp; with_reducible rfl)
  (try simp only [Act.put, List.setIfInBounds_toArray, List.set_cons_zero, List.set_cons_succ])
  refine qt_yes (v := ?_) (by rfl) ?_ ?_
  rotate_left
  · (intro w hSw; rw [hSw]; clear hSw; go_simp; with_reducible rfl)
  (try simp only [Act.put, List.setIfInBounds_toArray, List.set_cons_zero, List.set_cons_succ])
  refine qt_yes (v := ?_) (by rfl) ?_ ?_
  rotate_left
  · (intro w hSw; rw [hSw]; clear hSw; go_simp; with_reducible rfl)
  (try simp only [Act.put, List.setIfInBounds_toArray, List.set_cons_zero, List.set_cons_succ])
  refine qt_yes (v := ?_) (by rfl) ?_ ?_
  rotate_left
  · (intro w hSw; rw [hSw]; clear hSw; go_simp; with_reducible rfl)
  (try simp only [Act.put, List.setIfInBounds_toArray, List.set_cons_zero, List.set_cons_succ])
  refine qt_yes (v := ?_) (by rfl) ?_ ?_
  rotate_left
  · (intro w hSw; rw [hSw]; clear hSw; go_simp; with_reducible rfl)
  (try simp only [Act.put, List.setIfInBounds_toArray, List.set_cons_zero, List.set_cons_succ])
  refine qt_yes (v := ?_) (by rfl) ?_ ?_
  rotate_left
  · (intro w hSw; rw [hSw]; clear hSw; go_simp; with_reducible rfl)
  (try simp only [Act.put, List.setIfInBounds_toArray, List.set_cons_zero, List.set_cons_succ])
  refine qt_yes (v := ?_) (by rfl) ?_ ?_
  rotate_left
  · (intro w hSw; rw [hSw]; clear hSw; go_simp; with_reducible rfl)
  (try simp only [Act.put, List.setIfInBounds_toArray, List.set_cons_zero, List.set_cons_succ])
  refine qt_yes (v := ?_) (by rfl) ?_ ?_
  rotate_left
  · (intro w hSw; rw [hSw]; clear hSw; go_simp; with_reducible rfl)
  (try simp only [Act.put, List.setIfInBounds_toArray, List.set_cons_zero, List.set_cons_succ])
  refine qt_yes (v := ?_) (by rfl) ?_ ?_
  rotate_left
  · (intro w hSw; rw [hSw]; clear hSw; go_simp; with_reducible rfl)
  (try simp only [Act.put, List.setIfInBounds_toArray, List.set_cons_zero, List.set_cons_succ])
  refine qt_call (v := .int .u64 (P : Int)) 29 #[.int .i64 (n : Int)] (by rfl) (by intro w hSw; clear hSw; go_simp) BI.out ?_
  (try simp only [Act.put, List.setIfInBounds_toArray, List.set_cons_zero, List.set_cons_succ])
  refine qt_yes (v := ?_) (by rfl) ?_ ?_
  rotate_left
  · (intro w hSw; rw [hSw]; clear hSw; go_simp; with_reducible rfl)
  (try simp only [Act.put, List.setIfInBounds_toArray, List.set_cons_zero, List.set_cons_succ])
  refine qt_yes (v := ?_) (by rfl) ?_ ?_
  rotate_left
  · (intro w hSw; rw [hSw]; clear hSw; go_simp; with_reducible rfl)
  (try simp only [Act.put, List.setIfInBounds_toArray, List.set_cons_zero, List.set_cons_succ])
  refine qt_yes (v := ?_) (by rfl) ?_ ?_
  rotate_left
  · (intro w hSw; rw [hSw]; clear hSw; go_simp; with_reducible rfl)
  (try simp only [Act.put, List.setIfInBounds_toArray, List.set_cons_zero, List.set_cons_succ])
  refine qt_yes (v := ?_) (by rfl) ?_ ?_
  rotate_left
  · (intro w hSw; rw [hSw]; clear hSw; go_simp; with_reducible rfl)
  (try simp only [Act.put, List.setIfInBounds_toArray, List.set_cons_zero, List.set_cons_succ])
  refine qt_nil ?_
  intro w' hw'
  subst hw'
  go_wp2
  go_ret
  refine ⟨?_, (Below.refl _ _).drew⟩
  show Ending.returned (Value.bool (bits BinOp.and IntKind.u64 (W : Int) (P : Int) != 0)) = _
  rw [bits_and_u64_nat W P hW hP]
  congr 2
  have e := E.out
  cases hb : N.testBit n with
  | true =>
    rw [hb] at e
    have : ¬ W &&& P = 0 := fun z => by rw [z] at e; simp at e
    simpa using this
  | false =>
    rw [hb] at e
    have : W &&& P = 0 := by rw [e]
    simp [this]
theorem has_SB {w : World} {k m N : Nat} (h : SB w k m N) (x : Int) : Calls Tryd.prog 10 #[.pointer (some ⟨k + 1, 0, none⟩), .int .i64 x] w fun e w' => e = .returned (.bool (hasB N m x)) ∧ Below w.heap.size w w' := by
  by_cases h0 : 0 ≤ x
  · by_cases h1 : x < (m : Int)
    · obtain ⟨n, rfl⟩ : ∃ n : Nat, x = (n : Int) := ⟨x.toNat, by omega⟩
      have := has_yes h n (by omega)
      rwa [show N.testBit n = hasB N m (n : Int) by simp [hasB, show n < m by omega]] at this
    · have := has_no h x (by simp [h1])
      rwa [show false = hasB N m x by simp [hasB, h1]] at this
  · have := has_no h x (by simp [h0])
    rwa [show false = hasB N m x by simp [hasB, h0]] at this
end Go.Proofs.YtcjejnenklppiaaDoor
