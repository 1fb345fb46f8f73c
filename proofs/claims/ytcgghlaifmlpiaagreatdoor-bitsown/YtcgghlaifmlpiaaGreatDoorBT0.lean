import Derived.Test.YtcgghlaifmlpiaaGreatDoorRRow
import Derived.Test.YtcgghlaifmlpiaaGreatDoorRegS
import Derived.Laws.Bits64b
namespace Go.Proofs.YtcgghlaifmlpiaaGreatDoor
set_option linter.unusedVariables false
open Go.RowKit

/-- A set of numbers as one number: its words of 64 bits. -/
def nwB (m : Nat) : Nat := m / 64 + 1
def wdB (N i : Nat) : Nat := N / 2 ^ (64 * i) % 18446744073709551616
def wdsB (N m : Nat) : List Nat := (List.range (nwB m)).map (wdB N)
theorem wdB_lt (N i : Nat) : wdB N i < 18446744073709551616 := Nat.mod_lt _ (by decide)
theorem wdB_bit (N i j : Nat) : (wdB N i).testBit j = (decide (j < 64) && N.testBit (64 * i + j)) := by
  unfold wdB
  rw [show (18446744073709551616 : Nat) = 2 ^ 64 from rfl, Nat.testBit_mod_two_pow, Nat.testBit_div_two_pow]
  congr 2
  omega
theorem wdsB_len (N m : Nat) : (wdsB N m).length = nwB m := by simp [wdsB]
theorem wdsB_get (N m : Nat) {i : Nat} (h : i < nwB m) : (wdsB N m)[i]? = some (wdB N i) := by
  unfold wdsB
  rw [List.getElem?_map, List.getElem?_range h]
  rfl
theorem wds_ext {N M m : Nat} (h : ∀ i, i < nwB m → wdB N i = wdB M i) : wdsB N m = wdsB M m := by
  unfold wdsB
  apply List.map_congr_left
  intro i hi
  exact h i (List.mem_range.1 hi)
/-- One number more, one less. -/
def addN (N x : Nat) : Nat := N ||| 2 ^ x
theorem addN_bit (N x j : Nat) : (addN N x).testBit j = (N.testBit j || decide (x = j)) := by
  unfold addN
  rw [Nat.testBit_or, Nat.testBit_two_pow]
theorem addN_lt {N x m : Nat} (h : N < 2 ^ m) (hx : x < m) : addN N x < 2 ^ m := Nat.or_lt_two_pow h (Nat.pow_lt_pow_right (by decide) hx)
theorem bit_ext {a b : Nat} (h : ∀ j, a.testBit j = b.testBit j) : a = b := Nat.eq_of_testBit_eq h
theorem word_ext {a b : Nat} (ha : a < 18446744073709551616) (hb : b < 18446744073709551616) (h : ∀ j, j < 64 → a.testBit j = b.testBit j) : a = b := by
  apply Nat.eq_of_testBit_eq
  intro j
  by_cases q : j < 64
  · exact h j q
  · have e : (18446744073709551616 : Nat) ≤ 2 ^ j := by
      have : 2 ^ 64 ≤ 2 ^ j := Nat.pow_le_pow_right (by decide) (by omega)
      exact this
    rw [Nat.testBit_lt_two_pow (Nat.lt_of_lt_of_le ha e), Nat.testBit_lt_two_pow (Nat.lt_of_lt_of_le hb e)]
theorem wd_add_same (N x : Nat) : wdB (addN N x) (x / 64) = wdB N (x / 64) ||| 2 ^ (x % 64) := by
  have hl : 2 ^ (x % 64) < 2 ^ 64 := Nat.pow_lt_pow_right (by decide) (Nat.mod_lt _ (by decide))
  refine word_ext (wdB_lt _ _) (Nat.or_lt_two_pow (n := 64) (wdB_lt _ _) hl) (fun j hj => ?_)
  rw [wdB_bit, addN_bit, Nat.testBit_or, wdB_bit, Nat.testBit_two_pow]
  simp only [hj, decide_true, Bool.true_and]
  congr 1
  apply decide_eq_decide.2
  omega
theorem wd_add_other (N x : Nat) {i : Nat} (h : i ≠ x / 64) : wdB (addN N x) i = wdB N i := by
  refine word_ext (wdB_lt _ _) (wdB_lt _ _) (fun j hj => ?_)
  rw [wdB_bit, addN_bit, wdB_bit]
  simp only [hj, decide_true, Bool.true_and]
  rw [decide_eq_false (by omega), Bool.or_false]
theorem wds_add (N x m : Nat) : wdsB (addN N x) m = (wdsB N m).set (x / 64) (wdB N (x / 64) ||| 2 ^ (x % 64)) := by
  apply List.ext_getElem?
  intro i
  rw [List.getElem?_set]
  by_cases hi : i < nwB m
  · rw [wdsB_get _ _ hi, wdsB_get _ _ hi]
    by_cases e : x / 64 = i
    · subst e
      rw [if_pos rfl, if_pos (by rw [wdsB_len]; exact hi), wd_add_same]
    · rw [if_neg e, wd_add_other N x (fun q => e q.symm)]
  · have h1 : (wdsB (addN N x) m)[i]? = none := List.getElem?_eq_none (by rw [wdsB_len]; omega)
    have h2 : (wdsB N m)[i]? = none := List.getElem?_eq_none (by rw [wdsB_len]; omega)
    rw [h1, h2]
    by_cases e : x / 64 = i
    · rw [if_pos e, if_neg (by rw [wdsB_len]; omega)]
    · rw [if_neg e]
/-- What has turned: the blocks of X alone. -/
structure FrB (X : Nat → Prop) (w w' : World) : Prop where
  os : w'.os = w.os
  tape : w'.tape = w.tape
  output : w'.output = w.output
  size : w.heap.size ≤ w'.heap.size
  block : ∀ j, j < w.heap.size → ¬ X j → w'.heap[j]? = w.heap[j]?
theorem Below.frB {X : Nat → Prop} {w w' : World} (h : Below w.heap.size w w') : FrB X w w' := ⟨h.os, h.tape, h.output, h.size, fun j hj _ => h.block j hj⟩
theorem FrB.trans {X : Nat → Prop} {a b c : World} (h : FrB X a b) (h' : FrB X b c) : FrB X a c := ⟨h'.os.trans h.os, h'.tape.trans h.tape, h'.output.trans h.output, Nat.le_trans h.size h'.size, fun j hj hx => (h'.block j (Nat.lt_of_lt_of_le hj h.size) hx).trans (h.block j hj hx)⟩
theorem FrB.mono {X Y : Nat → Prop} {a b : World} (h : FrB X a b) (hxy : ∀ j, j < a.heap.size → X j → Y j) : FrB Y a b := ⟨h.os, h.tape, h.output, h.size, fun j hj hy => h.block j hj (fun hx => hy (hxy j hj hx))⟩
theorem FrB.below {X : Nat → Prop} {n : Nat} {a b c : World} (h : Below n a b) (h' : FrB X b c) (hn : n ≤ b.heap.size) (hX : ∀ j, X j → n ≤ j) : Below n a c :=
  ⟨h'.os.trans h.os, h'.tape.trans h.tape, h'.output.trans h.output, Nat.le_trans h.size h'.size, fun j hj => (h'.block j (Nat.lt_of_lt_of_le hj hn) (fun q => by have := hX j q; omega)).trans (h.block j hj)⟩
theorem frB_setCell (w : World) (k i : Nat) (v : Value) : FrB (· = k) w (w.setCell ⟨k, i, none⟩ v) := by
  have hb := (Below.refl 0 w).setCell (p := ⟨k, i, none⟩) (Nat.zero_le _) v
  exact ⟨hb.os, hb.tape, hb.output, hb.size, fun j _ hj => Below.heap_setCell _ _ _ _ (by show j ≠ k; exact hj)⟩
/-- A set in memory: its words in block k, what points to them behind it. -/
def wCells (N m : Nat) : List Value := (wdsB N m).map fun (x : Nat) => Value.int .u64 (x : Int)
structure SB (w : World) (k m N : Nat) : Prop where
  hd : w.heap[k + 1]? = some (.cells #[.int .i64 (m : Int), .slice (some ⟨k, 0, none⟩) (nwB m) (nwB m)] 77)
  wd : w.heap[k]? = some (.cells (wCells N m).toArray 118)
  lt : N < 2 ^ m
  ml : m ≤ 4096
theorem SB.size {w : World} {k m N : Nat} (h : SB w k m N) : k + 1 < w.heap.size := lt_of_block h.hd
theorem SB.frB {X : Nat → Prop} {w w' : World} {k m N : Nat} (h : SB w k m N) (hf : FrB X w w') (h0 : ¬ X k) (h1 : ¬ X (k + 1)) : SB w' k m N :=
  ⟨(hf.block _ h.size h1).trans h.hd, (hf.block _ (Nat.lt_of_succ_lt h.size) h0).trans h.wd, h.lt, h.ml⟩
theorem SB.later {w w' : World} {k m N : Nat} (h : SB w k m N) (hb : Below w.heap.size w w') : SB w' k m N := h.frB (X := fun _ => False) (Below.frB hb) (fun q => q) (fun q => q)
theorem SB.cells {w : World} {k m N : Nat} (h : SB w k m N) : w.cell? ⟨k + 1, 0, none⟩ = some (.int .i64 (m : Int)) ∧ w.cell? ⟨k + 1, 1, none⟩ = some (.slice (some ⟨k, 0, none⟩) (nwB m) (nwB m)) := ⟨(cellq_any h.hd).trans rfl, (cellq_any h.hd).trans rfl⟩
theorem SB.word {w : World} {k m N : Nat} (h : SB w k m N) {i : Nat} (hi : i < nwB m) : w.cell? ⟨k, i, none⟩ = some (.int .u64 (wdB N i : Int)) := by
  rw [cellq_any h.wd]
  simp only [wCells, List.getElem?_toArray, List.getElem?_map, wdsB_get _ _ hi, Option.map_some]
theorem SB.free {w : World} {k m N : Nat} (h : SB w k m N) (i : Nat) : w.frozen? ⟨k, i, none⟩ = false := by
  simp [World.frozen?, h.wd]
end Go.Proofs.YtcgghlaifmlpiaaGreatDoor
