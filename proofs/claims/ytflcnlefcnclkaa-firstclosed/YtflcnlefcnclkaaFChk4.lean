import Derived.Test.YtflcnlefcnclkaaFChk3
import Derived.Test.YtflcnlefcnclkaaFLeast
namespace Go.Proofs.Ytflcnlefcnclkaa
set_option linter.unusedVariables false
open Go.RowKit

/-- Lists of numbers that can be read. -/
def LsRow (w : World) (ao : Option Addr) (L : List (List Int)) : Prop := L ≠ [] → ∃ b off, ao = some ⟨b, off, none⟩ ∧ b < w.heap.size ∧ ∀ i, i < L.length → ∃ a c, w.cell? ⟨b, off + i, none⟩ = some (.slice a (L.getD i []).length c) ∧ InRow w a (L.getD i [])
theorem LsRow.later {w w' : World} {ao : Option Addr} {L : List (List Int)} (h : LsRow w ao L) (hb : Below w.heap.size w w') : LsRow w' ao L := by
  intro hne
  obtain ⟨b, off, e, h1, h2⟩ := h hne
  refine ⟨b, off, e, Nat.lt_of_lt_of_le h1 hb.size, fun i hi => ?_⟩
  obtain ⟨a, c, h3, h4⟩ := h2 i hi
  exact ⟨a, c, (hb.cell (p := ⟨b, off + i, none⟩) h1).trans h3, h4.later hb⟩
/-- The first k told, the rest d. -/
def partG {α : Type} (d : α) (L : List α) (k : Nat) : List α := L.take k ++ List.replicate (L.length - k) d
theorem partG_len {α : Type} (d : α) (L : List α) {k : Nat} (h : k ≤ L.length) : (partG d L k).length = L.length := by simp [partG]; omega
theorem partG_succ {α : Type} (d : α) (L : List α) {k : Nat} (h : k < L.length) : partG d L (k + 1) = (partG d L k).set k (L.getD k d) := by
  unfold partG
  apply List.ext_getElem
  · simp; omega
  · intro i h1 h2
    simp only [List.getElem_set, List.getElem_append, List.length_take, List.getElem_replicate, List.getElem_take]
    simp only [List.length_append, List.length_take, List.length_replicate] at h1
    by_cases e : i = k
    · subst e
      simp [List.getD, h, show i < min (i + 1) L.length by omega]
    · by_cases e2 : i < k
      · simp [show i < min (k + 1) L.length by omega, show i < min k L.length by omega, show ¬ k = i by omega]
      · simp [show ¬ i < min (k + 1) L.length by omega, show ¬ i < min k L.length by omega, show ¬ k = i by omega]
theorem partG_all {α : Type} (d : α) (L : List α) : partG d L L.length = L := by simp [partG]
theorem make_setF (n : Nat) (hn : n ≤ 1048576) (w : World) : (Instr.makeSlice 48 (.int .i64 (n : Int)) (.int .i64 (n : Int))).run Try.prog w = .ok (.slice (some ⟨w.heap.size, 0, none⟩) n n) (w.alloc (.cells (madeCells #[.int .u64 0, .int .u64 0] (n * 2)) 63)) := by
  obtain ⟨i0, hi, hz0, hz1, hz2⟩ := infoSet_parts
  have := run_makeSlice w 48 63 i0 (.agg #[.int .u64 0, .int .u64 0]) Try.underlying48 hi hz0 .i64 .i64 (n : Int) (n : Int) (by omega) (by omega) (by rw [hz1]; simp; omega) (by rw [hz2]; omega) (by omega)
  rw [hz1] at this
  simpa [Value.cells] using this
theorem made_sets (n : Nat) : madeCells #[.int .u64 0, .int .u64 0] (n * 2) = (setCells (List.replicate n (0, 0))).toArray := by
  apply Array.toList_inj.1
  apply List.ext_getElem?
  intro i
  have hl : (madeCells #[Value.int .u64 0, Value.int .u64 0] (n * 2)).toList.length = n * 2 := by simp [madeCells]
  by_cases h : i < n * 2
  · have h1 := setCells_get (List.replicate n (0, 0)) (i / 2) (by rw [List.length_replicate]; omega)
    have hz : (List.replicate n ((0, 0) : BS)).getD (i / 2) (0, 0) = (0, 0) := by simp [List.getD, show i / 2 < n by omega]
    rw [hz] at h1
    have e : (madeCells #[Value.int .u64 0, Value.int .u64 0] (n * 2)).toList[i]? = some (.int .u64 0) := by
      rw [Array.getElem?_toList]
      simp only [madeCells, Array.getElem?_map, Array.getElem?_range, h, if_true, Option.map_some]
      rcases (show i % 2 = 0 ∨ i % 2 = 1 by omega) with q | q <;> simp [q]
    rw [e]
    rcases (show i = i / 2 * 2 ∨ i = i / 2 * 2 + 1 by omega) with q | q
    · rw [q]; simpa using h1.1.symm
    · rw [q]; simpa using h1.2.symm
  · rw [List.getElem?_eq_none (by omega), List.getElem?_eq_none (by simp [setCells_len]; omega)]
theorem SBk.made (w : World) (n : Nat) : SBk (w.alloc (.cells (madeCells #[.int .u64 0, .int .u64 0] (n * 2)) 63)) w.heap.size (List.replicate n (0, 0)) := by
  unfold SBk
  rw [heap_alloc_new, made_sets]
set_option maxRecDepth 100000 in
set_option maxHeartbeats 2000000 in
theorem setsOf_S (ao : Option Addr) (c : Nat) (L : List (List Int)) (w : World) (hL : LsRow w ao L) (hn : L.length ≤ 1048576) (hb : ∀ l ∈ L, (∀ x ∈ l, 0 ≤ x ∧ x < 128) ∧ l.length ≤ 140737488355328) :
    Calls Try.prog 38 #[.slice ao L.length c] w fun e w' => ∃ fb, e = .returned (.slice (some ⟨fb, 0, none⟩) L.length L.length) ∧ SBk w' fb (L.map setS) ∧ w.heap.size ≤ fb ∧ Below w.heap.size w w' := by
  have hmk := make_setF L.length hn
  have HL : Hid (∀ w', Below w.heap.size w w' → LsRow w' ao L) := fun w' hb => hL.later hb
  have HBD : Hid (∀ l ∈ L, (∀ x ∈ l, 0 ≤ x ∧ x < 128) ∧ l.length ≤ 140737488355328) := hb
  have S0 : Hid (SBk (w.alloc (.cells (madeCells #[.int .u64 0, .int .u64 0] (L.length * 2)) 63)) w.heap.size (partG (0, 0) (L.map setS) 0)) := by
    have := SBk.made w L.length
    show SBk _ _ _
    simpa [partG] using this
  clear hL hb
  go_enter Try.func38, Try.ntmps38
  go_wp2
  go_loopw [10] (fun z wr => ∃ k : Nat, k ≤ L.length ∧ z = .int .i64 k ∧ SBk wr w.heap.size (partG (0, 0) (L.map setS) k) ∧ Below w.heap.size w wr) (fun z _ => L.length - (intOf z).toNat)
  case atStart => exact ⟨0, Nat.zero_le _, rfl, S0.out, below_alloc _ _⟩
  case round =>
    clear S0 hmk
    obtain ⟨k, hk, rfl, hS, hB⟩ := hrel
    have H : Hid (SBk wr w.heap.size (partG (0, 0) (L.map setS) k) ∧ Below w.heap.size w wr) := ⟨hS, hB⟩
    by_cases hlt : k < L.length
    · have klt : (k : Int) < (L.length : Int) := by omega
      obtain ⟨b, o, rfl, hbl, hc⟩ := HL.out wr hB (by intro e; rw [e] at hlt; simp at hlt)
      obtain ⟨la, lc, c0, hrow⟩ := hc k hlt
      have hm : L.getD k [] ∈ L := by simp [List.getD, hlt]
      obtain ⟨hbd, hll⟩ := HBD.out _ hm
      have SC : Hid (Calls Try.prog 49 #[.slice la (L.getD k []).length lc] wr fun e w' => e = .returned (sv (setS (L.getD k []))) ∧ Below wr.heap.size wr w') := setOf_S la lc _ wr hrow hll hbd
      have HPS : Hid (partG (0, 0) (L.map setS) (k + 1) = (partG (0, 0) (L.map setS) k).set k (setS (L.getD k []))) := by
        show _ = _
        rw [partG_succ _ _ (by rw [List.length_map]; exact hlt)]
        congr 1
        simp [List.getD, hlt]
      have hpl : k < (partG (0, 0) (L.map setS) k).length := by rw [partG_len _ _ (by rw [List.length_map]; omega), List.length_map]; exact hlt
      generalize L.getD k [] = l at *
      generalize setS l = s at *
      obtain ⟨s1, s2⟩ := s
      clear hS hB hc hm hrow hbd
      go_wp2_with (go_at_call 49; refine SC.out.mono ?_; rintro e w2 ⟨rfl, b2⟩; have S2 : Hid (SBk w2 w.heap.size (partG (0, 0) (L.map setS) k) ∧ Below w.heap.size w w2) := ⟨H.out.1.later b2, H.out.2.trans (b2.mono H.out.2.size)⟩; obtain ⟨y0, y1⟩ := S2.out.1.cell hpl; have f0 := S2.out.1.free (k * 2); have f1 := S2.out.1.free (k * 2 + 1); have hz := S2.out.1.lt; clear b2)
      go_roundw
      case rel =>
        refine ⟨k + 1, by omega, by go_num, ?_, ?_⟩
        · rw [HPS.out]; exact S2.out.1.set hpl (s1, s2)
        · exact (S2.out.2.setCell (p := ⟨w.heap.size, k * 2, none⟩) (Nat.le_refl _) _).setCell (p := ⟨w.heap.size, k * 2 + 1, none⟩) (Nat.le_refl _) _
      case measure => simp [intOf]; omega
    · obtain rfl : k = L.length := by omega
      clear hS hB
      go_wp2
      go_ret
      refine ⟨w.heap.size, rfl, ?_, Nat.le_refl _, H.out.2⟩
      have := H.out.1
      rwa [show L.length = (L.map setS).length by simp, partG_all] at this
end Go.Proofs.Ytflcnlefcnclkaa
