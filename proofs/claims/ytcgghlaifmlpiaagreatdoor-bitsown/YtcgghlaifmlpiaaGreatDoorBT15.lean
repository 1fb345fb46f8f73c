import Derived.Test.YtcgghlaifmlpiaaGreatDoorBT14
namespace Go.Proofs.YtcgghlaifmlpiaaGreatDoor
set_option linter.unusedVariables false
open Go.RowKit Go.Shelf

theorem make_iB (n : Nat) (hn : n ≤ 1048576) (w : World) : (Instr.makeSlice 46 (.int .i64 (n : Int)) (.int .i64 (n : Int))).run Tryz.prog w = .ok (.slice (some ⟨w.heap.size, 0, none⟩) n n) (w.alloc (.cells (madeCells #[.int .i64 0] n) 3)) := by
  obtain ⟨i0, hi, hz0, hz1, hz2⟩ := infoInt_parts
  have := run_makeSlice w 46 3 i0 (.int .i64 0) Tryz.underlying46 hi hz0 .i64 .i64 (n : Int) (n : Int) (by omega) (by omega) (by rw [hz1]; simp; omega) (by rw [hz2]; omega) (by omega)
  rw [hz1] at this
  simpa [Value.cells] using this
/-- A list of numbers that fills its block. -/
def KbB (w : World) (b : Nat) (K : List Nat) : Prop := w.heap[b]? = some (.cells ((nI K).map (Value.int .i64 ·)).toArray 3)
theorem KbB.lt {w : World} {b : Nat} {K : List Nat} (h : KbB w b K) : b < w.heap.size := lt_of_block h
theorem KbB.cell {w : World} {b : Nat} {K : List Nat} (h : KbB w b K) {i : Nat} (hi : i < K.length) : w.cell? ⟨b, i, none⟩ = some (.int .i64 (K.getD i 0 : Int)) := by
  rw [cellq_any h]
  simp [nI, List.getD, hi]
theorem KbB.free {w : World} {b : Nat} {K : List Nat} (h : KbB w b K) (i : Nat) : w.frozen? ⟨b, i, none⟩ = false := by
  unfold KbB at h
  simp [World.frozen?, h]
theorem KbB.set {w : World} {b : Nat} {K : List Nat} (h : KbB w b K) (i : Nat) (v : Nat) : KbB (w.setCell ⟨b, i, none⟩ (.int .i64 (v : Int))) b (K.set i v) := by
  unfold KbB nI
  rw [heap_set h i (.int .i64 (v : Int)), List.setIfInBounds_toArray, List.map_set, List.map_set]
  rfl
theorem KbB.frB {X : Nat → Prop} {w w' : World} {b : Nat} {K : List Nat} (h : KbB w b K) (hf : FrB X w w') (hX : ¬ X b) : KbB w' b K := (hf.block b h.lt hX).trans h
theorem KbB.later {w w' : World} {b : Nat} {K : List Nat} (h : KbB w b K) (hb : Below w.heap.size w w') : KbB w' b K := (hb.block b h.lt).trans h
theorem KbB.made (w : World) (n : Nat) : KbB (w.alloc (.cells (madeCells #[.int .i64 0] n) 3)) w.heap.size (List.replicate n 0) := by
  unfold KbB nI
  rw [heap_alloc_new, made_listB, List.map_replicate, List.map_replicate]
  rfl
theorem KbB.row {w : World} {b : Nat} {K : List Nat} (h : KbB w b K) : InRow w (some ⟨b, 0, none⟩) (nI K) := fun _ => ⟨b, 0, rfl, h.lt, fun i hi => by
  rw [nI_len] at hi
  rw [Nat.zero_add, h.cell hi]
  simp [nI, List.getD_eq_getElem?_getD, List.getElem?_eq_getElem hi]⟩
theorem KbB.il {w : World} {b : Nat} {K : List Nat} (h : KbB w b K) (hl : K.length ≤ 1000000) : IL w (.slice (some ⟨b, 0, none⟩) K.length K.length) (nI K) := by
  have e : (nI K).length = K.length := nI_len K
  unfold IL
  rw [e]
  exact ⟨by simp [nI], .inr ⟨b, K.length, _, rfl, Nat.zero_le _, h, Nat.le_refl _, by unfold maxLen; omega, by simp [nI], by rw [List.toList_toArray, Nat.mul_one, List.take_of_length_le (by simp [nI])]⟩⟩
set_option maxRecDepth 100000 in
set_option maxHeartbeats 4000000 in
theorem upTo_SB (n : Nat) (hn : n ≤ 4096) (w : World) : Calls Tryz.prog 118 #[.int .i64 (n : Int)] w fun e w' => e = .returned (.slice (some ⟨w.heap.size, 0, none⟩) n n) ∧ KbB w' w.heap.size (List.range n) ∧ Below w.heap.size w w' := by
  have hmk := make_iB n (by omega)
  have K0 : Hid (KbB (w.alloc (.cells (madeCells #[.int .i64 0] n) 3)) w.heap.size (List.range 0 ++ List.replicate (n - 0) 0) ∧ Below w.heap.size w (w.alloc (.cells (madeCells #[.int .i64 0] n) 3))) := ⟨KbB.made w n, below_alloc w _⟩
  go_enter Tryz.func118, Tryz.ntmps118
  go_wp2
  clear hmk
  go_loopw [9] (fun z wr => ∃ i : Nat, i ≤ n ∧ z = .int .i64 (i : Int) ∧ KbB wr w.heap.size (List.range i ++ List.replicate (n - i) 0) ∧ Below w.heap.size w wr) (fun z _ => n - (intOf z).toNat)
  case atStart => exact ⟨0, Nat.zero_le _, rfl, K0.out.1, K0.out.2⟩
  case round =>
    clear K0
    obtain ⟨i, hi, rfl, hK, hB⟩ := hrel
    by_cases hlt : i < n
    · have ilt : (i : Int) < (n : Int) := by omega
      have hlen : i < (List.range i ++ List.replicate (n - i) 0).length := by simp; omega
      have cc := hK.cell hlen
      have fz := hK.free i
      have HS : Hid (KbB (wr.setCell ⟨w.heap.size, i, none⟩ (.int .i64 (i : Int))) w.heap.size (List.range (i + 1) ++ List.replicate (n - (i + 1)) 0) ∧ Below w.heap.size w (wr.setCell ⟨w.heap.size, i, none⟩ (.int .i64 (i : Int)))) := by
        refine ⟨?_, hB.setCell (p := ⟨w.heap.size, i, none⟩) (Nat.le_refl _) _⟩
        have := hK.set i i
        have hset : (List.range i ++ List.replicate (n - i) 0).set i i = List.range (i + 1) ++ List.replicate (n - (i + 1)) 0 := by
          rw [List.set_append_right _ _ (by simp), List.length_range, Nat.sub_self, List.range_succ, List.append_assoc, show n - i = (n - (i + 1)) + 1 by omega, List.replicate_succ]
          rfl
        rw [hset] at this
        exact this
      clear hK hB hlen
      go_wp2
      go_roundw
      case rel => exact ⟨i + 1, by omega, by go_num, HS.out.1, HS.out.2⟩
      case measure => simp [intOf]; omega
    · obtain rfl : i = n := by omega
      have ilt : ¬ (i : Int) < (i : Int) := by omega
      rw [Nat.sub_self, List.replicate_zero, List.append_nil] at hK
      have HK : Hid (KbB wr w.heap.size (List.range i) ∧ Below w.heap.size w wr) := ⟨hK, hB⟩
      clear hK hB
      go_wp2
      go_ret
      exact ⟨rfl, HK.out.1, HK.out.2⟩
end Go.Proofs.YtcgghlaifmlpiaaGreatDoor
