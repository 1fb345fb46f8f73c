import Derived.Test.YtcgghlaifmlpiaaGreatDoorBT9
namespace Go.Proofs.YtcgghlaifmlpiaaGreatDoor
set_option linter.unusedVariables false
open Go.RowKit Go.Shelf

def ptB (k : Nat) : Value := .pointer (some ⟨k + 1, 0, none⟩)
/-- A row of sets, each in blocks of its own. -/
structure RwB (w : World) (rb m : Nat) (ks Ns : List Nat) : Prop where
  row : w.heap[rb]? = some (.cells (ks.map ptB).toArray 69)
  len : ks.length = Ns.length
  sb : ∀ i k N : Nat, ks[i]? = some k → Ns[i]? = some N → SB w k m N
  nd : ∀ i j k : Nat, ks[i]? = some k → ks[j]? = some k → i = j
theorem RwB.cell {w : World} {rb m : Nat} {ks Ns : List Nat} (h : RwB w rb m ks Ns) {i k : Nat} (hk : ks[i]? = some k) : w.cell? ⟨rb, i, none⟩ = some (.pointer (some ⟨k + 1, 0, none⟩)) := by
  rw [cellq_any h.row]
  simp [hk, ptB]
theorem RwB.at {w : World} {rb m : Nat} {ks Ns : List Nat} (h : RwB w rb m ks Ns) {i : Nat} (hi : i < Ns.length) : ∃ k, ks[i]? = some k ∧ SB w k m (Ns.getD i 0) := by
  have hk : i < ks.length := by rw [h.len]; exact hi
  refine ⟨_, List.getElem?_eq_getElem hk, h.sb i _ _ (List.getElem?_eq_getElem hk) ?_⟩
  rw [List.getD_eq_getElem?_getD, List.getElem?_eq_getElem hi]
  rfl
theorem RwB.rne {w : World} {rb m : Nat} {ks Ns : List Nat} (h : RwB w rb m ks Ns) {i k : Nat} (hk : ks[i]? = some k) : rb ≠ k := by
  intro e
  have hi : i < Ns.length := by rw [← h.len]; exact (List.getElem?_eq_some_iff.1 hk).1
  have hs := h.sb i k _ hk (List.getElem?_eq_getElem hi)
  have a := h.row
  rw [e, hs.wd] at a
  simp only [Option.some.injEq, Obj.cells.injEq] at a
  exact absurd a.2.1 (by decide)
theorem RwB.frB {X : Nat → Prop} {w w' : World} {rb m : Nat} {ks Ns : List Nat} (h : RwB w rb m ks Ns) (hf : FrB X w w') (h0 : ¬ X rb) (h1 : ∀ k ∈ ks, ¬ X k ∧ ¬ X (k + 1)) : RwB w' rb m ks Ns :=
  ⟨(hf.block _ (lt_of_block h.row) h0).trans h.row, h.len, fun i k N hk hN => (h.sb i k N hk hN).frB hf (h1 k (List.mem_of_getElem? hk)).1 (h1 k (List.mem_of_getElem? hk)).2, h.nd⟩
theorem RwB.later {w w' : World} {rb m : Nat} {ks Ns : List Nat} (h : RwB w rb m ks Ns) (hb : Below w.heap.size w w') : RwB w' rb m ks Ns := h.frB (X := fun _ => False) (Below.frB hb) (fun q => q) (fun _ _ => ⟨fun q => q, fun q => q⟩)
/-- One set turned. -/
theorem RwB.turn {w w' : World} {rb m : Nat} {ks Ns : List Nat} (h : RwB w rb m ks Ns) {i k M : Nat} (hk : ks[i]? = some k) (hs : SB w' k m M) (hf : FrB (· = k) w w') : RwB w' rb m ks (Ns.set i M) := by
  have hi : i < Ns.length := by rw [← h.len]; exact (List.getElem?_eq_some_iff.1 hk).1
  have hs0 := h.sb i k _ hk (List.getElem?_eq_getElem hi)
  refine ⟨(hf.block _ (lt_of_block h.row) (h.rne hk)).trans h.row, by rw [List.length_set]; exact h.len, fun j k' N hk' hN => ?_, h.nd⟩
  rw [List.getElem?_set] at hN
  by_cases e : i = j
  · subst e
    rw [if_pos rfl, if_pos hi] at hN
    rw [hk] at hk'
    cases hk'
    cases hN
    exact hs
  · rw [if_neg e] at hN
    have hs' := h.sb j k' N hk' hN
    refine hs'.frB hf (fun q => ?_) (hs0.apart hs')
    have q' : k' = k := q
    subst q'
    exact e (h.nd i j k' hk hk')
def ksE (b n : Nat) : List Nat := (List.range n).map fun i => b + 1 + 2 * i
theorem ksE_get {b n i : Nat} (h : i < n) : (ksE b n)[i]? = some (b + 1 + 2 * i) := by
  unfold ksE
  rw [List.getElem?_map, List.getElem?_range h]
  rfl
theorem ksE_len (b n : Nat) : (ksE b n).length = n := by simp [ksE]
theorem infoPB : ∃ i, Tryz.prog.info? 69 = some i ∧ i.zero = some (.pointer none) ∧ i.size = 1 ∧ i.bytes = 8 := by
  have h : (Tryz.prog.info? 69).map (fun i => (i.zero, i.size, i.bytes)) = some (some (.pointer none), 1, 8) := by kernel_rfl
  cases e : Tryz.prog.info? 69 with
  | none => rw [e] at h; cases h
  | some i => rw [e] at h; simp at h; exact ⟨i, rfl, h⟩
theorem make_pB (n : Nat) (hn : n ≤ 1048576) (w : World) : (Instr.makeSlice 84 (.int .i64 (n : Int)) (.int .i64 (n : Int))).run Tryz.prog w = .ok (.slice (some ⟨w.heap.size, 0, none⟩) n n) (w.alloc (.cells (madeCells #[.pointer none] n) 69)) := by
  obtain ⟨i0, hi, hz0, hz1, hz2⟩ := infoPB
  have := run_makeSlice w 84 69 i0 (.pointer none) Tryz.underlying84 hi hz0 .i64 .i64 (n : Int) (n : Int) (by omega) (by omega) (by rw [hz1]; simp; omega) (by rw [hz2]; omega) (by omega)
  rw [hz1] at this
  simpa [Value.cells] using this
/-- Rows under way: the first i made. -/
structure EmB (w : World) (m n i : Nat) (wr : World) : Prop where
  row : wr.heap[w.heap.size]? = some (.cells ((ksE w.heap.size i).map ptB ++ List.replicate (n - i) (Value.pointer none)).toArray 69)
  size : wr.heap.size = w.heap.size + 1 + 2 * i
  sb : ∀ j, j < i → SB wr (w.heap.size + 1 + 2 * j) m 0
  bel : Below w.heap.size w wr
theorem EmB.next {w wr w1 : World} {m n i : Nat} (h : EmB w m n i wr) (hi : i < n) (hs : SB w1 wr.heap.size m 0) (hb : Below wr.heap.size wr w1) (hz : w1.heap.size = wr.heap.size + 2) : EmB w m n (i + 1) (w1.setCell ⟨w.heap.size, i, none⟩ (ptB wr.heap.size)) := by
  have hsz := h.size
  have r1 : w1.heap[w.heap.size]? = some (.cells ((ksE w.heap.size i).map ptB ++ List.replicate (n - i) (Value.pointer none)).toArray 69) := (hb.block _ (by omega)).trans h.row
  refine ⟨?_, ?_, fun j hj => ?_, ?_⟩
  · rw [heap_set r1 i (ptB wr.heap.size), List.setIfInBounds_toArray]
    congr 3
    rw [hsz]
    apply List.ext_getElem?
    intro j
    rw [List.getElem?_set]
    have hl : ((ksE w.heap.size i).map ptB).length = i := by rw [List.length_map, ksE_len]
    have hl2 : ((ksE w.heap.size (i + 1)).map ptB).length = i + 1 := by rw [List.length_map, ksE_len]
    by_cases e : i = j
    · subst e
      rw [if_pos rfl, if_pos (by rw [List.length_append, hl, List.length_replicate]; omega), List.getElem?_append_left (by omega), List.getElem?_map, ksE_get (by omega)]
      rfl
    · rw [if_neg e]
      rcases Nat.lt_or_ge j i with q | q
      · rw [List.getElem?_append_left (by omega), List.getElem?_append_left (by omega), List.getElem?_map, List.getElem?_map, ksE_get q, ksE_get (by omega)]
      · rw [List.getElem?_append_right (by omega), List.getElem?_append_right (by omega), hl, hl2, List.getElem?_replicate, List.getElem?_replicate]
        by_cases z : j - i < n - i
        · rw [if_pos z, if_pos (by omega)]
        · rw [if_neg z, if_neg (by omega)]
  · have := (frB_setCell w1 w.heap.size i (ptB wr.heap.size)).size
    have e2 : (w1.setCell ⟨w.heap.size, i, none⟩ (ptB wr.heap.size)).heap.size = w1.heap.size := by simp
    rw [e2, hz, hsz]
    omega
  · have hf := frB_setCell w1 w.heap.size i (ptB wr.heap.size)
    by_cases e : j = i
    · subst e
      rw [← hsz]
      exact hs.frB hf (by omega) (by omega)
    · exact ((h.sb j (by omega)).later hb).frB hf (by omega) (by omega)
  · exact (h.bel.trans (hb.mono h.bel.size)).setCell (p := ⟨w.heap.size, i, none⟩) (Nat.le_refl _) _
theorem EmB.old {w wr w1 : World} {m n i : Nat} (h : EmB w m n i wr) (hi : i < n) (hb : Below wr.heap.size wr w1) : w1.cell? ⟨w.heap.size, i, none⟩ = some (.pointer none) := by
  have := (hb.block _ (by have := h.size; omega)).trans h.row
  rw [cellq_any this]
  have hl : ((ksE w.heap.size i).map ptB).length = i := by rw [List.length_map, ksE_len]
  simp only [List.getElem?_toArray]
  rw [List.getElem?_append_right (by omega), hl, List.getElem?_replicate, if_pos (by omega)]
theorem EmB.fin {w wr : World} {m n : Nat} (h : EmB w m n n wr) : RwB wr w.heap.size m (ksE w.heap.size n) (List.replicate n 0) := by
  refine ⟨?_, by rw [ksE_len, List.length_replicate], fun i k N hk hN => ?_, fun i j k hi hj => ?_⟩
  · have := h.row
    rw [Nat.sub_self, List.replicate_zero, List.append_nil] at this
    exact this
  · have hi : i < n := by have := (List.getElem?_eq_some_iff.1 hk).1; rwa [ksE_len] at this
    rw [ksE_get hi] at hk
    rw [List.getElem?_replicate, if_pos hi] at hN
    cases hk
    cases hN
    exact h.sb i hi
  · have hi' : i < n := by have := (List.getElem?_eq_some_iff.1 hi).1; rwa [ksE_len] at this
    have hj' : j < n := by have := (List.getElem?_eq_some_iff.1 hj).1; rwa [ksE_len] at this
    rw [ksE_get hi'] at hi
    rw [ksE_get hj', ← hi] at hj
    simp only [Option.some.injEq] at hj
    omega
set_option maxRecDepth 100000 in
set_option maxHeartbeats 4000000 in
theorem empties_SB (n m : Nat) (hn : n ≤ 4096) (hm : m ≤ 4096) (w : World) : Calls Tryz.prog 82 #[.int .i64 (n : Int), .int .i64 (m : Int)] w fun e w' => e = .returned (.slice (some ⟨w.heap.size, 0, none⟩) n n) ∧ RwB w' w.heap.size m (ksE w.heap.size n) (List.replicate n 0) ∧ Below w.heap.size w w' := by
  have hmk := make_pB n (by omega)
  have E0 : Hid (EmB w m n 0 (w.alloc (.cells (madeCells #[.pointer none] n) 69))) := by
    refine ⟨?_, by simp, fun j hj => absurd hj (Nat.not_lt_zero j), below_alloc w _⟩
    rw [heap_alloc_new, made_listB]
    rfl
  have HEM : Hid (∀ wr, Calls Tryz.prog 87 #[.int .i64 (m : Int)] wr fun e w' => e = .returned (.pointer (some ⟨wr.heap.size + 1, 0, none⟩)) ∧ SB w' wr.heap.size m 0 ∧ Below wr.heap.size wr w' ∧ w'.heap.size = wr.heap.size + 2) := fun wr => empty_SB m hm wr
  go_enter Tryz.func82, Tryz.ntmps82
  go_wp2
  clear hmk
  go_loopw [11] (fun z wr => ∃ i : Nat, i ≤ n ∧ z = .int .i64 (i : Int) ∧ EmB w m n i wr) (fun z _ => n - (intOf z).toNat)
  case atStart => exact ⟨0, Nat.zero_le _, rfl, E0.out⟩
  case round =>
    clear E0
    obtain ⟨i, hi, rfl, hE⟩ := hrel
    by_cases hlt : i < n
    · have ilt : (i : Int) < (n : Int) := by omega
      have HE : Hid (EmB w m n i wr) := hE
      have CC : Hid (∀ w1, Below wr.heap.size wr w1 → w1.cell? ⟨w.heap.size, i, none⟩ = some (.pointer none)) := fun w1 b1 => hE.old hlt b1
      have FZ : Hid (∀ w1, Below wr.heap.size wr w1 → w1.frozen? ⟨w.heap.size, i, none⟩ = false) := fun w1 b1 => by
        have := (b1.block _ (by have := hE.size; omega)).trans hE.row
        simp [World.frozen?, this]
      clear hE
      go_wp2_with (go_at_call 87; refine (HEM.out wr).mono ?_; rintro e w1 ⟨rfl, s1, b1, z1⟩; have HN : Hid (EmB w m n (i + 1) (w1.setCell ⟨w.heap.size, i, none⟩ (ptB wr.heap.size))) := HE.out.next hlt s1 b1 z1; have fz : w1.frozen? ⟨w.heap.size, i, none⟩ = false := FZ.out w1 b1; have cc := CC.out w1 b1; clear s1 b1 z1)
      go_roundw
      case rel => exact ⟨i + 1, by omega, by go_num, HN.out⟩
      case measure => simp [intOf]; omega
    · obtain rfl : i = n := by omega
      have ilt : ¬ (i : Int) < (i : Int) := by omega
      have HE : Hid (RwB wr w.heap.size m (ksE w.heap.size i) (List.replicate i 0) ∧ Below w.heap.size w wr) := ⟨hE.fin, hE.bel⟩
      clear hE
      go_wp2
      go_ret
      exact ⟨rfl, HE.out.1, HE.out.2⟩
end Go.Proofs.YtcgghlaifmlpiaaGreatDoor
