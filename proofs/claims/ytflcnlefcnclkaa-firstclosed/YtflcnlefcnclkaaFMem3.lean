import Derived.Test.YtflcnlefcnclkaaFMem2
import Derived.Test.YtflcnlefcnclkaaFBase
namespace Go.Proofs.Ytflcnlefcnclkaa
set_option linter.unusedVariables false
open Go.RowKit

/-- A list of numbers that fills its block. -/
def KB (w : World) (b : Nat) (K : List Int) : Prop := w.heap[b]? = some (.cells (K.map (Value.int .i64 ·)).toArray 3 (0, 0))
theorem KB.lt {w : World} {b : Nat} {K : List Int} (h : KB w b K) : b < w.heap.size := lt_of_block h
theorem KB.cell {w : World} {b : Nat} {K : List Int} (h : KB w b K) {i : Nat} (hi : i < K.length) : w.cell? ⟨b, i, none⟩ = some (.int .i64 (K.getD i 0)) := by
  rw [cellq_any h]
  simp [List.getD, hi]
theorem KB.free {w : World} {b : Nat} {K : List Int} (h : KB w b K) (i : Nat) : w.frozen? ⟨b, i, none⟩ = false := by
  unfold KB at h
  simp [World.frozen?, h]
theorem KB.set {w : World} {b : Nat} {K : List Int} (h : KB w b K) (i : Nat) (v : Int) : KB (w.setCell ⟨b, i, none⟩ (.int .i64 v)) b (K.set i v) := by
  unfold KB
  rw [heap_set h i (.int .i64 v), List.setIfInBounds_toArray, List.map_set]
theorem KB.kept {w w' : World} {b : Nat} {K : List Int} (h : KB w b K) (hb : w'.heap[b]? = w.heap[b]?) : KB w' b K := hb.trans h
theorem KB.later {w w' : World} {b : Nat} {K : List Int} (h : KB w b K) (hb : Below w.heap.size w w') : KB w' b K := h.kept (hb.block _ h.lt)
theorem KB.row {w : World} {b : Nat} {K : List Int} (h : KB w b K) : InRow w (some ⟨b, 0, none⟩) K := by
  intro _
  refine ⟨b, 0, rfl, h.lt, fun i hi => ?_⟩
  have := h.cell hi
  simpa using this
theorem made_listF (z : Value) (n : Nat) : madeCells #[z] n = (List.replicate n z).toArray := by
  apply Array.toList_inj.1
  exact toList_madeCells_one z n
theorem make_intF (n : Nat) (hn : n ≤ 1048576) (w : World) : (Instr.makeSlice 39 (.int .i64 (n : Int)) (.int .i64 (n : Int))).run Try.prog w = .ok (.slice (some ⟨w.heap.size, 0, none⟩) n n) (w.alloc (.cells (madeCells #[.int .i64 0] n) 3)) := by
  obtain ⟨i0, hi, hz0, hz1, hz2⟩ := infoInt_parts
  have := run_makeSlice w 39 3 i0 (.int .i64 0) Try.underlying39 hi hz0 .i64 .i64 (n : Int) (n : Int) (by omega) (by omega) (by rw [hz1]; simp; omega) (by rw [hz2]; omega) (by omega)
  rw [hz1] at this
  simpa [Value.cells] using this
theorem KB.made (w : World) (n : Nat) : KB (w.alloc (.cells (madeCells #[.int .i64 0] n) 3)) w.heap.size (List.replicate n 0) := by
  unfold KB
  rw [heap_alloc_new, made_listF, List.map_replicate]
theorem gb_cells {g : GV} {b : Nat} {w' : World} (h : w'.heap[b]? = some (gBox g)) : w'.cell? ⟨b, 0, none⟩ = some (.slice g.ta g.ts.length g.tc) ∧ w'.cell? ⟨b, 1, none⟩ = some (.slice g.na g.ns.length g.nc) ∧ w'.cell? ⟨b, 2, none⟩ = some (.int .i64 g.start) ∧ w'.cell? ⟨b, 3, none⟩ = some (.slice g.pa g.ps.length g.pc) ∧ w'.cell? ⟨b, 4, none⟩ = some (.slice g.la g.ls.length g.lc) :=
  ⟨(cellq_any h).trans rfl, (cellq_any h).trans rfl, (cellq_any h).trans rfl, (cellq_any h).trans rfl, (cellq_any h).trans rfl⟩
/-- One symbol fits. -/
def fit1 (K : List Int) (most : Nat) (s : Int × Int) : Bool := decide (s.1 = 2) && decide (K.getD s.2.toNat 0 ≠ 0) && decide (K.getD s.2.toNat 0 ≤ (most : Int))
theorem fitU_no {K : List Int} {l : List (Int × Int)} {most k : Nat} (hk : k < l.length) (h : fit1 K most (l.getD k (0, 0)) = false) : fitU K l most = false := by
  unfold fitU
  rw [List.all_eq_false]
  refine ⟨l.getD k (0, 0), by simp [List.getD, hk], ?_⟩
  unfold fit1 at h
  simpa using h
theorem fitU_yes {K : List Int} {l : List (Int × Int)} {most : Nat} (h : ∀ k, k < l.length → fit1 K most (l.getD k (0, 0)) = true) : fitU K l most = true := by
  unfold fitU
  rw [List.all_eq_true]
  intro s hs
  obtain ⟨k, hk, rfl⟩ := List.getElem_of_mem hs
  have := h k hk
  simp only [List.getD, List.getElem?_eq_getElem hk, Option.getD_some] at this
  exact this
set_option maxRecDepth 100000 in
set_option maxHeartbeats 2000000 in
theorem fit_S (kb c : Nat) (K : List Int) (la : Option Addr) (lc : Nat) (l : List (Int × Int)) (most : Nat) (w : World) (hK : KB w kb K) (hl : SymRow w la l) (hll : l.length ≤ 1048576) (hr : ∀ s ∈ l, s.1 = 2 → 0 ≤ s.2 ∧ s.2 < K.length) :
    Calls Try.prog 45 #[.slice (some ⟨kb, 0, none⟩) K.length c, .slice la l.length lc, .int .i64 most] w fun e w' => e = .returned (.bool (fitU K l most)) ∧ Below w.heap.size w w' := by
  have HK : Hid (∀ w', Below w.heap.size w w' → KB w' kb K) := fun w' hb => hK.later hb
  have HL : Hid (∀ w', Below w.heap.size w w' → SymRow w' la l) := fun w' hb => hl.later (Nat.le_refl _) hb
  have HR : Hid (∀ s ∈ l, s.1 = 2 → 0 ≤ s.2 ∧ s.2 < K.length) := hr
  have HF : Hid (∀ k, k < l.length → fit1 K most (l.getD k (0, 0)) = false → fitU K l most = false) := fun k hk h => fitU_no hk h
  have HY : Hid ((∀ k, k < l.length → fit1 K most (l.getD k (0, 0)) = true) → fitU K l most = true) := fitU_yes
  clear hK hl hr
  generalize hX : fitU K l most = X at *
  clear hX
  go_enter Try.func45, Try.ntmps45
  go_wp2
  go_loopw [11] (fun z wr => ∃ k : Nat, k ≤ l.length ∧ z = .int .i64 k ∧ (∀ j, j < k → fit1 K most (l.getD j (0, 0)) = true) ∧ Below w.heap.size w wr) (fun z _ => l.length - (intOf z).toNat)
  case atStart => exact ⟨0, Nat.zero_le _, rfl, fun j hj => absurd hj (Nat.not_lt_zero j), Below.refl _ _⟩
  case round =>
    obtain ⟨k, hk, rfl, hf, hb⟩ := hrel
    by_cases hlt : k < l.length
    · obtain ⟨b, o, rfl, hbl, hc⟩ := (HL.out wr hb) (by intro e; rw [e] at hlt; simp at hlt)
      obtain ⟨c0, c1⟩ := hc k hlt
      have hm : l.getD k (0, 0) ∈ l := by simp [List.getD, hlt]
      have hin := HR.out _ hm
      have HN : Hid (fit1 K most (l.getD k (0, 0)) = false → X = false) := HF.out k hlt
      have HB : Hid (Below w.heap.size w wr ∧ ∀ j, j < k → fit1 K most (l.getD j (0, 0)) = true) := ⟨hb, hf⟩
      have klt : (k : Int) < (l.length : Int) := by omega
      have HS : Hid (∀ x, l.getD k (0, 0) = x → fit1 K most x = true → ∀ j, j < k + 1 → fit1 K most (l.getD j (0, 0)) = true) := fun x hx h j hj => by
        by_cases e : j = k
        · subst e; rw [hx]; exact h
        · exact hf j (by omega)
      generalize hx : l.getD k (0, 0) = x at *
      obtain ⟨x1, x2⟩ := x
      simp only at c0 c1 hin
      by_cases h2 : x1 = 2
      · obtain ⟨i0, i1⟩ := hin h2
        subst h2
        obtain ⟨m, rfl⟩ : ∃ m : Nat, x2 = (m : Int) := ⟨x2.toNat, by omega⟩
        have kc := ((HK.out wr hb).later (below_alloc wr (.cells #[.int .i64 2, .int .i64 (m : Int)] 68))).cell (i := m) (by omega)
        have e2 : ((2 : Int) != 2) = false := by decide
        have V : Hid (fit1 K most (2, (m : Int)) = (decide (K.getD m 0 ≠ 0) && decide (K.getD m 0 ≤ (most : Int)))) := by show _ = _; simp [fit1]
        have hm2 : m < K.length := by omega
        generalize hv : K.getD m 0 = v at *
        by_cases h3 : v = 0
        · have e3 : (v == 0) = true := by simp [h3]
          have R : Hid (X = false) := HN.out (by rw [V.out]; simp [h3])
          clear hc hb hf hm hx hv
          go_wp2
          go_ret
          exact ⟨by rw [R.out]; rfl, HB.out.1.trans ((below_alloc _ _).mono HB.out.1.size)⟩
        · have e3 : (v == 0) = false := by simp [h3]
          by_cases h4 : v > (most : Int)
          · have R : Hid (X = false) := HN.out (by rw [V.out]; simp [h3]; omega)
            clear hc hb hf hm hx hv
            go_wp2
            go_ret
            exact ⟨by rw [R.out]; rfl, HB.out.1.trans ((below_alloc _ _).mono HB.out.1.size)⟩
          · have e4 : ¬ v > (most : Int) := h4
            have R : Hid (∀ j, j < k + 1 → fit1 K most (l.getD j (0, 0)) = true) := HS.out _ rfl (by rw [V.out]; simp [h3]; omega)
            clear hc hb hf hm hx hv
            go_wp2
            go_roundw
            case rel => exact ⟨k + 1, by omega, by go_num, R.out, HB.out.1.trans ((below_alloc _ _).mono HB.out.1.size)⟩
            case measure => simp [intOf]; omega
      · have e2 : (x1 != 2) = true := by simp [h2]
        have R : Hid (X = false) := HN.out (by simp [fit1, h2])
        clear hc hb hf hm hx
        go_wp2
        go_ret
        exact ⟨by rw [R.out]; rfl, HB.out.1.trans ((below_alloc _ _).mono HB.out.1.size)⟩
    · obtain rfl : k = l.length := by omega
      have R : Hid (X = true) := HY.out hf
      have HB : Hid (Below w.heap.size w wr) := hb
      clear hb hf
      go_wp2
      go_ret
      exact ⟨by rw [R.out]; rfl, HB.out⟩
end Go.Proofs.Ytflcnlefcnclkaa
