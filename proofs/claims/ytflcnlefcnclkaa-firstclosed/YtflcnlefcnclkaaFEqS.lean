import Derived.Test.YtflcnlefcnclkaaFMem6
import Derived.Deep.QuietTactic
import Derived.BigQuiet
import Derived.Lib.SliceRun
namespace Go.Proofs.Ytflcnlefcnclkaa
set_option linter.unusedVariables false
open Go.RowKit

/-- Sets that can be read. -/
def SRd (w : World) (b : Nat) (F : List BS) : Prop := b < w.heap.size ∧ ∀ i, i < F.length → w.cell? ⟨b, i * 2, none⟩ = some (.int .u64 ((F.getD i (0, 0)).1 : Int)) ∧ w.cell? ⟨b, i * 2 + 1, none⟩ = some (.int .u64 ((F.getD i (0, 0)).2 : Int))
theorem SRd.later {w w' : World} {b : Nat} {F : List BS} (h : SRd w b F) (hb : Below w.heap.size w w') : SRd w' b F :=
  ⟨Nat.lt_of_lt_of_le h.1 hb.size, fun i hi => ⟨(hb.cell (p := ⟨b, i * 2, none⟩) h.1).trans (h.2 i hi).1, (hb.cell (p := ⟨b, i * 2 + 1, none⟩) h.1).trans (h.2 i hi).2⟩⟩
theorem SBk.rd {w : World} {b : Nat} {F : List BS} (h : SBk w b F) : SRd w b F := ⟨h.lt, fun _ hi => h.cell hi⟩
set_option maxRecDepth 100000 in
set_option maxHeartbeats 4000000 in
theorem equal_S (a b ca cb : Nat) (F G : List BS) (w : World) (hF : SRd w a F) (hG : SRd w b G) (hl : G.length = F.length) (hn : F.length ≤ 1048576) :
    Calls Try.prog 48 #[.slice (some ⟨a, 0, none⟩) F.length ca, .slice (some ⟨b, 0, none⟩) G.length cb] w fun e w' => e = .returned (.bool (decide (F = G))) ∧ Below w.heap.size w w' := by
  have HF : Hid (SRd w a F ∧ SRd w b G) := ⟨hF, hG⟩
  have HE : Hid (∀ k, k < F.length → F.getD k (0, 0) ≠ G.getD k (0, 0) → F ≠ G) := fun k _ h e => h (by rw [e])
  have HY : Hid ((∀ k, k < F.length → F.getD k (0, 0) = G.getD k (0, 0)) → F = G) := fun h => by
    apply List.ext_getElem hl.symm
    intro i h1 h2
    have := h i h1
    simpa [List.getD, h1, h2] using this
  rw [hl]
  clear hF hG
  generalize hX : decide (F = G) = X at *
  have HX : Hid (decide (F = G) = X) := hX
  clear hX
  go_enter Try.func48, Try.ntmps48
  go_wp2
  go_loopw [13] (fun z wr => ∃ k : Nat, k ≤ F.length ∧ z = .int .i64 k ∧ (∀ j, j < k → F.getD j (0, 0) = G.getD j (0, 0)) ∧ Below w.heap.size w wr) (fun z _ => F.length - (intOf z).toNat)
  case atStart => exact ⟨0, Nat.zero_le _, rfl, fun j hj => absurd hj (Nat.not_lt_zero j), Below.refl _ _⟩
  case round =>
    obtain ⟨k, hk, rfl, hf, hb⟩ := hrel
    by_cases hlt : k < F.length
    · obtain ⟨x0, x1⟩ := (HF.out.1.later hb).2 k hlt
      obtain ⟨y0, y1⟩ := (HF.out.2.later hb).2 k (by omega)
      have klt : (k : Int) < (F.length : Int) := by omega
      have HN : Hid (F.getD k (0, 0) ≠ G.getD k (0, 0) → F ≠ G) := HE.out k hlt
      have HS : Hid (F.getD k (0, 0) = G.getD k (0, 0) → ∀ j, j < k + 1 → F.getD j (0, 0) = G.getD j (0, 0)) := fun h j hj => by
        by_cases e : j = k
        · subst e; exact h
        · exact hf j (by omega)
      have HB : Hid (Below w.heap.size w wr) := hb
      generalize F.getD k (0, 0) = p at *
      generalize G.getD k (0, 0) = q at *
      obtain ⟨p1, p2⟩ := p
      obtain ⟨q1, q2⟩ := q
      have hq := eq_S p1 p2 q1 q2
      simp only at x0 x1 y0 y1
      clear hb hf
      by_cases h : (p1, p2) = (q1, q2)
      · have hd : decide ((p1, p2) = (q1, q2)) = true := by simpa using h
        simp only [hd] at hq
        have R : Hid (∀ j, j < k + 1 → F.getD j (0, 0) = G.getD j (0, 0)) := HS.out h
        go_wp2
        go_quiet (fail)
        go_wp2
        go_roundw
        case rel => exact ⟨k + 1, by omega, by go_num, R.out, by first | exact HB.out.drew | exact below_drewN HB.out _⟩
        case measure => simp [intOf]; omega
      · have hd : decide ((p1, p2) = (q1, q2)) = false := by simpa using h
        simp only [hd] at hq
        have R : Hid (X = false) := by show _ = _; rw [← HX.out]; exact decide_eq_false (HN.out h)
        go_wp2
        go_quiet (fail)
        go_wp2
        go_ret
        exact ⟨by rw [R.out]; rfl, by first | exact HB.out.drew | exact below_drewN HB.out _⟩
    · obtain rfl : k = F.length := by omega
      have R : Hid (X = true) := by show _ = _; rw [← HX.out]; exact decide_eq_true (HY.out hf)
      have HB : Hid (Below w.heap.size w wr) := hb
      clear hb hf
      go_wp2
      go_ret
      exact ⟨by rw [R.out]; rfl, HB.out⟩
theorem infoSet_parts : ∃ i, Try.prog.info? 63 = some i ∧ i.zero = some (.agg #[.int .u64 0, .int .u64 0]) ∧ i.size = 2 ∧ i.bytes = 16 := by
  have h : (Try.prog.info? 63).map (fun i => (i.zero, i.size, i.bytes)) = some (some (.agg #[.int .u64 0, .int .u64 0]), 2, 16) := by kernel_rfl
  cases e : Try.prog.info? 63 with
  | none => rw [e] at h; cases h
  | some i => rw [e] at h; simp at h; exact ⟨i, rfl, h⟩
theorem setCells_one (F : List BS) : ∀ u ∈ setCells F, u.oneCell' = true := by
  intro u hu
  unfold setCells at hu
  obtain ⟨s, _, hs⟩ := List.mem_flatMap.1 hu
  simp at hs
  rcases hs with rfl | rfl <;> rfl
set_option maxRecDepth 100000 in
set_option maxHeartbeats 1000000 in
theorem clone_set (b c : Nat) (F : List BS) (w : World) (hF : SRd w b F) (hn : F.length ≤ 1048576) (hne : F ≠ []) :
    Calls Try.prog 47 #[.slice (some ⟨b, 0, none⟩) F.length c] w fun e w' => ∃ b' c', e = .returned (.slice (some ⟨b', 0, none⟩) F.length c') ∧ SRd w' b' F ∧ w.heap.size ≤ b' ∧ Below w.heap.size w w' := by
  have hnl := fun wx a n c => Lib.run_eql_slice_nil (P := Try.prog) (w := wx) 48 63 a n c 0 0 Try.underlying48
  have HH : Hid (∀ u ∈ setCells F, u.oneCell' = true) := setCells_one F
  have hcc : Hid (∀ j u, (setCells F)[j]? = some u → (w.alloc (.cells #[] 63)).cell? ((⟨b, 0, none⟩ : Addr).add j) = some u) := fun j u hu => by
    rw [add_none, Nat.zero_add]
    have hj : j < F.length * 2 := by
      have := (List.getElem?_eq_some_iff.1 hu).1
      rwa [setCells_len] at this
    have h1 := hF.2 (j / 2) (by omega)
    have h2 := setCells_get F (j / 2) (by omega)
    refine ((below_alloc w _).cell (p := ⟨b, j, none⟩) hF.1).trans ?_
    rcases (show j = j / 2 * 2 ∨ j = j / 2 * 2 + 1 by omega) with e | e
    · rw [e] at hu ⊢; rw [h2.1] at hu; rw [← hu]; exact h1.1
    · rw [e] at hu ⊢; rw [h2.2] at hu; rw [← hu]; exact h1.2
  have HNE : Hid (F.length ≠ 0) := fun e => hne (List.eq_nil_of_length_eq_zero e)
  obtain ⟨i0, hi, hz0, hz1, hz2⟩ := infoSet_parts
  have hsl := setCells_len F
  clear hF hne
  go_enter Try.func47, Try.ntmps47
  go_wp2_with (at_builtin; refine wpList_append_own_at _ rfl _ _ 48 rfl w.heap.size 63 i0 _ 2 16 Try.underlying48 hi hz0 hz1 hz2 rfl (by decide) _ 0 [] rfl (World.ownsRow_made w #[] 0 (Nat.le_refl _) (Nat.zero_le _) rfl) ⟨b, 0, none⟩ F.length c (setCells F) rfl hsl hcc.out HH.out (by unfold maxLen; omega) (by omega) (by simp) ?_)
  intro v' w1 hown hgrow hnil _
  go_wp2
  go_ret
  obtain ⟨g, cap, cur, rfl, hb1, hblk, hcap, htk⟩ : ∃ g cap cur, v' = .slice (some ⟨g, 0, none⟩) F.length cap ∧ w.heap.size ≤ g ∧ w1.heap[g]? = some (.cells cur 63 (0, 0)) ∧ cur.size = cap * 2 ∧ cur.toList.take (F.length * 2) = setCells F := by
    rcases hown.2 with ⟨e, _⟩ | ⟨g, cap, cur, e, h1, h2, h3, h4, h5, h6⟩
    · exact absurd e hnil
    · exact ⟨g, cap, cur, by simpa using e, h1, h2, h5, by simpa using h6⟩
  refine ⟨g, cap, rfl, ⟨lt_of_block hblk, fun i hi => ?_⟩, hb1, (below_alloc w _).grown hgrow (by simp) (fun k e => by simp [Value.ownBlock] at e; omega)⟩
  obtain ⟨h1, h2⟩ := setCells_get F i hi
  rw [← htk, List.getElem?_take_of_lt (by omega)] at h1 h2
  rw [cellq_any hblk, cellq_any hblk]
  exact ⟨by simpa using h1, by simpa using h2⟩
end Go.Proofs.Ytflcnlefcnclkaa
