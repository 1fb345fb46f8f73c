import Derived.Test.YtmpdgmigpjfcpaaDoorBY3
namespace Go.Proofs.YtmpdgmigpjfcpaaDoor
set_option linter.unusedVariables false
open Go.RowKit
/-- One behind the other by edges. -/
def chE (Ns : List Nat) (n : Nat) (l : List Nat) : Prop := ∀ i, i + 1 < l.length → EdB Ns n (l.getD i 0) (l.getD (i + 1) 0)
theorem last_get {l : List Nat} (h : l ≠ []) : l.getLastD 0 = l.getD (l.length - 1) 0 := by
  have hl : 0 < l.length := List.length_pos_iff.2 h
  rw [List.getD_eq_getElem?_getD, List.getElem?_eq_getElem (by omega), Option.getD_some, List.getLastD_eq_getLast?, List.getLast?_eq_getElem?, List.getElem?_eq_getElem (by omega)]
  rfl
theorem chE.snoc {Ns l : List Nat} {n y : Nat} (h : chE Ns n l) (hl : l ≠ []) (e : EdB Ns n (l.getLastD 0) y) : chE Ns n (l ++ [y]) := by
  intro i hi
  rw [List.length_append, List.length_singleton] at hi
  have h0 : 0 < l.length := List.length_pos_iff.2 hl
  have g1 : (l ++ [y]).getD i 0 = l.getD i 0 := by
    rw [List.getD_eq_getElem?_getD, List.getD_eq_getElem?_getD, List.getElem?_append_left (by omega)]
  rw [g1]
  rcases Nat.lt_or_ge (i + 1) l.length with q | q
  · have g2 : (l ++ [y]).getD (i + 1) 0 = l.getD (i + 1) 0 := by
      rw [List.getD_eq_getElem?_getD, List.getD_eq_getElem?_getD, List.getElem?_append_left (by omega)]
    rw [g2]
    exact h i q
  · have e1 : i + 1 = l.length := by omega
    have g2 : (l ++ [y]).getD (i + 1) 0 = y := by
      rw [List.getD_eq_getElem?_getD, List.getElem?_append_right (by omega), e1, Nat.sub_self]
      rfl
    rw [g2]
    rw [last_get hl] at e
    have : l.length - 1 = i := by omega
    rw [this] at e
    exact e
theorem arF_ok {Ns R : List Nat} {n x A : Nat} (hR : BfR Ns n x A R) : ∀ (f : Nat) (l : List Nat), l ≠ [] → R.getD (l.getLastD 0) 0 = f + 1 → chE Ns n l → (∀ z ∈ l, 0 < R.getD z 0) →
    arF Ns R n f l ≠ [] ∧ (arF Ns R n f l).length = l.length + f ∧ (arF Ns R n f l).getD 0 0 = l.getD 0 0 ∧ chE Ns n (arF Ns R n f l) ∧ (∀ z ∈ arF Ns R n f l, 0 < R.getD z 0) ∧ EdB Ns n ((arF Ns R n f l).getLastD 0) x
  | 0, l, hl, hlast, hc, hp => by
    refine ⟨hl, rfl, rfl, hc, hp, ?_⟩
    obtain ⟨_, h⟩ := hR.one (l.getLastD 0) (by omega)
    rcases h with h | ⟨y, _, _, h1, h2⟩
    · exact h.2
    · omega
  | f + 1, l, hl, hlast, hc, hp => by
    obtain ⟨_, h⟩ := hR.one (l.getLastD 0) (by omega)
    rcases h with h | ⟨v, _, hv, h1, h2⟩
    · omega
    · have hmem : v ∈ bitsU (Ns.getD (l.getLastD 0) 0) n := bitsU_mem.2 ⟨hv.2.1, hv.2.2⟩
      have hs : arS Ns R n (f + 1) l = l ++ [((bitsU (Ns.getD (l.getLastD 0) 0) n).find? (fun y => decide (R.getD y 0 = f + 1))).getD 0] ∧ ∃ y, (bitsU (Ns.getD (l.getLastD 0) 0) n).find? (fun y => decide (R.getD y 0 = f + 1)) = some y := by
        unfold arS
        cases e : (bitsU (Ns.getD (l.getLastD 0) 0) n).find? (fun y => decide (R.getD y 0 = f + 1)) with
        | none =>
          have := List.find?_eq_none.1 e v hmem
          simp only [decide_eq_true_iff] at this
          omega
        | some y => exact ⟨rfl, y, rfl⟩
      obtain ⟨hs, y, hy⟩ := hs
      rw [hy] at hs
      simp only [Option.getD_some] at hs
      have hy1 : R.getD y 0 = f + 1 := by simpa using List.find?_some hy
      have hy2 := bitsU_mem.1 (List.mem_of_find?_eq_some hy)
      have ey : EdB Ns n (l.getLastD 0) y := ⟨hv.1, hy2.1, hy2.2⟩
      have hll : (l ++ [y]).getLastD 0 = y := by simp
      have ih := arF_ok hR f (l ++ [y]) (by simp) (by rw [hll]; exact hy1) (hc.snoc hl ey) (fun z hz => by
        rcases List.mem_append.1 hz with q | q
        · exact hp z q
        · rw [List.mem_singleton.1 q]; omega)
      show arF Ns R n f (arS Ns R n (f + 1) l) ≠ [] ∧ (arF Ns R n f (arS Ns R n (f + 1) l)).length = _ ∧ (arF Ns R n f (arS Ns R n (f + 1) l)).getD 0 0 = _ ∧ chE Ns n (arF Ns R n f (arS Ns R n (f + 1) l)) ∧ (∀ z ∈ arF Ns R n f (arS Ns R n (f + 1) l), 0 < R.getD z 0) ∧ EdB Ns n ((arF Ns R n f (arS Ns R n (f + 1) l)).getLastD 0) x
      rw [hs]
      refine ⟨ih.1, by rw [ih.2.1, List.length_append, List.length_singleton]; omega, ?_, ih.2.2.2.1, ih.2.2.2.2.1, ih.2.2.2.2.2⟩
      rw [ih.2.2.1, List.getD_eq_getElem?_getD, List.getD_eq_getElem?_getD, List.getElem?_append_left (List.length_pos_iff.2 hl)]
/-- The cycle that is told is there, and begins with its lowest number. -/
theorem ar_ok {Ns R : List Nat} {n x : Nat} (hR : BfR Ns n x (loN x) R) (hp : 0 < R.getD x 0) : 0 < (arU Ns R n x).length ∧ (arU Ns R n x).getD 0 0 = x ∧ (∀ i, i < (arU Ns R n x).length → EdB Ns n ((arU Ns R n x).getD i 0) ((arU Ns R n x).getD ((i + 1) % (arU Ns R n x).length) 0) ∧ x ≤ (arU Ns R n x).getD i 0) := by
  have h := arF_ok hR (R.getD x 0 - 1) [x] (by simp) (by simp only [List.getLastD_cons, List.getLastD_nil]; omega) (fun i hi => by simp at hi) (fun z hz => by rw [List.mem_singleton.1 hz]; exact hp)
  obtain ⟨h1, h2, h3, h4, h5, h6⟩ := h
  have hl : 0 < (arU Ns R n x).length := List.length_pos_iff.2 h1
  have h3' : (arU Ns R n x).getD 0 0 = x := h3
  refine ⟨hl, h3', fun i hi => ⟨?_, ?_⟩⟩
  · rcases Nat.lt_or_ge (i + 1) (arU Ns R n x).length with q | q
    · rw [Nat.mod_eq_of_lt q]
      exact h4 i q
    · have e : i + 1 = (arU Ns R n x).length := by omega
      rw [e, Nat.mod_self, h3']
      have h6' : EdB Ns n ((arU Ns R n x).getLastD 0) x := h6
      rw [last_get (l := arU Ns R n x) h1] at h6'
      have : (arU Ns R n x).length - 1 = i := by omega
      have h7 : EdB Ns n ((arU Ns R n x).getD ((arU Ns R n x).length - 1) 0) x := h6'
      rw [this] at h7
      exact h7
  · have hm : (arU Ns R n x).getD i 0 ∈ arU Ns R n x := by
      rw [List.getD_eq_getElem?_getD, List.getElem?_eq_getElem hi]
      exact List.getElem_mem hi
    have := (hR.one _ (h5 _ hm)).1
    rw [loN_bit] at this
    have := of_decide_eq_false this
    omega
end Go.Proofs.YtmpdgmigpjfcpaaDoor
