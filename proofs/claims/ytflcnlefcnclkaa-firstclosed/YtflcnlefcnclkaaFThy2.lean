import Derived.Test.YtflcnlefcnclkaaFThy
namespace Go.Proofs.Ytflcnlefcnclkaa
set_option linter.unusedVariables false
open Go.RowKit

/-- What the lists of the grammar keep to. -/
structure GP (g : GV) : Prop where
  left : ∀ p ∈ g.ps, 0 ≤ p.left ∧ p.left < g.ns.length
  sym : ∀ p ∈ g.ps, ∀ s ∈ p.right, (s.1 = 1 ∧ 0 ≤ s.2 ∧ s.2 < g.ts.length) ∨ (s.1 = 2 ∧ 0 ≤ s.2 ∧ s.2 < g.ns.length)
  tl : g.ts.length ≤ 64
theorem FG.gp {w : World} {g : GV} (h : FG w g) : GP g := ⟨h.left, h.sym, h.tl.2⟩
theorem GP.symIn {g : GV} (h : GP g) {N : List Bool} (hN : N.length = g.ns.length) : ∀ p ∈ g.ps, ∀ s ∈ p.right, SymIn N.length s := fun p hp s hs => by
  have := h.tl
  rcases h.sym p hp s hs with q | q
  · exact .inl ⟨q.1, q.2.1, by omega⟩
  · exact .inr ⟨q.1, q.2.1, by omega⟩
theorem psD {g : GV} {j : Nat} (hj : j < g.ps.length) : g.ps.getD j .none ∈ g.ps := by simp [List.getD, hj]
theorem LeastF.closed {g : GV} {F : List BS} (hg : GP g) (h : LeastF g F) : ClosF (nullU g.ps g.ns.length) g.ps F := by
  obtain ⟨k, _, h2, _, h4⟩ := h
  exact fix_closed h2 (fun p hp => by have := hg.left p hp; omega)
theorem LeastF.below {g : GV} {F : List BS} (hg : GP g) (h : LeastF g F) : ∀ i n, n < 128 → hasS (F.getD i (0, 0)) n = true → n < g.ts.length := by
  obtain ⟨k, rfl, _⟩ := h
  refine iter_all _ (fun p hp s hs e => ?_) k
  have := hg.tl
  rcases hg.sym p hp s hs with q | q <;> omega
/-- The least claims are taken. -/
theorem LeastF.chk {g : GV} {F : List BS} (hg : GP g) (h : LeastF g F) : chkF (nullU g.ps g.ns.length) (listsU F) g.ps g.ts.length = (0, 0) := by
  have hok : ∀ i, OkS (F.getD i (0, 0)) := by obtain ⟨k, _, _, h3, _⟩ := h; exact h3
  have hlen : (listsU F).length = F.length := by simp [listsU]
  have e1 : firstO (badL (listsU F) g.ts.length) (listsU F).length = none := firstO_none (fun j hj => by
    rw [hlen] at hj
    have e : (listsU F).getD j [] = listS (F.getD j (0, 0)) 128 := by simp [listsU, List.getD, hj]
    unfold badL
    rw [e, rise_list]
    have : allB (listS (F.getD j (0, 0)) 128) g.ts.length = true := List.all_eq_true.2 (fun x hx => by
      have q := (listS_mem _ 128 x).1 hx
      have := h.below hg j x.toNat (by omega) q.2.2
      simp [below1]
      omega)
    rw [this]
    rfl)
  have e2 : firstO (badP (nullU g.ps g.ns.length) ((listsU F).map setS) g.ps) g.ps.length = none := firstO_none (fun j hj => by
    rw [sets_lists hok]
    have hm := psD hj
    have hc := h.closed hg _ hm
    unfold badP
    have : withS (ofS (nullU g.ps g.ns.length) F (g.ps.getD j .none).right (0, 0)) (F.getD (g.ps.getD j .none).left.toNat (0, 0)) = F.getD (g.ps.getD j .none).left.toNat (0, 0) := (within_iff (ofS_ok hok _ _ (hg.symIn (nullU_len _ _) _ hm) OkS.zero) (hok _)).2 hc
    rw [decide_eq_true this]
    rfl)
  rw [chkF, e1, e2]
theorem nullU_iff {g : GV} (i : Nat) : (nullU g.ps g.ns.length).getD i false = true ↔ (htU g.ps g.ns.length g.ns.length).getD i 0 ≠ 0 := by
  by_cases hi : i < g.ns.length
  · rw [nullU_get _ _ _ hi]
    have := (htU_bd g.ps g.ns.length g.ns.length i).1
    rw [decide_eq_true_eq]
    omega
  · have a : (nullU g.ps g.ns.length).getD i false = false := by simp [List.getD, List.getElem?_eq_none (show (nullU g.ps g.ns.length).length ≤ i by rw [nullU_len]; omega)]
    have b : (htU g.ps g.ns.length g.ns.length).getD i 0 = 0 := by simp [List.getD, List.getElem?_eq_none (show (htU g.ps g.ns.length g.ns.length).length ≤ i by rw [htU_len]; omega)]
    rw [a, b]; simp
theorem null_chk {g : GV} (hg : GP g) : chkN (nullU g.ps g.ns.length) g.ps = (0, 0) := firstV_none (fun j hj => by
  have hm := psD hj
  generalize g.ps.getD j .none = p at *
  unfold violN
  by_cases h : allN (nullU g.ps g.ns.length) p.right = true
  · have : (nullU g.ps g.ns.length).getD p.left.toNat false = true := (nullU_iff _).2 (htU_closed g.ps g.ns.length hg.left p hm (fun s hs => by
      have := List.all_eq_true.1 h s hs
      simp only [null1, Bool.and_eq_true, decide_eq_true_eq] at this
      exact ⟨this.1, (nullU_iff _).1 this.2⟩))
    rw [this]; rfl
  · rw [show allN (nullU g.ps g.ns.length) p.right = false by simpa using h]; simp) _ (Nat.le_refl _)
theorem firstV_zero {v : PV → Bool} {er : Int} (he : er ≠ 0) {ps : List PV} : ∀ k, k ≤ ps.length → (firstV v er ps k).1 = 0 → ∀ j, ps.length - k ≤ j → j < ps.length → v (ps.getD j .none) = false
  | 0, _, _, j, h1, h2 => by omega
  | k + 1, hk, h, j, h1, h2 => by
    rw [firstV] at h
    split at h
    · exact absurd h he
    · rename_i hv
      by_cases e : j = ps.length - (k + 1)
      · rw [e]; simpa using hv
      · exact firstV_zero he k (by omega) h j (by omega) h2
/-- Every claim that CheckNullable takes has the least. -/
theorem null_least {g : GV} {N : List Bool} (h : (chkN N g.ps).1 = 0) : ∀ i, (nullU g.ps g.ns.length).getD i false = true → N.getD i false = true := fun i hi => by
  have hv := firstV_zero (v := violN N) (er := 61) (by decide) g.ps.length (Nat.le_refl _) h
  refine htU_least g.ps g.ns.length (fun i => N.getD i false = true) (fun p hp hr => ?_) g.ns.length i ((nullU_iff i).1 hi)
  obtain ⟨j, hj, rfl⟩ := List.getElem_of_mem hp
  have := hv j (by omega) hj
  rw [show g.ps.getD j .none = g.ps[j] by simp [List.getD, hj]] at this
  unfold violN at this
  have ha : allN N g.ps[j].right = true := List.all_eq_true.2 (fun s hs => by
    have := hr s hs
    simp only [null1, Bool.and_eq_true, decide_eq_true_eq]
    exact this)
  rw [ha] at this
  simpa using this
/-- What CheckFirst takes is closed, and its lists are in range. -/
theorem chkF_zero {g : GV} (hg : GP g) {N : List Bool} {L : List (List Int)} (hN : N.length = g.ns.length) (h : (chkF N L g.ps g.ts.length).1 = 0) : ClosF N g.ps (L.map setS) ∧ ∀ l ∈ L, ∀ x ∈ l, 0 ≤ x ∧ x < g.ts.length := by
  have z1 : firstO (badL L g.ts.length) L.length = none := by
    cases e : firstO (badL L g.ts.length) L.length with
    | none => rfl
    | some x =>
      exfalso
      rw [chkF, e] at h
      have : ∀ n, firstO (badL L g.ts.length) n = some x → x.1 ≠ 0 := fun n => by
        induction n with
        | zero => intro q; cases q
        | succ n ih =>
          intro q
          rw [firstO] at q
          cases e2 : firstO (badL L g.ts.length) n with
          | some y => rw [e2] at q; simp only [Option.some.injEq] at q; subst q; exact ih e2
          | none =>
            rw [e2] at q
            simp only [badL] at q
            split at q
            · cases q; simp
            · split at q
              · cases q; simp
              · cases q
      exact this _ e h
  have z2 : firstO (badP N (L.map setS) g.ps) g.ps.length = none := by
    cases e : firstO (badP N (L.map setS) g.ps) g.ps.length with
    | none => rfl
    | some x =>
      exfalso
      rw [chkF, z1, e] at h
      have : ∀ n, firstO (badP N (L.map setS) g.ps) n = some x → x.1 ≠ 0 := fun n => by
        induction n with
        | zero => intro q; cases q
        | succ n ih =>
          intro q
          rw [firstO] at q
          cases e2 : firstO (badP N (L.map setS) g.ps) n with
          | some y => rw [e2] at q; simp only [Option.some.injEq] at q; subst q; exact ih e2
          | none =>
            rw [e2] at q
            simp only [badP] at q
            split at q
            · cases q; simp
            · cases q
      exact this _ e h
  have hr : ∀ l ∈ L, ∀ x ∈ l, 0 ≤ x ∧ x < g.ts.length := fun l hl x hx => by
    obtain ⟨i, hi, rfl⟩ := List.getElem_of_mem hl
    have := firstO_inv z1 i hi
    unfold badL at this
    rw [show L.getD i [] = L[i] by simp [List.getD, hi]] at this
    by_cases q : allB L[i] g.ts.length = false
    · rw [if_pos q] at this; cases this
    · have := List.all_eq_true.1 (show allB L[i] g.ts.length = true by simpa using q) x hx
      simpa [below1] using this
  have hok : ∀ i, OkS ((L.map setS).getD i (0, 0)) := fun i => by
    have h64 := hg.tl
    by_cases hi : i < L.length
    · rw [show (L.map setS).getD i (0, 0) = setS L[i] by simp [List.getD, hi]]
      exact setS_ok (fun x hx => by have := hr _ (List.getElem_mem hi) x hx; omega)
    · rw [show (L.map setS).getD i (0, 0) = (0, 0) by simp [List.getD, show L.length ≤ i by omega]]
      exact OkS.zero
  refine ⟨fun p hp => ?_, hr⟩
  obtain ⟨j, hj, rfl⟩ := List.getElem_of_mem hp
  have := firstO_inv z2 j hj
  unfold badP at this
  rw [show g.ps.getD j .none = g.ps[j] by simp [List.getD, hj]] at this
  split at this
  · cases this
  · rename_i q
    exact (within_iff (ofS_ok hok _ _ (hg.symIn hN _ hp) OkS.zero) (hok _)).1 (by simpa using q)
/-- What First answers is part of every list that CheckFirst takes. -/
theorem least_part {g : GV} {F : List BS} (hg : GP g) (h : LeastF g F) {N : List Bool} {L : List (List Int)} (hN : N.length = g.ns.length) (h1 : (chkN N g.ps).1 = 0) (h2 : (chkF N L g.ps g.ts.length).1 = 0) (hL : L.length = g.ns.length) : ∀ k, k < g.ns.length → ∀ x ∈ (listsU F).getD k [], x ∈ L.getD k [] := fun k hk x hx => by
  obtain ⟨hc, hr⟩ := chkF_zero hg hN h2
  have hFl : F.length = g.ns.length := by obtain ⟨_, _, _, _, e⟩ := h; exact e
  rw [show (listsU F).getD k [] = listS (F.getD k (0, 0)) 128 by simp [listsU, List.getD, show k < F.length by omega]] at hx
  have q := (listS_mem _ 128 x).1 hx
  have := h.within (null_least h1) hc k x.toNat (by omega) q.2.2
  rw [show (L.map setS).getD k (0, 0) = setS (L.getD k []) by simp [List.getD, show k < L.length by omega]] at this
  have hm : L.getD k [] ∈ L := by simp [List.getD, show k < L.length by omega]
  have h64 := hg.tl
  have := (setS_has (fun x hx => by have := hr _ hm x hx; omega) x.toNat (by omega)).1 this
  rwa [show ((x.toNat : Nat) : Int) = x by omega] at this
end Go.Proofs.Ytflcnlefcnclkaa
