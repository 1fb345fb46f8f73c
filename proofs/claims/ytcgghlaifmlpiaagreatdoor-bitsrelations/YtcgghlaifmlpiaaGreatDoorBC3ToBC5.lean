import Derived.Test.YtcgghlaifmlpiaaGreatDoorBC2
namespace Go.Proofs.YtcgghlaifmlpiaaGreatDoor
set_option linter.unusedVariables false
open Go.RowKit Go.Shelf

/-- Ways of k steps to x over numbers not below x. -/
def WkG (e : Nat → Nat → Prop) (x : Nat) : Nat → Nat → Prop
  | 0, y => y = x
  | k + 1, y => x ≤ y ∧ ∃ z, e y z ∧ WkG e x k z
theorem WkG.ge {e : Nat → Nat → Prop} {x k y : Nat} (h : WkG e x k y) : x ≤ y := by
  cases k with
  | zero => have : y = x := h; omega
  | succ k => exact h.1
theorem WkG.congr {e e' : Nat → Nat → Prop} (he : ∀ a b, e a b ↔ e' a b) {x : Nat} : ∀ {k y : Nat}, WkG e x k y ↔ WkG e' x k y
  | 0, _ => Iff.rfl
  | k + 1, y => by
    constructor
    · rintro ⟨h1, z, h2, h3⟩; exact ⟨h1, z, (he _ _).1 h2, (WkG.congr he).1 h3⟩
    · rintro ⟨h1, z, h2, h3⟩; exact ⟨h1, z, (he _ _).2 h2, (WkG.congr he).2 h3⟩
/-- A search whose steps are the fewest. -/
structure JsB (Ns : List Nat) (n x most : Nat) (s : BfS) : Prop extends BfI Ns n x (loN x) s where
  ex : ∀ z, 0 < s.st.getD z 0 → WkG (EdB Ns n) x (s.st.getD z 0) z ∧ ∀ j, j < s.st.getD z 0 → ¬ WkG (EdB Ns n) x j z
  so : s.q.Pairwise fun u v => s.st.getD u 0 ≤ s.st.getD v 0
  nx : ∀ u ∈ s.q, s.st.getD u 0 ≤ s.st.getD (s.q.headD 0) 0 + 1
  fu : s.q ≠ [] → ∀ z j, j ≤ s.st.getD (s.q.headD 0) 0 → WkG (EdB Ns n) x j z → z = x ∨ 0 < s.st.getD z 0
  mo : s.q ≠ [] → most = 0 ∨ s.st.getD (s.q.headD 0) 0 + 1 ≤ most
section
variable {Ns Ms : List Nat} {n x most : Nat}
theorem JsB.first (hx : x < n) : JsB Ns n x most (bfS n x) := by
  refine ⟨BfI.first hx, fun z hz => ?_, ?_, fun u hu => ?_, fun _ z j hj hw => ?_, fun _ => ?_⟩
  · unfold bfS at hz
    rw [repl_get] at hz
    omega
  · unfold bfS; simp
  · unfold bfS at hu ⊢
    simp only [repl_get]
    omega
  · have : j = 0 := by
      unfold bfS at hj
      simp only [repl_get] at hj
      omega
    subst this
    exact .inl hw
  · unfold bfS
    simp only [repl_get]
    omega
/-- Who is a step from one that was done is found. -/
theorem JsB.done {s : BfS} (h : JsB Ns n x most s) {u z : Nat} (hu : u < n) (hd : u = x ∨ 0 < s.st.getD u 0) (hq : u ∉ s.q) (e : EdB Ns n z u) (hz : x ≤ z) : 0 < s.st.getD z 0 := by
  rcases (h.sn z).1 (h.cl u hu hd hq z e) with q | q
  · rw [loN_bit] at q
    have := of_decide_eq_true q
    omega
  · exact q
theorem WkG.lt {e : Nat} {k y : Nat} (h : WkG (EdB Ns n) e k y) (he : e < n) : y < n := by
  cases k with
  | zero => have : y = e := h; omega
  | succ k => obtain ⟨_, z, hz, _⟩ := h; exact hz.1
theorem JsB.push (hT : ∀ x y, x < n → y < n → (Ms.getD y 0).testBit x = (Ns.getD x 0).testBit y) {y S : Nat} {r st : List Nat} (h : JsB Ns n x most ⟨y :: r, S, st⟩) (h2 : lkB (minusB (Ms.getD y 0) S) n < n) (h3 : lkB (minusB (Ms.getD y 0) S) n ≠ x) : JsB Ns n x most ⟨y :: (r ++ [lkB (minusB (Ms.getD y 0) S) n]), addN S (lkB (minusB (Ms.getD y 0) S) n), st.set (lkB (minusB (Ms.getD y 0) S) n) (st.getD y 0 + 1)⟩ := by
  have hb := h.toBfI.push hT h2 h3
  obtain ⟨hz1, hz2⟩ := lk_new h2
  generalize lkB (minusB (Ms.getD y 0) S) n = z at *
  have hyn := (h.qn y (by simp)).1
  have hyd := (h.qn y (by simp)).2
  simp only at hyd
  have hed : EdB Ns n z y := ⟨h2, hyn, by rw [← hT z y h2 hyn]; exact hz1⟩
  have hlen : st.length = n := h.len
  have hst : ∀ u, (st.set z (st.getD y 0 + 1)).getD u 0 = if z = u then st.getD y 0 + 1 else st.getD u 0 := fun u => by
    rw [getD_setV]
    by_cases e : z = u
    · rw [if_pos e, if_pos ⟨e, by omega⟩]
    · rw [if_neg e, if_neg (fun q => e q.1)]
  have hzx : x ≤ z := by
    rcases Nat.lt_or_ge z x with q | q
    · have := (h.sn z).2 (.inl (by rw [loN_bit]; exact decide_eq_true q))
      simp only at this
      rw [hz2] at this
      cases this
    · exact q
  have hz0 : st.getD z 0 = 0 := by
    rcases Nat.eq_zero_or_pos (st.getD z 0) with q | q
    · exact q
    · have := (h.sn z).2 (.inr q)
      simp only at this
      rw [hz2] at this
      cases this
  have hyz : z ≠ y := fun e => by
    subst e
    rcases hyd with q | q
    · exact h3 q
    · omega
  have hwy : WkG (EdB Ns n) x (st.getD y 0) y := by
    rcases hyd with q | q
    · have := h.xz
      simp only at this
      rw [q, this]
      rfl
    · exact (h.ex y q).1
  have hfz : ∀ j, j ≤ st.getD y 0 → ¬ WkG (EdB Ns n) x j z := fun j hj hw => by
    rcases h.fu (by simp) z j hj hw with q | q
    · exact h3 q
    · simp only at q; omega
  have hzq : z ∉ y :: r := fun q => by
    rcases (h.qn z q).2 with e | e
    · exact h3 e
    · simp only at e; omega
  refine ⟨hb, fun u hu => ?_, ?_, fun u hu => ?_, fun _ u j hj hw => ?_, fun _ => ?_⟩
  · simp only [hst] at hu ⊢
    by_cases e : z = u
    · subst e
      rw [if_pos rfl]
      exact ⟨⟨hzx, y, hed, hwy⟩, fun j hj => hfz j (by omega)⟩
    · rw [if_neg e] at hu ⊢
      exact h.ex u hu
  · have hso := h.so
    simp only at hso
    have e1 : y :: (r ++ [z]) = (y :: r) ++ [z] := by simp
    simp only [e1]
    rw [List.pairwise_append]
    refine ⟨hso.imp_of_mem fun {u v} hu hv huv => ?_, by simp, fun u hu v hv => ?_⟩
    · rw [hst, hst, if_neg (fun e => hzq (by rw [e]; exact hu)), if_neg (fun e => hzq (by rw [e]; exact hv))]
      exact huv
    · have : v = z := by simpa using hv
      subst this
      rw [hst, hst, if_neg (fun e => hzq (by rw [e]; exact hu)), if_pos rfl]
      exact h.nx u hu
  · simp only [List.headD_cons, hst] at hu ⊢
    rw [if_neg hyz]
    by_cases e : z = u
    · rw [if_pos e]; omega
    · rw [if_neg e]
      refine h.nx u ?_
      rcases List.mem_cons.1 hu with q | q
      · rw [q]; exact List.mem_cons_self
      · rcases List.mem_append.1 q with q | q
        · exact List.mem_cons_of_mem _ q
        · exact absurd (by simpa using q : u = z).symm e
  · simp only [List.headD_cons, hst] at hj ⊢
    rw [if_neg hyz] at hj
    rcases h.fu (by simp) u j hj hw with q | q
    · exact .inl q
    · right
      by_cases e : z = u
      · rw [if_pos e]; omega
      · rw [if_neg e]; exact q
  · simp only [List.headD_cons, hst]
    rw [if_neg hyz]
    exact h.mo (by simp)
theorem JsB.pop (hT : ∀ x y, x < n → y < n → (Ms.getD y 0).testBit x = (Ns.getD x 0).testBit y) {y S : Nat} {r st : List Nat} (h : JsB Ns n x most ⟨y :: r, S, st⟩) (h1 : st.getD y 0 + 1 ≠ most) (h2 : ¬ lkB (minusB (Ms.getD y 0) S) n < n) : JsB Ns n x most ⟨r, S, st⟩ := by
  have hb := h.toBfI.pop hT h2
  have hso := h.so
  simp only [List.pairwise_cons] at hso
  refine ⟨hb, h.ex, hso.2, fun u hu => ?_, fun hr z j hj hw => ?_, fun hr => ?_⟩
  · cases r with
    | nil => cases hu
    | cons y' r =>
      have a1 := h.nx u (List.mem_cons_of_mem _ hu)
      have a2 := hso.1 y' (by simp)
      simp only [List.headD_cons] at a1 ⊢
      omega
  · cases r with
    | nil => exact absurd rfl hr
    | cons y' r =>
      simp only [List.headD_cons] at hj
      have a1 := h.nx y' (by simp)
      simp only [List.headD_cons] at a1
      rcases Nat.lt_or_ge (st.getD y 0) j with q | q
      · have hj' : j = st.getD y 0 + 1 := by omega
        subst hj'
        obtain ⟨hzx, u, he, hu⟩ := hw
        have hd := h.fu (by simp) u (st.getD y 0) (Nat.le_refl _) hu
        simp only at hd
        have hul : st.getD u 0 ≤ st.getD y 0 := by
          rcases hd with e | e
          · have := h.xz
            simp only at this
            rw [e, this]
            exact Nat.zero_le _
          · rcases Nat.lt_or_ge (st.getD y 0) (st.getD u 0) with q2 | q2
            · exact absurd hu ((h.ex u e).2 _ q2)
            · exact q2
        have hur : u ∉ y' :: r := fun q2 => by
          have : st.getD y' 0 ≤ st.getD u 0 := by
            rcases List.mem_cons.1 q2 with e | e
            · rw [e]; exact Nat.le_refl _
            · exact (List.pairwise_cons.1 hso.2).1 u e
          omega
        right
        have hr2 : z = x ∨ x ≤ z := .inr hzx
        rcases (hb.sn z).1 (hb.cl u he.2.1 hd hur z he) with q2 | q2
        · rw [loN_bit] at q2
          have := of_decide_eq_true q2
          omega
        · exact q2
      · exact h.fu (by simp) z j q hw
  · cases r with
    | nil => exact absurd rfl hr
    | cons y' r =>
      have a1 := h.nx y' (by simp)
      have a2 := h.mo (by simp)
      simp only [List.headD_cons] at a1 a2 ⊢
      omega
/-- No way round that is shorter than the next one's steps. -/
theorem JsB.none {y S : Nat} {r st : List Nat} (h : JsB Ns n x most ⟨y :: r, S, st⟩) {j : Nat} (hj : 0 < j) (hl : j ≤ st.getD y 0) : ¬ WkG (EdB Ns n) x j x := fun hw => by
  obtain ⟨j, rfl⟩ : ∃ i, j = i + 1 := ⟨j - 1, by omega⟩
  obtain ⟨_, u, he, hu⟩ := hw
  have hd := h.fu (by simp) u j (by simp only [List.headD_cons]; omega) hu
  simp only at hd
  have hul : st.getD u 0 ≤ j := by
    rcases hd with e | e
    · have := h.xz
      simp only at this
      rw [e, this]
      exact Nat.zero_le _
    · rcases Nat.lt_or_ge j (st.getD u 0) with q2 | q2
      · exact absurd hu ((h.ex u e).2 _ q2)
      · exact q2
  have hso := h.so
  simp only [List.pairwise_cons] at hso
  have huq : u ∉ y :: r := fun q2 => by
    have : st.getD y 0 ≤ st.getD u 0 := by
      rcases List.mem_cons.1 q2 with e | e
      · rw [e]; exact Nat.le_refl _
      · exact hso.1 u e
    omega
  have := h.done he.2.1 hd huq he (Nat.le_refl _)
  have hx := h.xz
  simp only at this hx
  omega
/-- What a search answers. -/
def BxR (Ns : List Nat) (n x most : Nat) (R : List Nat) : Prop :=
  (R.getD x 0 = 0 ∧ ∀ j, 0 < j → (most = 0 ∨ j < most) → ¬ WkG (EdB Ns n) x j x) ∨
  (0 < R.getD x 0 ∧ WkG (EdB Ns n) x (R.getD x 0) x ∧ (∀ j, 0 < j → j < R.getD x 0 → ¬ WkG (EdB Ns n) x j x) ∧ (most = 0 ∨ R.getD x 0 < most) ∧ (∀ z k, z ≠ x → k < R.getD x 0 → WkG (EdB Ns n) x k z → 0 < R.getD z 0 ∧ R.getD z 0 ≤ k) ∧ (∀ z, z ≠ x → 0 < R.getD z 0 → WkG (EdB Ns n) x (R.getD z 0) z))
theorem JsB.run (hT : ∀ x y, x < n → y < n → (Ms.getD y 0).testBit x = (Ns.getD x 0).testBit y) : ∀ (k : Nat) (s : BfS), mesQ n s ≤ k → JsB Ns n x most s → BxR Ns n x most (bfU Ms n x most s)
  | k, ⟨[], S, st⟩, _, h => by
    rw [bfU_nil]
    refine .inl ⟨h.xz, fun j hj _ hw => ?_⟩
    have all : ∀ k z, WkG (EdB Ns n) x k z → z = x ∨ 0 < st.getD z 0 := by
      intro k
      induction k with
      | zero => intro z hz; exact .inl hz
      | succ k ih =>
        rintro z ⟨hzx, u, he, hu⟩
        exact .inr (h.done he.2.1 (ih u hu) (by simp) he hzx)
    obtain ⟨j, rfl⟩ : ∃ i, j = i + 1 := ⟨j - 1, by omega⟩
    obtain ⟨_, u, he, hu⟩ := hw
    have := h.done he.2.1 (all j u hu) (by simp) he (Nat.le_refl _)
    have hx := h.xz
    simp only at this hx
    omega
  | 0, ⟨y :: r, S, st⟩, hk, _ => by
    unfold mesQ at hk
    simp only [List.length_cons] at hk
    omega
  | k + 1, ⟨y :: r, S, st⟩, hk, h => by
    rw [bfU_cons]
    by_cases h1 : st.getD y 0 + 1 = most
    · rw [if_pos h1]
      refine .inl ⟨h.xz, fun j hj hm => h.none hj (by omega)⟩
    · rw [if_neg h1]
      by_cases h2 : lkB (minusB (Ms.getD y 0) S) n < n
      · rw [if_pos h2]
        by_cases h3 : lkB (minusB (Ms.getD y 0) S) n = x
        · rw [if_pos h3]
          have hx0 := h.xz
          simp only at hx0
          have hlen : st.length = n := h.len
          have hxn := h.xn
          have hyn := (h.qn y (by simp)).1
          have hyd := (h.qn y (by simp)).2
          simp only at hyd
          have hst : ∀ u, (st.set x (st.getD y 0 + 1)).getD u 0 = if x = u then st.getD y 0 + 1 else st.getD u 0 := fun u => by
            rw [getD_setV]
            by_cases e : x = u
            · rw [if_pos e, if_pos ⟨e, by omega⟩]
            · rw [if_neg e, if_neg (fun q => e q.1)]
          have hed : EdB Ns n x y := ⟨hxn, hyn, by
            obtain ⟨hz1, _⟩ := lk_new h2
            rw [h3] at hz1
            rw [← hT x y hxn hyn]; exact hz1⟩
          have hwy : WkG (EdB Ns n) x (st.getD y 0) y := by
            rcases hyd with q | q
            · rw [q, hx0]; rfl
            · exact (h.ex y q).1
          refine .inr ⟨by rw [hst, if_pos rfl]; omega, ?_, fun j hj hl => ?_, ?_, fun z k hz hk hw => ?_, fun z hz hp => ?_⟩
          · rw [hst, if_pos rfl]
            exact ⟨Nat.le_refl _, y, hed, hwy⟩
          · rw [hst, if_pos rfl] at hl
            exact h.none hj (by omega)
          · rw [hst, if_pos rfl]
            have := h.mo (by simp)
            simp only [List.headD_cons] at this
            omega
          · rw [hst, if_pos rfl] at hk
            rw [hst, if_neg (fun e => hz e.symm)]
            rcases h.fu (by simp) z k (by simp only [List.headD_cons]; omega) hw with q | q
            · exact absurd q hz
            · refine ⟨q, ?_⟩
              rcases Nat.lt_or_ge k (st.getD z 0) with q2 | q2
              · exact absurd hw ((h.ex z q).2 _ q2)
              · exact q2
          · rw [hst, if_neg (fun e => hz e.symm)] at hp ⊢
            exact (h.ex z hp).1
        · rw [if_neg h3]
          have := mesQ_push (y := y) (r := r) (st := st) (st' := st.set (lkB (minusB (Ms.getD y 0) S) n) (st.getD y 0 + 1)) h2 (lk_new h2).2
          exact JsB.run hT k _ (by omega) (h.push hT h2 h3)
      · rw [if_neg h2]
        refine JsB.run hT k _ ?_ (h.pop hT h1 h2)
        unfold mesQ at hk ⊢
        simp only [List.length_cons] at hk ⊢
        omega
theorem bf_exact (hT : ∀ x y, x < n → y < n → (Ms.getD y 0).testBit x = (Ns.getD x 0).testBit y) (hx : x < n) : BxR Ns n x most (bfU Ms n x most (bfS n x)) := JsB.run hT _ _ (Nat.le_refl _) (JsB.first hx)
end
end Go.Proofs.YtcgghlaifmlpiaaGreatDoor
namespace Go.Proofs.YtcgghlaifmlpiaaGreatDoor
set_option linter.unusedVariables false
open Go.RowKit Go.Shelf

/-- The cycle so far: the shortest of all, and the first of these. -/
structure CxI (Ns : List Nat) (n i : Nat) (s : Nat × Nat × List Nat) : Prop where
  have_ : (s = (0, 0, []) ∧ ∀ k, k < i → ∀ j, 0 < j → ¬ WkG (EdB Ns n) k j k) ∨ (s.1 < i ∧ 0 < s.2.1 ∧ s.2.2.getD s.1 0 = s.2.1 ∧ (∃ most, BxR Ns n s.1 most s.2.2) ∧ ∀ k, k < i → ∀ j, 0 < j → WkG (EdB Ns n) k j k → s.2.1 ≤ j ∧ (k < s.1 → s.2.1 < j))
theorem CxI.next {Ns Ms : List Nat} {n x : Nat} {s : Nat × Nat × List Nat} (hT : ∀ x y, x < n → y < n → (Ms.getD y 0).testBit x = (Ns.getD x 0).testBit y) (hx : x < n) (h : CxI Ns n x s) : CxI Ns n (x + 1) (if 0 < (bfU Ms n x s.2.1 (bfS n x)).getD x 0 then (x, (bfU Ms n x s.2.1 (bfS n x)).getD x 0, bfU Ms n x s.2.1 (bfS n x)) else s) := by
  have hB := bf_exact (most := s.2.1) hT hx
  have hB2 := hB
  refine ⟨?_⟩
  rcases hB with ⟨h0, hno⟩ | ⟨h0, hw, hmin, hmo, _, _⟩
  · rw [if_neg (by omega)]
    rcases h.have_ with ⟨hs, hall⟩ | ⟨a1, a2, a3, a4, a5⟩
    · left
      refine ⟨hs, fun k hk j hj hw => ?_⟩
      rcases Nat.lt_or_ge k x with q | q
      · exact hall k q j hj hw
      · obtain rfl : k = x := by omega
        exact hno j hj (.inl (by rw [hs])) hw
    · right
      refine ⟨by omega, a2, a3, a4, fun k hk j hj hw => ?_⟩
      rcases Nat.lt_or_ge k x with q | q
      · exact a5 k q j hj hw
      · obtain rfl : k = x := by omega
        refine ⟨?_, fun q2 => by omega⟩
        rcases Nat.lt_or_ge j s.2.1 with q3 | q3
        · exact absurd hw (hno j hj (.inr q3))
        · exact q3
  · rw [if_pos h0]
    right
    refine ⟨Nat.lt_succ_self x, h0, rfl, ⟨_, hB2⟩, fun k hk j hj hwk => ?_⟩
    rcases Nat.lt_or_ge k x with q | q
    · rcases h.have_ with ⟨_, hall⟩ | ⟨a1, a2, a3, a4, a5⟩
      · exact absurd hwk (hall k q j hj)
      · have := (a5 k q j hj hwk).1
        simp only
        omega
    · obtain rfl : k = x := by omega
      refine ⟨?_, fun q2 => by simp only at q2; omega⟩
      simp only
      rcases Nat.lt_or_ge j ((bfU Ms n k s.2.1 (bfS n k)).getD k 0) with q3 | q3
      · exact absurd hwk (hmin j hj q3)
      · exact q3
theorem CxI.run {Ns Ms : List Nat} {n : Nat} (hT : ∀ x y, x < n → y < n → (Ms.getD y 0).testBit x = (Ns.getD x 0).testBit y) : ∀ (d i : Nat) (s : Nat × Nat × List Nat), i + d = n → CxI Ns n i s → CxI Ns n n (cyF Ms n (List.range' i d) s)
  | 0, i, s, hi, h => by
    obtain rfl : i = n := by omega
    exact h
  | d + 1, i, s, hi, h => by
    rw [List.range'_succ]
    exact CxI.run hT d (i + 1) _ (by omega) (h.next hT (by omega))
theorem cx_all {Ns Ms : List Nat} {n : Nat} (hT : ∀ x y, x < n → y < n → (Ms.getD y 0).testBit x = (Ns.getD x 0).testBit y) : CxI Ns n n (cyF Ms n (List.range n) (0, 0, [])) := by
  have h := CxI.run (Ns := Ns) hT n 0 (0, 0, []) (by omega) ⟨.inl ⟨rfl, fun k hk => absurd hk (Nat.not_lt_zero k)⟩⟩
  rwa [← List.range_eq_range'] at h
/-- The next one back: the lowest with an edge to it that has k steps left. -/
def nxC (E : List (Int × Int)) (n : Nat) (Cs : List (List Bool)) (k a : Nat) : Option Nat := (List.range n).find? fun b => decide (((a : Int), (b : Int)) ∈ E) && (Cs.getD k []).getD b false
/-- Back to x by k steps. -/
def bkC (E : List (Int × Int)) (n : Nat) (Cs : List (List Bool)) : Nat → Nat → List Nat
  | 0, _ => []
  | k + 1, a => a :: bkC E n Cs k ((nxC E n Cs k a).getD 0)
theorem bkC_len (E : List (Int × Int)) (n : Nat) (Cs : List (List Bool)) : ∀ k a, (bkC E n Cs k a).length = k
  | 0, _ => rfl
  | k + 1, a => by
    show (bkC E n Cs k _).length + 1 = _
    rw [bkC_len E n Cs k]
/-- A matrix that tells the ways to x, as far as m steps. -/
structure CnR (E : List (Int × Int)) (n x m : Nat) (Cs : List (List Bool)) : Prop where
  bit : ∀ k y, k ≤ m → y < n → ((Cs.getD k []).getD y false = true ↔ WkG (EdE E) x k y)
theorem last_snoc (l : List Nat) (y : Nat) : (l ++ [y]).getLastD 0 = y := by
  simp
section
variable {E : List (Int × Int)} {Ns : List Nat} {n x m most : Nat} {R : List Nat} {Cs : List (List Bool)}
theorem find_same {p q : Nat → Bool} {n : Nat} (h : ∀ b, b < n → p b = q b) : (List.range n).find? p = (List.range n).find? q := by
  have : ∀ l : List Nat, (∀ b ∈ l, p b = q b) → l.find? p = l.find? q := by
    intro l
    induction l with
    | nil => intro _; rfl
    | cons a l ih =>
      intro hl
      rw [List.find?_cons, List.find?_cons, hl a (by simp), ih (fun b hb => hl b (List.mem_cons_of_mem _ hb))]
  exact this _ fun b hb => h b (List.mem_range.1 hb)
theorem ar_step (hN : RelB E n Ns) (hok : E.all (okE n) = true) (hR : BxR Ns n x most R) (hm : R.getD x 0 = m) (hp : 0 < m) (hC : CnR E n x m Cs) {f d u : Nat} (hd : d + (f + 2) = m) (hu : u < n) (hxu : x ≤ u) (hs : ∀ j, WkG (EdB Ns n) x j u → WkG (EdB Ns n) x (d + j) x) :
    (bitsU (Ns.getD u 0) n).find? (fun y => decide (R.getD y 0 = f + 1)) = nxC E n Cs (f + 1) u := by
  unfold bitsU nxC
  rw [List.find?_filter]
  refine find_same fun b hb => ?_
  rcases hR with ⟨h0, _⟩ | ⟨_, hw, hmin, _, hfar, hex⟩
  · omega
  rw [hm] at hw hmin hfar
  rw [Bool.eq_iff_iff, Bool.and_eq_true, decide_eq_true_iff, decide_eq_true_iff, decide_eq_true_iff, hC.bit (f + 1) b (by omega) hb]
  have hee : (Ns.getD u 0).testBit b = true ↔ ((u : Int), (b : Int)) ∈ E := by
    have := ed_same hN hok u b
    constructor
    · intro q; exact this.1 ⟨hu, hb, q⟩
    · intro q; exact (this.2 q).2.2
  rw [hee]
  refine and_congr_right fun he => ?_
  have heb : EdB Ns n u b := (ed_same hN hok u b).2 he
  rw [← WkG.congr (fun a c => ed_same hN hok a c)]
  constructor
  · intro q
    by_cases e : b = x
    · subst e; omega
    · have := hex b e (by omega)
      rwa [q] at this
  · intro q
    have hbx : b ≠ x := fun e => by
      subst e
      exact hmin (f + 1) (by omega) (by omega) q
    obtain ⟨q1, q2⟩ := hfar b (f + 1) hbx (by omega) q
    rcases Nat.lt_or_ge (R.getD b 0) (f + 1) with q3 | q3
    · exfalso
      have h1 := hex b hbx q1
      have h2 : WkG (EdB Ns n) x (R.getD b 0 + 1) u := ⟨hxu, b, heb, h1⟩
      exact hmin (d + (R.getD b 0 + 1)) (by omega) (by omega) (hs _ h2)
    · omega
theorem ar_back (hN : RelB E n Ns) (hok : E.all (okE n) = true) (hR : BxR Ns n x most R) (hm : R.getD x 0 = m) (hp : 0 < m) (hC : CnR E n x m Cs) : ∀ (f d u : Nat) (l : List Nat), d + (f + 1) = m → u < n → x ≤ u → (∀ j, WkG (EdB Ns n) x j u → WkG (EdB Ns n) x (d + j) x) → WkG (EdB Ns n) x (f + 1) u → arF Ns R n f (l ++ [u]) = l ++ bkC E n Cs (f + 1) u
  | 0, d, u, l, _, _, _, _, _ => rfl
  | f + 1, d, u, l, hd, hu, hxu, hs, hw => by
    show arF Ns R n f (arS Ns R n (f + 1) (l ++ [u])) = l ++ u :: bkC E n Cs (f + 1) ((nxC E n Cs (f + 1) u).getD 0)
    have hst := ar_step hN hok hR hm hp hC hd hu hxu hs
    obtain ⟨_, b, heb, hwb⟩ := hw
    have hbn := heb.2.1
    have hsome : (nxC E n Cs (f + 1) u).isSome = true := by
      unfold nxC
      rw [List.find?_isSome]
      refine ⟨b, List.mem_range.2 hbn, ?_⟩
      rw [Bool.and_eq_true, decide_eq_true_iff, hC.bit (f + 1) b (by omega) hbn]
      exact ⟨(ed_same hN hok u b).1 heb, (WkG.congr (fun a c => ed_same hN hok a c)).1 hwb⟩
    obtain ⟨y, hy⟩ := Option.isSome_iff_exists.1 hsome
    have hyp := List.find?_some hy
    have hyn : y < n := List.mem_range.1 (List.mem_of_find?_eq_some hy)
    rw [Bool.and_eq_true, decide_eq_true_iff, hC.bit (f + 1) y (by omega) hyn, ← WkG.congr (fun a c => ed_same hN hok a c)] at hyp
    have hey : EdB Ns n u y := (ed_same hN hok u y).2 hyp.1
    rw [hy] at hst ⊢
    have e1 : arS Ns R n (f + 1) (l ++ [u]) = l ++ [u] ++ [y] := by
      unfold arS
      rw [last_snoc, hst]
    rw [e1, ar_back hN hok hR hm hp hC f (d + 1) y (l ++ [u]) (by omega) hyn (WkG.ge hyp.2) (fun j hj => by
      have := hs (j + 1) ⟨hxu, y, hey, hj⟩
      rwa [show d + 1 + j = d + (j + 1) by omega]) hyp.2]
    simp
theorem ar_is (hN : RelB E n Ns) (hok : E.all (okE n) = true) (hx : x < n) (hR : BxR Ns n x most R) (hm : R.getD x 0 = m) (hp : 0 < m) (hC : CnR E n x m Cs) : arU Ns R n x = bkC E n Cs m x := by
  have hw : WkG (EdB Ns n) x m x := by
    rcases hR with ⟨h0, _⟩ | ⟨_, hw, _⟩
    · omega
    · rwa [hm] at hw
  unfold arU
  rw [hm]
  obtain ⟨f, rfl⟩ : ∃ f, m = f + 1 := ⟨m - 1, by omega⟩
  have := ar_back hN hok hR hm hp hC f 0 x [] (by omega) hx (Nat.le_refl _) (fun j hj => by rwa [Nat.zero_add]) hw
  simpa using this
end
/-- Where all are placed nobody goes round. -/
theorem place_none {Ns : List Nat} {n : Nat} (h : (placeU Ns n).length = n) {x j : Nat} (hj : 0 < j) : ¬ WkG (EdB Ns n) x j x := fun hw => by
  obtain ⟨P, hP, _⟩ := place_is Ns n
  have hall := nodup_all hP.nd hP.lt h
  have down : ∀ u v, EdB Ns n u v → (placeU Ns n).idxOf v < (placeU Ns n).idxOf u := fun u v e => by
    obtain ⟨A, B, hAB⟩ := List.append_of_mem (hall u e.1)
    have hv := hP.od A u B hAB v e
    have huA : u ∉ A := fun q => by
      have := hP.nd
      rw [hAB, List.nodup_append] at this
      exact this.2.2 u q u (by simp) rfl
    rw [hAB, List.idxOf_append, List.idxOf_append, if_pos hv, if_neg huA]
    have := List.idxOf_lt_length_of_mem hv
    simp
    omega
  have key : ∀ k y, WkG (EdB Ns n) x k y → (placeU Ns n).idxOf x + k ≤ (placeU Ns n).idxOf y := by
    intro k
    induction k with
    | zero => intro y hy; have : y = x := hy; rw [this]; omega
    | succ k ih =>
      rintro y ⟨_, z, he, hz⟩
      have := ih z hz
      have := down y z he
      omega
  have := key j x hw
  omega
end Go.Proofs.YtcgghlaifmlpiaaGreatDoor
namespace Go.Proofs.YtcgghlaifmlpiaaGreatDoor
set_option linter.unusedVariables false
open Go.RowKit Go.Shelf

/-- The page's matrix under way: its first x rows. -/
structure MyR (B r n x : Nat) (w : World) (ks : List Nat) (Rs : List (List Bool)) (wr : World) : Prop where
  row : wr.heap[B]? = some (.cells ((ks.map fun k => Value.slice (some ⟨k, 0, none⟩) n n) ++ List.replicate (r - x) (Value.slice none 0 0)).toArray 91)
  kl : ks.length = x
  rl : Rs.length = x
  xn : x ≤ r
  nd : ks.Nodup
  blk : ∀ (j k : Nat) (R : List Bool), ks[j]? = some k → Rs[j]? = some R → B ≤ k ∧ R.length = n ∧ wr.heap[k]? = some (.cells (R.map Value.bool).toArray 4)
  bel : Below B w wr
section
variable {B r n x : Nat} {w wr w' : World} {ks : List Nat} {Rs : List (List Bool)}
theorem MyR.any (h : MyR B r n x w ks Rs wr) (hb : Below wr.heap.size wr w') : MyR B r n x w ks Rs w' :=
  ⟨(hb.block _ (lt_of_block h.row)).trans h.row, h.kl, h.rl, h.xn, h.nd, fun j k R hk hR => by
    obtain ⟨h1, h2, h3⟩ := h.blk j k R hk hR
    exact ⟨h1, h2, (hb.block _ (lt_of_block h3)).trans h3⟩, h.bel.trans (hb.mono (by have := lt_of_block h.row; omega))⟩
/-- A list of numbers beside it grows. -/
theorem MyR.grew {v v' : Value} {l : List Int} (h : MyR B r n x w ks Rs wr) (hv : IRo wr v l) (ho : ∀ j, v.ownBlock = some j → B ≤ j) (g : Grew wr w' v v') : MyR B r n x w ks Rs w' :=
  ⟨(g.grown.block _ (lt_of_block h.row) (hv.neR h.row (by decide))).trans h.row, h.kl, h.rl, h.xn, h.nd, fun j k R hk hR => by
    obtain ⟨h1, h2, h3⟩ := h.blk j k R hk hR
    exact ⟨h1, h2, (g.grown.block _ (lt_of_block h3) (hv.neR h3 (by decide))).trans h3⟩, h.bel.grown g.grown (by have := lt_of_block h.row; omega) ho⟩
theorem MyR.at (h : MyR B r n x w ks Rs wr) {j : Nat} (hj : j < x) : ∃ k R, ks[j]? = some k ∧ Rs[j]? = some R ∧ R = Rs.getD j [] ∧ R.length = n ∧ wr.cell? ⟨B, j, none⟩ = some (.slice (some ⟨k, 0, none⟩) n n) ∧ wr.heap[k]? = some (.cells (R.map Value.bool).toArray 4) := by
  have hk : ks[j]? = some (ks[j]'(by rw [h.kl]; exact hj)) := List.getElem?_eq_getElem _
  have hR : Rs[j]? = some (Rs[j]'(by rw [h.rl]; exact hj)) := List.getElem?_eq_getElem _
  obtain ⟨h1, h2, h3⟩ := h.blk j _ _ hk hR
  refine ⟨_, _, hk, hR, by simp [List.getD, hR], h2, ?_, h3⟩
  rw [cellq_any h.row]
  simp only [List.getElem?_toArray]
  rw [List.getElem?_append_left (by simp [h.kl]; exact hj), List.getElem?_map, hk]
  rfl
/-- A truth is put into row j. -/
theorem MyR.put (h : MyR B r n x w ks Rs wr) {j k z : Nat} {R : List Bool} (hk : ks[j]? = some k) (hR : Rs[j]? = some R) (b : Bool) : MyR B r n x w ks (Rs.set j (R.set z b)) (wr.setCell ⟨k, z, none⟩ (.bool b)) := by
  obtain ⟨h1, h2, h3⟩ := h.blk j k R hk hR
  have hne : B ≠ k := fun e => by
    subst e
    rw [h.row] at h3
    simp only [Option.some.injEq, Obj.cells.injEq] at h3
    exact absurd h3.2.1 (by decide)
  have hf := frB_setCell wr k z (Value.bool b)
  refine ⟨(hf.block _ (lt_of_block h.row) hne).trans h.row, h.kl, by rw [List.length_set]; exact h.rl, h.xn, h.nd, fun j' k' R' hk' hR' => ?_, h.bel.setCell h1 _⟩
  have hjl : j < Rs.length := (List.getElem?_eq_some_iff.1 hR).1
  by_cases e : j = j'
  · subst e
    rw [hk] at hk'
    obtain rfl := Option.some.inj hk'
    rw [List.getElem?_set_self hjl] at hR'
    obtain rfl := Option.some.inj hR'
    refine ⟨h1, by rw [List.length_set]; exact h2, ?_⟩
    rw [heap_set h3, List.setIfInBounds_toArray, List.map_set]
  · rw [List.getElem?_set_ne e] at hR'
    obtain ⟨q1, q2, q3⟩ := h.blk j' k' R' hk' hR'
    have hkk : k' ≠ k := fun ek => by
      subst ek
      have a1 := (List.getElem?_eq_some_iff.1 hk)
      have a2 := (List.getElem?_eq_some_iff.1 hk')
      have nd := List.pairwise_iff_getElem.1 h.nd
      rcases Nat.lt_or_gt_of_ne e with q | q
      · exact nd j j' a1.1 a2.1 q (a1.2.trans a2.2.symm)
      · exact nd j' j a2.1 a1.1 q (a2.2.trans a1.2.symm)
    exact ⟨q1, q2, (hf.block _ (lt_of_block q3) hkk).trans q3⟩
/-- A new row. -/
theorem MyR.more (h : MyR B r n x w ks Rs wr) (hx : x < r) : MyR B r n (x + 1) w (ks ++ [wr.heap.size]) (Rs ++ [List.replicate n false]) ((wr.alloc (.cells (madeCells #[.bool false] n) 4)).setCell ⟨B, x, none⟩ (.slice (some ⟨wr.heap.size, 0, none⟩) n n)) := by
  have hB := lt_of_block h.row
  have ha := h.any (below_alloc wr (.cells (madeCells #[.bool false] n) 4))
  have hn := heap_alloc_new wr (.cells (madeCells #[.bool false] n) 4)
  have hf := frB_setCell (wr.alloc (.cells (madeCells #[.bool false] n) 4)) B x (.slice (some ⟨wr.heap.size, 0, none⟩) n n)
  refine ⟨?_, by simp [h.kl], by simp [h.rl], hx, ?_, fun j k R hk hR => ?_, ha.bel.setCell (Nat.le_refl _) _⟩
  · rw [heap_set ha.row, List.setIfInBounds_toArray]
    congr 3
    have hl : (ks.map fun k => Value.slice (some ⟨k, 0, none⟩) n n).length = x := by rw [List.length_map, h.kl]
    rw [List.set_append_right _ _ (by omega), hl, Nat.sub_self, List.map_append, List.append_assoc]
    congr 1
    rw [show r - x = (r - (x + 1)) + 1 by omega, List.replicate_succ]
    rfl
  · rw [List.nodup_append]
    refine ⟨h.nd, by simp, fun a ha b hb e => ?_⟩
    have e2 : a = wr.heap.size := by simp at hb; omega
    obtain ⟨j, hj⟩ := List.getElem?_of_mem ha
    have hjx : j < Rs.length := by rw [h.rl, ← h.kl]; exact (List.getElem?_eq_some_iff.1 hj).1
    have := lt_of_block (h.blk j a _ hj (List.getElem?_eq_getElem hjx)).2.2
    omega
  · rcases Nat.lt_or_ge j x with q | q
    · rw [List.getElem?_append_left (by rw [h.kl]; exact q)] at hk
      rw [List.getElem?_append_left (by rw [h.rl]; exact q)] at hR
      obtain ⟨q1, q2, q3⟩ := ha.blk j k R hk hR
      have hne : k ≠ B := fun e => by
        subst e
        rw [ha.row] at q3
        simp only [Option.some.injEq, Obj.cells.injEq] at q3
        exact absurd q3.2.1 (by decide)
      exact ⟨q1, q2, (hf.block _ (lt_of_block q3) hne).trans q3⟩
    · rw [List.getElem?_append_right (by rw [h.kl]; exact q)] at hk
      rw [List.getElem?_append_right (by rw [h.rl]; exact q)] at hR
      have h0 : j - ks.length = 0 := by have := (List.getElem?_eq_some_iff.1 hk).1; simp at this; omega
      rw [h0] at hk
      rw [show j - Rs.length = 0 by have := h.kl; have := h.rl; omega] at hR
      simp at hk hR
      subst hk hR
      refine ⟨by omega, by simp, ?_⟩
      rw [hf.block _ (lt_of_block hn) (by show wr.heap.size ≠ B; omega), hn, made_listR]
      simp
theorem MyR.old (h : MyR B r n x w ks Rs wr) (hx : x < r) (o : Obj) : (wr.alloc o).cell? ⟨B, x, none⟩ = some (.slice none 0 0) ∧ (wr.alloc o).frozen? ⟨B, x, none⟩ = false := by
  have r := (h.any (below_alloc wr o)).row
  refine ⟨?_, by simp [World.frozen?, r]⟩
  rw [cellq_any r]
  have hl : (ks.map fun k => Value.slice (some ⟨k, 0, none⟩) n n).length = x := by rw [List.length_map, h.kl]
  simp only [List.getElem?_toArray]
  rw [List.getElem?_append_right (by omega), hl, List.getElem?_replicate, if_pos (by omega)]
end
theorem MyR.grewG {α : Type} {τ : TypeId} {k : Nat} {f : α → List Value} {B r n x : Nat} {w wr w' : World} {ks : List Nat} {Rs : List (List Bool)} {v v' : Value} {l : List α} (h : MyR B r n x w ks Rs wr) (h1 : 91 ≠ τ) (h2 : 4 ≠ τ) (hv : RO τ k f wr v l) (ho : ∀ j, v.ownBlock = some j → B ≤ j) (g : Grew wr w' v v') : MyR B r n x w ks Rs w' :=
  ⟨(g.grown.block _ (lt_of_block h.row) (hv.neR h.row h1)).trans h.row, h.kl, h.rl, h.xn, h.nd, fun j k R hk hR => by
    obtain ⟨q1, q2, q3⟩ := h.blk j k R hk hR
    exact ⟨q1, q2, (g.grown.block _ (lt_of_block q3) (hv.neR q3 h2)).trans q3⟩, h.bel.grown g.grown (by have := lt_of_block h.row; omega) ho⟩

theorem getD_setLL (Rs : List (List Bool)) (k j : Nat) (R : List Bool) : (Rs.set k R).getD j [] = if k = j ∧ j < Rs.length then R else Rs.getD j [] := by
  rw [List.getD_eq_getElem?_getD, List.getD_eq_getElem?_getD, List.getElem?_set]
  by_cases h : k = j
  · subst h
    by_cases h2 : k < Rs.length
    · simp [h2]
    · simp [h2]
  · simp [h]
/-- Which ways the matrix tells: those of fewer than k steps; and of k steps by the first i edges. -/
structure CbI (E : List (Int × Int)) (n x sz k i : Nat) (Rs : List (List Bool)) : Prop where
  len : Rs.length = sz + 1
  row : ∀ j, j ≤ sz → (Rs.getD j []).length = n
  bit : ∀ j y, j ≤ sz → y < n → ((Rs.getD j []).getD y false = true ↔ (j < k ∧ WkG (EdE E) x j y) ∨ (j = k ∧ ∃ i' b : Nat, i' < i ∧ E[i']? = some ((y : Int), (b : Int)) ∧ x ≤ y ∧ WkG (EdE E) x (k - 1) b))
theorem CbI.start {E : List (Int × Int)} {n x sz : Nat} : CbI E n x sz 1 0 ((List.replicate (sz + 1) (List.replicate n false)).set 0 ((List.replicate n false).set x true)) := by
  refine ⟨by simp, fun j hj => ?_, fun j y hj hy => ?_⟩
  · rw [getD_setLL]
    split
    · simp
    · rw [List.getD_eq_getElem?_getD, List.getElem?_replicate, if_pos (by omega)]; simp
  · rw [getD_setLL]
    by_cases e : j = 0
    · subst e
      rw [if_pos ⟨rfl, by simp⟩, getD_setR, List.length_replicate]
      constructor
      · intro q
        left
        refine ⟨by omega, ?_⟩
        by_cases e : x = y ∧ y < n
        · exact e.1.symm
        · rw [if_neg e, repl_getR] at q; cases q
      · rintro (⟨_, q⟩ | ⟨q, _⟩)
        · have : y = x := q
          rw [if_pos ⟨this.symm, hy⟩]
        · omega
    · have e3 : (List.replicate (sz + 1) (List.replicate n false)).getD j [] = List.replicate n false := by rw [List.getD_eq_getElem?_getD, List.getElem?_replicate, if_pos (by omega)]; rfl
      rw [if_neg (by omega), e3, repl_getR]
      constructor
      · intro q; cases q
      · rintro (⟨q, _⟩ | ⟨_, i', b, q, _⟩)
        · omega
        · omega
theorem CbI.skip {E : List (Int × Int)} {n x sz k i : Nat} {Rs : List (List Bool)} {p : Int × Int} (h : CbI E n x sz k i Rs) (hp : E[i]? = some p) (hn : ¬ ((x : Int) ≤ p.1 ∧ ∃ b : Nat, p.2 = (b : Int) ∧ WkG (EdE E) x (k - 1) b)) : CbI E n x sz k (i + 1) Rs := by
  refine ⟨h.len, h.row, fun j y hj hy => ?_⟩
  rw [h.bit j y hj hy]
  refine or_congr Iff.rfl (and_congr_right fun _ => ?_)
  constructor
  · rintro ⟨i', b, q1, q2⟩; exact ⟨i', b, by omega, q2⟩
  · rintro ⟨i', b, q1, q2, q3, q4⟩
    by_cases e : i' = i
    · subst e
      rw [hp] at q2
      have := Option.some.inj q2
      subst this
      exact absurd ⟨by show (x : Int) ≤ (y : Int); omega, b, rfl, q4⟩ hn
    · exact ⟨i', b, by omega, q2, q3, q4⟩
theorem CbI.mark {E : List (Int × Int)} {n x sz k i a b : Nat} {Rs : List (List Bool)} {R : List Bool} (h : CbI E n x sz k i Rs) (hk : k ≤ sz) (hR : Rs[k]? = some R) (hp : E[i]? = some ((a : Int), (b : Int))) (ha : a < n) (hx : x ≤ a) (hw : WkG (EdE E) x (k - 1) b) : CbI E n x sz k (i + 1) (Rs.set k (R.set a true)) := by
  have hRe : Rs.getD k [] = R := by rw [List.getD_eq_getElem?_getD, hR]; rfl
  have hRl : R.length = n := by rw [← hRe]; exact h.row k hk
  refine ⟨by rw [List.length_set]; exact h.len, fun j hj => ?_, fun j y hj hy => ?_⟩
  · rw [getD_setLL]
    split
    · rw [List.length_set]; exact hRl
    · exact h.row j hj
  · rw [getD_setLL]
    have hb := h.bit j y hj hy
    by_cases e : k = j
    · subst e
      rw [if_pos ⟨rfl, by rw [h.len]; omega⟩, getD_setR, hRl]
      rw [hRe] at hb
      by_cases e2 : a = y ∧ y < n
      · rw [if_pos e2]
        refine ⟨fun _ => .inr ⟨rfl, i, b, Nat.lt_succ_self i, by rw [← e2.1]; exact hp, by omega, hw⟩, fun _ => rfl⟩
      · rw [if_neg e2, hb]
        refine or_congr Iff.rfl (and_congr_right fun _ => ?_)
        constructor
        · rintro ⟨i', b', q1, q2⟩; exact ⟨i', b', by omega, q2⟩
        · rintro ⟨i', b', q1, q2, q3, q4⟩
          by_cases e3 : i' = i
          · subst e3
            rw [hp] at q2
            simp only [Option.some.injEq, Prod.mk.injEq] at q2
            exact absurd ⟨by omega, hy⟩ e2
          · exact ⟨i', b', by omega, q2, q3, q4⟩
    · rw [if_neg (fun q => e q.1), hb]
      refine or_congr Iff.rfl ?_
      constructor
      · rintro ⟨q, _⟩; exact absurd q.symm e
      · rintro ⟨q, _⟩; exact absurd q.symm e
theorem CbI.next {E : List (Int × Int)} {n x sz k : Nat} {Rs : List (List Bool)} (hk : 0 < k) (hok : E.all (okE n) = true) (h : CbI E n x sz k E.length Rs) : CbI E n x sz (k + 1) 0 Rs := by
  refine ⟨h.len, h.row, fun j y hj hy => ?_⟩
  rw [h.bit j y hj hy]
  constructor
  · rintro (⟨q1, q2⟩ | ⟨q1, i', b, q2, q3, q4, q5⟩)
    · exact .inl ⟨by omega, q2⟩
    · left
      refine ⟨by omega, ?_⟩
      rw [q1]
      obtain ⟨k, rfl⟩ : ∃ i, k = i + 1 := ⟨k - 1, by omega⟩
      exact ⟨q4, b, List.mem_of_getElem? q3, q5⟩
  · rintro (⟨q1, q2⟩ | ⟨_, i', b, q2, _⟩)
    · by_cases e : j = k
      · right
        refine ⟨e, ?_⟩
        subst e
        obtain ⟨j, rfl⟩ : ∃ i, j = i + 1 := ⟨j - 1, by omega⟩
        obtain ⟨q3, b, q4, q5⟩ := q2
        obtain ⟨i', hi'⟩ := List.getElem?_of_mem q4
        exact ⟨i', b, (List.getElem?_eq_some_iff.1 hi').1, hi', q3, q5⟩
      · exact .inl ⟨by omega, q2⟩
    · omega
theorem CbI.fin {E : List (Int × Int)} {n x sz : Nat} {Rs : List (List Bool)} (h : CbI E n x sz (sz + 1) 0 Rs) : CnR E n x sz Rs := ⟨fun k y hk hy => by
  rw [h.bit k y hk hy]
  constructor
  · rintro (⟨_, q⟩ | ⟨_, i', b, q, _⟩)
    · exact q
    · omega
  · intro q; exact .inl ⟨by omega, q⟩⟩
/-- The lowest so far that goes on. -/
structure NxI (E : List (Int × Int)) (n : Nat) (C : List Bool) (a i : Nat) (nx : Int) : Prop where
  no : nx < 0 → nx = -1 ∧ ∀ b : Nat, ((a : Int), (b : Int)) ∈ E.take i → C.getD b false = false
  yes : 0 ≤ nx → ∃ c : Nat, nx = (c : Int) ∧ c < n ∧ ((a : Int), (c : Int)) ∈ E ∧ C.getD c false = true ∧ ∀ b : Nat, ((a : Int), (b : Int)) ∈ E.take i → C.getD b false = true → c ≤ b
theorem NxI.start {E : List (Int × Int)} {n : Nat} {C : List Bool} {a : Nat} : NxI E n C a 0 (-1) := ⟨fun _ => ⟨rfl, fun b hb => by simp at hb⟩, fun q => by omega⟩
theorem takeE {E : List (Int × Int)} {i : Nat} {p : Int × Int} (h : E[i]? = some p) : E.take (i + 1) = E.take i ++ [p] := by rw [List.take_add_one, h]; rfl
theorem NxI.skip {E : List (Int × Int)} {n : Nat} {C : List Bool} {a i : Nat} {nx : Int} {p : Int × Int} (h : NxI E n C a i nx) (hp : E[i]? = some p) (hn : p.1 ≠ (a : Int) ∨ C.getD p.2.toNat false = false ∨ (0 ≤ nx ∧ nx ≤ p.2)) : NxI E n C a (i + 1) nx := by
  rw [show NxI E n C a (i + 1) nx ↔ NxI E n C a (i + 1) nx from Iff.rfl]
  refine ⟨fun q => ⟨(h.no q).1, fun b hb => ?_⟩, fun q => ?_⟩
  · rw [takeE hp] at hb
    rcases List.mem_append.1 hb with e | e
    · exact (h.no q).2 b e
    · have e : ((a : Int), (b : Int)) = p := by simpa using e
      subst e
      rcases hn with q2 | q2 | q2
      · exact absurd rfl q2
      · simpa using q2
      · omega
  · obtain ⟨c, h1, h2, h3, h4, h5⟩ := h.yes q
    refine ⟨c, h1, h2, h3, h4, fun b hb hcb => ?_⟩
    rw [takeE hp] at hb
    rcases List.mem_append.1 hb with e | e
    · exact h5 b e hcb
    · have e : ((a : Int), (b : Int)) = p := by simpa using e
      subst e
      rcases hn with q2 | q2 | q2
      · exact absurd rfl q2
      · simp only [Int.toNat_natCast] at q2
        rw [q2] at hcb; cases hcb
      · simp only at q2; omega
theorem NxI.take {E : List (Int × Int)} {n : Nat} {C : List Bool} {a i b : Nat} {nx : Int} (h : NxI E n C a i nx) (hp : E[i]? = some ((a : Int), (b : Int))) (hb : b < n) (hc : C.getD b false = true) (hn : nx < 0 ∨ (b : Int) < nx) : NxI E n C a (i + 1) (b : Int) := by
  refine ⟨fun q => by omega, fun _ => ⟨b, rfl, hb, List.mem_of_getElem? hp, hc, fun b' hb' hcb => ?_⟩⟩
  rw [takeE hp] at hb'
  rcases List.mem_append.1 hb' with e | e
  · rcases Int.lt_or_le nx 0 with q | q
    · rw [(h.no q).2 b' e] at hcb; cases hcb
    · obtain ⟨c, h1, h2, h3, h4, h5⟩ := h.yes q
      have := h5 b' e hcb
      omega
  · have e : ((a : Int), (b' : Int)) = ((a : Int), (b : Int)) := by simpa using e
    simp only [Prod.mk.injEq, true_and] at e
    omega
theorem NxI.fin {E : List (Int × Int)} {n k a : Nat} {Cs : List (List Bool)} {nx : Int} (h : NxI E n (Cs.getD k []) a E.length nx) {b : Nat} (hb : ((a : Int), (b : Int)) ∈ E) (hcb : (Cs.getD k []).getD b false = true) : nx = (((nxC E n Cs k a).getD 0 : Nat) : Int) ∧ (nxC E n Cs k a).getD 0 < n ∧ ((a : Int), (((nxC E n Cs k a).getD 0 : Nat) : Int)) ∈ E ∧ (Cs.getD k []).getD ((nxC E n Cs k a).getD 0) false = true := by
  have hpos : 0 ≤ nx := by
    rcases Int.lt_or_le nx 0 with q | q
    · have := (h.no q).2 b (by rw [List.take_length]; exact hb)
      rw [hcb] at this; cases this
    · exact q
  obtain ⟨c, h1, h2, h3, h4, h5⟩ := h.yes hpos
  have hs : nxC E n Cs k a = some c := by
    unfold nxC
    rw [List.find?_eq_some_iff_append]
    refine ⟨by rw [decide_eq_true h3, h4]; rfl, List.range c, (List.range (n - (c + 1))).map (c + 1 + ·), ?_, fun d hd => ?_⟩
    · have e1 : n = c + (1 + (n - (c + 1))) := by omega
      have e2 : List.range n = List.range c ++ (List.range (1 + (n - (c + 1)))).map (c + ·) := by
        conv => lhs; rw [e1]
        exact List.range_add
      rw [e2]
      congr 1
      rw [Nat.add_comm 1, List.range_succ_eq_map]
      simp only [List.map_cons, List.map_map, Nat.add_zero]
      congr 1
      apply List.map_congr_left
      intro z _
      simp only [Function.comp]
      omega
    · have hd := List.mem_range.1 hd
      cases q : (decide (((a : Int), (d : Int)) ∈ E) && (Cs.getD k []).getD d false) with
      | false => rfl
      | true =>
        rw [Bool.and_eq_true, decide_eq_true_iff] at q
        have := h5 d (by rw [List.take_length]; exact q.1) q.2
        omega
  rw [hs]
  exact ⟨h1, h2, h3, h4⟩
end Go.Proofs.YtcgghlaifmlpiaaGreatDoor
