import Derived.Test.YtmpdgmigpjfcpaaDoorBY2
namespace Go.Proofs.YtmpdgmigpjfcpaaDoor
set_option linter.unusedVariables false
open Go.RowKit
/-- Steps to a number: who is next, what is seen, how far each is. -/
structure BfS where
  q : List Nat
  seen : Nat
  st : List Nat
def bfF (Ms : List Nat) (n x most : Nat) : Nat → BfS → List Nat
  | 0, s => s.st
  | f + 1, s => match s.q with
    | [] => s.st
    | y :: r => if s.st.getD y 0 + 1 = most then s.st
      else if lkB (minusB (Ms.getD y 0) s.seen) n < n then
        if lkB (minusB (Ms.getD y 0) s.seen) n = x then s.st.set x (s.st.getD y 0 + 1)
        else bfF Ms n x most f ⟨y :: (r ++ [lkB (minusB (Ms.getD y 0) s.seen) n]), addN s.seen (lkB (minusB (Ms.getD y 0) s.seen) n), s.st.set (lkB (minusB (Ms.getD y 0) s.seen) n) (s.st.getD y 0 + 1)⟩
      else bfF Ms n x most f ⟨r, s.seen, s.st⟩
def mesQ (n : Nat) (s : BfS) : Nat := 2 * (n - popB s.seen n) + s.q.length
theorem lk_new {D S n : Nat} (h : lkB (minusB D S) n < n) : D.testBit (lkB (minusB D S) n) = true ∧ S.testBit (lkB (minusB D S) n) = false := by
  have hb := ((lkB_is (minusB D S) n).is h).2
  rw [minusB_bit, Bool.and_eq_true] at hb
  exact ⟨hb.1, by simpa using hb.2⟩
theorem lk_full {D S n : Nat} (h : ¬ lkB (minusB D S) n < n) {z : Nat} (hz : z < n) (hd : D.testBit z = true) : S.testBit z = true := lk_all (n := n) z (by omega) hd
theorem mesQ_push {n z : Nat} {y S : Nat} {r st st' : List Nat} (hz : z < n) (hs : S.testBit z = false) : mesQ n ⟨y :: (r ++ [z]), addN S z, st'⟩ < mesQ n ⟨y :: r, S, st⟩ := by
  unfold mesQ
  have h1 := popB_addN hz hs
  have h2 := popB_le (addN S z) n
  simp only [List.length_cons, List.length_append, List.length_nil]
  omega
theorem bfF_any {Ms : List Nat} {n x most : Nat} : ∀ (f g : Nat) (s : BfS), mesQ n s ≤ f → mesQ n s ≤ g → bfF Ms n x most f s = bfF Ms n x most g s
  | 0, 0, _, _, _ => rfl
  | 0, g + 1, s, h, _ => by
    have e : s.q = [] := List.eq_nil_of_length_eq_zero (by unfold mesQ at h; omega)
    simp only [bfF, e]
  | f + 1, 0, s, _, h => by
    have e : s.q = [] := List.eq_nil_of_length_eq_zero (by unfold mesQ at h; omega)
    simp only [bfF, e]
  | f + 1, g + 1, s, h, h' => by
    obtain ⟨q, S, st⟩ := s
    cases q with
    | nil => rfl
    | cons y r =>
      simp only [bfF]
      by_cases h1 : st.getD y 0 + 1 = most
      · rw [if_pos h1, if_pos h1]
      · rw [if_neg h1, if_neg h1]
        by_cases h2 : lkB (minusB (Ms.getD y 0) S) n < n
        · rw [if_pos h2, if_pos h2]
          by_cases h3 : lkB (minusB (Ms.getD y 0) S) n = x
          · rw [if_pos h3, if_pos h3]
          · rw [if_neg h3, if_neg h3]
            have := mesQ_push (y := y) (r := r) (st := st) (st' := st.set (lkB (minusB (Ms.getD y 0) S) n) (st.getD y 0 + 1)) h2 (lk_new h2).2
            exact bfF_any f g _ (by omega) (by omega)
        · rw [if_neg h2, if_neg h2]
          unfold mesQ at h h'
          simp only [List.length_cons] at h h'
          exact bfF_any f g _ (by unfold mesQ; simp only; omega) (by unfold mesQ; simp only; omega)
def bfU (Ms : List Nat) (n x most : Nat) (s : BfS) : List Nat := bfF Ms n x most (mesQ n s) s
theorem bfU_nil {Ms : List Nat} {n x most S : Nat} {st : List Nat} : bfU Ms n x most ⟨[], S, st⟩ = st := by
  unfold bfU
  cases mesQ n ⟨[], S, st⟩ <;> rfl
theorem bfU_cons {Ms : List Nat} {n x most y S : Nat} {r st : List Nat} : bfU Ms n x most ⟨y :: r, S, st⟩ = if st.getD y 0 + 1 = most then st
      else if lkB (minusB (Ms.getD y 0) S) n < n then
        if lkB (minusB (Ms.getD y 0) S) n = x then st.set x (st.getD y 0 + 1)
        else bfU Ms n x most ⟨y :: (r ++ [lkB (minusB (Ms.getD y 0) S) n]), addN S (lkB (minusB (Ms.getD y 0) S) n), st.set (lkB (minusB (Ms.getD y 0) S) n) (st.getD y 0 + 1)⟩
      else bfU Ms n x most ⟨r, S, st⟩ := by
  have hm : mesQ n ⟨y :: r, S, st⟩ = (2 * (n - popB S n) + r.length) + 1 := by unfold mesQ; simp only [List.length_cons]; omega
  unfold bfU
  rw [hm]
  simp only [bfF]
  by_cases h1 : st.getD y 0 + 1 = most
  · rw [if_pos h1, if_pos h1]
  · rw [if_neg h1, if_neg h1]
    by_cases h2 : lkB (minusB (Ms.getD y 0) S) n < n
    · rw [if_pos h2, if_pos h2]
      by_cases h3 : lkB (minusB (Ms.getD y 0) S) n = x
      · rw [if_pos h3, if_pos h3]
      · rw [if_neg h3, if_neg h3]
        have := mesQ_push (y := y) (r := r) (st := st) (st' := st.set (lkB (minusB (Ms.getD y 0) S) n) (st.getD y 0 + 1)) h2 (lk_new h2).2
        exact bfF_any _ _ _ (by omega) (Nat.le_refl _)
    · rw [if_neg h2, if_neg h2]
      exact bfF_any _ _ _ (Nat.le_refl _) (Nat.le_refl _)
/-- What is found: each is one step from one that is a step nearer. -/
structure BfR (Ns : List Nat) (n x A : Nat) (R : List Nat) : Prop where
  len : R.length = n
  one : ∀ z, 0 < R.getD z 0 → A.testBit z = false ∧ ((R.getD z 0 = 1 ∧ EdB Ns n z x) ∨ ∃ y, y ≠ x ∧ EdB Ns n z y ∧ R.getD z 0 = R.getD y 0 + 1 ∧ 0 < R.getD y 0)
structure BfI (Ns : List Nat) (n x A : Nat) (s : BfS) : Prop extends BfR Ns n x A s.st where
  xz : s.st.getD x 0 = 0
  xn : x < n
  sn : ∀ z, s.seen.testBit z = true ↔ A.testBit z = true ∨ 0 < s.st.getD z 0
  qn : ∀ y ∈ s.q, y < n ∧ (y = x ∨ 0 < s.st.getD y 0)
  cl : ∀ y, y < n → y = x ∨ 0 < s.st.getD y 0 → y ∉ s.q → ∀ z, EdB Ns n z y → s.seen.testBit z = true
theorem BfI.push {Ns Ms : List Nat} {n x A y S : Nat} {r st : List Nat} (hT : ∀ x y, x < n → y < n → (Ms.getD y 0).testBit x = (Ns.getD x 0).testBit y) (h : BfI Ns n x A ⟨y :: r, S, st⟩) (h2 : lkB (minusB (Ms.getD y 0) S) n < n) (h3 : lkB (minusB (Ms.getD y 0) S) n ≠ x) : BfI Ns n x A ⟨y :: (r ++ [lkB (minusB (Ms.getD y 0) S) n]), addN S (lkB (minusB (Ms.getD y 0) S) n), st.set (lkB (minusB (Ms.getD y 0) S) n) (st.getD y 0 + 1)⟩ := by
  obtain ⟨hz1, hz2⟩ := lk_new h2
  generalize lkB (minusB (Ms.getD y 0) S) n = z at *
  obtain ⟨hyn, hy⟩ := h.qn y List.mem_cons_self
  simp only at hy
  have hlen : st.length = n := h.len
  have ez : EdB Ns n z y := ⟨h2, hyn, by rw [← hT z y h2 hyn]; exact hz1⟩
  have hnot : ¬ (A.testBit z = true ∨ 0 < st.getD z 0) := fun q => by
    have := (h.sn z).2 q
    simp only at this
    rw [hz2] at this
    cases this
  have hst : ∀ u, (st.set z (st.getD y 0 + 1)).getD u 0 = if z = u then st.getD y 0 + 1 else st.getD u 0 := fun u => by
    rw [getD_setV]
    by_cases e : z = u
    · subst e
      rw [if_pos ⟨rfl, by omega⟩, if_pos rfl]
    · rw [if_neg (fun q => e q.1), if_neg e]
  have hyz : z ≠ y := fun e => by
    subst e
    rcases hy with e | e
    · exact h3 e
    · exact hnot (.inr e)
  have hyst : (st.set z (st.getD y 0 + 1)).getD y 0 = st.getD y 0 := by rw [hst, if_neg hyz]
  refine ⟨⟨by simp [hlen], fun u hu => ?_⟩, ?_, h.xn, fun u => ?_, fun u hu => ?_, fun u hun hu huq v e => ?_⟩
  · show A.testBit u = false ∧ _
    simp only at hu ⊢
    by_cases e : z = u
    · subst e
      refine ⟨?_, ?_⟩
      · cases hA : A.testBit z with
        | false => rfl
        | true => exact absurd (.inl hA) hnot
      · rw [hst, if_pos rfl]
        rcases hy with rfl | hy
        · left
          have : st.getD y 0 = 0 := h.xz
          exact ⟨by omega, ez⟩
        · by_cases e2 : y = x
          · subst e2
            left
            have : st.getD y 0 = 0 := h.xz
            exact ⟨by omega, ez⟩
          · exact .inr ⟨y, e2, ez, by rw [hyst], by rw [hyst]; exact hy⟩
    · rw [hst, if_neg e] at hu ⊢
      obtain ⟨h1, h4⟩ := h.one u hu
      refine ⟨h1, h4.imp id ?_⟩
      rintro ⟨v, hv, ev, h5, h6⟩
      have hvz : z ≠ v := fun q => by
        subst q
        exact hnot (.inr h6)
      refine ⟨v, hv, ev, ?_, ?_⟩
      · rw [hst, if_neg hvz]; exact h5
      · rw [hst, if_neg hvz]; exact h6
  · show (st.set z (st.getD y 0 + 1)).getD x 0 = 0
    rw [hst, if_neg h3]
    exact h.xz
  · show (addN S z).testBit u = true ↔ A.testBit u = true ∨ 0 < (st.set z (st.getD y 0 + 1)).getD u 0
    rw [addN_bit, Bool.or_eq_true, hst]
    have := h.sn u
    simp only at this
    rw [this]
    by_cases e : z = u
    · subst e
      simp
    · rw [if_neg e, decide_eq_false e]
      simp
  · have hu' : u = y ∨ u ∈ r ∨ u = z := by
      simp only [List.mem_cons, List.mem_append, List.not_mem_nil, or_false] at hu
      exact hu
    show u < n ∧ (u = x ∨ 0 < (st.set z (st.getD y 0 + 1)).getD u 0)
    rw [hst]
    by_cases e : z = u
    · subst e
      rw [if_pos rfl]
      exact ⟨h2, .inr (by omega)⟩
    · rw [if_neg e]
      rcases hu' with rfl | hu' | rfl
      · exact h.qn u List.mem_cons_self
      · exact h.qn u (List.mem_cons_of_mem _ hu')
      · exact absurd rfl e
  · show (addN S z).testBit v = true
    simp only at hu huq
    rw [addN_bit]
    have huq' : u ≠ z ∧ u ∉ y :: r := by
      simp only [List.mem_cons, List.mem_append, List.not_mem_nil, or_false, not_or] at huq
      exact ⟨huq.2.2, by simp only [List.mem_cons, not_or]; exact ⟨huq.1, huq.2.1⟩⟩
    rw [hst, if_neg (fun q => huq'.1 q.symm)] at hu
    have := h.cl u hun hu huq'.2 v e
    simp only at this
    rw [this]
    rfl
theorem BfI.pop {Ns Ms : List Nat} {n x A y S : Nat} {r st : List Nat} (hT : ∀ x y, x < n → y < n → (Ms.getD y 0).testBit x = (Ns.getD x 0).testBit y) (h : BfI Ns n x A ⟨y :: r, S, st⟩) (h2 : ¬ lkB (minusB (Ms.getD y 0) S) n < n) : BfI Ns n x A ⟨r, S, st⟩ := by
  obtain ⟨hyn, hy⟩ := h.qn y List.mem_cons_self
  refine ⟨h.toBfR, h.xz, h.xn, h.sn, fun u hu => h.qn u (List.mem_cons_of_mem _ hu), fun u hun hu huq v e => ?_⟩
  by_cases q : u = y
  · subst q
    exact lk_full h2 e.1 (by rw [hT v u e.1 e.2.1]; exact e.2.2)
  · exact h.cl u hun hu (by simp only [List.mem_cons, not_or]; exact ⟨q, huq⟩) v e
theorem BfI.hit {Ns Ms : List Nat} {n x A y S : Nat} {r st : List Nat} (hT : ∀ x y, x < n → y < n → (Ms.getD y 0).testBit x = (Ns.getD x 0).testBit y) (h : BfI Ns n x A ⟨y :: r, S, st⟩) (h2 : lkB (minusB (Ms.getD y 0) S) n < n) (h3 : lkB (minusB (Ms.getD y 0) S) n = x) : BfR Ns n x A (st.set x (st.getD y 0 + 1)) ∧ 0 < (st.set x (st.getD y 0 + 1)).getD x 0 := by
  obtain ⟨hz1, hz2⟩ := lk_new h2
  rw [h3] at hz1 hz2 h2
  obtain ⟨hyn, hy⟩ := h.qn y List.mem_cons_self
  simp only at hy
  have hlen : st.length = n := h.len
  have ez : EdB Ns n x y := ⟨h2, hyn, by rw [← hT x y h2 hyn]; exact hz1⟩
  have hx0 : st.getD x 0 = 0 := h.xz
  have hst : ∀ u, (st.set x (st.getD y 0 + 1)).getD u 0 = if x = u then st.getD y 0 + 1 else st.getD u 0 := fun u => by
    rw [getD_setV]
    by_cases e : x = u
    · subst e
      rw [if_pos ⟨rfl, by omega⟩, if_pos rfl]
    · rw [if_neg (fun q => e q.1), if_neg e]
  refine ⟨⟨by simp [hlen], fun u hu => ?_⟩, by rw [hst, if_pos rfl]; omega⟩
  by_cases e : x = u
  · subst e
    refine ⟨?_, ?_⟩
    · cases hA : A.testBit x with
      | false => rfl
      | true =>
        have := (h.sn x).2 (.inl hA)
        simp only at this
        rw [hz2] at this
        cases this
    · rw [hst, if_pos rfl]
      by_cases e2 : y = x
      · subst e2
        exact .inl ⟨by omega, ez⟩
      · have hy' : 0 < st.getD y 0 := hy.resolve_left e2
        have hyx : ¬ x = y := fun q => e2 q.symm
        exact .inr ⟨y, e2, ez, by rw [hst, if_neg hyx], by rw [hst, if_neg hyx]; exact hy'⟩
  · rw [hst, if_neg e] at hu ⊢
    obtain ⟨h1, h4⟩ := h.one u hu
    refine ⟨h1, h4.imp id ?_⟩
    rintro ⟨v, hv, ev, h5, h6⟩
    refine ⟨v, hv, ev, ?_, ?_⟩
    · rw [hst, if_neg (fun q => hv q.symm)]; exact h5
    · rw [hst, if_neg (fun q => hv q.symm)]; exact h6
/-- The whole of it; without a bound it finds all. -/
theorem BfI.run {Ns Ms : List Nat} {n x A most : Nat} (hT : ∀ x y, x < n → y < n → (Ms.getD y 0).testBit x = (Ns.getD x 0).testBit y) : ∀ (k : Nat) (s : BfS), mesQ n s ≤ k → BfI Ns n x A s → BfR Ns n x A (bfU Ms n x most s) ∧ (most = 0 → 0 < (bfU Ms n x most s).getD x 0 ∨ ∀ y, y < n → y = x ∨ 0 < (bfU Ms n x most s).getD y 0 → ∀ z, EdB Ns n z y → A.testBit z = true ∨ 0 < (bfU Ms n x most s).getD z 0)
  | k, ⟨[], S, st⟩, _, h => by
    rw [bfU_nil]
    refine ⟨h.toBfR, fun _ => .inr fun y hyn hy z e => ?_⟩
    exact (h.sn z).1 (h.cl y hyn hy (by simp) z e)
  | 0, ⟨y :: r, S, st⟩, hk, _ => by
    unfold mesQ at hk
    simp only [List.length_cons] at hk
    omega
  | k + 1, ⟨y :: r, S, st⟩, hk, h => by
    rw [bfU_cons]
    by_cases h1 : st.getD y 0 + 1 = most
    · rw [if_pos h1]
      exact ⟨h.toBfR, fun h0 => by omega⟩
    · rw [if_neg h1]
      by_cases h2 : lkB (minusB (Ms.getD y 0) S) n < n
      · rw [if_pos h2]
        by_cases h3 : lkB (minusB (Ms.getD y 0) S) n = x
        · rw [if_pos h3]
          obtain ⟨h4, h5⟩ := h.hit hT h2 h3
          exact ⟨h4, fun _ => .inl h5⟩
        · rw [if_neg h3]
          have := mesQ_push (y := y) (r := r) (st := st) (st' := st.set (lkB (minusB (Ms.getD y 0) S) n) (st.getD y 0 + 1)) h2 (lk_new h2).2
          exact BfI.run hT k _ (by omega) (h.push hT h2 h3)
      · rw [if_neg h2]
        refine BfI.run hT k _ ?_ (h.pop hT h2)
        unfold mesQ at hk ⊢
        simp only [List.length_cons] at hk ⊢
        omega
/-- All numbers below x. -/
def loN (x : Nat) : Nat := mkN (fun _ => true) x
theorem loN_bit (x z : Nat) : (loN x).testBit z = decide (z < x) := by
  unfold loN
  rw [mkN_bit, Bool.and_true]
theorem loN_next (x : Nat) : loN (x + 1) = addN (loN x) x := rfl
def bfS (n x : Nat) : BfS := ⟨[x], loN x, List.replicate n 0⟩
theorem repl_get (n z : Nat) : (List.replicate n 0).getD z 0 = 0 := by
  rw [List.getD_eq_getElem?_getD, List.getElem?_replicate]
  by_cases q : z < n
  · rw [if_pos q]; rfl
  · rw [if_neg q]; rfl
theorem BfI.first {Ns : List Nat} {n x : Nat} (hx : x < n) : BfI Ns n x (loN x) (bfS n x) := by
  refine ⟨⟨by simp [bfS], fun z hz => ?_⟩, ?_, hx, fun z => ?_, fun y hy => ?_, fun y hyn hy hyq z e => ?_⟩
  · simp only [bfS] at hz
    rw [repl_get] at hz
    omega
  · simp only [bfS]
    rw [repl_get]
  · simp only [bfS]
    rw [repl_get]
    simp
  · simp only [bfS, List.mem_singleton] at hy
    subst hy
    exact ⟨hx, .inl rfl⟩
  · simp only [bfS] at hy hyq
    rw [repl_get] at hy
    rcases hy with rfl | hy
    · simp at hyq
    · omega
/-- Of all numbers in turn: where the last found cycle begins, how long it is, how far all are. -/
def cyF (Ms : List Nat) (n : Nat) : List Nat → Nat × Nat × List Nat → Nat × Nat × List Nat
  | [], s => s
  | x :: xs, s => cyF Ms n xs (if 0 < (bfU Ms n x s.2.1 (bfS n x)).getD x 0 then (x, (bfU Ms n x s.2.1 (bfS n x)).getD x 0, bfU Ms n x s.2.1 (bfS n x)) else s)
structure CyI (Ns : List Nat) (n i : Nat) (s : Nat × Nat × List Nat) : Prop where
  have_ : s = (0, 0, []) ∧ (∀ k, k < i → ¬ Relation.TransGen (fun u v => k ≤ u ∧ k ≤ v ∧ EdB Ns n u v) k k) ∨ s.1 < n ∧ 0 < s.2.1 ∧ s.2.2.getD s.1 0 = s.2.1 ∧ BfR Ns n s.1 (loN s.1) s.2.2
theorem CyI.next {Ns Ms : List Nat} {n x : Nat} {s : Nat × Nat × List Nat} (hT : ∀ x y, x < n → y < n → (Ms.getD y 0).testBit x = (Ns.getD x 0).testBit y) (hx : x < n) (h : CyI Ns n x s) : CyI Ns n (x + 1) (if 0 < (bfU Ms n x s.2.1 (bfS n x)).getD x 0 then (x, (bfU Ms n x s.2.1 (bfS n x)).getD x 0, bfU Ms n x s.2.1 (bfS n x)) else s) := by
  obtain ⟨hR, hC⟩ := BfI.run (most := s.2.1) hT _ _ (Nat.le_refl _) (BfI.first (Ns := Ns) hx)
  by_cases q : 0 < (bfU Ms n x s.2.1 (bfS n x)).getD x 0
  · rw [if_pos q]
    exact ⟨.inr ⟨hx, q, rfl, hR⟩⟩
  · rw [if_neg q]
    refine ⟨?_⟩
    rcases h.have_ with ⟨hs, hno⟩ | h1
    · left
      refine ⟨hs, fun k hk => ?_⟩
      rcases Nat.lt_or_ge k x with hkx | hkx
      · exact hno k hkx
      · obtain rfl : k = x := by omega
        intro ht
        have hcl := (hC (by rw [hs])).resolve_left q
        have key : ∀ u v, Relation.TransGen (fun u v => k ≤ u ∧ k ≤ v ∧ EdB Ns n u v) u v → (v = k ∨ 0 < (bfU Ms n k s.2.1 (bfS n k)).getD v 0) → 0 < (bfU Ms n k s.2.1 (bfS n k)).getD u 0 := by
          intro u v huv
          have step : ∀ a b, k ≤ a ∧ k ≤ b ∧ EdB Ns n a b → (b = k ∨ 0 < (bfU Ms n k s.2.1 (bfS n k)).getD b 0) → 0 < (bfU Ms n k s.2.1 (bfS n k)).getD a 0 := fun a b e hb => by
            rcases hcl b e.2.2.2.1 hb a e.2.2 with q2 | q2
            · rw [loN_bit] at q2
              have := of_decide_eq_true q2
              omega
            · exact q2
          induction huv with
          | single e => exact step _ _ e
          | tail _ e ih => exact fun hv => ih (.inr (step _ _ e hv))
        exact q (key k k ht (.inl rfl))
    · exact .inr h1
theorem CyI.run {Ns Ms : List Nat} {n : Nat} (hT : ∀ x y, x < n → y < n → (Ms.getD y 0).testBit x = (Ns.getD x 0).testBit y) : ∀ (d i : Nat) (s : Nat × Nat × List Nat), i + d = n → CyI Ns n i s → CyI Ns n n (cyF Ms n (List.range' i d) s)
  | 0, i, s, hi, h => by
    obtain rfl : i = n := by omega
    exact h
  | d + 1, i, s, hi, h => by
    rw [List.range'_succ]
    exact CyI.run hT d (i + 1) _ (by omega) (h.next hT (by omega))
/-- Whoever goes round goes round from his lowest number. -/
theorem low_cycle {Ns : List Nat} {n : Nat} : ∀ (d k y : Nat), k + d = n → Relation.TransGen (fun u v => k ≤ u ∧ k ≤ v ∧ EdB Ns n u v) y y → ∃ k', k ≤ k' ∧ k' < n ∧ Relation.TransGen (fun u v => k' ≤ u ∧ k' ≤ v ∧ EdB Ns n u v) k' k'
  | 0, k, y, hk, h => by
    exfalso
    have : ∀ a b, Relation.TransGen (fun u v => k ≤ u ∧ k ≤ v ∧ EdB Ns n u v) a b → k ≤ b ∧ b < n := fun a b hab => by
      cases hab with
      | single e => exact ⟨e.2.1, e.2.2.2.1⟩
      | tail _ e => exact ⟨e.2.1, e.2.2.2.1⟩
    have := this y y h
    omega
  | d + 1, k, y, hk, h => by
    have key : ∀ a b, Relation.TransGen (fun u v => k ≤ u ∧ k ≤ v ∧ EdB Ns n u v) a b → Relation.TransGen (fun u v => k + 1 ≤ u ∧ k + 1 ≤ v ∧ EdB Ns n u v) a b ∨ ((a = k ∨ Relation.TransGen (fun u v => k ≤ u ∧ k ≤ v ∧ EdB Ns n u v) a k) ∧ (k = b ∨ Relation.TransGen (fun u v => k ≤ u ∧ k ≤ v ∧ EdB Ns n u v) k b)) := by
      intro a b hab
      induction hab with
      | single e =>
        rename_i b
        by_cases h1 : a = k
        · subst h1
          exact .inr ⟨.inl rfl, .inr (.single e)⟩
        · by_cases h2 : b = k
          · subst h2
            exact .inr ⟨.inr (.single e), .inl rfl⟩
          · exact .inl (.single ⟨by omega, by omega, e.2.2⟩)
      | tail hac e ih =>
        rename_i c b
        rcases ih with ih | ⟨ih1, ih2⟩
        · by_cases h2 : b = k
          · subst h2
            exact .inr ⟨.inr (hac.tail e), .inl rfl⟩
          · have hc : k + 1 ≤ c := by
              cases ih with
              | single e => exact e.2.1
              | tail _ e => exact e.2.1
            exact .inl (ih.tail ⟨hc, by omega, e.2.2⟩)
        · refine .inr ⟨ih1, .inr ?_⟩
          rcases ih2 with rfl | ih2
          · exact .single e
          · exact ih2.tail e
    rcases key y y h with q | ⟨q1, q2⟩
    · obtain ⟨k', h1, h2, h3⟩ := low_cycle d (k + 1) y (by omega) q
      exact ⟨k', by omega, h2, h3⟩
    · refine ⟨k, Nat.le_refl _, by omega, ?_⟩
      rcases q1 with rfl | q1
      · exact h
      · rcases q2 with rfl | q2
        · exact q1
        · exact q2.trans q1
theorem cycle_found {Ns Ms : List Nat} {n : Nat} (hT : ∀ x y, x < n → y < n → (Ms.getD y 0).testBit x = (Ns.getD x 0).testBit y) (hs : (placeU Ns n).length < n) : ∃ s, cyF Ms n (List.range n) (0, 0, []) = s ∧ s.1 < n ∧ 0 < s.2.1 ∧ s.2.2.getD s.1 0 = s.2.1 ∧ BfR Ns n s.1 (loN s.1) s.2.2 := by
  refine ⟨_, rfl, ?_⟩
  have h := CyI.run (Ns := Ns) hT n 0 (0, 0, []) (by omega) ⟨.inl ⟨rfl, fun k hk => absurd hk (Nat.not_lt_zero k)⟩⟩
  rw [← List.range_eq_range'] at h
  rcases h.have_ with ⟨_, hno⟩ | h
  · exfalso
    obtain ⟨x, hx, ht⟩ := place_short hs
    have ht' : Relation.TransGen (fun u v => 0 ≤ u ∧ 0 ≤ v ∧ EdB Ns n u v) x x := by
      have : ∀ a b, Relation.TransGen (EdB Ns n) a b → Relation.TransGen (fun u v => 0 ≤ u ∧ 0 ≤ v ∧ EdB Ns n u v) a b := fun a b hab => by
        induction hab with
        | single e => exact .single ⟨Nat.zero_le _, Nat.zero_le _, e⟩
        | tail _ e ih => exact ih.tail ⟨Nat.zero_le _, Nat.zero_le _, e⟩
      exact this x x ht
    obtain ⟨k, _, hk, hc⟩ := low_cycle n 0 x (by omega) ht'
    exact hno k hk hc
  · exact h
/-- Round by the lowest that is one step nearer. -/
def arS (Ns St : List Nat) (n f : Nat) (l : List Nat) : List Nat :=
  match (bitsU (Ns.getD (l.getLastD 0) 0) n).find? (fun y => decide (St.getD y 0 = f)) with
  | some y => l ++ [y]
  | none => l
def arF (Ns St : List Nat) (n : Nat) : Nat → List Nat → List Nat
  | 0, l => l
  | f + 1, l => arF Ns St n f (arS Ns St n (f + 1) l)
def arU (Ns St : List Nat) (n start : Nat) : List Nat := arF Ns St n (St.getD start 0 - 1) [start]
end Go.Proofs.YtmpdgmigpjfcpaaDoor
