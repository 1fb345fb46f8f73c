import Derived.Test.YtmpdgmigpjfcpaaDoorBY0
namespace Go.Proofs.YtmpdgmigpjfcpaaDoor
set_option linter.unusedVariables false
open Go.RowKit
theorem popB_full {N : Nat} : ∀ {n : Nat}, popB N n = n → ∀ j, j < n → N.testBit j = true
  | 0, _, j, hj => absurd hj (Nat.not_lt_zero j)
  | n + 1, h, j, hj => by
    have h' : popB N n + (N.testBit n).toNat = n + 1 := h
    have hl := popB_le N n
    have hb : (N.testBit n).toNat ≤ 1 := by cases N.testBit n <;> decide
    have h1 : popB N n = n := by omega
    have h2 : N.testBit n = true := by
      cases e : N.testBit n with
      | true => rfl
      | false => rw [e] at h'; simp at h'; omega
    rcases Nat.lt_or_ge j n with q | q
    · exact popB_full h1 j q
    · obtain rfl : j = n := by omega
      exact h2
theorem popB_gap {N : Nat} : ∀ {n : Nat}, popB N n < n → ∃ j, j < n ∧ N.testBit j = false
  | 0, h => absurd h (Nat.not_lt_zero _)
  | n + 1, h => by
    have h' : popB N n + (N.testBit n).toNat < n + 1 := h
    cases e : N.testBit n with
    | false => exact ⟨n, by omega, e⟩
    | true =>
      rw [e] at h'
      simp at h'
      obtain ⟨j, hj, hb⟩ := popB_gap (N := N) (n := n) (by omega)
      exact ⟨j, by omega, hb⟩
/-- A list of numbers as a set. -/
def bsN (l : List Nat) : Nat := l.foldr (fun x N => addN N x) 0
theorem bsN_bit (l : List Nat) (z : Nat) : (bsN l).testBit z = true ↔ z ∈ l := by
  induction l with
  | nil => simp [bsN]
  | cons x l ih =>
    show (addN (bsN l) x).testBit z = true ↔ _
    rw [addN_bit, Bool.or_eq_true, ih, decide_eq_true_iff, List.mem_cons]
    exact ⟨fun h => h.elim .inr (fun h => .inl h.symm), fun h => h.elim (fun h => .inr h.symm) .inl⟩
theorem bsN_pop {n : Nat} : ∀ {l : List Nat}, l.Nodup → (∀ x ∈ l, x < n) → popB (bsN l) n = l.length
  | [], _, _ => by
    exact popB_zero n
  | x :: l, hd, hl => by
    show popB (addN (bsN l) x) n = _
    have hx : (bsN l).testBit x = false := by
      cases e : (bsN l).testBit x with
      | false => rfl
      | true => exact absurd ((bsN_bit l x).1 e) (List.nodup_cons.1 hd).1
    rw [popB_addN (hl x List.mem_cons_self) hx, bsN_pop (List.nodup_cons.1 hd).2 (fun y hy => hl y (List.mem_cons_of_mem _ hy))]
    rfl
theorem nodup_le {n : Nat} {l : List Nat} (hd : l.Nodup) (hl : ∀ x ∈ l, x < n) : l.length ≤ n := by
  rw [← bsN_pop hd hl]
  exact popB_le _ _
theorem nodup_all {n : Nat} {l : List Nat} (hd : l.Nodup) (hl : ∀ x ∈ l, x < n) (he : l.length = n) : ∀ z, z < n → z ∈ l := fun z hz => (bsN_bit l z).1 (popB_full (by rw [bsN_pop hd hl]; exact he) z hz)
theorem nodup_gap {n : Nat} {l : List Nat} (hd : l.Nodup) (hl : ∀ x ∈ l, x < n) (he : l.length < n) : ∃ z, z < n ∧ z ∉ l := by
  obtain ⟨j, hj, hb⟩ := popB_gap (N := bsN l) (n := n) (by rw [bsN_pop hd hl]; exact he)
  exact ⟨j, hj, fun q => by rw [(bsN_bit l j).2 q] at hb; cases hb⟩
/-- Whoever has one behind him without end goes round. -/
theorem has_cycle {R : Nat → Nat → Prop} {n : Nat} {U : Nat → Prop} (hU : ∀ x, U x → x < n) (hs : ∀ x, U x → ∃ y, U y ∧ R x y) {x0 : Nat} (h0 : U x0) : ∃ x, U x ∧ Relation.TransGen R x x := by
  -- a walk as long as one likes, or one that goes round
  have step : ∀ k, (∃ x, U x ∧ Relation.TransGen R x x) ∨ ∃ l x, l.length = k ∧ (x :: l).Nodup ∧ (∀ y ∈ x :: l, U y) ∧ ∀ y ∈ l, Relation.TransGen R y x := by
    intro k
    induction k with
    | zero => exact .inr ⟨[], x0, rfl, by simp, fun y hy => by rw [List.mem_singleton.1 hy]; exact h0, fun y hy => (by cases hy)⟩
    | succ k ih =>
      rcases ih with h | ⟨l, x, hl, hd, hu, ht⟩
      · exact .inl h
      · obtain ⟨y, hy, hr⟩ := hs x (hu x List.mem_cons_self)
        by_cases q : y ∈ x :: l
        · left
          refine ⟨y, hy, ?_⟩
          rcases List.mem_cons.1 q with rfl | q
          · exact .single hr
          · exact (ht y q).trans (.single hr)
        · refine .inr ⟨x :: l, y, by simp [hl], List.nodup_cons.2 ⟨q, hd⟩, fun z hz => ?_, fun z hz => ?_⟩
          · rcases List.mem_cons.1 hz with rfl | hz
            · exact hy
            · exact hu z hz
          · rcases List.mem_cons.1 hz with rfl | hz
            · exact .single hr
            · exact (ht z hz).trans (.single hr)
  rcases step n with h | ⟨l, x, hl, hd, hu, _⟩
  · exact h
  · have := nodup_le hd (fun y hy => hU y (hu y hy))
    simp at this
    omega
/-- Numbers placed one behind the other. -/
structure PcB (Ns : List Nat) (n : Nat) (l : List Nat) (P : Nat) : Prop where
  sn : ∀ z, P.testBit z = true ↔ z ∈ l
  nd : l.Nodup
  lt : ∀ z ∈ l, z < n
  od : ∀ A x B, l = A ++ x :: B → ∀ y, EdB Ns n x y → y ∈ A
theorem PcB.first {Ns : List Nat} {n : Nat} : PcB Ns n [] 0 := ⟨fun z => by simp, List.nodup_nil, fun z hz => (by cases hz), fun A x B h => by simp at h⟩
theorem cd_all {Ns : List Nat} {n P x : Nat} (h : cdB Ns n P x = true) : P.testBit x = false ∧ ∀ y, EdB Ns n x y → P.testBit y = true := by
  unfold cdB at h
  rw [Bool.and_eq_true, decide_eq_true_iff] at h
  refine ⟨by simpa using h.1, fun y e => ?_⟩
  exact lk_all y (by rw [h.2]; exact e.2.1) e.2.2
theorem PcB.next {Ns : List Nat} {n P x : Nat} {l : List Nat} (h : PcB Ns n l P) (hx : nxB Ns n P = some x) : PcB Ns n (l ++ [x]) (addN P x) := by
  unfold nxB at hx
  obtain ⟨hp, hy⟩ := cd_all (by simpa using List.find?_some hx)
  have hxn : x < n := List.mem_range.1 (List.mem_of_find?_eq_some hx)
  have hxl : x ∉ l := fun q => by rw [(h.sn x).2 q] at hp; cases hp
  refine ⟨fun z => ?_, ?_, fun z hz => ?_, fun A y B hA z e => ?_⟩
  · rw [addN_bit, Bool.or_eq_true, h.sn z, decide_eq_true_iff, List.mem_append, List.mem_singleton]
    exact ⟨fun q => q.imp id Eq.symm, fun q => q.imp id Eq.symm⟩
  · rw [List.nodup_append]
    exact ⟨h.nd, by simp, fun a ha b hb => by rw [List.mem_singleton.1 hb]; rintro rfl; exact hxl ha⟩
  · rcases List.mem_append.1 hz with q | q
    · exact h.lt z q
    · rw [List.mem_singleton.1 q]; exact hxn
  · rcases snoc_split hA with ⟨rfl, rfl, rfl⟩ | ⟨B2, rfl, hF2⟩
    · exact (h.sn z).1 (hy z e)
    · exact h.od A y B2 hF2 z e
theorem PcB.run {Ns : List Nat} {n : Nat} : ∀ (f : Nat) (l : List Nat) (P : Nat), PcB Ns n l P → PcB Ns n (plcF Ns n f (l, P)).1 (plcF Ns n f (l, P)).2 ∧ (nxB Ns n (plcF Ns n f (l, P)).2 = none ∨ (plcF Ns n f (l, P)).1.length = l.length + f)
  | 0, l, P, h => ⟨h, .inr rfl⟩
  | f + 1, l, P, h => by
    unfold plcF
    cases e : nxB Ns n P with
    | none => exact ⟨h, .inl e⟩
    | some x =>
      obtain ⟨h1, h2⟩ := PcB.run f (l ++ [x]) (addN P x) (h.next e)
      refine ⟨h1, h2.imp id (fun q => ?_)⟩
      rw [q, List.length_append]
      simp
      omega
theorem place_is (Ns : List Nat) (n : Nat) : ∃ P, PcB Ns n (placeU Ns n) P ∧ ((placeU Ns n).length = n ∨ (placeU Ns n).length < n ∧ ∀ x, x < n → x ∉ placeU Ns n → ∃ y, y < n ∧ y ∉ placeU Ns n ∧ EdB Ns n x y) := by
  obtain ⟨h1, h2⟩ := PcB.run (Ns := Ns) (n := n) n [] 0 .first
  refine ⟨_, h1, ?_⟩
  have hle := nodup_le h1.nd h1.lt
  have hle' : (placeU Ns n).length ≤ n := hle
  rcases h2 with h2 | h2
  · rcases Nat.lt_or_ge (placeU Ns n).length n with q | q
    · refine .inr ⟨q, fun x hx hxl => ?_⟩
      have hc : cdB Ns n (plcF Ns n n ([], 0)).2 x = false := by
        unfold nxB at h2
        have := List.find?_eq_none.1 h2 x (List.mem_range.2 hx)
        simpa using this
      unfold cdB at hc
      have hp : (plcF Ns n n ([], 0)).2.testBit x = false := by
        cases e : (plcF Ns n n ([], 0)).2.testBit x with
        | false => rfl
        | true => exact absurd ((h1.sn x).1 e) hxl
      rw [hp] at hc
      simp only [Bool.not_false, Bool.true_and, decide_eq_false_iff_not] at hc
      have hk := lkB_is (minusB (Ns.getD x 0) (plcF Ns n n ([], 0)).2) n
      have hl := hk.le
      have hb := (hk.is (by omega)).2
      rw [minusB_bit, Bool.and_eq_true] at hb
      refine ⟨_, by omega, fun q2 => ?_, hx, by omega, hb.1⟩
      have := (h1.sn _).2 q2
      rw [this] at hb
      simp at hb
    · exact .inl (by omega)
  · left
    have : (placeU Ns n).length = [].length + n := h2
    simpa using this
theorem place_short {Ns : List Nat} {n : Nat} (h : (placeU Ns n).length < n) : ∃ x, x < n ∧ Relation.TransGen (EdB Ns n) x x := by
  obtain ⟨P, hP, h2⟩ := place_is Ns n
  rcases h2 with h2 | ⟨_, h2⟩
  · omega
  · obtain ⟨z, hz, hzl⟩ := nodup_gap hP.nd hP.lt h
    obtain ⟨x, hx, ht⟩ := has_cycle (R := EdB Ns n) (n := n) (U := fun x => x < n ∧ x ∉ placeU Ns n) (fun x q => q.1) (fun x q => by
      obtain ⟨y, h3, h4, h5⟩ := h2 x q.1 q.2
      exact ⟨y, ⟨h3, h4⟩, h5⟩) ⟨hz, hzl⟩
    exact ⟨x, hx.1, ht⟩
end Go.Proofs.YtmpdgmigpjfcpaaDoor
