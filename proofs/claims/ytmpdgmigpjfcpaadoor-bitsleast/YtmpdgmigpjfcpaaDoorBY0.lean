import Derived.Test.YtmpdgmigpjfcpaaDoorBT20
namespace Go.Proofs.YtmpdgmigpjfcpaaDoor
set_option linter.unusedVariables false
open Go.RowKit
/-- Edges of rows, and ways along them. -/
def EdB (Ns : List Nat) (n x y : Nat) : Prop := x < n ∧ y < n ∧ (Ns.getD x 0).testBit y = true
def RchB (Ns : List Nat) (n x y : Nat) : Prop := x = y ∨ Relation.TransGen (EdB Ns n) x y
theorem RchB.refl {Ns : List Nat} {n : Nat} (x : Nat) : RchB Ns n x x := .inl rfl
theorem RchB.one {Ns : List Nat} {n x y : Nat} (h : EdB Ns n x y) : RchB Ns n x y := .inr (.single h)
theorem RchB.trans {Ns : List Nat} {n x y z : Nat} (h : RchB Ns n x y) (h' : RchB Ns n y z) : RchB Ns n x z := by
  rcases h with rfl | h
  · exact h'
  · rcases h' with rfl | h'
    · exact .inr h
    · exact .inr (h.trans h')
theorem RchB.fwd {Ns : List Nat} {n x y : Nat} (P : Nat → Prop) (hc : ∀ u v, P u → EdB Ns n u v → P v) (h : RchB Ns n x y) (hx : P x) : P y := by
  rcases h with rfl | h
  · exact hx
  · induction h with
    | single e => exact hc _ _ hx e
    | tail _ e ih => exact hc _ _ ih e
theorem RchB.bwd {Ns : List Nat} {n x y : Nat} (P : Nat → Prop) (hc : ∀ u v, P v → EdB Ns n u v → P u) (h : RchB Ns n x y) (hy : P y) : P x := by
  have := RchB.fwd (x := x) (y := y) (fun v => P v → P x) (fun u v hu e hv => hu (hc u v hv e)) h (fun h => h)
  exact this hy
theorem RchB.lt {Ns : List Nat} {n x y : Nat} (h : RchB Ns n x y) (hx : x < n) : y < n := h.fwd (· < n) (fun _ _ _ e => e.2.1) hx
theorem RchB.gt {Ns : List Nat} {n x y : Nat} (h : RchB Ns n x y) (hy : y < n) : x < n := h.bwd (· < n) (fun _ _ _ e => e.1) hy
/-- What was left, told at each of its places. -/
def GoodB (Ns : List Nat) (n : Nat) (F : List Nat) : Prop := ∀ A x B, F = A ++ x :: B → ∀ u ∈ A ++ [x], ∀ v, EdB Ns n u v → v ∈ A ++ [x] ∨ RchB Ns n v x
/-- A search under way: A was left before. -/
structure DfB (Ns : List Nat) (n r : Nat) (A : List Nat) (s : SrB) : Prop where
  ch : s.path.Pairwise fun x y => RchB Ns n y x
  sn : ∀ z, s.seen.testBit z = true ↔ z ∈ A ∨ z ∈ s.left ∨ z ∈ s.path
  nd : (A ++ s.left ++ s.path).Nodup
  cl : ∀ u, u ∈ A ∨ u ∈ s.left → ∀ v, EdB Ns n u v → s.seen.testBit v = true
  gd : GoodB Ns n (A ++ s.left)
  lt : ∀ z, z ∈ A ∨ z ∈ s.left ∨ z ∈ s.path → z < n
  rt : ∀ z, z ∈ s.left ∨ z ∈ s.path → RchB Ns n r z
  me : r ∈ s.left ∨ r ∈ s.path
theorem snoc_split {A B L : List Nat} {x y : Nat} (h : L ++ [y] = A ++ x :: B) : (A = L ∧ x = y ∧ B = []) ∨ ∃ B', B = B' ++ [y] ∧ L = A ++ x :: B' := by
  rcases List.eq_nil_or_concat B with rfl | ⟨B', b, rfl⟩
  · have := List.append_inj' h rfl
    obtain ⟨h1, h2⟩ := this
    simp at h2
    exact .inl ⟨h1.symm, h2.symm, rfl⟩
  · right
    rw [List.concat_eq_append, ← List.cons_append, ← List.append_assoc] at h
    have := List.append_inj' h rfl
    obtain ⟨h1, h2⟩ := this
    simp at h2
    exact ⟨B', by rw [List.concat_eq_append, h2], h1⟩
theorem DfB.next {Ns : List Nat} {n r : Nat} {A : List Nat} {s : SrB} (h : DfB Ns n r A s) (hp : s.path ≠ []) : DfB Ns n r A (lvN Ns n s) := by
  obtain ⟨p, l, S⟩ := s
  cases p with
  | nil => exact absurd rfl hp
  | cons x p =>
    have hx : x < n := h.lt x (.inr (.inr (List.mem_cons_self)))
    have hk := lkB_is (minusB (Ns.getD x 0) S) n
    rw [lvN_cons]
    have ch := List.pairwise_cons.1 h.ch
    by_cases q : lkB (minusB (Ns.getD x 0) S) n < n
    · rw [if_pos q]
      generalize lkB (minusB (Ns.getD x 0) S) n = y at q hk ⊢
      have hb := (hk.is q).2
      rw [minusB_bit, Bool.and_eq_true] at hb
      obtain ⟨hb1, hb2⟩ := hb
      have hys : S.testBit y = false := by simpa using hb2
      have he : EdB Ns n x y := ⟨hx, q, hb1⟩
      have hyn : ¬ (y ∈ A ∨ y ∈ l ∨ y ∈ x :: p) := fun z => by
        have := (h.sn y).2 z
        simp only at this
        rw [hys] at this
        cases this
      refine ⟨?_, fun z => ?_, ?_, fun u hu v e => ?_, h.gd, fun z hz => ?_, fun z hz => ?_, ?_⟩
      · refine List.pairwise_cons.2 ⟨fun b hb => ?_, h.ch⟩
        rcases List.mem_cons.1 hb with rfl | hb
        · exact .one he
        · exact (ch.1 b hb).trans (.one he)
      · show (addN S y).testBit z = true ↔ _
        have := h.sn z
        simp only at this ⊢
        rw [addN_bit, Bool.or_eq_true, this, decide_eq_true_iff]
        simp only [List.mem_cons]
        constructor
        · rintro (z | rfl)
          · rcases z with z | z | z | z
            · exact .inl z
            · exact .inr (.inl z)
            · exact .inr (.inr (.inr (.inl z)))
            · exact .inr (.inr (.inr (.inr z)))
          · exact .inr (.inr (.inl rfl))
        · rintro (z | z | z | z | z)
          · exact .inl (.inl z)
          · exact .inl (.inr (.inl z))
          · exact .inr z.symm
          · exact .inl (.inr (.inr (.inl z)))
          · exact .inl (.inr (.inr (.inr z)))
      · show (A ++ l ++ y :: x :: p).Nodup
        have hnd : (A ++ l ++ x :: p).Nodup := h.nd
        rw [List.nodup_append] at hnd ⊢
        refine ⟨hnd.1, List.nodup_cons.2 ⟨fun z => hyn (.inr (.inr z)), hnd.2.1⟩, fun a ha b hb => ?_⟩
        rcases List.mem_cons.1 hb with rfl | hb
        · rintro rfl
          rcases List.mem_append.1 ha with z | z
          · exact hyn (.inl z)
          · exact hyn (.inr (.inl z))
        · exact hnd.2.2 a ha b hb
      · show (addN S y).testBit v = true
        rw [addN_bit]
        have := h.cl u hu v e
        simp only at this
        rw [this]
        rfl
      · rcases hz with z1 | z1 | z1
        · exact h.lt z (.inl z1)
        · exact h.lt z (.inr (.inl z1))
        · rcases List.mem_cons.1 z1 with rfl | z1
          · exact q
          · exact h.lt z (.inr (.inr z1))
      · rcases hz with z1 | z1
        · exact h.rt z (.inl z1)
        · rcases List.mem_cons.1 z1 with rfl | z1
          · exact (h.rt x (.inr List.mem_cons_self)).trans (.one he)
          · exact h.rt z (.inr z1)
      · rcases h.me with z | z
        · exact .inl z
        · exact .inr (List.mem_cons_of_mem _ z)
    · rw [if_neg q]
      have hall : ∀ v, EdB Ns n x v → S.testBit v = true := fun v e => by
        have hl := hk.le
        have := hk.none v (Nat.zero_le _) (by have := e.2.1; omega)
        rw [minusB_bit, e.2.2, Bool.true_and] at this
        simpa using this
      refine ⟨ch.2, fun z => ?_, ?_, fun u hu v e => ?_, ?_, fun z hz => ?_, fun z hz => ?_, ?_⟩
      · have := h.sn z
        simp only at this ⊢
        rw [this]
        simp only [List.mem_cons, List.mem_append, List.not_mem_nil, or_false]
        constructor
        · rintro (z | z | z | z)
          · exact .inl z
          · exact .inr (.inl (.inl z))
          · exact .inr (.inl (.inr z))
          · exact .inr (.inr z)
        · rintro (z | (z | z) | z)
          · exact .inl z
          · exact .inr (.inl z)
          · exact .inr (.inr (.inl z))
          · exact .inr (.inr (.inr z))
      · show (A ++ (l ++ [x]) ++ p).Nodup
        have hnd : (A ++ l ++ x :: p).Nodup := h.nd
        have e : A ++ (l ++ [x]) ++ p = A ++ l ++ x :: p := by simp
        rw [e]
        exact hnd
      · show S.testBit v = true
        rcases hu with hu | hu
        · exact h.cl u (.inl hu) v e
        · rcases List.mem_append.1 hu with hu | hu
          · exact h.cl u (.inr hu) v e
          · rw [List.mem_singleton.1 hu] at e
            exact hall v e
      · intro A' x' B' hF u hu v e
        simp only at hF
        rw [← List.append_assoc] at hF
        rcases snoc_split hF with ⟨rfl, rfl, rfl⟩ | ⟨B2, rfl, hF2⟩
        · have hs : S.testBit v = true := by
            rcases List.mem_append.1 hu with hu | hu
            · exact h.cl u (List.mem_append.1 hu) v e
            · rw [List.mem_singleton.1 hu] at e
              exact hall v e
          have hv := (h.sn v).1 hs
          simp only [List.mem_cons] at hv
          rcases hv with z | z | z | z
          · exact .inl (List.mem_append.2 (.inl (List.mem_append.2 (.inl z))))
          · exact .inl (List.mem_append.2 (.inl (List.mem_append.2 (.inr z))))
          · exact .inl (List.mem_append.2 (.inr (List.mem_singleton.2 z)))
          · exact .inr (ch.1 v z)
        · exact h.gd A' x' B2 hF2 u hu v e
      · rcases hz with z1 | z1 | z1
        · exact h.lt z (.inl z1)
        · rcases List.mem_append.1 z1 with z1 | z1
          · exact h.lt z (.inr (.inl z1))
          · rw [List.mem_singleton.1 z1]; exact hx
        · exact h.lt z (.inr (.inr (List.mem_cons_of_mem _ z1)))
      · rcases hz with z1 | z1
        · rcases List.mem_append.1 z1 with z1 | z1
          · exact h.rt z (.inl z1)
          · rw [List.mem_singleton.1 z1]; exact h.rt x (.inr List.mem_cons_self)
        · exact h.rt z (.inr (List.mem_cons_of_mem _ z1))
      · rcases h.me with z | z
        · exact .inl (List.mem_append.2 (.inl z))
        · rcases List.mem_cons.1 z with rfl | z
          · exact .inl (List.mem_append.2 (.inr (List.mem_singleton.2 rfl)))
          · exact .inr z
theorem DfB.end {Ns : List Nat} {n r : Nat} {A : List Nat} : ∀ (k : Nat) (s : SrB), mesV n s ≤ k → DfB Ns n r A s → DfB Ns n r A (lvU Ns n s) ∧ (lvU Ns n s).path = []
  | 0, s, hm, h => by
    have e : s.path = [] := List.eq_nil_of_length_eq_zero (by unfold mesV at hm; omega)
    rw [lvU_end e]
    exact ⟨h, e⟩
  | k + 1, s, hm, h => by
    by_cases e : s.path = []
    · rw [lvU_end e]
      exact ⟨h, e⟩
    · rw [lvU_step e]
      have := lvN_less (Ns := Ns) (n := n) e
      exact DfB.end k _ (by omega) (h.next e)
/-- Searches from roots, D of them done. -/
structure SwB (Ns : List Nat) (n : Nat) (D : List Nat) (L : List (List Nat)) (S : Nat) : Prop where
  sn : ∀ z, S.testBit z = true ↔ z ∈ L.flatten
  nd : L.flatten.Nodup
  cl : ∀ u ∈ L.flatten, ∀ v, EdB Ns n u v → v ∈ L.flatten
  gd : GoodB Ns n L.flatten
  lt : ∀ z ∈ L.flatten, z < n
  all : ∀ q ∈ D, q ∈ L.flatten
  cs : ∀ i T, L[i]? = some T → ∃ r D1 D2, D = D1 ++ r :: D2 ∧ r ∈ T ∧ (∀ z ∈ T, RchB Ns n r z) ∧ (∀ q ∈ D1, q ∈ (L.take i).flatten) ∧ r ∉ (L.take i).flatten ∧ ∀ u ∈ (L.take i).flatten, ∀ v, EdB Ns n u v → v ∈ (L.take i).flatten
theorem SwB.first {Ns : List Nat} {n : Nat} : SwB Ns n [] [] 0 := ⟨fun z => by simp, List.nodup_nil, fun u hu => (by cases hu), fun A x B h => by simp at h, fun z hz => (by cases hz), fun q hq => (by cases hq), fun i T h => by simp at h⟩
theorem SwB.skip {Ns : List Nat} {n r S : Nat} {D : List Nat} {L : List (List Nat)} (h : SwB Ns n D L S) (hr : S.testBit r = true) : SwB Ns n (D ++ [r]) L S := by
  refine ⟨h.sn, h.nd, h.cl, h.gd, h.lt, fun q hq => ?_, fun i T hT => ?_⟩
  · rcases List.mem_append.1 hq with hq | hq
    · exact h.all q hq
    · rw [List.mem_singleton.1 hq]; exact (h.sn r).1 hr
  · obtain ⟨r', D1, D2, e, c⟩ := h.cs i T hT
    exact ⟨r', D1, D2 ++ [r], by rw [e]; simp, c⟩
theorem SwB.more {Ns : List Nat} {n r S : Nat} {D : List Nat} {L : List (List Nat)} (h : SwB Ns n D L S) (hr : S.testBit r = false) (hn : r < n) : SwB Ns n (D ++ [r]) (L ++ [(lvU Ns n ⟨[r], [], addN S r⟩).left]) (lvU Ns n ⟨[r], [], addN S r⟩).seen := by
  have hrn : r ∉ L.flatten := fun z => by
    rw [(h.sn r).2 z] at hr
    cases hr
  have d0 : DfB Ns n r L.flatten ⟨[r], [], addN S r⟩ := by
    refine ⟨by simp, fun z => ?_, ?_, fun u hu v e => ?_, by simpa using h.gd, fun z hz => ?_, fun z hz => ?_, .inr (by simp)⟩
    · show (addN S r).testBit z = true ↔ _
      rw [addN_bit, Bool.or_eq_true, h.sn z, decide_eq_true_iff]
      simp only [List.not_mem_nil, List.mem_singleton, false_or]
      exact ⟨fun z => z.imp id Eq.symm, fun z => z.imp id Eq.symm⟩
    · show (L.flatten ++ [] ++ [r]).Nodup
      rw [List.append_nil, List.nodup_append]
      exact ⟨h.nd, by simp, fun a ha b hb => by rw [List.mem_singleton.1 hb]; rintro rfl; exact hrn ha⟩
    · show (addN S r).testBit v = true
      have hu' : u ∈ L.flatten := by simpa using hu
      rw [addN_bit, (h.sn v).2 (h.cl u hu' v e)]
      rfl
    · simp only [List.not_mem_nil, List.mem_singleton, false_or] at hz
      rcases hz with z1 | z1
      · exact h.lt z z1
      · rw [z1]; exact hn
    · simp only [List.not_mem_nil, List.mem_singleton, false_or] at hz
      rw [hz]
      exact .refl r
  obtain ⟨d, dp⟩ := DfB.end _ _ (Nat.le_refl _) d0
  generalize lvU Ns n ⟨[r], [], addN S r⟩ = s at d dp
  have e1 : (L ++ [s.left]).flatten = L.flatten ++ s.left := by simp
  have hsn : ∀ z, s.seen.testBit z = true ↔ z ∈ L.flatten ++ s.left := fun z => by
    rw [d.sn z, dp, List.mem_append]
    simp
  refine ⟨fun z => by rw [e1]; exact hsn z, ?_, fun u hu v e => ?_, by rw [e1]; exact d.gd, fun z hz => ?_, fun q hq => ?_, fun i T hT => ?_⟩
  · have := d.nd
    rw [dp, List.append_nil] at this
    rw [e1]
    exact this
  · rw [e1] at hu ⊢
    exact (hsn v).1 (d.cl u (List.mem_append.1 hu) v e)
  · rw [e1] at hz
    rcases List.mem_append.1 hz with z1 | z1
    · exact d.lt z (.inl z1)
    · exact d.lt z (.inr (.inl z1))
  · rw [e1]
    rcases List.mem_append.1 hq with hq | hq
    · exact List.mem_append.2 (.inl (h.all q hq))
    · rw [List.mem_singleton.1 hq]
      rcases d.me with z | z
      · exact List.mem_append.2 (.inr z)
      · rw [dp] at z; cases z
  · rcases Nat.lt_or_ge i L.length with hi | hi
    · rw [List.getElem?_append_left hi] at hT
      obtain ⟨r', D1, D2, e, c⟩ := h.cs i T hT
      rw [List.take_append_of_le_length (Nat.le_of_lt hi)]
      exact ⟨r', D1, D2 ++ [r], by rw [e]; simp, c⟩
    · rw [List.getElem?_append_right hi] at hT
      have hz : i - L.length = 0 := by
        have := (List.getElem?_eq_some_iff.1 hT).1
        simp at this
        omega
      rw [hz] at hT
      simp at hT
      have hi2 : i = L.length := by omega
      subst hi2
      rw [List.take_append_of_le_length (Nat.le_refl _), List.take_length, ← hT]
      refine ⟨r, D, [], rfl, ?_, fun z hz => d.rt z (.inl hz), h.all, hrn, h.cl⟩
      rcases d.me with z | z
      · exact z
      · rw [dp] at z; cases z
theorem SwB.run {Ns : List Nat} {n : Nat} : ∀ (R D : List Nat) (L : List (List Nat)) (S : Nat), (∀ r ∈ R, r < n) → SwB Ns n D L S → SwB Ns n (D ++ R) (srU Ns n R (L, S)).1 (srU Ns n R (L, S)).2
  | [], D, L, S, _, h => by
    rw [List.append_nil]
    exact h
  | r :: R, D, L, S, hR, h => by
    unfold srU
    have e : D ++ r :: R = (D ++ [r]) ++ R := by simp
    rw [e]
    by_cases hb : S.testBit r = true
    · simp only [hb, if_true]
      exact SwB.run R _ L S (fun q hq => hR q (List.mem_cons_of_mem _ hq)) (h.skip hb)
    · simp only [hb]
      exact SwB.run R _ _ _ (fun q hq => hR q (List.mem_cons_of_mem _ hq)) (h.more (by simpa using hb) (hR r List.mem_cons_self))
/-- The last that is so. -/
theorem last_so (p : Nat → Prop) : ∀ l : List Nat, (∃ x ∈ l, p x) → ∃ A m B, l = A ++ m :: B ∧ p m ∧ ∀ b ∈ B, ¬ p b
  | [], h => by obtain ⟨x, hx, _⟩ := h; cases hx
  | a :: l, h => by
    by_cases q : ∃ x ∈ l, p x
    · obtain ⟨A, m, B, e, hm, hb⟩ := last_so p l q
      exact ⟨a :: A, m, B, by rw [e]; rfl, hm, hb⟩
    · obtain ⟨x, hx, hpx⟩ := h
      rcases List.mem_cons.1 hx with rfl | hx
      · exact ⟨[], x, l, rfl, hpx, fun b hb hpb => q ⟨b, hb, hpb⟩⟩
      · exact absurd ⟨x, hx, hpx⟩ q
theorem two_splits {A B P Q : List Nat} {m r : Nat} (h : A ++ m :: B = P ++ r :: Q) (hn : (A ++ m :: B).Nodup) (hr : r ∈ A ++ [m]) (hm : m ∈ P ++ [r]) : m = r := by
  rcases List.append_eq_append_iff.1 h with ⟨a, e1, e2⟩ | ⟨a, e1, e2⟩
  · cases a with
    | nil => simp at e2; exact e2.1
    | cons a0 a =>
      simp at e2
      obtain ⟨rfl, rfl⟩ := e2
      exfalso
      have e : A ++ m :: (a ++ r :: Q) = (A ++ [m]) ++ (a ++ r :: Q) := by simp
      rw [e, List.nodup_append] at hn
      exact hn.2.2 r hr r (by simp) rfl
  · cases a with
    | nil => simp at e2; exact e2.1.symm
    | cons a0 a =>
      simp at e2
      obtain ⟨rfl, rfl⟩ := e2
      exfalso
      rw [h] at hn
      have e : P ++ r :: (a ++ m :: B) = (P ++ [r]) ++ (a ++ m :: B) := by simp
      rw [e, List.nodup_append] at hn
      exact hn.2.2 m hm m (by simp) rfl
/-- Kosaraju: what the second search leaves are the classes. -/
theorem kosaraju {Ns Ms F : List Nat} {n S : Nat} {L : List (List Nat)} (hT : ∀ x y, x < n → y < n → (Ms.getD y 0).testBit x = (Ns.getD x 0).testBit y) (hF : GoodB Ns n F) (hnd : F.Nodup) (hall : ∀ z, z ∈ F ↔ z < n) (h : SwB Ms n F.reverse L S) :
    L.flatten.Nodup ∧ (∀ z, z ∈ L.flatten ↔ z < n) ∧ ∀ T ∈ L, ∃ r, r ∈ T ∧ ∀ z, z ∈ T ↔ z < n ∧ RchB Ns n r z ∧ RchB Ns n z r := by
  have tE : ∀ x y, EdB Ms n y x ↔ EdB Ns n x y := fun x y => ⟨fun e => ⟨e.2.1, e.1, by rw [← hT x y e.2.1 e.1]; exact e.2.2⟩, fun e => ⟨e.2.1, e.1, by rw [hT x y e.1 e.2.1]; exact e.2.2⟩⟩
  have tR : ∀ x y, RchB Ms n y x → RchB Ns n x y := fun x y e => e.fwd (fun v => RchB Ns n v y) (fun u v hu e => (RchB.one ((tE v u).1 e)).trans hu) (.refl y)
  refine ⟨h.nd, fun z => ⟨h.lt z, fun hz => h.all z (List.mem_reverse.2 ((hall z).2 hz))⟩, fun T hTm => ?_⟩
  obtain ⟨i, hi⟩ := List.getElem?_of_mem hTm
  obtain ⟨r, D1, D2, hD, hrT, hreach, hD1, hrS, hcl⟩ := h.cs i T hi
  have hspl : L = L.take i ++ T :: L.drop (i + 1) := by
    have hlt := (List.getElem?_eq_some_iff.1 hi)
    obtain ⟨hlt, hv⟩ := hlt
    rw [← hv, ← List.drop_eq_getElem_cons hlt, List.take_append_drop]
  have hfl : L.flatten = (L.take i).flatten ++ (T ++ (L.drop (i + 1)).flatten) := by
    conv => lhs; rw [hspl]
    simp
  generalize (L.take i).flatten = S0 at *
  -- S0 is closed against the edges
  have hback : ∀ u v, RchB Ns n u v → v ∈ S0 → u ∈ S0 := fun u v e hv => e.bwd (· ∈ S0) (fun a b hb e => hcl b hb a ((tE a b).2 e)) hv
  have hTS : ∀ z ∈ T, z ∉ S0 := fun z hz hz2 => by
    have := h.nd
    rw [hfl, List.nodup_append] at this
    exact this.2.2 z hz2 z (List.mem_append.2 (.inl hz)) rfl
  have hTlt : ∀ z ∈ T, z < n := fun z hz => h.lt z (by rw [hfl]; exact List.mem_append.2 (.inr (List.mem_append.2 (.inl hz))))
  -- all that is behind S0 and T is closed, too
  have hST : ∀ z, RchB Ns n z r → z ∈ S0 ∨ z ∈ T := by
    intro z hz
    rcases Nat.lt_or_ge (i + 1) L.length with hlt | hge
    · obtain ⟨T', hT'⟩ : ∃ T', L[i + 1]? = some T' := ⟨_, List.getElem?_eq_getElem hlt⟩
      obtain ⟨_, _, _, _, _, _, _, _, hc2⟩ := h.cs (i + 1) T' hT'
      have et : (L.take (i + 1)).flatten = S0 ++ T := by
        have h0 : L.take (i + 1) = L.take i ++ [T] := by
          rw [List.take_add_one, hi]; rfl
        have h1 : (L.take i).flatten = S0 := by
          have := hfl
          rw [← List.take_append_drop i L, List.flatten_append] at this
          have h2 : (L.drop i).flatten = T ++ (L.drop (i + 1)).flatten := by
            have hv := (List.getElem?_eq_some_iff.1 hi)
            obtain ⟨hl, hv⟩ := hv
            rw [List.drop_eq_getElem_cons hl, hv, List.flatten_cons]
          rw [h2] at this
          have h3 : L.take i ++ L.drop i = L := List.take_append_drop i L
          rw [h3] at this
          exact List.append_cancel_right this
        rw [h0, List.flatten_append, h1]
        simp
      rw [et] at hc2
      have := hz.bwd (· ∈ S0 ++ T) (fun a b hb e => hc2 b hb a ((tE a b).2 e)) (List.mem_append.2 (.inr hrT))
      exact List.mem_append.1 this
    · have hd : L.drop (i + 1) = [] := List.drop_eq_nil_of_le hge
      have hzl : z ∈ L.flatten := h.all z (List.mem_reverse.2 ((hall z).2 (hz.gt (hTlt r hrT))))
      rw [hfl, hd] at hzl
      simpa using hzl
  refine ⟨r, hrT, fun z => ⟨fun hz => ?_, fun hz => ?_⟩⟩
  · have hzr : RchB Ns n z r := tR z r (hreach z hz)
    have hzn := hTlt z hz
    refine ⟨hzn, ?_, hzr⟩
    obtain ⟨A, m, B, hF2, hm, hB⟩ := last_so (fun u => RchB Ns n u z ∧ RchB Ns n z u) F ⟨z, (hall z).2 hzn, .refl z, .refl z⟩
    have hmS : m ∉ S0 := fun q => hTS z hz (hback z m hm.2 q)
    have key : ∀ y, RchB Ns n m y → y ∈ A ++ [m] := by
      intro y hy
      have : y ∈ A ++ [m] ∧ RchB Ns n m y := hy.fwd (fun u => u ∈ A ++ [m] ∧ RchB Ns n m u) (fun u v hu e => by
        refine ⟨?_, hu.2.trans (.one e)⟩
        rcases hF A m B hF2 u hu.1 v e with q | q
        · exact q
        · have hv : v ∈ F := (hall v).2 e.2.1
          rw [hF2] at hv
          rcases List.mem_append.1 hv with hv | hv
          · exact List.mem_append.2 (.inl hv)
          · rcases List.mem_cons.1 hv with rfl | hv
            · exact List.mem_append.2 (.inr (List.mem_singleton.2 rfl))
            · exact absurd ⟨q.trans hm.1, hm.2.trans (hu.2.trans (.one e))⟩ (hB v hv)) ⟨List.mem_append.2 (.inr (List.mem_singleton.2 rfl)), .refl m⟩
      exact this.1
    have hr1 := key r (hm.1.trans hzr)
    have hF3 : F = D2.reverse ++ r :: D1.reverse := by
      have := congrArg List.reverse hD
      rw [List.reverse_reverse, List.reverse_append, List.reverse_cons] at this
      rw [this]
      simp
    have hmF : m ∈ D2.reverse ++ [r] := by
      have : m ∈ F := by rw [hF2]; simp
      rw [hF3] at this
      rcases List.mem_append.1 this with q | q
      · exact List.mem_append.2 (.inl q)
      · rcases List.mem_cons.1 q with rfl | q
        · exact List.mem_append.2 (.inr (List.mem_singleton.2 rfl))
        · exact absurd (hD1 m (List.mem_reverse.1 q)) hmS
    have hmr : m = r := two_splits (hF2.symm.trans hF3) (by rw [← hF2]; exact hnd) hr1 hmF
    rw [← hmr]
    exact hm.1
  · rcases hST z hz.2.2 with q | q
    · exact absurd (hback r z hz.2.1 q) hrS
    · exact q
/-- The first search, and then the second. -/
theorem classes_are {Ns Ms : List Nat} {n : Nat} (hT : ∀ x y, x < n → y < n → (Ms.getD y 0).testBit x = (Ns.getD x 0).testBit y) :
    let L := (srU Ms n (srU Ns n (List.range n) ([], 0)).1.flatten.reverse ([], 0)).1
    L.flatten.Nodup ∧ (∀ z, z ∈ L.flatten ↔ z < n) ∧ ∀ T ∈ L, ∃ r, r ∈ T ∧ ∀ z, z ∈ T ↔ z < n ∧ RchB Ns n r z ∧ RchB Ns n z r := by
  have h1 := SwB.run (Ns := Ns) (n := n) (List.range n) [] [] 0 (fun r hr => List.mem_range.1 hr) .first
  have h2 := SwB.run (Ns := Ms) (n := n) (srU Ns n (List.range n) ([], 0)).1.flatten.reverse [] [] 0 (fun r hr => h1.lt r (List.mem_reverse.1 hr)) .first
  rw [List.nil_append] at h1 h2
  exact kosaraju hT h1.gd h1.nd (fun z => ⟨h1.lt z, fun hz => h1.all z (List.mem_range.2 hz)⟩) h2
end Go.Proofs.YtmpdgmigpjfcpaaDoor
