import Derived.Test.YtmpdgmigpjfcpaaDoorBY1
namespace Go.Proofs.YtmpdgmigpjfcpaaDoor
set_option linter.unusedVariables false
open Go.RowKit
/-- A number with given bits. -/
def mkN (f : Nat → Bool) : Nat → Nat
  | 0 => 0
  | n + 1 => if f n then addN (mkN f n) n else mkN f n
theorem mkN_bit (f : Nat → Bool) : ∀ n j, (mkN f n).testBit j = (decide (j < n) && f j)
  | 0, j => by simp [mkN]
  | n + 1, j => by
    unfold mkN
    by_cases q : f n = true
    · rw [if_pos q, addN_bit, mkN_bit f n j]
      by_cases e : n = j
      · subst e; simp [q]
      · have : decide (j < n + 1) = decide (j < n) := decide_eq_decide.2 (by omega)
        rw [decide_eq_false e, Bool.or_false, this]
    · rw [if_neg q, mkN_bit f n j]
      by_cases e : n = j
      · subst e; simp [q]
      · have : decide (j < n + 1) = decide (j < n) := decide_eq_decide.2 (by omega)
        rw [this]
/-- Edges the other way round. -/
def trU (Ns : List Nat) (n : Nat) : List Nat := (List.range n).map fun y => mkN (fun x => (Ns.getD x 0).testBit y) n
theorem rowN_get {f : Nat → Nat} {n y : Nat} (h : y < n) : ((List.range n).map f).getD y 0 = f y := by
  rw [List.getD_eq_getElem?_getD, List.getElem?_map, List.getElem?_range h]
  rfl
theorem trU_bit {Ns : List Nat} {n x y : Nat} (hx : x < n) (hy : y < n) : ((trU Ns n).getD y 0).testBit x = (Ns.getD x 0).testBit y := by
  unfold trU
  rw [rowN_get hy, mkN_bit, decide_eq_true hx, Bool.true_and]
theorem rowN_ext {Ms : List Nat} {n : Nat} {f : Nat → Nat → Bool} (hl : Ms.length = n) {m : Nat} (hlt : ∀ y, y < n → Ms.getD y 0 < 2 ^ m) (hb : ∀ y x, y < n → x < m → (Ms.getD y 0).testBit x = f y x) : Ms = (List.range n).map fun y => mkN (f y) m := by
  apply List.ext_getElem?
  intro y
  by_cases hy : y < n
  · have h1 : Ms[y]? = some (Ms.getD y 0) := by
      rw [List.getD_eq_getElem?_getD, List.getElem?_eq_getElem (by omega)]
      rfl
    rw [h1, List.getElem?_map, List.getElem?_range hy, Option.map_some]
    congr 1
    apply Nat.eq_of_testBit_eq
    intro x
    rw [mkN_bit]
    by_cases hx : x < m
    · rw [hb y x hy hx, decide_eq_true hx, Bool.true_and]
    · rw [decide_eq_false hx, Bool.false_and]
      exact Nat.testBit_lt_two_pow (Nat.lt_of_lt_of_le (hlt y hy) (Nat.pow_le_pow_right (by decide) (by omega)))
  · rw [List.getElem?_eq_none (by omega), List.getElem?_eq_none (by simp; omega)]
/-- In which class each stands. -/
def hmL (k : Nat) : List Nat → List Nat → List Nat
  | [], H => H
  | x :: T, H => hmL k T (H.set x k)
def hmC : List (List Nat) → Nat → List Nat → List Nat
  | [], _, H => H
  | T :: C, k, H => hmC C (k + 1) (hmL k T H)
theorem hmL_len (k : Nat) : ∀ (T H : List Nat), (hmL k T H).length = H.length
  | [], _ => rfl
  | x :: T, H => by
    show (hmL k T (H.set x k)).length = _
    rw [hmL_len k T, List.length_set]
theorem hmL_get (k : Nat) : ∀ (T H : List Nat) (x : Nat), (hmL k T H).getD x 0 = if x ∈ T ∧ x < H.length then k else H.getD x 0
  | [], H, x => by rw [if_neg (fun q => (by cases q.1))]; rfl
  | y :: T, H, x => by
    show (hmL k T (H.set y k)).getD x 0 = _
    rw [hmL_get k T, List.length_set, getD_setV]
    by_cases h1 : x ∈ T ∧ x < H.length
    · rw [if_pos h1, if_pos ⟨List.mem_cons_of_mem _ h1.1, h1.2⟩]
    · rw [if_neg h1]
      by_cases h2 : y = x ∧ x < H.length
      · rw [if_pos h2, if_pos ⟨by rw [h2.1]; exact List.mem_cons_self, h2.2⟩]
      · rw [if_neg h2, if_neg (fun q => ?_)]
        rcases List.mem_cons.1 q.1 with e | e
        · exact h2 ⟨e.symm, q.2⟩
        · exact h1 ⟨e, q.2⟩
theorem hmC_len : ∀ (C : List (List Nat)) (k : Nat) (H : List Nat), (hmC C k H).length = H.length
  | [], _, _ => rfl
  | T :: C, k, H => by
    show (hmC C (k + 1) (hmL k T H)).length = _
    rw [hmC_len C, hmL_len]
theorem hmC_out : ∀ (C : List (List Nat)) (k : Nat) (H : List Nat) (x : Nat), (∀ T ∈ C, x ∉ T) → (hmC C k H).getD x 0 = H.getD x 0
  | [], _, _, _, _ => rfl
  | T :: C, k, H, x, h => by
    show (hmC C (k + 1) (hmL k T H)).getD x 0 = _
    rw [hmC_out C _ _ x (fun T' hT' => h T' (List.mem_cons_of_mem _ hT')), hmL_get, if_neg (fun q => h T List.mem_cons_self q.1)]
theorem hmC_in : ∀ (C : List (List Nat)) (k : Nat) (H : List Nat) (i x : Nat) (T : List Nat), C.Pairwise (fun T T' => ∀ x ∈ T, ∀ y ∈ T', x ≠ y) → C[i]? = some T → x ∈ T → x < H.length → (hmC C k H).getD x 0 = k + i
  | [], _, _, i, _, _, _, h, _, _ => by simp at h
  | T0 :: C, k, H, 0, x, T, hp, h, hx, hl => by
    simp at h
    subst h
    show (hmC C (k + 1) (hmL k T0 H)).getD x 0 = _
    rw [hmC_out C _ _ x (fun T' hT' q => (List.pairwise_cons.1 hp).1 T' hT' x hx x q rfl), hmL_get, if_pos ⟨hx, hl⟩]
    rfl
  | T0 :: C, k, H, i + 1, x, T, hp, h, hx, hl => by
    show (hmC C (k + 1) (hmL k T0 H)).getD x 0 = _
    rw [hmC_in C (k + 1) _ i x T (List.pairwise_cons.1 hp).2 (by simpa using h) hx (by rw [hmL_len]; exact hl)]
    omega
theorem hmL_lt {k c : Nat} (hk : k < c) : ∀ (T H : List Nat), (∀ x ∈ H, x < c) → ∀ x ∈ hmL k T H, x < c
  | [], _, h => h
  | y :: T, H, h => by
    refine hmL_lt hk T (H.set y k) (fun x hx => ?_)
    rcases List.mem_or_eq_of_mem_set hx with q | q
    · exact h x q
    · rw [q]; exact hk
theorem hmC_lt {c : Nat} : ∀ (C : List (List Nat)) (k : Nat) (H : List Nat), k + C.length ≤ c → (∀ x ∈ H, x < c) → ∀ x ∈ hmC C k H, x < c
  | [], _, _, _, h => h
  | T :: C, k, H, hk, h => by
    simp at hk
    exact hmC_lt C (k + 1) _ (by omega) (hmL_lt (by omega) T H h)
/-- Edges between classes. -/
def btF (H Ns : List Nat) (n a b : Nat) : Bool := decide (a ≠ b) && (List.range n).any fun x => decide (H.getD x 0 = a) && (List.range n).any fun y => (Ns.getD x 0).testBit y && decide (H.getD y 0 = b)
theorem btF_iff {H Ns : List Nat} {n a b : Nat} : btF H Ns n a b = true ↔ a ≠ b ∧ ∃ x y, H.getD x 0 = a ∧ H.getD y 0 = b ∧ EdB Ns n x y := by
  unfold btF EdB
  simp only [Bool.and_eq_true, decide_eq_true_iff, List.any_eq_true, List.mem_range]
  constructor
  · rintro ⟨h1, x, hx, h2, y, hy, h3, h4⟩
    exact ⟨h1, x, y, h2, h4, hx, hy, h3⟩
  · rintro ⟨h1, x, y, h2, h4, hx, hy, h3⟩
    exact ⟨h1, x, hx, h2, y, hy, h3, h4⟩
def btU (C : List (List Nat)) (Ns : List Nat) (n : Nat) : List Nat := (List.range C.length).map fun a => mkN (btF (hmC C 0 (List.replicate n 0)) Ns n a) C.length
theorem btU_ed {C : List (List Nat)} {Ns : List Nat} {n a b : Nat} : EdB (btU C Ns n) C.length a b ↔ a < C.length ∧ b < C.length ∧ btF (hmC C 0 (List.replicate n 0)) Ns n a b = true := by
  unfold EdB btU
  constructor
  · rintro ⟨h1, h2, h3⟩
    rw [rowN_get h1, mkN_bit, decide_eq_true h2, Bool.true_and] at h3
    exact ⟨h1, h2, h3⟩
  · rintro ⟨h1, h2, h3⟩
    refine ⟨h1, h2, ?_⟩
    rw [rowN_get h1, mkN_bit, decide_eq_true h2, Bool.true_and]
    exact h3
/-- Lists that are the classes. -/
structure ClB (Ns : List Nat) (n : Nat) (C : List (List Nat)) : Prop where
  cls : ∀ T ∈ C, T.Nodup ∧ ∃ r, r ∈ T ∧ ∀ z, z ∈ T ↔ z < n ∧ RchB Ns n r z ∧ RchB Ns n z r
  dis : C.Pairwise fun T T' => ∀ x ∈ T, ∀ y ∈ T', x ≠ y
  cov : ∀ z, z < n → ∃ T ∈ C, z ∈ T
theorem ClB.lt {Ns : List Nat} {n : Nat} {C : List (List Nat)} (h : ClB Ns n C) {T : List Nat} (hT : T ∈ C) {x : Nat} (hx : x ∈ T) : x < n := by
  obtain ⟨_, r, _, hr⟩ := h.cls T hT
  exact ((hr x).1 hx).1
theorem ClB.mut {Ns : List Nat} {n : Nat} {C : List (List Nat)} (h : ClB Ns n C) {T : List Nat} (hT : T ∈ C) {x y : Nat} (hx : x ∈ T) : y ∈ T ↔ RchB Ns n x y ∧ RchB Ns n y x := by
  obtain ⟨_, r, _, hr⟩ := h.cls T hT
  have hx' := (hr x).1 hx
  rw [hr y]
  constructor
  · rintro ⟨_, h1, h2⟩
    exact ⟨hx'.2.2.trans h1, h2.trans hx'.2.1⟩
  · rintro ⟨h1, h2⟩
    exact ⟨h1.lt hx'.1, hx'.2.1.trans h1, h2.trans hx'.2.2⟩
theorem ClB.perm {Ns : List Nat} {n : Nat} {C D : List (List Nat)} (h : ClB Ns n C) (hp : D.Perm C) : ClB Ns n D := by
  refine ⟨fun T hT => h.cls T (hp.mem_iff.1 hT), ?_, fun z hz => ?_⟩
  · exact (hp.pairwise_iff (fun {a b} hab x hx y hy e => hab y hy x hx e.symm)).2 h.dis
  · obtain ⟨T, hT, hzT⟩ := h.cov z hz
    exact ⟨T, hp.mem_iff.2 hT, hzT⟩
theorem ClB.map {Ns : List Nat} {n : Nat} {C : List (List Nat)} (h : ClB Ns n C) {f : List Nat → List Nat} (hf : ∀ T ∈ C, (f T).Perm T) : ClB Ns n (C.map f) := by
  refine ⟨fun T hT => ?_, ?_, fun z hz => ?_⟩
  · obtain ⟨T0, hT0, rfl⟩ := List.mem_map.1 hT
    obtain ⟨h1, r, h2, h3⟩ := h.cls T0 hT0
    exact ⟨(hf T0 hT0).nodup_iff.2 h1, r, (hf T0 hT0).mem_iff.2 h2, fun z => by rw [(hf T0 hT0).mem_iff]; exact h3 z⟩
  · rw [List.pairwise_map]
    exact h.dis.imp_of_mem (fun {a b} ha hb hab x hx y hy => hab x ((hf a ha).mem_iff.1 hx) y ((hf b hb).mem_iff.1 hy))
  · obtain ⟨T, hT, hzT⟩ := h.cov z hz
    exact ⟨f T, List.mem_map_of_mem hT, (hf T hT).mem_iff.2 hzT⟩
theorem ClB.made {Ns Ms : List Nat} {n : Nat} (hT : ∀ x y, x < n → y < n → (Ms.getD y 0).testBit x = (Ns.getD x 0).testBit y) : ClB Ns n (srU Ms n (srU Ns n (List.range n) ([], 0)).1.flatten.reverse ([], 0)).1 := by
  obtain ⟨h1, h2, h3⟩ := classes_are hT
  have h1' := List.pairwise_flatten.1 h1
  refine ⟨fun T hTm => ⟨h1'.1 T hTm, h3 T hTm⟩, h1'.2, fun z hz => ?_⟩
  obtain ⟨T, hTm, hzT⟩ := List.mem_flatten.1 ((h2 z).2 hz)
  exact ⟨T, hTm, hzT⟩
theorem ClB.one {Ns : List Nat} {n : Nat} {C : List (List Nat)} (h : ClB Ns n C) {i j x : Nat} {T T' : List Nat} (hi : C[i]? = some T) (hj : C[j]? = some T') (hx : x ∈ T) (hx' : x ∈ T') : i = j := by
  have h1 := hmC_in C 0 (List.replicate n 0) i x T h.dis hi hx (by rw [List.length_replicate]; exact h.lt (List.mem_of_getElem? hi) hx)
  have h2 := hmC_in C 0 (List.replicate n 0) j x T' h.dis hj hx' (by rw [List.length_replicate]; exact h.lt (List.mem_of_getElem? hj) hx')
  omega
theorem ClB.ed {Ns : List Nat} {n : Nat} {C : List (List Nat)} (h : ClB Ns n C) {a b : Nat} : EdB (btU C Ns n) C.length a b ↔ a ≠ b ∧ ∃ T T' x y, C[a]? = some T ∧ C[b]? = some T' ∧ x ∈ T ∧ y ∈ T' ∧ EdB Ns n x y := by
  rw [btU_ed, btF_iff]
  have home : ∀ x, x < n → ∃ T, C[(hmC C 0 (List.replicate n 0)).getD x 0]? = some T ∧ x ∈ T := fun x hx => by
    obtain ⟨T, hT, hxT⟩ := h.cov x hx
    obtain ⟨i, hi⟩ := List.getElem?_of_mem hT
    rw [hmC_in C 0 _ i x T h.dis hi hxT (by rw [List.length_replicate]; exact hx), Nat.zero_add]
    exact ⟨T, hi, hxT⟩
  constructor
  · rintro ⟨_, _, hab, x, y, hx, hy, e⟩
    obtain ⟨T, hT, hxT⟩ := home x e.1
    obtain ⟨T', hT', hyT⟩ := home y e.2.1
    rw [hx] at hT
    rw [hy] at hT'
    exact ⟨hab, T, T', x, y, hT, hT', hxT, hyT, e⟩
  · rintro ⟨hab, T, T', x, y, hT, hT', hx, hy, e⟩
    refine ⟨(List.getElem?_eq_some_iff.1 hT).1, (List.getElem?_eq_some_iff.1 hT').1, hab, x, y, ?_, ?_, e⟩
    · rw [hmC_in C 0 _ a x T h.dis hT hx (by rw [List.length_replicate]; exact e.1), Nat.zero_add]
    · rw [hmC_in C 0 _ b y T' h.dis hT' hy (by rw [List.length_replicate]; exact e.2.1), Nat.zero_add]
/-- Classes never go round. -/
theorem ClB.noround {Ns : List Nat} {n : Nat} {C : List (List Nat)} (h : ClB Ns n C) {a b : Nat} (ht : Relation.TransGen (EdB (btU C Ns n) C.length) a b) : a ≠ b ∧ ∀ T T', C[a]? = some T → C[b]? = some T' → ∀ x ∈ T, ∀ y ∈ T', RchB Ns n x y := by
  have all : ∀ a b, EdB (btU C Ns n) C.length a b → ∀ T T', C[a]? = some T → C[b]? = some T' → ∀ x ∈ T, ∀ y ∈ T', RchB Ns n x y := fun a b e T T' hT hT' x hx y hy => by
    obtain ⟨_, T1, T2, x1, y1, h1, h2, hx1, hy1, e1⟩ := h.ed.1 e
    rw [hT] at h1
    rw [hT'] at h2
    cases h1
    cases h2
    exact ((h.mut (List.mem_of_getElem? hT) hx).1 hx1).1.trans ((RchB.one e1).trans ((h.mut (List.mem_of_getElem? hT') hy1).1 hy).1)
  induction ht with
  | single e => exact ⟨(h.ed.1 e).1, all _ _ e⟩
  | @tail c d _ e ih =>
    obtain ⟨hac, hR⟩ := ih
    have hcl : c < C.length := e.1
    obtain ⟨Tc, hTc⟩ : ∃ T, C[c]? = some T := ⟨_, List.getElem?_eq_getElem hcl⟩
    obtain ⟨_, rc, hrc, _⟩ := h.cls Tc (List.mem_of_getElem? hTc)
    refine ⟨?_, fun T T' hT hT' x hx y hy => (hR T Tc hT hTc x hx rc hrc).trans (all _ _ e Tc T' hTc hT' rc hrc y hy)⟩
    rintro rfl
    obtain ⟨Ta, hTa⟩ : ∃ T, C[a]? = some T := ⟨_, List.getElem?_eq_getElem e.2.1⟩
    obtain ⟨_, ra, hra, _⟩ := h.cls Ta (List.mem_of_getElem? hTa)
    have h1 := hR Ta Tc hTa hTc ra hra rc hrc
    have h2 := all _ _ e Tc Ta hTc hTa rc hrc ra hra
    exact hac (h.one hTa hTc ((h.mut (List.mem_of_getElem? hTa) hra).2 ⟨h1, h2⟩) hrc)
/-- Classes, each behind all that it goes to. -/
def orU (C : List (List Nat)) (Ns : List Nat) (n : Nat) : List (List Nat) := (placeU (btU C Ns n) C.length).map fun a => C.getD a []
structure CoB (Ns : List Nat) (n : Nat) (D : List (List Nat)) : Prop extends ClB Ns n D where
  od : ∀ A T B, D = A ++ T :: B → ∀ x ∈ T, ∀ y, EdB Ns n x y → y ∈ T ∨ ∃ T' ∈ A, y ∈ T'
theorem ClB.full {Ns : List Nat} {n : Nat} {C : List (List Nat)} (h : ClB Ns n C) : (placeU (btU C Ns n) C.length).length = C.length := by
  obtain ⟨P, hP, h2⟩ := place_is (btU C Ns n) C.length
  rcases h2 with h2 | ⟨h2, _⟩
  · exact h2
  · obtain ⟨x, hx, ht⟩ := place_short h2
    exact absurd rfl (h.noround ht).1
theorem getD_someL {C : List (List Nat)} {a : Nat} (h : a < C.length) : C[a]? = some (C.getD a []) := by
  rw [List.getD_eq_getElem?_getD, List.getElem?_eq_getElem h]
  rfl
theorem ClB.order {Ns : List Nat} {n : Nat} {C : List (List Nat)} (h : ClB Ns n C) : CoB Ns n (orU C Ns n) := by
  obtain ⟨P, hP, _⟩ := place_is (btU C Ns n) C.length
  have hall := nodup_all hP.nd hP.lt h.full
  refine ⟨⟨fun T hT => ?_, ?_, fun z hz => ?_⟩, fun A T B hD x hx y e => ?_⟩
  · obtain ⟨a, ha, rfl⟩ := List.mem_map.1 hT
    exact h.cls _ (List.mem_of_getElem? (getD_someL (hP.lt a ha)))
  · unfold orU
    rw [List.pairwise_map]
    refine List.Pairwise.imp_of_mem (R := (· ≠ ·)) (fun {a b} ha hb hab x hx y hy exy => hab ?_) hP.nd
    subst exy
    exact h.one (getD_someL (hP.lt a ha)) (getD_someL (hP.lt b hb)) hx hy
  · obtain ⟨T, hT, hzT⟩ := h.cov z hz
    obtain ⟨i, hi⟩ := List.getElem?_of_mem hT
    have hil := (List.getElem?_eq_some_iff.1 hi).1
    refine ⟨C.getD i [], List.mem_map_of_mem (hall i hil), ?_⟩
    rw [List.getD_eq_getElem?_getD, hi]
    exact hzT
  · unfold orU at hD
    obtain ⟨A1, R1, hp, hA, hR⟩ := List.map_eq_append_iff.1 hD
    obtain ⟨a, B1, rfl, hT, hB⟩ := List.map_eq_cons_iff.1 hR
    have hal := hP.lt a (by rw [hp]; simp)
    obtain ⟨T', hT', hyT⟩ := h.cov y e.2.1
    obtain ⟨b, hb⟩ := List.getElem?_of_mem hT'
    by_cases q : a = b
    · subst q
      left
      rw [← hT, List.getD_eq_getElem?_getD, hb]
      exact hyT
    · right
      have e2 : EdB (btU C Ns n) C.length a b := h.ed.2 ⟨q, T, T', x, y, by rw [getD_someL hal, hT], hb, hx, hyT, e⟩
      have hbA := hP.od A1 a B1 hp b e2
      refine ⟨T', ?_, hyT⟩
      rw [← hA]
      refine List.mem_map.2 ⟨b, hbA, ?_⟩
      rw [List.getD_eq_getElem?_getD, hb]
      rfl
/-- What is united for a class, and solved. -/
def gaY (sol : List (Option Nat)) : List Nat → Nat → Nat
  | [], N => N
  | y :: ys, N => gaY sol ys (match sol.getD y none with | some M => N ||| M | none => N)
def gaX (Ns Fs : List Nat) (n : Nat) (sol : List (Option Nat)) : List Nat → Nat → Nat
  | [], N => N
  | x :: xs, N => gaX Ns Fs n sol xs (gaY sol (bitsU (Ns.getD x 0) n) (N ||| Fs.getD x 0))
def gaU (Ns Fs : List Nat) (n : Nat) (sol : List (Option Nat)) (T : List Nat) : Nat := gaX Ns Fs n sol T (Fs.getD (T.getD 0 0) 0)
def svX (g : Nat) : List Nat → List (Option Nat) → List (Option Nat)
  | [], s => s
  | x :: xs, s => svX g xs (s.set x (some g))
def svC (Ns Fs : List Nat) (n : Nat) : List (List Nat) → List (Option Nat) → List (Option Nat)
  | [], s => s
  | T :: D, s => svC Ns Fs n D (svX (gaU Ns Fs n s T) T s)
theorem gaY_bit (sol : List (Option Nat)) (b : Nat) : ∀ (ys : List Nat) (N : Nat), (gaY sol ys N).testBit b = true ↔ N.testBit b = true ∨ ∃ y ∈ ys, ∃ M, sol.getD y none = some M ∧ M.testBit b = true
  | [], N => by simp [gaY]
  | y :: ys, N => by
    unfold gaY
    rw [gaY_bit sol b ys]
    cases e : sol.getD y none with
    | none =>
      simp only [List.mem_cons]
      constructor
      · rintro (h | ⟨z, hz, M, h1, h2⟩)
        · exact .inl h
        · exact .inr ⟨z, .inr hz, M, h1, h2⟩
      · rintro (h | ⟨z, hz | hz, M, h1, h2⟩)
        · exact .inl h
        · rw [hz, e] at h1; cases h1
        · exact .inr ⟨z, hz, M, h1, h2⟩
    | some K =>
      simp only [List.mem_cons, Nat.testBit_or, Bool.or_eq_true]
      constructor
      · rintro ((h | h) | ⟨z, hz, M, h1, h2⟩)
        · exact .inl h
        · exact .inr ⟨y, .inl rfl, K, e, h⟩
        · exact .inr ⟨z, .inr hz, M, h1, h2⟩
      · rintro (h | ⟨z, hz | hz, M, h1, h2⟩)
        · exact .inl (.inl h)
        · rw [hz, e] at h1; cases h1; exact .inl (.inr h2)
        · exact .inr ⟨z, hz, M, h1, h2⟩
theorem gaX_bit (Ns Fs : List Nat) (n : Nat) (sol : List (Option Nat)) (b : Nat) : ∀ (xs : List Nat) (N : Nat), (gaX Ns Fs n sol xs N).testBit b = true ↔ N.testBit b = true ∨ ∃ x ∈ xs, (Fs.getD x 0).testBit b = true ∨ ∃ y, y < n ∧ (Ns.getD x 0).testBit y = true ∧ ∃ M, sol.getD y none = some M ∧ M.testBit b = true
  | [], N => by simp [gaX]
  | x :: xs, N => by
    unfold gaX
    rw [gaX_bit Ns Fs n sol b xs, gaY_bit, Nat.testBit_or, Bool.or_eq_true]
    simp only [List.mem_cons, bitsU_mem]
    constructor
    · rintro (((h | h) | ⟨y, ⟨h1, h2⟩, h3⟩) | ⟨z, hz, h⟩)
      · exact .inl h
      · exact .inr ⟨x, .inl rfl, .inl h⟩
      · exact .inr ⟨x, .inl rfl, .inr ⟨y, h1, h2, h3⟩⟩
      · exact .inr ⟨z, .inr hz, h⟩
    · rintro (h | ⟨z, rfl | hz, h⟩)
      · exact .inl (.inl (.inl h))
      · rcases h with h | ⟨y, h1, h2, h3⟩
        · exact .inl (.inl (.inr h))
        · exact .inl (.inr ⟨y, ⟨h1, h2⟩, h3⟩)
      · exact .inr ⟨z, hz, h⟩
theorem svX_len (g : Nat) : ∀ (xs : List Nat) (s : List (Option Nat)), (svX g xs s).length = s.length
  | [], _ => rfl
  | x :: xs, s => by show (svX g xs (s.set x (some g))).length = _; rw [svX_len g xs, List.length_set]
theorem svX_get (g : Nat) : ∀ (xs : List Nat) (s : List (Option Nat)) (x : Nat), (svX g xs s).getD x none = if x ∈ xs ∧ x < s.length then some g else s.getD x none
  | [], s, x => by rw [if_neg (fun q => (by cases q.1))]; rfl
  | y :: xs, s, x => by
    show (svX g xs (s.set y (some g))).getD x none = _
    rw [svX_get g xs, List.length_set]
    have hset : (s.set y (some g)).getD x none = if y = x ∧ x < s.length then some g else s.getD x none := by
      simp only [List.getD, List.getElem?_set]
      by_cases h1 : y = x
      · subst h1
        by_cases h2 : y < s.length
        · simp [h2]
        · simp [h2]
      · simp [h1]
    rw [hset]
    by_cases h1 : x ∈ xs ∧ x < s.length
    · rw [if_pos h1, if_pos ⟨List.mem_cons_of_mem _ h1.1, h1.2⟩]
    · rw [if_neg h1]
      by_cases h2 : y = x ∧ x < s.length
      · rw [if_pos h2, if_pos ⟨by rw [h2.1]; exact List.mem_cons_self, h2.2⟩]
      · rw [if_neg h2, if_neg (fun q => ?_)]
        rcases List.mem_cons.1 q.1 with e | e
        · exact h2 ⟨e.symm, q.2⟩
        · exact h1 ⟨e, q.2⟩
/-- Solved so far: the classes of A. -/
structure SoB (Ns Fs : List Nat) (n : Nat) (A : List (List Nat)) (sol : List (Option Nat)) : Prop where
  len : sol.length = n
  yes : ∀ T ∈ A, ∀ x ∈ T, ∃ M, sol.getD x none = some M ∧ ∀ b, M.testBit b = true ↔ ∃ y, RchB Ns n x y ∧ (Fs.getD y 0).testBit b = true
  no : ∀ x, (∀ T ∈ A, x ∉ T) → sol.getD x none = none
theorem SoB.next {Ns Fs : List Nat} {n : Nat} {A B : List (List Nat)} {T : List Nat} {sol : List (Option Nat)} (hD : CoB Ns n (A ++ T :: B)) (h : SoB Ns Fs n A sol) : SoB Ns Fs n (A ++ [T]) (svX (gaU Ns Fs n sol T) T sol) := by
  have hTm : T ∈ A ++ T :: B := by simp
  have hdis := (List.pairwise_append.1 hD.dis).2.2
  have hne : ∀ T' ∈ A, ∀ x ∈ T, x ∉ T' := fun T' hT' x hx q => hdis T' hT' T List.mem_cons_self x q x hx rfl
  have hbit : ∀ x0 ∈ T, ∀ b, (gaU Ns Fs n sol T).testBit b = true ↔ ∃ y, RchB Ns n x0 y ∧ (Fs.getD y 0).testBit b = true := by
    intro x0 hx0 b
    have hhd : T.getD 0 0 ∈ T := by
      cases T with
      | nil => cases hx0
      | cons t T => exact List.mem_cons_self
    unfold gaU
    rw [gaX_bit]
    constructor
    · rintro (hb | ⟨x, hx, hb | ⟨y, hy, he, M, hM, hb⟩⟩)
      · exact ⟨_, ((hD.mut hTm hx0).1 hhd).1, hb⟩
      · exact ⟨_, ((hD.mut hTm hx0).1 hx).1, hb⟩
      · have hxn := hD.toClB.lt hTm hx
        have hyA : ∃ T' ∈ A, y ∈ T' := by
          rcases Classical.em (∃ T' ∈ A, y ∈ T') with q | q
          · exact q
          · rw [h.no y (fun T' hT' hy2 => q ⟨T', hT', hy2⟩)] at hM
            cases hM
        obtain ⟨T', hT', hyT⟩ := hyA
        obtain ⟨M', hM', hb'⟩ := h.yes T' hT' y hyT
        rw [hM] at hM'
        cases hM'
        obtain ⟨z, hz, hzb⟩ := (hb' b).1 hb
        exact ⟨z, ((hD.mut hTm hx0).1 hx).1.trans ((RchB.one ⟨hxn, hy, he⟩).trans hz), hzb⟩
    · rintro ⟨z, hz, hzb⟩
      have key : z ∈ T ∨ ∃ x ∈ T, ∃ y, (∃ T' ∈ A, y ∈ T') ∧ EdB Ns n x y ∧ RchB Ns n y z := hz.fwd (fun u => u ∈ T ∨ ∃ x ∈ T, ∃ y, (∃ T' ∈ A, y ∈ T') ∧ EdB Ns n x y ∧ RchB Ns n y u) (fun u v hu e => by
        rcases hu with hu | ⟨x, hx, y, hy, e1, hr⟩
        · rcases hD.od A T B rfl u hu v e with q | q
          · exact .inl q
          · exact .inr ⟨u, hu, v, q, e, .refl v⟩
        · exact .inr ⟨x, hx, y, hy, e1, hr.trans (.one e)⟩) (.inl hx0)
      rcases key with q | ⟨x, hx, y, ⟨T', hT', hyT⟩, e1, hr⟩
      · exact .inr ⟨z, q, .inl hzb⟩
      · obtain ⟨M, hM, hMb⟩ := h.yes T' hT' y hyT
        exact .inr ⟨x, hx, .inr ⟨y, e1.2.1, e1.2.2, M, hM, (hMb b).2 ⟨z, hr, hzb⟩⟩⟩
  refine ⟨by rw [svX_len]; exact h.len, fun T' hT' x hx => ?_, fun x hx => ?_⟩
  · rcases List.mem_append.1 hT' with q | q
    · obtain ⟨M, hM, hb⟩ := h.yes T' q x hx
      refine ⟨M, ?_, hb⟩
      rw [svX_get, if_neg (fun z => hne T' q x z.1 hx)]
      exact hM
    · rw [List.mem_singleton.1 q] at hx
      refine ⟨gaU Ns Fs n sol T, ?_, hbit x hx⟩
      rw [svX_get, if_pos ⟨hx, by rw [h.len]; exact hD.toClB.lt hTm hx⟩]
  · rw [svX_get, if_neg (fun z => hx T (by simp) z.1)]
    exact h.no x (fun T' hT' => hx T' (List.mem_append.2 (.inl hT')))
theorem SoB.run {Ns Fs : List Nat} {n : Nat} : ∀ (B A : List (List Nat)) (sol : List (Option Nat)), CoB Ns n (A ++ B) → SoB Ns Fs n A sol → SoB Ns Fs n (A ++ B) (svC Ns Fs n B sol)
  | [], A, sol, _, h => by rw [List.append_nil]; exact h
  | T :: B, A, sol, hD, h => by
    have e : A ++ T :: B = (A ++ [T]) ++ B := by simp
    rw [e] at hD ⊢
    exact SoB.run B (A ++ [T]) _ hD (h.next (by rw [← e] at hD; exact hD))
/-- All solved: the least solution. -/
theorem solved_all {Ns Fs : List Nat} {n : Nat} {D : List (List Nat)} (hD : CoB Ns n D) {x : Nat} (hx : x < n) : ∃ M, (svC Ns Fs n D (List.replicate n none)).getD x none = some M ∧ ∀ b, M.testBit b = true ↔ ∃ y, RchB Ns n x y ∧ (Fs.getD y 0).testBit b = true := by
  have h0 : SoB Ns Fs n [] (List.replicate n none) := ⟨by simp, fun T hT => (by cases hT), fun x _ => by
    rw [List.getD_eq_getElem?_getD, List.getElem?_replicate]
    by_cases q : x < n
    · rw [if_pos q]; rfl
    · rw [if_neg q]; rfl⟩
  have h := SoB.run (Fs := Fs) D [] _ hD h0
  obtain ⟨T, hT, hxT⟩ := hD.cov x hx
  exact h.yes T hT x hxT
end Go.Proofs.YtmpdgmigpjfcpaaDoor
