import Derived.Test.YtcgghlaifmlpiaaGreatDoorBZ14ToBZ16
import Derived.Test.YtcgghlaifmlpiaaGreatDoorBArg
namespace Go.Proofs.YtcgghlaifmlpiaaGreatDoor
set_option linter.unusedVariables false
open Go.RowKit Go.Shelf

/-- Is a pair among them? -/
def hasP (E : List (Int × Int)) (a b : Int) : Bool := E.any fun p => decide (p.1 = a) && decide (p.2 = b)
theorem hasP_nat (E : List (Int × Int)) (x y : Nat) : hasP E (x : Int) (y : Int) = hasE E x y := rfl
theorem PrsB.at {w : World} {ao : Option Addr} {l : List (Int × Int)} (h : PrsB w ao l) {i : Nat} (hi : i < l.length) : ∃ b off, ao = some ⟨b, off, none⟩ ∧ w.cell? ⟨b, off + i * 2, none⟩ = some (.int .i64 (l.getD i (0, 0)).1) ∧ w.cell? ⟨b, off + i * 2 + 1, none⟩ = some (.int .i64 (l.getD i (0, 0)).2) := by
  obtain ⟨b, off, e, _, hc⟩ := h (fun q => by rw [q] at hi; simp at hi)
  exact ⟨b, off, e, (hc i hi).1, (hc i hi).2⟩
theorem pair_drop {l : List (Int × Int)} {i : Nat} (h : i < l.length) : l.drop i = l.getD i (0, 0) :: l.drop (i + 1) := by
  rw [List.drop_eq_getElem_cons h, List.getD_eq_getElem?_getD, List.getElem?_eq_getElem h]
  rfl
end Go.Proofs.YtcgghlaifmlpiaaGreatDoor
namespace Go.Proofs.YtcgghlaifmlpiaaGreatDoor
set_option linter.unusedVariables false
open Go.RowKit Go.Shelf

/-- Closed under going on. -/
def clR (L : List (Int × Int)) (p : Int × Int) (M : List (Int × Int)) : Bool := M.all fun q => !(decide (p.2 = q.1)) || hasP L p.1 q.2
def clP (L M : List (Int × Int)) : Bool := M.all fun p => clR L p L
end Go.Proofs.YtcgghlaifmlpiaaGreatDoor
namespace Go.Proofs.YtcgghlaifmlpiaaGreatDoor
set_option linter.unusedVariables false
open Go.RowKit Go.Shelf

/-- What Closure tells of two numbers. -/
def tcB (Ms : List Nat) (x y : Nat) : Bool := (Ms.getD x 0).testBit y
theorem prU_mem {Ms : List Nat} {m n : Nat} {p : Int × Int} : p ∈ prU Ms m n ↔ ∃ x y : Nat, x < n ∧ y < m ∧ (Ms.getD x 0).testBit y = true ∧ p = ((x : Int), (y : Int)) := by
  unfold prU prR
  simp only [List.mem_flatMap, List.mem_range, List.mem_map, bitsU_mem]
  constructor
  · rintro ⟨x, hx, y, ⟨hy, hb⟩, rfl⟩
    exact ⟨x, y, hx, hy, hb, rfl⟩
  · rintro ⟨x, y, hx, hy, hb, rfl⟩
    exact ⟨x, hx, y, ⟨hy, hb⟩, rfl⟩
theorem hasP_mem {E : List (Int × Int)} {a b : Int} : hasP E a b = true ↔ (a, b) ∈ E := by
  unfold hasP
  rw [List.any_eq_true]
  constructor
  · rintro ⟨p, hp, h⟩
    simp only [Bool.and_eq_true, decide_eq_true_iff] at h
    have : p = (a, b) := Prod.ext h.1 h.2
    rw [← this]
    exact hp
  · intro h
    exact ⟨_, h, by simp⟩
theorem hasP_pr {Ms : List Nat} {k x y : Nat} (hx : x < k) (hy : y < k) : hasP (prU Ms k k) (x : Int) (y : Int) = tcB Ms x y := by
  rw [Bool.eq_iff_iff, hasP_mem, prU_mem]
  constructor
  · rintro ⟨x', y', _, _, hb, e⟩
    simp only [Prod.mk.injEq] at e
    have e1 : x' = x := by omega
    have e2 : y' = y := by omega
    rw [e1, e2] at hb
    exact hb
  · intro h
    exact ⟨x, y, hx, hy, h, rfl⟩
theorem tc_rch {Ns Ms : List Nat} {k x y : Nat} (hM : SolB Ns Ns k Ms) (hx : x < k) (hy : y < k) : tcB Ms x y = true ↔ Relation.TransGen (EdB Ns k) x y := by
  unfold tcB
  rw [hM.bit x hx y]
  constructor
  · rintro ⟨z, hz, hb⟩
    have ez : EdB Ns k z y := ⟨hz.lt hx, hy, hb⟩
    rcases hz with rfl | hz
    · exact .single ez
    · exact hz.tail ez
  · intro h
    cases h with
    | single e => exact ⟨x, .refl x, e.2.2⟩
    | tail h e => exact ⟨_, .inr h, e.2.2⟩
theorem CoB.idx {Ns : List Nat} {n : Nat} {D : List (List Nat)} (h : CoB Ns n D) {x y : Nat} (hr : RchB Ns n x y) : ∀ {i j : Nat} {T T' : List Nat}, D[i]? = some T → x ∈ T → D[j]? = some T' → y ∈ T' → j ≤ i := by
  intro i j T T' hi hx hj hy
  have key : ∀ j T', D[j]? = some T' → y ∈ T' → j ≤ i := hr.fwd (fun u => ∀ j T', D[j]? = some T' → u ∈ T' → j ≤ i) (fun u v hu e j2 T2 hj2 hv => by
    obtain ⟨Tu, hTu, huT⟩ := h.cov u e.1
    obtain ⟨iu, hiu⟩ := List.getElem?_of_mem hTu
    have hle := hu iu Tu hiu huT
    obtain ⟨hlu, hvu⟩ := List.getElem?_eq_some_iff.1 hiu
    have hspl : D = D.take iu ++ Tu :: D.drop (iu + 1) := by
      rw [← hvu, ← List.drop_eq_getElem_cons hlu, List.take_append_drop]
    rcases h.od _ _ _ hspl u huT v e with q | ⟨T3, hT3, hv3⟩
    · have := h.toClB.one hj2 hiu hv q
      omega
    · obtain ⟨j3, hj3⟩ := List.getElem?_of_mem hT3
      have hl3 : j3 < iu := by
        have := (List.getElem?_eq_some_iff.1 hj3).1
        simp at this
        omega
      rw [List.getElem?_take_of_lt hl3] at hj3
      have := h.toClB.one hj2 hj3 hv hv3
      omega) (fun j2 T2 hj2 hx2 => Nat.le_of_eq (h.toClB.one hj2 hi hx2 hx))
  exact key j T' hj hy
theorem popB_all {N : Nat} : ∀ {n : Nat}, (∀ j, j < n → N.testBit j = true) → popB N n = n
  | 0, _ => rfl
  | n + 1, h => by
    show popB N n + (N.testBit n).toNat = n + 1
    rw [popB_all (fun j hj => h j (by omega)), h n (by omega)]
    rfl
theorem CoB.total {Ns : List Nat} {n : Nat} {D : List (List Nat)} (h : CoB Ns n D) : D.flatten.length = n := by
  have h1 : D.flatten.Nodup := List.pairwise_flatten.2 ⟨fun T hT => (h.cls T hT).1, h.dis⟩
  have h2 : ∀ z ∈ D.flatten, z < n := fun z hz => by
    obtain ⟨T, hT, hzT⟩ := List.mem_flatten.1 hz
    exact h.toClB.lt hT hzT
  rw [← bsN_pop h1 h2]
  refine popB_all (fun j hj => (bsN_bit _ j).2 ?_)
  obtain ⟨T, hT, hjT⟩ := h.cov j hj
  exact List.mem_flatten.2 ⟨T, hT, hjT⟩
/-- Classes told so far. -/
structure AtC (D : List (List Nat)) (k i q : Nat) (K : List Nat) : Prop where
  len : K.length = k
  yes : ∀ (i' x : Nat) (T : List Nat), D[i']? = some T → x ∈ T → i' < i ∨ (i' = i ∧ x ∈ T.take q) → K.getD x 0 = i' + 1
theorem AtC.next {Ns D : List (List Nat)} {N : List Nat} {k i q : Nat} {K T : List Nat} (h : AtC D k i q K) (hD : CoB N k D) (hi : D[i]? = some T) (hq : q < T.length) : AtC D k i (q + 1) (K.set (T.getD q 0) (i + 1)) := by
  have hxT := getD_memN hq
  have hxk := hD.toClB.lt (List.mem_of_getElem? hi) hxT
  refine ⟨by rw [List.length_set]; exact h.len, fun i' x T' hi' hx hor => ?_⟩
  rw [getD_setV]
  by_cases e : T.getD q 0 = x
  · have e2 : i' = i := hD.toClB.one hi' hi hx (by rw [← e]; exact hxT)
    rw [if_pos ⟨e, by rw [h.len, ← e]; exact hxk⟩, e2]
  · rw [if_neg (fun z => e z.1)]
    refine h.yes i' x T' hi' hx (hor.imp id (fun z => ⟨z.1, ?_⟩))
    have e3 : T' = T := by
      rw [z.1, hi] at hi'
      exact (Option.some.inj hi').symm
    rw [e3] at z ⊢
    rcases (take_memB hq).1 z.2 with q1 | q1
    · exact q1
    · exact absurd q1.symm e
theorem AtC.row {D : List (List Nat)} {k i : Nat} {K T : List Nat} (h : AtC D k i T.length K) (hi : D[i]? = some T) : AtC D k (i + 1) 0 K := by
  refine ⟨h.len, fun i' x T' hi' hx hor => h.yes i' x T' hi' hx ?_⟩
  rcases hor with q | ⟨_, q⟩
  · by_cases e : i' = i
    · subst e
      rw [hi] at hi'
      cases hi'
      exact .inr ⟨rfl, by rw [List.take_length]; exact hx⟩
    · exact .inl (by omega)
  · simp at q
end Go.Proofs.YtcgghlaifmlpiaaGreatDoor
namespace Go.Proofs.YtcgghlaifmlpiaaGreatDoor
set_option linter.unusedVariables false
open Go.RowKit Go.Shelf

theorem RelB.uniq {E : List (Int × Int)} {n : Nat} {Ns Ms : List Nat} (h : RelB E n Ns) (h' : RelB E n Ms) : Ns = Ms := by
  rw [rowN_ext (f := fun y x => hasE E y x) h.len h.lt (fun y x hy hx => h.bit y x hy hx), rowN_ext (f := fun y x => hasE E y x) h'.len h'.lt (fun y x hy hx => h'.bit y x hy hx)]
theorem PRo.read {w : World} {v : Value} {l : List (Int × Int)} (h : PRo w v l) : ∃ a c, v = .slice a l.length c ∧ PrsB w a l := by
  obtain ⟨a, c, rfl, _⟩ := h.len
  refine ⟨a, c, rfl, fun hne => ?_⟩
  have h0 : 0 < l.length := List.length_pos_iff.2 hne
  obtain ⟨b, c', he, _, _⟩ := h.cell rkPr.len h0
  simp only [Value.slice.injEq, true_and] at he
  obtain ⟨rfl, rfl⟩ := he
  refine ⟨b, 0, rfl, h.lt b rfl, fun i hi => ?_⟩
  obtain ⟨b', c2, he2, _, hc⟩ := h.cell rkPr.len hi
  simp only [Value.slice.injEq, true_and, Option.some.injEq, Addr.mk.injEq] at he2
  obtain ⟨⟨rfl, -⟩, -⟩ := he2
  have e : l.getD i (0, 0) = l[i] := by rw [List.getD_eq_getElem?_getD, List.getElem?_eq_getElem hi]; rfl
  have h1 := hc 0 (by decide)
  have h2 := hc 1 (by decide)
  rw [Nat.add_zero] at h1
  rw [Nat.zero_add, h1, h2, e]
  exact ⟨rfl, rfl⟩
def lexP (p q : Int × Int) : Prop := p.1 < q.1 ∨ p.1 = q.1 ∧ p.2 < q.2
theorem prU_rise (Ms : List Nat) (m : Nat) : ∀ n, (prU Ms m n).Pairwise lexP
  | 0 => by simp [prU]
  | n + 1 => by
    rw [prU_next, List.pairwise_append]
    refine ⟨prU_rise Ms m n, ?_, fun p hp q hq => ?_⟩
    · unfold prR
      rw [List.pairwise_map]
      have : (bitsU (Ms.getD n 0) m).Pairwise (· < ·) := List.Pairwise.filter _ List.pairwise_lt_range
      exact this.imp (fun h => .inr ⟨rfl, by simp only; omega⟩)
    · obtain ⟨x, y, hx, _, _, rfl⟩ := prU_mem.1 hp
      unfold prR at hq
      obtain ⟨z, _, rfl⟩ := List.mem_map.1 hq
      exact .inl (by simp only; omega)
theorem tc_trans {Ns Ms : List Nat} {k : Nat} (hM : SolB Ns Ns k Ms) : clP (prU Ms k k) (prU Ms k k) = true := by
  unfold clP clR
  rw [List.all_eq_true]
  intro p hp
  rw [List.all_eq_true]
  intro q hq
  obtain ⟨x, y, hx, hy, h1, rfl⟩ := prU_mem.1 hp
  obtain ⟨y', z, hy', hz, h2, rfl⟩ := prU_mem.1 hq
  simp only
  by_cases e : (y : Int) = (y' : Int)
  · have e2 : y = y' := by omega
    subst e2
    rw [decide_eq_true e, hasP_pr hx hz]
    have h3 := (tc_rch hM hx hy).1 h1
    have h4 := (tc_rch hM hy hz).1 h2
    rw [(tc_rch hM hx hz).2 (h3.trans h4)]
    rfl
  · rw [decide_eq_false e]
    rfl
theorem ed_has {Ns : List Nat} {E : List (Int × Int)} {k : Nat} (hN : RelB E k Ns) {x y : Nat} (e : EdB Ns k x y) : hasP E (x : Int) (y : Int) = true := by
  rw [hasP_nat, ← hN.bit x y e.1 e.2.1]
  exact e.2.2
theorem has_ed {Ns : List Nat} {E : List (Int × Int)} {k : Nat} (hN : RelB E k Ns) (hok : E.all (okE k) = true) {p : Int × Int} (hp : p ∈ E) : ∃ x y : Nat, p = ((x : Int), (y : Int)) ∧ EdB Ns k x y := by
  obtain ⟨pa, pb⟩ := p
  have hoe := List.all_eq_true.1 hok _ hp
  unfold okE at hoe
  simp only [Bool.and_eq_true, decide_eq_true_iff] at hoe
  refine ⟨pa.toNat, pb.toNat, Prod.ext (by simp only; omega) (by simp only; omega), by omega, by omega, ?_⟩
  rw [hN.bit _ _ (by omega) (by omega), ← hasP_nat, hasP_mem]
  have e1 : ((pa.toNat : Nat) : Int) = pa := by omega
  have e2 : ((pb.toNat : Nat) : Int) = pb := by omega
  rw [e1, e2]
  exact hp
theorem above_all {Ns Ms : List Nat} {E O : List (Int × Int)} {k : Nat} (hN : RelB E k Ns) (hM : SolB Ns Ns k Ms) (hcl : clP O O = true) (hE : E.all (fun p => hasP O p.1 p.2) = true) : ∀ p ∈ prU Ms k k, hasP O p.1 p.2 = true := by
  intro p hp
  obtain ⟨x, y, hx, hy, h1, rfl⟩ := prU_mem.1 hp
  have ht := (tc_rch hM hx hy).1 h1
  have edO : ∀ a b, EdB Ns k a b → hasP O (a : Int) (b : Int) = true := fun a b e => List.all_eq_true.1 hE _ (hasP_mem.1 (ed_has hN e))
  simp only
  clear h1 hp hy
  induction ht with
  | single e => exact edO _ _ e
  | tail _ e ih =>
    have h2 := edO _ _ e
    unfold clP clR at hcl
    have h3 := List.all_eq_true.1 (List.all_eq_true.1 hcl _ (hasP_mem.1 ih)) _ (hasP_mem.1 h2)
    simpa using h3
end Go.Proofs.YtcgghlaifmlpiaaGreatDoor
namespace Go.Proofs.YtcgghlaifmlpiaaGreatDoor
set_option linter.unusedVariables false
open Go.RowKit Go.Shelf

/-- A list's numbers put into a set, as far as there is room. -/
def flN (m : Nat) : List Int → Nat → Nat
  | [], N => N
  | x :: l, N => flN m l (addX N m x)
theorem flN_snoc (m : Nat) : ∀ (l : List Int) (x : Int) (N : Nat), flN m (l ++ [x]) N = addX (flN m l N) m x
  | [], _, _ => rfl
  | y :: l, x, N => flN_snoc m l x (addX N m y)
theorem addX_bit (N m j : Nat) (x : Int) : (addX N m x).testBit j = true ↔ N.testBit j = true ∨ (j < m ∧ x = (j : Int)) := by
  unfold addX
  by_cases h : 0 ≤ x ∧ x < (m : Int)
  · rw [if_pos h, addN_bit, Bool.or_eq_true, decide_eq_true_iff]
    constructor
    · rintro (q | q)
      · exact .inl q
      · exact .inr ⟨by omega, by omega⟩
    · rintro (q | q)
      · exact .inl q
      · exact .inr (by omega)
  · rw [if_neg h]
    constructor
    · exact .inl
    · rintro (q | q)
      · exact q
      · exact absurd (show 0 ≤ x ∧ x < (m : Int) by omega) h
theorem flN_bit (m j : Nat) : ∀ (l : List Int) (N : Nat), (flN m l N).testBit j = true ↔ N.testBit j = true ∨ (j < m ∧ (j : Int) ∈ l)
  | [], N => by simp [flN]
  | x :: l, N => by
    show (flN m l (addX N m x)).testBit j = true ↔ _
    rw [flN_bit m j l, addX_bit, List.mem_cons]
    constructor
    · rintro ((q | q) | q)
      · exact .inl q
      · exact .inr ⟨q.1, .inl q.2.symm⟩
      · exact .inr ⟨q.1, .inr q.2⟩
    · rintro (q | ⟨q, r | r⟩)
      · exact .inl (.inl q)
      · exact .inl (.inr ⟨q, r.symm⟩)
      · exact .inr ⟨q, r⟩
/-- May a list's numbers be? -/
def inLB (m : Nat) (l : List Int) : Bool := l.all fun x => decide (0 ≤ x) && decide (x < (m : Int))
theorem hasB_fl {m : Nat} {l : List Int} {N : Nat} {x : Int} (hx : x ∈ l) : hasB (flN m l N) m x = (decide (0 ≤ x) && decide (x < (m : Int))) := by
  unfold hasB
  by_cases h : (decide (0 ≤ x) && decide (x < (m : Int))) = true
  · rw [h, Bool.true_and]
    simp only [Bool.and_eq_true, decide_eq_true_iff] at h
    rw [flN_bit]
    refine .inr ⟨by omega, ?_⟩
    rwa [show ((x.toNat : Nat) : Int) = x by omega]
  · rw [Bool.eq_false_iff.2 h]
    rfl
/-- Sets of lists. -/
structure FsB (F : List (List Int)) (n m : Nat) (Fs : List Nat) : Prop where
  len : Fs.length = n
  flen : F.length = n
  ok : F.all (inLB m) = true
  bit : ∀ x, x < n → ∀ b, (Fs.getD x 0).testBit b = true ↔ b < m ∧ (b : Int) ∈ F.getD x []
theorem mem_bitsI {N m : Nat} {z : Int} : z ∈ nI (bitsU N m) ↔ ∃ b : Nat, z = (b : Int) ∧ b < m ∧ N.testBit b = true := by
  unfold nI
  rw [List.mem_map]
  constructor
  · rintro ⟨b, hb, rfl⟩
    exact ⟨b, rfl, bitsU_mem.1 hb⟩
  · rintro ⟨b, rfl, hb⟩
    exact ⟨b, bitsU_mem.2 hb, rfl⟩
theorem FsB.num {F : List (List Int)} {n m : Nat} {Fs : List Nat} (h : FsB F n m Fs) {x : Nat} (hx : x < n) {z : Int} (hz : z ∈ F.getD x []) : ∃ b : Nat, z = (b : Int) ∧ b < m ∧ (Fs.getD x 0).testBit b = true := by
  have hm : F.getD x [] ∈ F := by
    rw [List.getD_eq_getElem?_getD, List.getElem?_eq_getElem (by rw [h.flen]; exact hx)]
    exact List.getElem_mem _
  have h1 := List.all_eq_true.1 (List.all_eq_true.1 h.ok _ hm) z hz
  simp only [Bool.and_eq_true, decide_eq_true_iff] at h1
  have e : z = ((z.toNat : Nat) : Int) := by omega
  refine ⟨z.toNat, e, by omega, (h.bit x hx _).2 ⟨by omega, by rw [← e]; exact hz⟩⟩
theorem sol_own {F : List (List Int)} {n m : Nat} {Fs Ns Ms : List Nat} (h : FsB F n m Fs) (hM : SolB Ns Fs n Ms) {x : Nat} (hx : x < n) {z : Int} (hz : z ∈ F.getD x []) : z ∈ nI (bitsU (Ms.getD x 0) m) := by
  obtain ⟨b, rfl, hb, h1⟩ := h.num hx hz
  exact mem_bitsI.2 ⟨b, rfl, hb, (hM.bit x hx b).2 ⟨x, RchB.refl x, h1⟩⟩
theorem sol_edge {E : List (Int × Int)} {n m : Nat} {Fs Ns Ms : List Nat} (hN : RelB E n Ns) (hok : E.all (okE n) = true) (hM : SolB Ns Fs n Ms) {p : Int × Int} (hp : p ∈ E) : ∃ x y : Nat, p = ((x : Int), (y : Int)) ∧ x < n ∧ y < n ∧ ∀ z ∈ nI (bitsU (Ms.getD y 0) m), z ∈ nI (bitsU (Ms.getD x 0) m) := by
  obtain ⟨x, y, rfl, ed⟩ := has_ed hN hok hp
  refine ⟨x, y, rfl, ed.1, ed.2.1, fun z hz => ?_⟩
  obtain ⟨b, rfl, hb, h1⟩ := mem_bitsI.1 hz
  obtain ⟨u, hu, hf⟩ := (hM.bit y ed.2.1 b).1 h1
  exact mem_bitsI.2 ⟨b, rfl, hb, (hM.bit x ed.1 b).2 ⟨u, (RchB.one ed).trans hu, hf⟩⟩
theorem sol_least {E : List (Int × Int)} {F O : List (List Int)} {n m : Nat} {Fs Ns Ms : List Nat} (hN : RelB E n Ns) (hF : FsB F n m Fs) (hM : SolB Ns Fs n Ms) (h1 : ∀ x, x < n → ∀ z ∈ F.getD x [], z ∈ O.getD x []) (h2 : ∀ p ∈ E, ∀ z ∈ O.getD p.2.toNat [], z ∈ O.getD p.1.toNat []) {x : Nat} (hx : x < n) {z : Int} (hz : z ∈ nI (bitsU (Ms.getD x 0) m)) : z ∈ O.getD x [] := by
  obtain ⟨b, rfl, hb, hbit⟩ := mem_bitsI.1 hz
  obtain ⟨y, hy, hf⟩ := (hM.bit x hx b).1 hbit
  have key : ∀ x, x < n → RchB Ns n x y → (b : Int) ∈ O.getD x [] := fun x hx hr => by
    have base : y < n → (b : Int) ∈ O.getD y [] := fun hyn => h1 y hyn _ ((hF.bit y hyn b).1 hf).2
    rcases hr with rfl | ht
    · exact base hx
    · have hyn : y < n := by
        cases ht with
        | single e => exact e.2.1
        | tail _ e => exact e.2.1
      have hb2 := base hyn
      clear hx base hyn hf hy
      induction ht with
      | single e => exact h2 _ (hasP_mem.1 (ed_has hN e)) _ (by simpa using hb2)
      | tail _ e ih => exact ih (h2 _ (hasP_mem.1 (ed_has hN e)) _ (by simpa using hb2))
  exact key x hx hy
end Go.Proofs.YtcgghlaifmlpiaaGreatDoor
