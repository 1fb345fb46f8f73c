import Derived.Test.YtcgghlaifmlpiaaGreatDoorBR0ToBR3
import Derived.Test.YtcgghlaifmlpiaaGreatDoorBD1ToBD3
import Derived.Test.YtcgghlaifmlpiaaGreatDoorHIntToBGG
namespace Go.Proofs.YtcgghlaifmlpiaaGreatDoor
set_option linter.unusedVariables false
open Go.RowKit Go.Shelf

theorem take_getDL {l : List Int} {i : Nat} (h : i < l.length) : l.take (i + 1) = l.take i ++ [l.getD i 0] := by
  rw [List.take_add_one, List.getElem?_eq_getElem h, List.getD_eq_getElem?_getD, List.getElem?_eq_getElem h]
  rfl
/-- What of one row has been put in: of the first y lists all, and of list y the first i. -/
structure InR (F : List (List Int)) (cnd : Nat → Bool) (m y i : Nat) (bs : List Bool) : Prop where
  len : bs.length = m
  bit : ∀ j : Nat, bs.getD j false = true ↔ j < m ∧ ((∃ u, u < y ∧ cnd u = true ∧ (j : Int) ∈ F.getD u []) ∨ (cnd y = true ∧ (j : Int) ∈ (F.getD y []).take i))
theorem InR.start (F : List (List Int)) (cnd : Nat → Bool) (m : Nat) : InR F cnd m 0 0 (List.replicate m false) := ⟨by simp, fun j => by
  rw [repl_getR]
  simp⟩
theorem InR.put {F : List (List Int)} {cnd : Nat → Bool} {m y i z : Nat} {bs : List Bool} (h : InR F cnd m y i bs) (hc : cnd y = true) (hi : i < (F.getD y []).length) (hz : (F.getD y []).getD i 0 = (z : Int)) (hzm : z < m) : InR F cnd m y (i + 1) (bs.set z true) := by
  refine ⟨by rw [List.length_set]; exact h.len, fun j => ?_⟩
  rw [getD_setR, take_getDL hi, hz, List.mem_append, List.mem_singleton, h.len]
  by_cases e : z = j ∧ j < m
  · rw [if_pos e]
    refine ⟨fun _ => ⟨e.2, .inr ⟨hc, .inr (by rw [e.1])⟩⟩, fun _ => rfl⟩
  · rw [if_neg e, h.bit j]
    constructor
    · rintro ⟨q1, q2 | q2⟩
      · exact ⟨q1, .inl q2⟩
      · exact ⟨q1, .inr ⟨q2.1, .inl q2.2⟩⟩
    · rintro ⟨q1, q2 | ⟨q2, q3 | q3⟩⟩
      · exact ⟨q1, .inl q2⟩
      · exact ⟨q1, .inr ⟨q2, q3⟩⟩
      · exact absurd ⟨by omega, q1⟩ e
theorem InR.next {F : List (List Int)} {cnd : Nat → Bool} {m y i : Nat} {bs : List Bool} (h : InR F cnd m y i bs) (hi : cnd y = false ∨ i = (F.getD y []).length) : InR F cnd m (y + 1) 0 bs := by
  refine ⟨h.len, fun j => ?_⟩
  rw [h.bit j]
  constructor
  · rintro ⟨q1, ⟨u, q2, q3, q4⟩ | ⟨q2, q3⟩⟩
    · exact ⟨q1, .inl ⟨u, by omega, q3, q4⟩⟩
    · exact ⟨q1, .inl ⟨y, Nat.lt_succ_self y, q2, List.mem_of_mem_take q3⟩⟩
  · rintro ⟨q1, ⟨u, q2, q3, q4⟩ | ⟨q2, q3⟩⟩
    · by_cases e : u = y
      · subst e
        refine ⟨q1, .inr ⟨q3, ?_⟩⟩
        rcases hi with hi | hi
        · rw [q3] at hi; cases hi
        · rw [hi, List.take_length]; exact q4
      · exact ⟨q1, .inl ⟨u, by omega, q3, q4⟩⟩
    · simp at q3
/-- The list of what is in, as far as k. -/
def flR (bs : List Bool) (k : Nat) : List Int := nI ((List.range k).filter fun j => bs.getD j false)
theorem flR_next (bs : List Bool) (k : Nat) : flR bs (k + 1) = flR bs k ++ (if bs.getD k false = true then [(k : Int)] else []) := by
  unfold flR nI
  rw [List.range_succ, List.filter_append, List.map_append]
  congr 1
  by_cases h : bs.getD k false = true
  · rw [if_pos h, List.filter_cons_of_pos (by simpa using h)]; rfl
  · rw [if_neg h, List.filter_cons_of_neg (by simpa using h)]; rfl
theorem flR_len (bs : List Bool) (k : Nat) : (flR bs k).length ≤ k := by
  unfold flR nI
  rw [List.length_map]
  have := List.length_filter_le (fun j => bs.getD j false) (List.range k)
  simpa using this
def cnR (Rs : List (List Bool)) (x y : Nat) : Bool := decide (x = y) || (Rs.getD x []).getD y false
/-- A row of the page's answer. -/
def dlR (F : List (List Int)) (Rs : List (List Bool)) (n m x : Nat) : List Int := nI ((List.range m).filter fun j => (List.range n).any fun y => cnR Rs x y && decide ((j : Int) ∈ F.getD y []))
theorem InR.fin {F : List (List Int)} {Rs : List (List Bool)} {n m x : Nat} {bs : List Bool} (h : InR F (cnR Rs x) m n 0 bs) : flR bs m = dlR F Rs n m x := by
  unfold flR dlR
  congr 1
  apply List.filter_congr
  intro j hj
  have hj := List.mem_range.1 hj
  rw [Bool.eq_iff_iff, h.bit j]
  simp only [List.take_zero, List.not_mem_nil, and_false, or_false, List.any_eq_true, List.mem_range, Bool.and_eq_true, decide_eq_true_iff]
  constructor
  · rintro ⟨_, u, q2, q3, q4⟩; exact ⟨u, q2, q3, q4⟩
  · rintro ⟨u, q2, q3, q4⟩; exact ⟨hj, u, q2, q3, q4⟩
/-- The answer under way: lists of lists. -/
structure DoR (B : Nat) (L : Nat → List Int) (x : Nat) (v : Value) (wr : World) : Prop where
  hl : ∃ Vs : List Value, HL 46 wr v Vs ∧ Vs.length = x ∧ ∀ (j : Nat) (V : Value), Vs[j]? = some V → IL wr V (L j)
  own : ∀ j, v.ownBlock = some j → B ≤ j
theorem DoR.any {B x : Nat} {L : Nat → List Int} {v : Value} {wr w' : World} (h : DoR B L x v wr) (hb : Below wr.heap.size wr w') : DoR B L x v w' := by
  obtain ⟨Vs, h1, h2, h3⟩ := h.hl
  exact ⟨⟨Vs, h1.later hb, h2, fun j V hV => (h3 j V hV).later hb⟩, h.own⟩
theorem DoR.len {B x : Nat} {L : Nat → List Int} {v : Value} {wr : World} (h : DoR B L x v wr) : ∃ a c, v = .slice a x c := by
  obtain ⟨Vs, h1, h2, _⟩ := h.hl
  obtain ⟨a, c, e⟩ := h1.slice
  exact ⟨a, c, by rw [e, h2]⟩
theorem IL.kepT {w w' : World} {V : Value} {l : List Int} (h : IL w V l) (hk : ∀ (b : Nat) (C : Array Value), w.heap[b]? = some (.cells C 3 (0, 0)) → w'.heap[b]? = w.heap[b]?) : IL w' V l := by
  refine h.kept fun k hV => ?_
  rcases h.2 with ⟨rfl, _⟩ | ⟨g, cap, cur, rfl, _, hg, _⟩
  · simp [Value.ownBlock] at hV
  · simp [Value.ownBlock] at hV
    subst hV
    exact hk _ _ hg
/-- One list more. -/
theorem DoR.push {B x : Nat} {L : Nat → List Int} {v v' V : Value} {Vs : List Value} {wr w' : World} (hl : HL 46 wr v Vs) (hn : Vs.length = x) (hj : ∀ (j : Nat) (V : Value), Vs[j]? = some V → IL wr V (L j)) (ho : ∀ j, v.ownBlock = some j → B ≤ j) (hB : B ≤ wr.heap.size) (hV : IL wr V (L x)) (h' : HL 46 w' v' (Vs ++ [V])) (g : Grew wr w' v v') : DoR B L (x + 1) v' w' := by
  have kp : ∀ {U : Value} {l : List Int}, IL wr U l → IL w' U l := fun hU => hU.kepT fun b C hb => g.grown.block b (lt_of_block hb) (hl.ne hb (by decide))
  refine ⟨⟨Vs ++ [V], h', by simp [hn], fun j U hU => ?_⟩, Grew.own g hB ho⟩
  rcases Nat.lt_or_ge j Vs.length with q | q
  · rw [List.getElem?_append_left q] at hU
    exact kp (hj j U hU)
  · rw [List.getElem?_append_right q] at hU
    have h0 : j - Vs.length = 0 := by have := (List.getElem?_eq_some_iff.1 hU).1; simp at this; omega
    rw [h0] at hU
    simp at hU
    subst hU
    obtain rfl : j = x := by omega
    exact kp hV
theorem IL.inrowR {w : World} {V : Value} {l : List Int} (h : IL w V l) : ∃ a c, V = .slice a l.length c ∧ InRow w a l := by
  rcases h.2 with ⟨rfl, h0⟩ | ⟨g2, cap, cur, e, h1, h2, h3⟩
  · exact ⟨none, 0, by rw [h0], fun hne => absurd (List.eq_nil_of_length_eq_zero h0) hne⟩
  · have hc := fun j x hx => World.ownsRow.cells h (g := g2) (by rw [e]; rfl) j x hx
    subst e
    refine ⟨some ⟨g2, 0, none⟩, cap, rfl, fun _ => ⟨g2, 0, rfl, lt_of_block h2, fun i hi => ?_⟩⟩
    have r1 := hc i (.int .i64 (l.getD i 0)) (by simp [List.getD, hi])
    rw [add_none] at r1
    exact r1
theorem DoR.fin {B n : Nat} {L : Nat → List Int} {a : Option Addr} {c : Nat} {wr : World} (h : DoR B L n (.slice a n c) wr) : LrwB wr a ((List.range n).map L) := by
  obtain ⟨Vs, h1, h2, h3⟩ := h.hl
  intro hne
  have hn : 0 < n := by
    rcases Nat.eq_zero_or_pos n with e | e
    · subst e; simp at hne
    · exact e
  have each : ∀ i, i < n → ∃ la lc, wr.cell? ⟨(a.getD ⟨0, 0, none⟩).block, i, none⟩ = some (.slice la (L i).length lc) ∧ InRow wr la (L i) ∧ a = some ⟨(a.getD ⟨0, 0, none⟩).block, 0, none⟩ := fun i hi => by
    have hV : Vs[i]? = some (Vs[i]'(by omega)) := List.getElem?_eq_getElem _
    obtain ⟨g, c', e, hc⟩ := h1.at i _ hV
    simp only [Value.slice.injEq] at e
    obtain ⟨la, lc, eV, hr⟩ := (h3 i _ hV).inrowR
    rw [eV] at hc
    rw [e.1]
    exact ⟨la, lc, hc, hr, rfl⟩
  obtain ⟨_, _, hc0, _, ea⟩ := each 0 hn
  refine ⟨_, 0, ea, ?_, fun i hi => ?_⟩
  · have e := hc0
    simp only [World.cell?] at e
    cases q : wr.heap[(a.getD ⟨0, 0, none⟩).block]? with
    | none => rw [q] at e; cases e
    | some o => exact (Array.getElem?_eq_some_iff.1 q).1
  · have hi' : i < n := by simpa using hi
    obtain ⟨la, lc, hc, hr, _⟩ := each i hi'
    have e : ((List.range n).map L).getD i [] = L i := by simp [List.getD, hi']
    rw [e, Nat.zero_add]
    exact ⟨la, lc, hc, hr⟩
/-- What the page's Digraph answers. -/
def DpA (w : World) (n most : Int) (F : List (List Int)) (E : List (Int × Int)) (e : Ending) (w' : World) : Prop :=
  Below w.heap.size w w' ∧ ((dgE n most F E ≠ 0 ∧ e = .returned (.tuple #[.slice none 0 0, .int .i64 (dgE n most F E)])) ∨ (dgE n most F E = 0 ∧ ∃ (k m : Nat) (a : Option Addr) (c : Nat) (Rs : List (List Bool)), n = (k : Int) ∧ most = (m : Int) ∧ k ≤ 4096 ∧ m ≤ 4096 ∧ RxR E k Rs ∧ e = .returned (.tuple #[.slice a k c, .int .i64 0]) ∧ LrwB w' a ((List.range k).map (dlR F Rs k m))))
theorem DpA.no {w w' : World} {n most c : Int} {F : List (List Int)} {E : List (Int × Int)} {e : Ending} (hb : Below w.heap.size w w') (hc : dgE n most F E = c) (h0 : c ≠ 0) (he : e = .returned (.tuple #[.slice none 0 0, .int .i64 c])) : DpA w n most F E e w' := ⟨hb, .inl ⟨by rw [hc]; exact h0, by rw [hc]; exact he⟩⟩
end Go.Proofs.YtcgghlaifmlpiaaGreatDoor
namespace Go.Proofs.YtcgghlaifmlpiaaGreatDoor
set_option linter.unusedVariables false
open Go.RowKit Go.Shelf

theorem dg_rg {n most : Int} {F : List (List Int)} {E : List (Int × Int)} (h : rgE n E ≠ 0) : dgE n most F E = rgE n E := by
  unfold rgE at h ⊢
  unfold dgE
  split
  · rfl
  · rename_i q
    rw [if_neg q] at h
    split
    · rfl
    · rename_i q2
      rw [if_neg q2] at h
      exact absurd rfl h
theorem rg_zero {n : Int} {E : List (Int × Int)} (h : rgE n E = 0) : ∃ k : Nat, n = (k : Int) ∧ k ≤ 4096 ∧ E.all (okE k) = true ∧ ∀ most F, dgE n most F E = seE k most F := by
  unfold rgE at h
  by_cases q : (decide (0 ≤ n) && decide (n ≤ 4096)) = false
  · rw [if_pos q] at h; cases h
  · rw [if_neg q] at h
    by_cases q2 : E.all (okE n.toNat) = false
    · rw [if_pos q2] at h; cases h
    · have q3 : 0 ≤ n ∧ n ≤ 4096 := by simpa using q
      refine ⟨n.toNat, by omega, by omega, by simpa using q2, fun most F => ?_⟩
      unfold dgE
      rw [if_neg q, if_neg q2]
set_option maxRecDepth 100000 in
set_option maxHeartbeats 8000000 in
theorem dig_no1 {w : World} (n most : Int) (fa : Option Addr) (fl fc : Nat) (F : List (List Int)) (ea : Option Addr) (ec : Nat) (E : List (Int × Int)) (hE : PrsB w ea E) (hEl : E.length ≤ 140737488355328) (h0 : rgE n E ≠ 0) :
    Calls Tryz.prog 21 #[.int .i64 n, .int .i64 most, .slice fa fl fc, .slice ea E.length ec] w (DpA w n most F E) := by
  have RG : Hid (Calls Tryz.prog 34 #[.int .i64 n, .slice ea E.length ec] w fun e w' => e = .returned (.int .i64 (rgE n E)) ∧ w' = w) := ranged_any n w ea ec E hE hEl
  have HD : Hid (dgE n most F E = rgE n E ∧ rgE n E ≠ 0) := ⟨dg_rg h0, h0⟩
  have h1 : (rgE n E != 0) = true := by simpa using h0
  clear hE h0
  generalize rgE n E = c at *
  generalize E.length = el at *
  go_enter Tryz.func21, Tryz.ntmps21
  go_wp2_with (go_at_call 34; refine RG.out.mono ?_; rintro e w1 ⟨rfl, hz⟩; rw [hz]; clear hz w1)
  refine bodyPost_ret (v := .tuple #[.slice none 0 0, .int .i64 c]) (by simp [results, Tryz.results21, go_sem]) rfl ?_
  exact DpA.no (Below.refl _ _) HD.out.1 HD.out.2 rfl
set_option maxRecDepth 100000 in
set_option maxHeartbeats 8000000 in
theorem dig_no2 {w : World} (n most : Int) (fa : Option Addr) (fc : Nat) (F : List (List Int)) (hFl : F.length ≤ 140737488355328) (ea : Option Addr) (ec : Nat) (E : List (Int × Int)) (hE : PrsB w ea E) (hEl : E.length ≤ 140737488355328) (h0 : rgE n E = 0) (h : (most < 0 ∨ 4096 < most) ∨ ((0 ≤ most ∧ most ≤ 4096) ∧ (F.length : Int) ≠ n)) :
    Calls Tryz.prog 21 #[.int .i64 n, .int .i64 most, .slice fa F.length fc, .slice ea E.length ec] w (DpA w n most F E) := by
  have RG : Hid (Calls Tryz.prog 34 #[.int .i64 n, .slice ea E.length ec] w fun e w' => e = .returned (.int .i64 0) ∧ w' = w) := by
    have := ranged_any n w ea ec E hE hEl
    rwa [h0] at this
  obtain ⟨k, rfl, hk, _, hd⟩ := rg_zero h0
  clear hE h0
  rcases h with h | ⟨h, hl⟩
  · have HD : Hid (dgE (k : Int) most F E = 4) := by
      show _ = _
      rw [hd]
      unfold seE
      rw [if_pos]
      rcases h with h | h
      · rw [decide_eq_false (show ¬ 0 ≤ most by omega)]; rfl
      · rw [decide_eq_false (show ¬ most ≤ 4096 by omega)]; simp
    clear hd
    generalize E.length = el at *
    generalize F.length = fl at *
    rcases h with h | h
    · have h1 : decide (most < 0) = true := decide_eq_true h
      go_enter Tryz.func21, Tryz.ntmps21
      go_wp2_with (go_at_call 34; refine RG.out.mono ?_; rintro e w1 ⟨rfl, hz⟩; rw [hz]; clear hz w1)
      refine bodyPost_ret (v := .tuple #[.slice none 0 0, .int .i64 4]) (by simp [results, Tryz.results21, go_sem]) rfl ?_
      exact DpA.no (Below.refl _ _) HD.out (by decide) rfl
    · have h1 : decide (most < 0) = false := decide_eq_false (by omega)
      have h2 : decide (4096 < most) = true := decide_eq_true h
      go_enter Tryz.func21, Tryz.ntmps21
      go_wp2_with (go_at_call 34; refine RG.out.mono ?_; rintro e w1 ⟨rfl, hz⟩; rw [hz]; clear hz w1)
      refine bodyPost_ret (v := .tuple #[.slice none 0 0, .int .i64 4]) (by simp [results, Tryz.results21, go_sem]) rfl ?_
      exact DpA.no (Below.refl _ _) HD.out (by decide) rfl
  · have HD : Hid (dgE (k : Int) most F E = 3) := by
      show _ = _
      rw [hd]
      unfold seE
      rw [if_neg (by rw [decide_eq_true h.1, decide_eq_true h.2]; simp), if_pos (by intro q; exact hl (by omega))]
    have h1 : decide (most < 0) = false := decide_eq_false (by omega)
    have h2 : decide (4096 < most) = false := decide_eq_false (by omega)
    have h3 : ((F.length : Int) != (k : Int)) = true := by simp; omega
    clear hd hl h
    generalize E.length = el at *
    generalize F.length = fl at *
    go_enter Tryz.func21, Tryz.ntmps21
    go_wp2_with (go_at_call 34; refine RG.out.mono ?_; rintro e w1 ⟨rfl, hz⟩; rw [hz]; clear hz w1)
    refine bodyPost_ret (v := .tuple #[.slice none 0 0, .int .i64 3]) (by simp [results, Tryz.results21, go_sem]) rfl ?_
    exact DpA.no (Below.refl _ _) HD.out (by decide) rfl
end Go.Proofs.YtcgghlaifmlpiaaGreatDoor
namespace Go.Proofs.YtcgghlaifmlpiaaGreatDoor
set_option linter.unusedVariables false
open Go.RowKit Go.Shelf

theorem LrwB.atR {w : World} {fa : Option Addr} {F : List (List Int)} (h : LrwB w fa F) {i : Nat} (hi : i < F.length) : ∃ b off la lc, fa = some ⟨b, off, none⟩ ∧ b < w.heap.size ∧ w.cell? ⟨b, off + i, none⟩ = some (.slice la (F.getD i []).length lc) ∧ InRow w la (F.getD i []) := by
  obtain ⟨b, off, e, hb, hc⟩ := h (by intro q; rw [q] at hi; simp at hi)
  obtain ⟨la, lc, h1, h2⟩ := hc i hi
  exact ⟨b, off, la, lc, e, hb, h1, h2⟩
theorem InRow.laterR {w w' : World} {a : Option Addr} {l : List Int} (h : InRow w a l) (hb : Below w.heap.size w w') : InRow w' a l := fun hne => by
  obtain ⟨b, off, e, hl, hc⟩ := h hne
  exact ⟨b, off, e, Nat.lt_of_lt_of_le hl hb.size, fun i hi => (hb.cell (p := ⟨b, off + i, none⟩) hl).trans (hc i hi)⟩
theorem InRow.atR {w : World} {a : Option Addr} {l : List Int} (h : InRow w a l) {i : Nat} (hi : i < l.length) : ∃ b off, a = some ⟨b, off, none⟩ ∧ b < w.heap.size ∧ w.cell? ⟨b, off + i, none⟩ = some (.int .i64 (l.getD i 0)) := by
  obtain ⟨b, off, e, hl, hc⟩ := h (by intro q; rw [q] at hi; simp at hi)
  exact ⟨b, off, e, hl, hc i hi⟩
theorem inLB_takeS {m : Nat} {l : List Int} {i : Nat} (h : i < l.length) : inLB m (l.take (i + 1)) = (inLB m (l.take i) && (decide (0 ≤ l.getD i 0) && decide (l.getD i 0 < (m : Int)))) := by
  rw [take_getDL h]
  unfold inLB
  rw [List.all_append]
  simp
theorem inLB_badS {m : Nat} {l : List Int} {i : Nat} (h : i < l.length) (hb : ¬ (0 ≤ l.getD i 0 ∧ l.getD i 0 < (m : Int))) : inLB m l = false := by
  unfold inLB
  rw [List.all_eq_false]
  refine ⟨l.getD i 0, by rw [List.getD_eq_getElem?_getD, List.getElem?_eq_getElem h]; exact List.getElem_mem h, ?_⟩
  simp only [Bool.and_eq_true, decide_eq_true_iff]
  exact hb
theorem inLB_getS {m : Nat} {l : List Int} {i : Nat} (h : i < l.length) (hb : inLB m l = true) : 0 ≤ l.getD i 0 ∧ l.getD i 0 < (m : Int) := by
  have := List.all_eq_true.1 hb (l.getD i 0) (by rw [List.getD_eq_getElem?_getD, List.getElem?_eq_getElem h]; exact List.getElem_mem h)
  simpa using this
/-- So stands a round: the truths of one row in block k, all else as it was. -/
structure RoR (w0 : World) (m : Nat) (bs : List Bool) (wr : World) : Prop where
  blk : wr.heap[w0.heap.size]? = some (.cells (bs.map Value.bool).toArray 4)
  len : bs.length = m
  bel : Below w0.heap.size w0 wr
theorem RoR.start (w0 : World) (m : Nat) : RoR w0 m (List.replicate m false) (w0.alloc (.cells (madeCells #[.bool false] m) 4)) := ⟨by rw [heap_alloc_new, made_listR]; simp, by simp, below_alloc w0 _⟩
theorem RoR.put {w0 wr : World} {m z : Nat} {bs : List Bool} (h : RoR w0 m bs wr) : RoR w0 m (bs.set z true) (wr.setCell ⟨w0.heap.size, z, none⟩ (.bool true)) :=
  ⟨by rw [heap_set h.blk, List.setIfInBounds_toArray, List.map_set], by rw [List.length_set]; exact h.len, h.bel.setCell (Nat.le_refl _) _⟩
theorem RoR.any {w0 wr w' : World} {m : Nat} {bs : List Bool} (h : RoR w0 m bs wr) (hb : Below wr.heap.size wr w') : RoR w0 m bs w' := ⟨(hb.block _ (lt_of_block h.blk)).trans h.blk, h.len, h.bel.trans (hb.mono h.bel.size)⟩
theorem RoR.grew {w0 wr w' : World} {m : Nat} {bs : List Bool} {v v' : Value} {l : List Int} (h : RoR w0 m bs wr) (hv : IRo wr v l) (ho : ∀ j, v.ownBlock = some j → w0.heap.size ≤ j) (g : Grew wr w' v v') : RoR w0 m bs w' :=
  ⟨(g.grown.block _ (lt_of_block h.blk) (hv.neR h.blk (by decide))).trans h.blk, h.len, h.bel.grown g.grown h.bel.size ho⟩
/-- One list more, beside the matrix. -/
theorem dor_step {w wr w' : World} {n x fn : Nat} {L : Nat → List Int} {va ta : Option Addr} {vc tc : Nat} {v' : Value} {Vs : List Value} {ks : List Nat} {Rs : List (List Bool)} (hl : HL 46 wr (.slice va x vc) Vs) (hn : Vs.length = x) (hj : ∀ (j : Nat) (V : Value), Vs[j]? = some V → IL wr V (L j)) (ho : ∀ j, (Value.slice va x vc).ownBlock = some j → w.heap.size ≤ j) (hV : IL wr (.slice ta fn tc) (L x)) (hM : MxR w.heap.size n n w ks Rs wr) (h' : HL 46 w' v' (Vs ++ [.slice ta fn tc])) (g : Grew (wr.alloc (.cells #[.slice ta fn tc] 46)) w' (.slice va x vc) v') : DoR w.heap.size L (x + 1) v' w' ∧ MxR w.heap.size n n w ks Rs w' := by
  have hb := below_alloc wr (.cells #[.slice ta fn tc] 46)
  have hM2 := hM.any hb
  refine ⟨DoR.push (hl.later hb) hn (fun j V hV => (hj j V hV).later hb) ho (Nat.le_trans hM.bel.size hb.size) (hV.later hb) h' g, ?_⟩
  exact ⟨(g.grown.block _ (lt_of_block hM2.row) ((hl.later hb).ne hM2.row (by decide))).trans hM2.row, hM2.kl, hM2.rl, hM2.xn, hM2.nd, fun j k R hk hR => by
    obtain ⟨h1, h2, h3⟩ := hM2.blk j k R hk hR
    exact ⟨h1, h2, (g.grown.block _ (lt_of_block h3) ((hl.later hb).ne h3 (by decide))).trans h3⟩, hM2.bel.grown g.grown hM2.bel.size ho⟩
set_option maxRecDepth 100000 in
set_option maxHeartbeats 8000000 in
theorem dig_yes {w : World} {n m : Nat} (hm : m ≤ 4096) (fa : Option Addr) (fc : Nat) (F : List (List Int)) (hF : LrwB w fa F) (hFn : F.length = n) (hFs : ∀ l ∈ F, l.length ≤ 140737488355328) (ea : Option Addr) (ec : Nat) (E : List (Int × Int)) (hE : PrsB w ea E) (hEl : E.length ≤ 140737488355328) (h0 : rgE (n : Int) E = 0) :
    Calls Tryz.prog 21 #[.int .i64 (n : Int), .int .i64 (m : Int), .slice fa n fc, .slice ea E.length ec] w (DpA w (n : Int) (m : Int) F E) := by
  have RG : Hid (Calls Tryz.prog 34 #[.int .i64 (n : Int), .slice ea E.length ec] w fun e w' => e = .returned (.int .i64 0) ∧ w' = w) := by
    have := ranged_any (n : Int) w ea ec E hE hEl
    rwa [h0] at this
  obtain ⟨k, hkn, hn, hok, hd⟩ := rg_zero h0
  obtain rfl : n = k := by omega
  have RC : Hid (Calls Tryz.prog 35 #[.int .i64 (n : Int), .slice ea E.length ec] w fun e w' => e = .returned (.slice (some ⟨w.heap.size, 0, none⟩) n n) ∧ ∃ ks Rs, MxR w.heap.size n n w ks Rs w' ∧ RxR E n Rs) := reach_R hn ea ec E hE hEl hok
  have HSE : Hid (∀ c, (F.all (inLB m) = true ∧ c = 0) ∨ (F.all (inLB m) = false ∧ c = 4) → dgE (n : Int) (m : Int) F E = c) := fun c q => by
    rw [hd]
    unfold seE
    rw [if_neg (by rw [decide_eq_true (show (0 : Int) ≤ (m : Int) by omega), decide_eq_true (show (m : Int) ≤ 4096 by omega)]; simp), if_neg (by rw [hFn]; simp), Int.toNat_natCast]
    rcases q with ⟨q, rfl⟩ | ⟨q, rfl⟩
    · rw [if_neg (by rw [q]; simp)]
    · rw [if_pos q]
  have HF : Hid (LrwB w fa F) := hF
  have HFN : Hid (F.length = n) := hFn
  have HFS : Hid (∀ l ∈ F, l.length ≤ 140737488355328) := hFs
  have m1 : decide ((m : Int) < 0) = false := decide_eq_false (by omega)
  have m2 : decide (4096 < (m : Int)) = false := decide_eq_false (by omega)
  clear hE h0 hd hkn hok hF hFs hFn
  generalize hel : E.length = el at *
  clear hel
  go_enter Tryz.func21, Tryz.ntmps21
  go_wp2_with (go_at_call 34; refine RG.out.mono ?_; rintro e w1 ⟨rfl, hz⟩; rw [hz]; clear hz w1)
  clear RG m1 m2
  go_loop [11] (fun z => ∃ x : Nat, x ≤ n ∧ z = .int .i64 (x : Int) ∧ Hid ((F.take x).all (inLB m) = true)) (fun z => n - (intOf z).toNat)
  case atStart => exact ⟨0, Nat.zero_le _, rfl, rfl⟩
  case round =>
    obtain ⟨x, hx, rfl, hall⟩ := hrel
    by_cases hlt : x < n
    · have xlt : (x : Int) < (n : Int) := by omega
      have hxF : x < F.length := by rw [HFN.out]; exact hlt
      obtain ⟨fb, fo, la, lc, hfa, _, c0, hrow⟩ := HF.out.atR hxF
      have HRW : Hid (InRow w la (F.getD x [])) := hrow
      have lle := HFS.out _ (getD_memIL hxF)
      have HTK : Hid (inLB m (F.getD x []) = true → (F.take (x + 1)).all (inLB m) = true) := fun q => by rw [take_allL hxF, hall.out, q]; rfl
      have HNO : Hid (inLB m (F.getD x []) = false → F.all (inLB m) = false) := fun q => by
        rw [List.all_eq_false]
        exact ⟨_, getD_memIL hxF, by rw [q]; simp⟩
      subst hfa
      clear hrow hall hxF
      generalize F.getD x [] = l at *
      go_wp2
      go_loop [12] (fun z => ∃ i : Nat, i ≤ l.length ∧ z = .int .i64 (i : Int) ∧ Hid (inLB m (l.take i) = true)) (fun z => l.length - (intOf z).toNat)
      case atStart => exact ⟨0, Nat.zero_le _, rfl, rfl⟩
      case round =>
        obtain ⟨i, hi, rfl, hin⟩ := hrel
        by_cases hli : i < l.length
        · have ilt : (i : Int) < (l.length : Int) := by omega
          obtain ⟨lb, lo, hla, _, c1⟩ := HRW.out.atR hli
          have HB : Hid (¬ (0 ≤ l.getD i 0 ∧ l.getD i 0 < (m : Int)) → inLB m l = false) := inLB_badS hli
          have HG : Hid (0 ≤ l.getD i 0 ∧ l.getD i 0 < (m : Int) → inLB m (l.take (i + 1)) = true) := fun q => by rw [inLB_takeS hli, hin.out, decide_eq_true q.1, decide_eq_true q.2]; rfl
          subst hla
          clear hin
          generalize l.getD i 0 = y at *
          by_cases h1 : y < 0
          · have d1 : decide (y < 0) = true := decide_eq_true h1
            have HX : Hid (F.all (inLB m) = false) := HNO.out (HB.out (by omega))
            clear HB HG HNO HTK h1 HRW
            go_wp2
            refine bodyPost_ret (v := .tuple #[.slice none 0 0, .int .i64 4]) (by simp [results, Tryz.results21, go_sem]) rfl ?_
            exact DpA.no (Below.refl _ _) (HSE.out 4 (.inr ⟨HX.out, rfl⟩)) (by decide) rfl
          · have d1 : decide (y < 0) = false := decide_eq_false h1
            by_cases h2 : (m : Int) ≤ y
            · have d2 : decide ((m : Int) ≤ y) = true := decide_eq_true h2
              have HX : Hid (F.all (inLB m) = false) := HNO.out (HB.out (by omega))
              clear HB HG HNO HTK h1 h2 HRW
              go_wp2
              refine bodyPost_ret (v := .tuple #[.slice none 0 0, .int .i64 4]) (by simp [results, Tryz.results21, go_sem]) rfl ?_
              exact DpA.no (Below.refl _ _) (HSE.out 4 (.inr ⟨HX.out, rfl⟩)) (by decide) rfl
            · have d2 : decide ((m : Int) ≤ y) = false := decide_eq_false h2
              have HX : Hid (inLB m (l.take (i + 1)) = true) := HG.out (by omega)
              clear HB HG HNO HTK h1 h2 HRW
              go_wp2
              go_roundw
              case rel => exact ⟨i + 1, by omega, by go_num, HX⟩
              case measure => simp [intOf]; omega
        · have ilt : ¬ (i : Int) < (l.length : Int) := by omega
          have hie : i = l.length := by omega
          have HX : Hid ((F.take (x + 1)).all (inLB m) = true) := HTK.out (by have := hin.out; rwa [hie, List.take_length] at this)
          clear hin HTK HNO hie HRW
          go_wp2
          go_roundw
          case rel => exact ⟨x + 1, by omega, by go_num, HX⟩
          case measure => simp [intOf]; omega
    · have xlt : ¬ (x : Int) < (n : Int) := by omega
      obtain rfl : n = x := by omega
      have HA : Hid (F.all (inLB m) = true) := by
        have := hall.out
        rw [← HFN.out, List.take_length] at this
        exact this
      clear hall hlt hx
      go_wp2_with (go_at_call 35; refine RC.out.mono ?_; rintro e w1 ⟨rfl, ks, Rs, m1, r1⟩; have M1 : Hid (MxR w.heap.size n n w ks Rs w1 ∧ RxR E n Rs) := ⟨m1, r1⟩; clear m1 r1)
      clear RC xlt
      have D0 : Hid (DoR w.heap.size (dlR F Rs n m) 0 (.slice none 0 0) w1) := ⟨⟨[], HL.nil _ _, rfl, fun j V hV => by simp at hV⟩, fun j hj => by simp [Value.ownBlock] at hj⟩
      go_loopw [14, 15] (fun v z wr => ∃ (x : Nat), x ≤ n ∧ z = .int .i64 (x : Int) ∧ MxR w.heap.size n n w ks Rs wr ∧ DoR w.heap.size (dlR F Rs n m) x v wr) (fun _ z _ => n - (intOf z).toNat)
      case atStart => exact ⟨0, Nat.zero_le _, rfl, M1.out.1, D0.out⟩
      case round =>
        have HRX : Hid (RxR E n Rs) := M1.out.2
        clear M1 D0
        obtain ⟨x, hx, rfl, hM, hD⟩ := hrel
        obtain ⟨va, vc, rfl⟩ := hD.len
        by_cases hlt : x < n
        · have xlt : (x : Int) < (n : Int) := by omega
          obtain ⟨w2, rfl⟩ : ∃ w2 : World, w2 = wr := ⟨_, rfl⟩
          have hmk := make_boR m (by omega) w2
          have HM : Hid (MxR w.heap.size n n w ks Rs w2 ∧ DoR w.heap.size (dlR F Rs n m) x (.slice va x vc) w2) := ⟨hM, hD⟩
          have HBW : Hid (Below w.heap.size w w2) := hM.bel
          have R0 : Hid (RoR w2 m (List.replicate m false) (w2.alloc (.cells (madeCells #[.bool false] m) 4))) := RoR.start w2 m
          clear hM hD
          go_wp2
          clear hmk
          go_loopw [17] (fun z wr => ∃ (y : Nat) (bs : List Bool), y ≤ n ∧ z = .int .i64 (y : Int) ∧ RoR w2 m bs wr ∧ InR F (cnR Rs x) m y 0 bs) (fun z _ => n - (intOf z).toNat)
          case atStart => exact ⟨0, _, Nat.zero_le _, rfl, R0.out, InR.start F _ m⟩
          case round =>
            clear R0
            obtain ⟨y, bs, hy, rfl, hRo, hIn⟩ := hrel
            by_cases hyn : y < n
            · have ylt : (y : Int) < (n : Int) := by omega
              have hyF : y < F.length := by rw [HFN.out]; exact hyn
              obtain ⟨fb, fo, la, lc, hfa, hfb, c0, hrow⟩ := HF.out.atR hyF
              obtain ⟨k, R, hk, hR, hRe, hRl, ck, hkb⟩ := HM.out.1.at hlt
              have CF : Hid (∀ wr, Below w2.heap.size w2 wr → wr.cell? ⟨fb, fo + y, none⟩ = some (.slice la (F.getD y []).length lc) ∧ wr.cell? ⟨w.heap.size, x, none⟩ = some (.slice (some ⟨k, 0, none⟩) n n) ∧ wr.cell? ⟨k, y, none⟩ = some (.bool (R.getD y false))) := fun wr b2 => ⟨((HBW.out.trans (b2.mono HBW.out.size)).cell (p := ⟨fb, fo + y, none⟩) hfb).trans c0, (b2.cell (p := ⟨w.heap.size, x, none⟩) (lt_of_block HM.out.1.row)).trans ck, (b2.cell (p := ⟨k, y, none⟩) (lt_of_block hkb)).trans (boR_cell hkb (by omega)).1⟩
              have HRW : Hid (InRow w la (F.getD y []) ∧ inLB m (F.getD y []) = true) := ⟨hrow, List.all_eq_true.1 HA.out _ (getD_memIL hyF)⟩
              have lle := HFS.out _ (getD_memIL hyF)
              have RB : Hid (RoR w2 m bs wr ∧ InR F (cnR Rs x) m y 0 bs) := ⟨hRo, hIn⟩
              obtain ⟨d0, d1, d2⟩ := CF.out wr hRo.bel
              have HRE : Hid (R = Rs.getD x []) := hRe
              subst hfa
              clear hrow c0 ck hkb hR hRe hRl hk hyF hRo hIn hfb
              generalize hle : F.getD y [] = l at *
              have HLE : Hid (F.getD y [] = l) := hle
              clear hle
              by_cases hxy : x = y
              · have HCN : Hid (cnR Rs x y = true) := by show _ = _; unfold cnR; rw [decide_eq_true hxy]; rfl
                subst hxy
                obtain ⟨rv, hrv⟩ : ∃ rv, R.getD x false = rv := ⟨_, rfl⟩
                have HRT : Hid (R.getD x false = rv) := hrv
                rw [hrv] at d2
                clear hrv HRE
                go_wp2
                go_loopw [18] (fun z wr => ∃ (i : Nat) (bs : List Bool), i ≤ l.length ∧ z = .int .i64 (i : Int) ∧ RoR w2 m bs wr ∧ InR F (cnR Rs x) m x i bs) (fun z _ => l.length - (intOf z).toNat)
                case atStart => exact ⟨0, bs, Nat.zero_le _, rfl, RB.out.1, RB.out.2⟩
                case round =>
                  clear RB d0 d1 d2
                  obtain ⟨i, bs, hi, rfl, hRo, hIn⟩ := hrel
                  obtain ⟨d0, d1, d2⟩ := CF.out wr hRo.bel
                  rw [HRT.out] at d2
                  by_cases hli : i < l.length
                  · have ilt : (i : Int) < (l.length : Int) := by omega
                    obtain ⟨lb, lo, hla, hlb, c1⟩ := HRW.out.1.atR hli
                    have c2 := ((HBW.out.trans (hRo.bel.mono HBW.out.size)).cell (p := ⟨lb, lo + i, none⟩) hlb).trans c1
                    obtain ⟨z0, z1⟩ := inLB_getS hli HRW.out.2
                    obtain ⟨z, hz⟩ : ∃ z : Nat, l.getD i 0 = (z : Int) := ⟨(l.getD i 0).toNat, by omega⟩
                    rw [hz] at c2 z1
                    have zlt : z < m := by omega
                    have zli : (z : Int) < (m : Int) := by omega
                    obtain ⟨q0, q1⟩ := boR_cell hRo.blk (show z < bs.length by rw [hRo.len]; exact zlt)
                    have HN : Hid (RoR w2 m (bs.set z true) (wr.setCell ⟨w2.heap.size, z, none⟩ (.bool true)) ∧ InR F (cnR Rs x) m x (i + 1) (bs.set z true)) := ⟨hRo.put, hIn.put HCN.out (by rw [HLE.out]; exact hli) (by rw [HLE.out]; exact hz) zlt⟩
                    subst hla
                    clear hRo hIn c1 z0 z1 hz
                    generalize bs.getD z false = bz at *
                    go_wp2
                    go_roundw
                    case rel => exact ⟨i + 1, _, by omega, by go_num, HN.out.1, HN.out.2⟩
                    case measure => simp [intOf]; omega
                  · have ilt : ¬ (i : Int) < (l.length : Int) := by omega
                    have hie : i = l.length := by omega
                    have HN : Hid (RoR w2 m bs wr ∧ InR F (cnR Rs x) m (x + 1) 0 bs) := ⟨hRo, hIn.next (.inr (by rw [HLE.out]; exact hie))⟩
                    clear hRo hIn hie
                    go_wp2
                    go_roundw
                    case rel => exact ⟨x + 1, bs, by omega, by go_num, HN.out.1, HN.out.2⟩
                    case measure => simp [intOf]; omega
              · have xy1 : ((x : Int) == (y : Int)) = false := by rw [beq_eq_false_iff_ne]; omega
                have xy2 : (x == y) = false := by rw [beq_eq_false_iff_ne]; exact hxy
                cases hrv : R.getD y false with
                | true =>
                  have HRT : Hid (R.getD y false = true) := hrv
                  have HCN : Hid (cnR Rs x y = true) := by show _ = _; unfold cnR; rw [← HRE.out, hrv]; simp
                  rw [hrv] at d2
                  clear hrv HRE hxy
                  go_wp2
                  go_loopw [18] (fun z wr => ∃ (i : Nat) (bs : List Bool), i ≤ l.length ∧ z = .int .i64 (i : Int) ∧ RoR w2 m bs wr ∧ InR F (cnR Rs x) m y i bs) (fun z _ => l.length - (intOf z).toNat)
                  case atStart => exact ⟨0, bs, Nat.zero_le _, rfl, RB.out.1, RB.out.2⟩
                  case round =>
                    clear RB d0 d1 d2
                    obtain ⟨i, bs, hi, rfl, hRo, hIn⟩ := hrel
                    obtain ⟨d0, d1, d2⟩ := CF.out wr hRo.bel
                    rw [HRT.out] at d2
                    by_cases hli : i < l.length
                    · have ilt : (i : Int) < (l.length : Int) := by omega
                      obtain ⟨lb, lo, hla, hlb, c1⟩ := HRW.out.1.atR hli
                      have c2 := ((HBW.out.trans (hRo.bel.mono HBW.out.size)).cell (p := ⟨lb, lo + i, none⟩) hlb).trans c1
                      obtain ⟨z0, z1⟩ := inLB_getS hli HRW.out.2
                      obtain ⟨z, hz⟩ : ∃ z : Nat, l.getD i 0 = (z : Int) := ⟨(l.getD i 0).toNat, by omega⟩
                      rw [hz] at c2 z1
                      have zlt : z < m := by omega
                      have zli : (z : Int) < (m : Int) := by omega
                      obtain ⟨q0, q1⟩ := boR_cell hRo.blk (show z < bs.length by rw [hRo.len]; exact zlt)
                      have HN : Hid (RoR w2 m (bs.set z true) (wr.setCell ⟨w2.heap.size, z, none⟩ (.bool true)) ∧ InR F (cnR Rs x) m y (i + 1) (bs.set z true)) := ⟨hRo.put, hIn.put HCN.out (by rw [HLE.out]; exact hli) (by rw [HLE.out]; exact hz) zlt⟩
                      subst hla
                      clear hRo hIn c1 z0 z1 hz
                      generalize bs.getD z false = bz at *
                      go_wp2
                      go_roundw
                      case rel => exact ⟨i + 1, _, by omega, by go_num, HN.out.1, HN.out.2⟩
                      case measure => simp [intOf]; omega
                    · have ilt : ¬ (i : Int) < (l.length : Int) := by omega
                      have hie : i = l.length := by omega
                      have HN : Hid (RoR w2 m bs wr ∧ InR F (cnR Rs x) m (y + 1) 0 bs) := ⟨hRo, hIn.next (.inr (by rw [HLE.out]; exact hie))⟩
                      clear hRo hIn hie
                      go_wp2
                      go_roundw
                      case rel => exact ⟨y + 1, bs, by omega, by go_num, HN.out.1, HN.out.2⟩
                      case measure => simp [intOf]; omega
                | false =>
                  have HRT : Hid (R.getD y false = false) := hrv
                  have HCN : Hid (cnR Rs x y = false) := by show _ = _; unfold cnR; rw [← HRE.out, hrv, decide_eq_false hxy]; rfl
                  rw [hrv] at d2
                  clear hrv HRE hxy
                  have HN : Hid (RoR w2 m bs wr ∧ InR F (cnR Rs x) m (y + 1) 0 bs) := ⟨RB.out.1, RB.out.2.next (.inl HCN.out)⟩
                  clear RB
                  go_wp2
                  go_loopw [18] (fun z w9 => z = .int .i64 0 ∧ w9 = wr) (fun _ _ => 0)
                  case atStart => exact ⟨rfl, rfl⟩
                  case round =>
                    obtain ⟨rfl, rfl⟩ := hrel
                    go_wp2
                    go_roundw
                    case rel => exact ⟨y + 1, bs, by omega, by go_num, HN.out.1, HN.out.2⟩
                    case measure => simp [intOf]; omega
            · have ylt : ¬ (y : Int) < (n : Int) := by omega
              obtain rfl : n = y := by omega
              have RB : Hid (RoR w2 m bs wr ∧ flR bs m = dlR F Rs n m x) := ⟨hRo, hIn.fin⟩
              clear hRo hIn
              obtain ⟨w4, rfl⟩ : ∃ w4 : World, w4 = wr := ⟨_, rfl⟩
              go_wp2
              go_loopw [19, 20] (fun v z wr => ∃ (q : Nat), q ≤ m ∧ z = .int .i64 (q : Int) ∧ RoR w2 m bs wr ∧ IRo wr v (flR bs q) ∧ ∀ j, v.ownBlock = some j → w2.heap.size ≤ j) (fun _ z _ => m - (intOf z).toNat)
              case atStart => exact ⟨0, Nat.zero_le _, rfl, RB.out.1, RO.nil _, fun j hj => by simp [Value.ownBlock] at hj⟩
              case round =>
                obtain ⟨q, hq, rfl, hRo, hT, hown⟩ := hrel
                obtain ⟨ta, tc, rfl, htc⟩ := hT.len
                have HW : Hid (RoR w2 m bs wr ∧ IRo wr (.slice ta (flR bs q).length tc) (flR bs q) ∧ ∀ j, (Value.slice ta (flR bs q).length tc).ownBlock = some j → w2.heap.size ≤ j) := ⟨hRo, hT, hown⟩
                by_cases hqm : q < m
                · have qlt : (q : Int) < (m : Int) := by omega
                  obtain ⟨q0, _⟩ := boR_cell hRo.blk (show q < bs.length by rw [hRo.len]; exact hqm)
                  have hne := flR_next bs q
                  have LEN : Hid ((flR bs q).length ≤ 1000000000) := Nat.le_trans (flR_len bs q) (by omega)
                  clear hRo hT hown
                  generalize flR bs q = fl at *
                  cases hb : bs.getD q false with
                  | true =>
                    rw [hb] at q0
                    rw [hb, if_pos rfl] at hne
                    have HNE : Hid (flR bs (q + 1) = fl ++ [(q : Int)]) := hne
                    clear hne hb
                    go_wp2_with (at_builtin; refine wpList_ro_append rkIntR rfl _ _ rfl (.slice ta fl.length tc) fl rfl (HW.out.2.1.later (below_alloc _ _)) wr.heap.size 1 (q : Int) rfl (inR_cell wr (q : Int) _) LEN.out ?_)
                    intro a5 n5 c5 w5 t5 g5
                    have H5 : Hid (RoR w2 m bs w5 ∧ IRo w5 (.slice a5 n5 c5) (flR bs (q + 1)) ∧ ∀ j, (Value.slice a5 n5 c5).ownBlock = some j → w2.heap.size ≤ j) := ⟨(HW.out.1.any (below_alloc _ _)).grew (HW.out.2.1.later (below_alloc _ _)) HW.out.2.2 g5, by rw [HNE.out]; exact t5, Grew.own g5 (Nat.le_trans HW.out.1.bel.size (below_alloc wr _).size) HW.out.2.2⟩
                    clear t5 g5
                    go_wp2
                    go_roundw
                    case rel => exact ⟨q + 1, by omega, by go_num, H5.out⟩
                    case measure => simp [intOf]; omega
                  | false =>
                    rw [hb] at q0
                    rw [hb, if_neg (by simp), List.append_nil] at hne
                    have HNE : Hid (flR bs (q + 1) = fl) := hne
                    clear hne hb
                    go_wp2
                    go_roundw
                    case rel => exact ⟨q + 1, by omega, by go_num, HW.out.1, by rw [HNE.out]; exact HW.out.2.1, HW.out.2.2⟩
                    case measure => simp [intOf]; omega
                · have qlt : ¬ (q : Int) < (m : Int) := by omega
                  obtain rfl : m = q := by omega
                  have HIL : Hid (IL wr (.slice ta (flR bs m).length tc) (dlR F Rs n m x)) := by rw [← RB.out.2]; exact hT.il
                  have HD : Hid (DoR w.heap.size (dlR F Rs n m) x (.slice va x vc) wr ∧ MxR w.heap.size n n w ks Rs wr) := ⟨HM.out.2.any hRo.bel, HM.out.1.any hRo.bel⟩
                  clear hRo hT hown HW
                  generalize (flR bs m).length = fn at *
                  obtain ⟨Vs, v1, v2, v3⟩ := HD.out.1.hl
                  have HV : Hid (HL 46 wr (.slice va x vc) Vs ∧ Vs.length = x ∧ (∀ (j : Nat) (V : Value), Vs[j]? = some V → IL wr V (dlR F Rs n m j)) ∧ Vs.length ≤ 5864062014720) := ⟨v1, v2, v3, by omega⟩
                  clear v1 v2 v3
                  go_wp2_with (at_builtin; refine wpList_hl_append Tryz.underlying24 infoLQ rfl _ _ rfl (.slice va x vc) Vs rfl (HV.out.1.later (below_alloc _ _)) wr.heap.size 1 (.slice ta fn tc) rfl (cell_newI wr _ _) rfl HV.out.2.2.2 ?_; intro v5 w5 hl5 hg5; obtain ⟨a5, m5, c5, rfl⟩ := hl5.slice3; have G5 : Hid (DoR w.heap.size (dlR F Rs n m) (x + 1) (.slice a5 m5 c5) w5 ∧ MxR w.heap.size n n w ks Rs w5) := dor_step HV.out.1 HV.out.2.1 HV.out.2.2.1 HD.out.1.own HIL.out HD.out.2 hl5 hg5; clear hl5 hg5)
                  go_roundw
                  case rel => exact ⟨x + 1, by omega, by go_num, G5.out.2, G5.out.1⟩
                  case measure => simp [intOf]; omega
        · have xlt : ¬ (x : Int) < (n : Int) := by omega
          obtain rfl : n = x := by omega
          have HL9 : Hid (LrwB wr va ((List.range n).map (dlR F Rs n m)) ∧ Below w.heap.size w wr) := ⟨hD.fin, hM.bel⟩
          clear hM hD
          go_wp2
          refine bodyPost_ret (v := .tuple #[.slice va n vc, .int .i64 0]) (by simp [results, Tryz.results21, go_sem]) rfl ?_
          exact ⟨HL9.out.2, .inr ⟨HSE.out 0 (.inl ⟨HA.out, rfl⟩), n, m, va, vc, Rs, rfl, rfl, hn, hm, HRX.out, rfl, HL9.out.1⟩⟩
end Go.Proofs.YtcgghlaifmlpiaaGreatDoor
