import Derived.Test.YtfckmbdcfeljiaaDoorKBase
namespace Go.Proofs.YtfckmbdcfeljiaaDoor.K
set_option linter.unusedVariables false
open Go.RowKit Go.Maps

def kUpdV (V : Nat → Value) (i : Nat) (v : Value) : Nat → Value := fun j => if j = i then v else V j
def kUpdE (E : Nat → List LE) (i : Nat) (e : LE) : Nat → List LE := fun j => if j = i then E j ++ [e] else E j
def kArr (V : Nat → Value) : Array Value := ((List.range 16).map V).toArray
theorem kArr_get (V : Nat → Value) {i : Nat} (hi : i < 16) : (kArr V)[i]? = some (V i) := by simp [kArr, hi]
theorem kArr_set (V : Nat → Value) {i : Nat} (v : Value) : (kArr V).setIfInBounds i v = kArr (kUpdV V i v) := by
  unfold kArr
  apply Array.toList_inj.1
  simp only [Array.toList_setIfInBounds]
  apply List.ext_getElem
  · simp
  · intro k h1 h2
    simp only [List.getElem_set, List.getElem_map, List.getElem_range, kUpdV]
    by_cases e : i = k
    · simp [e]
    · have e' : ¬ k = i := fun q => e q.symm
      simp [e, e']
/-- The types of the book's lists: of an element, how many cells it takes, of a list. -/
structure KT where
  te : Nat → TypeId
  sz : Nat → Nat
  tl : Nat → TypeId
/-- They are all unlike. -/
structure KT.Ok (T : KT) : Prop where
  qe : ∀ i, 41 ≠ T.te i
  ql : ∀ i, 41 ≠ T.tl i
  el : ∀ i j, T.te i ≠ T.tl j
/-- A book: what lies in its cells; all is its own, from B on. -/
structure KI (T : KT) (B : Nat) (w : World) (q : Nat) (V : Nat → Value) (E : Nat → List LE) : Prop where
  hq : w.heap[q]? = some (.cells (kArr V) 41 (0, 0))
  row : ∀ i, HL (T.tl i) w (V i) ((E i).map LE.v)
  apart : ∀ i j k, i ≠ j → (V i).ownBlock = some k → (V j).ownBlock ≠ some k
  own : ∀ i, ∃ X : Nat → List Value, ∀ j (h : j < (E i).length), w.ownsRow 0 (T.te i) (T.sz i) (E i)[j].v (E i)[j].n (X j)
  nd : ∀ i j j' (h : j < (E i).length) (h' : j' < (E i).length), j ≠ j' → (E i)[j].g ≠ (E i)[j'].g
  loq : B ≤ q
  loV : ∀ i k, (V i).ownBlock = some k → B ≤ k
  loE : ∀ i, ∀ e ∈ E i, B ≤ e.g
  size : B ≤ w.heap.size
section
variable {T : KT} {B : Nat} {w w' : World} {q : Nat} {V : Nat → Value} {E : Nat → List LE}
theorem KI.cell (h : KI T B w q V E) {i : Nat} (hi : i < 16) : w.cell? ⟨q, i, none⟩ = some (V i) := by
  simp only [World.cell?, h.hq]
  exact kArr_get V hi
theorem KI.ne (h : KI T B w q V E) (hT : T.Ok) (i : Nat) : some q ≠ (V i).ownBlock := (h.row i).ne h.hq (hT.ql i)
theorem KI.later (h : KI T B w q V E) (hb : Below w.heap.size w w') : KI T B w' q V E :=
  ⟨(hb.block q (lt_of_block h.hq)).trans h.hq, fun i => (h.row i).later hb, h.apart, fun i => by obtain ⟨X, hX⟩ := h.own i; exact ⟨X, fun j hj => row_later (hX j hj) hb⟩, h.nd, h.loq, h.loV, h.loE, Nat.le_trans h.size hb.size⟩
theorem KI.lt (h : KI T B w q V E) (i : Nat) : ∀ e ∈ E i, e.g < w.heap.size := by
  intro e he
  obtain ⟨j, hj, rfl⟩ := List.getElem_of_mem he
  obtain ⟨X, hX⟩ := h.own i
  obtain ⟨cur, h1, _⟩ := row_block (hX j hj)
  exact lt_of_block h1
theorem KI.store {i : Nat} {v' : Value} {e : LE} {X : List Value} (hT : T.Ok) (h : KI T B w q V E) (hg : Grew w w' (V i) v') (hl : HL (T.tl i) w' v' ((E i).map LE.v ++ [e.v])) (he : w.ownsRow 0 (T.te i) (T.sz i) e.v e.n X) (hnew : ∀ x ∈ E i, x.g ≠ e.g) (hlo : B ≤ e.g) : KI T B (w'.setCell ⟨q, i, none⟩ v') q (kUpdV V i v') (kUpdE E i e) ∧ Below B w (w'.setCell ⟨q, i, none⟩ v') := by
  have b : w'.heap[q]? = some (.cells (kArr V) 41 (0, 0)) := (hg.grown.block q (lt_of_block h.hq) (h.ne hT i)).trans h.hq
  have rk : ∀ j sz n v xs, w.ownsRow 0 (T.te j) sz v n xs → (w'.setCell ⟨q, i, none⟩ v').ownsRow 0 (T.te j) sz v n xs := fun j sz n v xs ho => row_keptB ho fun k hk => by
    rcases ho.2 with ⟨rfl, _⟩ | ⟨g, cap, cur, rfl, _, hb, _⟩
    · simp [Value.ownBlock] at hk
    · simp [Value.ownBlock] at hk
      subst hk
      have n1 : g ≠ q := fun e => by rw [e, h.hq] at hb; simp at hb; exact hT.qe j hb.2
      rw [Below.heap_setCell _ _ _ _ n1]
      exact hg.grown.block g (lt_of_block hb) ((h.row i).ne hb (hT.el j i))
  have mvd : ∀ k, v'.ownBlock = some k → ∀ j, j ≠ i → (V j).ownBlock ≠ some k := fun k hk j hj hjk => by
    rcases hg.moved with r | ⟨m, r, hm⟩
    · exact h.apart j i k hj hjk (r ▸ hk)
    · rw [hk] at r; have := Option.some.inj r; have := (h.row j).lt k hjk; omega
  have hlv : ∀ k, v'.ownBlock = some k → B ≤ k := fun k hk => by
    rcases hg.moved with r | ⟨m, r, hm⟩
    · exact h.loV i k (r ▸ hk)
    · rw [hk] at r; have := Option.some.inj r; have := h.size; omega
  have hbel : Below B w (w'.setCell ⟨q, i, none⟩ v') := ((Below.refl B w).grown hg.grown h.size (h.loV i)).setCell h.loq _
  refine ⟨⟨by rw [heap_set b, kArr_set], fun j => ?_, fun j j' k hne hk hk' => ?_, fun j => ?_, fun j x y hx hy hne => ?_, h.loq, fun j k hk => ?_, fun j x hx => ?_, ?_⟩, hbel⟩
  · unfold kUpdV kUpdE
    split
    · rename_i e1
      subst e1
      rw [List.map_append, List.map_cons, List.map_nil]
      exact hl.kept fun k hk => Below.heap_setCell _ _ _ _ (fun e => hl.ne b (hT.ql j) (by rw [hk, e]))
    · rename_i hj
      exact (h.row j).kept fun k hk => by
        rw [Below.heap_setCell _ _ _ _ (fun e => h.ne hT j (by rw [hk, e]))]
        exact hg.grown.block k ((h.row j).lt k hk) (fun e => h.apart j i k hj hk e.symm)
  · unfold kUpdV at hk hk'
    split at hk
    · rename_i e1
      split at hk'
      · rename_i e2; exact hne (e1.trans e2.symm)
      · rename_i e2; exact mvd k hk j' e2 hk'
    · rename_i e1
      split at hk'
      · rename_i e2; exact mvd k hk' j e1 hk
      · exact h.apart j j' k hne hk hk'
  · obtain ⟨Y, hY⟩ := h.own j
    by_cases e1 : j = i
    · subst e1
      suffices hs : ∀ L' : List LE, L' = E j ++ [e] → ∃ Z : Nat → List Value, ∀ m (h : m < L'.length), (w'.setCell ⟨q, j, none⟩ v').ownsRow 0 (T.te j) (T.sz j) L'[m].v L'[m].n (Z m) from hs _ (if_pos rfl)
      rintro L' rfl
      refine ⟨fun m => if m < (E j).length then Y m else X, fun m hm => ?_⟩
      by_cases e2 : m < (E j).length
      · simp only [if_pos e2, List.getElem_append_left e2]
        exact rk j _ _ _ _ (hY m e2)
      · have e3 : m = (E j).length := by simp at hm; omega
        have e4 : (E j ++ [e])[m] = e := by simp [e3]
        simp only [if_neg e2, e4]
        exact rk j _ _ _ _ he
    · refine ⟨Y, fun m hm => ?_⟩
      simp only [kUpdE, if_neg e1] at hm ⊢
      exact rk j _ _ _ _ (hY m hm)
  · by_cases e1 : j = i
    · subst e1
      simp only [kUpdE, if_pos] at hx hy ⊢
      by_cases e2 : x < (E j).length
      · simp only [List.getElem_append_left e2]
        by_cases e3 : y < (E j).length
        · simp only [List.getElem_append_left e3]
          exact h.nd j x y e2 e3 hne
        · obtain rfl : y = (E j).length := by simp at hy; omega
          simp only [List.getElem_concat_length]
          exact hnew _ (List.getElem_mem e2)
      · obtain rfl : x = (E j).length := by simp at hx; omega
        have e3 : y < (E j).length := by simp at hy; omega
        simp only [List.getElem_append_left e3, List.getElem_concat_length]
        exact fun e4 => hnew _ (List.getElem_mem e3) e4.symm
    · simp only [kUpdE, if_neg e1] at hx hy ⊢
      exact h.nd j x y hx hy hne
  · unfold kUpdV at hk
    split at hk
    · exact hlv k hk
    · exact h.loV j k hk
  · unfold kUpdE at hx
    split at hx
    · rcases List.mem_append.1 hx with r | r
      · exact h.loE j x r
      · simp at r; subst r; exact hlo
    · exact h.loE j x hx
  · exact Nat.le_trans h.size hbel.size
/-- A frame within the book's own lists. -/
theorem KI.fr (hT : T.Ok) (h : KI T B w q V E) {i : Nat} (hf : KFr (E i) w w') : Below B w w' :=
  ⟨hf.os, hf.tape, hf.output, hf.size, fun k hk => hf.block k (Nat.lt_of_lt_of_le hk h.size) (fun e he e2 => by have := h.loE i e he; omega)⟩
end
abbrev kNil : Value := .slice none 0 0
theorem knew (T : KT) (w : World) : KI T w.heap.size (w.alloc (.cells #[kNil, kNil, kNil, kNil, kNil, kNil, kNil, kNil, kNil, kNil, kNil, kNil, kNil, kNil, kNil, kNil] 41)) w.heap.size (fun _ => kNil) (fun _ => []) :=
  ⟨heap_alloc_new w _, fun i => HL.nil _ _, fun i j k _ hk => (by simp [Value.ownBlock] at hk), fun i => ⟨fun _ => [], fun j hj => absurd hj (Nat.not_lt_zero j)⟩, fun i j j' hj => absurd hj (Nat.not_lt_zero j), Nat.le_refl _, fun i k hk => (by simp [Value.ownBlock] at hk), fun i e he => (by cases he), (below_alloc w _).size⟩
end Go.Proofs.YtfckmbdcfeljiaaDoor.K
