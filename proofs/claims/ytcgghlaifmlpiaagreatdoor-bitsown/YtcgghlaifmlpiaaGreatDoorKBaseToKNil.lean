import Derived.Test.YtcgghlaifmlpiaaGreatDoorHListToHGiven
import Derived.Test.YtcgghlaifmlpiaaGreatDoorBBaseToGRow
namespace Go.Proofs.YtcgghlaifmlpiaaGreatDoor
set_option linter.unusedVariables false
open Go.RowKit Go.Maps


/-- A list that was put into the book: its block, how long it is, how much room it has. -/
structure LE where
  g : Nat
  n : Nat
  c : Nat
def LE.v (e : LE) : Value := .slice (some ⟨e.g, 0, none⟩) e.n e.c
/-- The marks of a list, as cells. -/
def marksC (mk : Nat → Nat → List Value) (i n : Nat) : List Value := (List.range n).flatMap (mk i)
section
variable {mk : Nat → Nat → List Value} {sz : Nat}
theorem marksC_succ (mk : Nat → Nat → List Value) (i n : Nat) : marksC mk i (n + 1) = marksC mk i n ++ mk i n := by
  unfold marksC
  rw [List.range_succ, List.flatMap_append]
  simp
theorem marksC_len (h : ∀ i k, (mk i k).length = sz) (i n : Nat) : (marksC mk i n).length = n * sz := by
  induction n with
  | zero => simp [marksC]
  | succ n ih => rw [marksC_succ, List.length_append, ih, h, Nat.succ_mul]
theorem marksC_get (h : ∀ i k, (mk i k).length = sz) (i n k d : Nat) (hk : k < n) (hd : d < sz) : (marksC mk i n)[k * sz + d]? = (mk i k)[d]? := by
  induction n with
  | zero => omega
  | succ n ih =>
    rw [marksC_succ]
    by_cases e : k < n
    · have h1 : (k + 1) * sz ≤ n * sz := Nat.mul_le_mul_right _ e
      rw [Nat.succ_mul] at h1
      rw [List.getElem?_append_left (by rw [marksC_len h]; omega)]
      exact ih e
    · obtain rfl : k = n := by omega
      rw [List.getElem?_append_right (by rw [marksC_len h]; omega), marksC_len h, Nat.add_sub_cancel_left]
theorem marksC_add (mk : Nat → Nat → List Value) (i n k : Nat) : ∃ ys, marksC mk i (n + k) = marksC mk i n ++ ys := by
  induction k with
  | zero => exact ⟨[], by simp⟩
  | succ k ih =>
    obtain ⟨ys, e⟩ := ih
    exact ⟨ys ++ mk i (n + k), by rw [← Nat.add_assoc, marksC_succ, e, List.append_assoc]⟩
end
/-- What may have turned: the blocks of these lists. -/
structure KFr (L : List LE) (w w' : World) : Prop where
  os : w'.os = w.os
  tape : w'.tape = w.tape
  output : w'.output = w.output
  size : w.heap.size ≤ w'.heap.size
  block : ∀ k, k < w.heap.size → (∀ e ∈ L, e.g ≠ k) → w'.heap[k]? = w.heap[k]?
theorem KFr.trans {L : List LE} {w w1 w2 : World} (h : KFr L w w1) (k : KFr L w1 w2) : KFr L w w2 :=
  ⟨k.os.trans h.os, k.tape.trans h.tape, k.output.trans h.output, Nat.le_trans h.size k.size, fun z hz hn => (k.block z (Nat.lt_of_lt_of_le hz h.size) hn).trans (h.block z hz hn)⟩
theorem KFr.ofBelow {L : List LE} {w w' : World} (h : Below w.heap.size w w') : KFr L w w' := ⟨h.os, h.tape, h.output, h.size, fun k hk _ => h.block k hk⟩
theorem KFr.refl (L : List LE) (w : World) : KFr L w w := KFr.ofBelow (Below.refl _ _)
theorem below_step {w w1 w2 : World} (h : Below w.heap.size w w1) (k : Below w1.heap.size w1 w2) : Below w.heap.size w w2 := h.trans (k.mono h.size)
theorem row_block {t : TypeId} {sz n : Nat} {w : World} {e : LE} {xs : List Value} (h : w.ownsRow 0 t sz e.v n xs) : ∃ cur, w.heap[e.g]? = some (.cells cur t (0, 0)) ∧ n = e.n ∧ e.n ≤ e.c ∧ e.c ≤ maxLen ∧ cur.size = e.c * sz ∧ cur.toList.take (e.n * sz) = xs := by
  rcases h.2 with ⟨e1, _⟩ | ⟨g, cap, cur, e1, _, h1, h2, h3, h4, h5⟩
  · simp [LE.v] at e1
  · simp only [LE.v, Value.slice.injEq, Option.some.injEq, Addr.mk.injEq] at e1
    obtain ⟨⟨rfl, _, _⟩, rfl, rfl⟩ := e1
    exact ⟨cur, h1, rfl, h2, h3, h4, h5⟩
theorem row_of_block {t : TypeId} {sz : Nat} {w : World} {e : LE} {xs : List Value} {cur : Array Value} (hl : xs.length = e.n * sz) (h1 : w.heap[e.g]? = some (.cells cur t (0, 0))) (h2 : e.n ≤ e.c) (h3 : e.c ≤ maxLen) (h4 : cur.size = e.c * sz) (h5 : cur.toList.take (e.n * sz) = xs) : w.ownsRow 0 t sz e.v e.n xs :=
  ⟨hl, .inr ⟨e.g, e.c, cur, rfl, Nat.zero_le _, h1, h2, h3, h4, h5⟩⟩
theorem row_set {t : TypeId} {sz : Nat} {w : World} {e : LE} {xs : List Value} (h : w.ownsRow 0 t sz e.v e.n xs) (m : Nat) (u : Value) : (w.setCell ⟨e.g, m, none⟩ u).ownsRow 0 t sz e.v e.n (xs.set m u) := by
  obtain ⟨cur, h1, _, h2, h3, h4, h5⟩ := row_block h
  refine row_of_block (cur := cur.setIfInBounds m u) (by rw [List.length_set]; exact h.1) (heap_set h1 m u) h2 h3 (by simpa using h4) ?_
  rw [Array.toList_setIfInBounds, List.take_set, h5]
theorem row_keptB {t : TypeId} {sz n : Nat} {w w' : World} {v : Value} {xs : List Value} (h : w.ownsRow 0 t sz v n xs) (hb : ∀ k, v.ownBlock = some k → w'.heap[k]? = w.heap[k]?) : w'.ownsRow 0 t sz v n xs := by
  refine ⟨h.1, ?_⟩
  rcases h.2 with q | ⟨g, cap, cur, rfl, h1, h2, h3⟩
  · exact .inl q
  · exact .inr ⟨g, cap, cur, rfl, h1, (hb g rfl).trans h2, h3⟩
theorem row_later {t : TypeId} {sz n : Nat} {w w' : World} {v : Value} {xs : List Value} (h : w.ownsRow 0 t sz v n xs) (hb : Below w.heap.size w w') : w'.ownsRow 0 t sz v n xs := row_keptB h fun k hk => hb.block k (World.ownsRow.lt h k hk).2
theorem take_set1 {xs : List Value} {k : Nat} {u : Value} (h : k < xs.length) : (xs.set k u).take (k + 1) = xs.take k ++ [u] := by
  rw [List.take_succ_eq_append_getElem (by simpa using h), List.take_set_of_le (Nat.le_refl _)]
  simp
/-- The first phase: lists are marked; i of them, and k of the next one's. -/
structure P1 (t : TypeId) (sz : Nat) (mk : Nat → Nat → List Value) (w0 : World) (L : List LE) (i k : Nat) (w : World) (X : Nat → List Value) : Prop where
  row : ∀ j (h : j < L.length), w.ownsRow 0 t sz L[j].v L[j].n (X j)
  nd : ∀ j j' (h : j < L.length) (h' : j' < L.length), j ≠ j' → L[j].g ≠ L[j'].g
  pre : ∀ j (h : j < L.length), j < i → X j = marksC mk j L[j].n
  cur : (X i).take (k * sz) = marksC mk i k
  fr : KFr L w0 w
def P1I (t : TypeId) (sz : Nat) (mk : Nat → Nat → List Value) (w0 : World) (L : List LE) (i k : Nat) (w : World) : Prop := ∃ X, P1 t sz mk w0 L i k w X
section
variable {t : TypeId} {sz : Nat} {mk : Nat → Nat → List Value} {w0 w w' : World} {L : List LE} {i k : Nat}
theorem P1I.cell (h : P1I t sz mk w0 L i k w) (hi : i < L.length) (m : Nat) (hm : m < L[i].n * sz) : ∃ u, w.cell? ⟨L[i].g, m, none⟩ = some u := by
  obtain ⟨X, h⟩ := h
  obtain ⟨cur, h1, _, h2, h3, h4, h5⟩ := row_block (h.row i hi)
  have : m < cur.size := by rw [h4]; exact Nat.lt_of_lt_of_le hm (Nat.mul_le_mul_right _ h2)
  exact ⟨cur[m], by rw [cellq_any h1]; simp [this]⟩
theorem P1I.free (h : P1I t sz mk w0 L i k w) (hi : i < L.length) (m : Nat) : w.frozen? ⟨L[i].g, m, none⟩ = false := by
  obtain ⟨X, h⟩ := h
  obtain ⟨cur, h1, _⟩ := row_block (h.row i hi)
  simp [World.frozen?, h1]
theorem P1I.later (h : P1I t sz mk w0 L i k w) (hb : Below w.heap.size w w') : P1I t sz mk w0 L i k w' := by
  obtain ⟨X, h⟩ := h
  exact ⟨X, fun j hj => row_later (h.row j hj) hb, h.nd, h.pre, h.cur, h.fr.trans (KFr.ofBelow hb)⟩
theorem setCell_fr (hi : i < L.length) (m : Nat) (u : Value) : KFr L w (w.setCell ⟨L[i].g, m, none⟩ u) :=
  ⟨rfl, rfl, rfl, by simp [World.setCell], fun z _ hn => Below.heap_setCell _ _ _ _ (fun e => hn _ (List.getElem_mem hi) e.symm)⟩
theorem P1I.set1 (h : P1I t 1 mk w0 L i k w) (hi : i < L.length) (hk : k < L[i].n) (u : Value) (hu : mk i k = [u]) : P1I t 1 mk w0 L i (k + 1) (w.setCell ⟨L[i].g, k, none⟩ u) := by
  obtain ⟨X, h⟩ := h
  have hl : (X i).length = L[i].n * 1 := (h.row i hi).1
  refine ⟨fun j => if j = i then (X j).set k u else X j, fun j hj => ?_, h.nd, fun j hj hji => ?_, ?_, h.fr.trans (setCell_fr hi _ _)⟩
  · by_cases e : j = i
    · subst e
      simp only [if_pos]
      exact row_set (h.row j hj) k u
    · simp only [if_neg e]
      refine row_keptB (h.row j hj) fun z hz => Below.heap_setCell _ _ _ _ (fun e2 => ?_)
      simp [LE.v, Value.ownBlock] at hz
      exact h.nd j i hj hi e (hz.trans e2)
  · simp only [if_neg (show ¬ j = i by omega)]
    exact h.pre j hj hji
  · simp only [if_pos]
    have := h.cur
    simp only [Nat.mul_one] at this ⊢
    rw [take_set1 (by omega), this, marksC_succ, hu]
theorem P1I.set2 (h : P1I t 2 mk w0 L i k w) (hi : i < L.length) (hk : k < L[i].n) (u v : Value) (hu : mk i k = [u, v]) : P1I t 2 mk w0 L i (k + 1) ((w.setCell ⟨L[i].g, k * 2, none⟩ u).setCell ⟨L[i].g, k * 2 + 1, none⟩ v) := by
  obtain ⟨X, h⟩ := h
  have hl : (X i).length = L[i].n * 2 := (h.row i hi).1
  refine ⟨fun j => if j = i then ((X j).set (k * 2) u).set (k * 2 + 1) v else X j, fun j hj => ?_, h.nd, fun j hj hji => ?_, ?_, (h.fr.trans (setCell_fr hi _ _)).trans (setCell_fr hi _ _)⟩
  · by_cases e : j = i
    · subst e
      simp only [if_pos]
      exact row_set (row_set (h.row j hj) _ u) _ v
    · simp only [if_neg e]
      have hne : ∀ z, L[j].v.ownBlock = some z → z ≠ L[i].g := fun z hz e2 => by
        simp [LE.v, Value.ownBlock] at hz
        exact h.nd j i hj hi e (hz.trans e2)
      exact row_keptB (row_keptB (h.row j hj) fun z hz => Below.heap_setCell _ _ _ _ (hne z hz)) fun z hz => Below.heap_setCell _ _ _ _ (hne z hz)
  · simp only [if_neg (show ¬ j = i by omega)]
    exact h.pre j hj hji
  · simp only [if_pos]
    rw [show (k + 1) * 2 = k * 2 + 1 + 1 by omega, take_set1 (by rw [List.length_set]; omega), take_set1 (by omega), h.cur, marksC_succ, hu]
    simp
theorem P1I.next (h : P1I t sz mk w0 L i k w) (hi : i < L.length) (hk : k = L[i].n) : P1I t sz mk w0 L (i + 1) 0 w := by
  obtain ⟨X, h⟩ := h
  refine ⟨X, h.row, h.nd, fun j hj hji => ?_, by simp [marksC], h.fr⟩
  by_cases e : j = i
  · subst e
    have := h.cur
    rw [hk, List.take_of_length_le (Nat.le_of_eq (h.row j hj).1)] at this
    exact this
  · exact h.pre j hj (by omega)
theorem P1I.start {X : Nat → List Value} (h : ∀ j (h : j < L.length), w.ownsRow 0 t sz L[j].v L[j].n (X j)) (hnd : ∀ j j' (h : j < L.length) (h' : j' < L.length), j ≠ j' → L[j].g ≠ L[j'].g) : P1I t sz mk w L 0 0 w :=
  ⟨X, h, hnd, fun j _ hj => absurd hj (Nat.not_lt_zero j), by simp [marksC], KFr.refl _ _⟩
end
/-- These cells stand in a block. -/
def CellsK (w : World) (g : Nat) (xs : List Value) : Prop := ∀ j u, xs[j]? = some u → w.cell? ⟨g, j, none⟩ = some u
theorem CellsK.kept {w w' : World} {g : Nat} {xs : List Value} (h : CellsK w g xs) (hb : w'.heap[g]? = w.heap[g]?) : CellsK w' g xs := fun j u hu => (World.cell?_of_block hb).trans (h j u hu)
theorem cellsK_own {t : TypeId} {sz n g : Nat} {w : World} {v : Value} {xs ys : List Value} (h : w.ownsRow 0 t sz v n (xs ++ ys)) (hv : v.ownBlock = some g) : CellsK w g xs := by
  intro j u hu
  have := World.ownsRow.cells h hv j u (by rw [List.getElem?_append_left (List.getElem?_eq_some_iff.1 hu).1]; exact hu)
  rwa [add_none, Nat.zero_add] at this
/-- What an append leaves, told more closely: it is done in the block, or all moves to a new one and nothing old turns. -/
structure App (w w' : World) (v v' : Value) : Prop where
  go : (v'.ownBlock = v.ownBlock ∧ w.grownBy w' v.ownBlock) ∨ (v'.ownBlock = some w.heap.size ∧ Below w.heap.size w w')
theorem App.keep {w w' : World} {v v' : Value} (h : App w w' v v') {z : Nat} (hz : z < w.heap.size) (hn : v.ownBlock ≠ some z) : w'.heap[z]? = w.heap[z]? := by
  rcases h.go with ⟨_, g⟩ | ⟨_, b⟩
  · exact g.block z hz (fun e => hn e.symm)
  · exact b.block z hz
theorem App.fr {L : List LE} {w w' : World} {v v' : Value} (h : App w w' v v') (hn : ∀ z, v.ownBlock = some z → z < w.heap.size → ∃ e ∈ L, e.g = z) : KFr L w w' := by
  have hk : ∀ z, z < w.heap.size → (∀ e ∈ L, e.g ≠ z) → w'.heap[z]? = w.heap[z]? := fun z hz hne => h.keep hz fun e => by
    obtain ⟨x, hx, ex⟩ := hn z e hz
    exact hne x hx ex
  rcases h.go with ⟨_, g⟩ | ⟨_, b⟩
  · exact ⟨g.os, g.tape, g.output, g.size, hk⟩
  · exact ⟨b.os, b.tape, b.output, b.size, hk⟩
/-- The second phase: lists are grown; those of gs are. -/
structure P2 (t : TypeId) (sz : Nat) (mk : Nat → Nat → List Value) (w1 : World) (L : List LE) (gs : List Value) (lo : Nat) (w : World) : Prop where
  len : gs.length ≤ L.length
  old : ∀ j (h : j < L.length), CellsK w L[j].g (marksC mk j L[j].n)
  own : ∀ j (h : j < L.length), lo ≤ j → w.ownsRow 0 t sz L[j].v L[j].n (marksC mk j L[j].n)
  new : ∀ j (h : j < L.length) (h' : j < gs.length), w.ownsRow 0 t sz gs[j] (L[j].n + 40) (marksC mk j (L[j].n + 40))
  blk : ∀ j (h : j < L.length) (h' : j < gs.length) k, gs[j].ownBlock = some k → k = L[j].g ∨ w1.heap.size ≤ k
  dis : ∀ j j' (h : j < gs.length) (h' : j' < gs.length) k, j ≠ j' → gs[j].ownBlock = some k → gs[j'].ownBlock ≠ some k
  nd : ∀ j j' (h : j < L.length) (h' : j' < L.length), j ≠ j' → L[j].g ≠ L[j'].g
  lt : ∀ j (h : j < L.length), L[j].g < w1.heap.size
  fr : KFr L w1 w
/-- Within: one list g is being grown. -/
structure P2g (t : TypeId) (sz : Nat) (mk : Nat → Nat → List Value) (w1 : World) (L : List LE) (gs : List Value) (k : Nat) (g : Value) (w : World) : Prop where
  p : P2 t sz mk w1 L gs (gs.length + 1) w
  hi : gs.length < L.length
  cur : w.ownsRow 0 t sz g (L[gs.length].n + k) (marksC mk gs.length (L[gs.length].n + k))
  cblk : ∀ z, g.ownBlock = some z → z = L[gs.length].g ∨ w1.heap.size ≤ z
  cdis : ∀ j (h : j < gs.length) z, g.ownBlock = some z → gs[j].ownBlock ≠ some z
section
variable {t : TypeId} {sz : Nat} {mk : Nat → Nat → List Value} {w1 w w' : World} {L : List LE} {gs : List Value} {lo k : Nat} {g g' : Value}
theorem P2.later (h : P2 t sz mk w1 L gs lo w) (hb : Below w.heap.size w w') : P2 t sz mk w1 L gs lo w' :=
  ⟨h.len, fun j hj => (h.old j hj).kept (hb.block _ (Nat.lt_of_lt_of_le (h.lt j hj) h.fr.size)), fun j hj hl => row_later (h.own j hj hl) hb, fun j hj hl => row_later (h.new j hj hl) hb, h.blk, h.dis, h.nd, h.lt, h.fr.trans (KFr.ofBelow hb)⟩
theorem P2g.later (h : P2g t sz mk w1 L gs k g w) (hb : Below w.heap.size w w') : P2g t sz mk w1 L gs k g w' := ⟨h.p.later hb, h.hi, row_later h.cur hb, h.cblk, h.cdis⟩
theorem P2.start {w0 : World} (h : P1I t sz mk w0 L L.length k w) : P2 t sz mk w L [] 0 w := by
  obtain ⟨X, h⟩ := h
  have hr : ∀ j (h : j < L.length), w.ownsRow 0 t sz L[j].v L[j].n (marksC mk j L[j].n) := fun j hj => by rw [← h.pre j hj hj]; exact h.row j hj
  refine ⟨Nat.zero_le _, fun j hj => cellsK_own (ys := []) (by rw [List.append_nil]; exact hr j hj) rfl, fun j hj _ => hr j hj, fun j _ hj => absurd hj (Nat.not_lt_zero j), fun j _ hj => absurd hj (Nat.not_lt_zero j), fun j _ hj => absurd hj (Nat.not_lt_zero j), h.nd, fun j hj => ?_, KFr.refl _ _⟩
  obtain ⟨cur, h1, _⟩ := row_block (hr j hj)
  exact lt_of_block h1
theorem P2.begin (h : P2 t sz mk w1 L gs gs.length w) (hi : gs.length < L.length) : P2g t sz mk w1 L gs 0 L[gs.length].v w := by
  refine ⟨⟨h.len, h.old, fun j hj hl => h.own j hj (by omega), h.new, h.blk, h.dis, h.nd, h.lt, h.fr⟩, hi, h.own _ hi (Nat.le_refl _), fun z hz => .inl (by simp [LE.v, Value.ownBlock] at hz; exact hz.symm), fun j hj z hz he => ?_⟩
  simp [LE.v, Value.ownBlock] at hz
  rcases h.blk j (by omega) hj z he with r | r
  · exact h.nd j gs.length (by omega) hi (by omega) (r.symm.trans hz.symm)
  · have := h.lt _ hi; omega
theorem P2g.app (h : P2g t sz mk w1 L gs k g w) (ha : App w w' g g') (ho : w'.ownsRow 0 t sz g' (L[gs.length]'h.hi |>.n |> (· + k + 1)) (marksC mk gs.length ((L[gs.length]'h.hi).n + k) ++ mk gs.length ((L[gs.length]'h.hi).n + k))) : P2g t sz mk w1 L gs (k + 1) g' w' := by
  have ho2 : w'.ownsRow 0 t sz g' ((L[gs.length]'h.hi).n + (k + 1)) (marksC mk gs.length ((L[gs.length]'h.hi).n + (k + 1))) := by rw [← Nat.add_assoc, marksC_succ]; exact ho
  have hin : ∀ z, g.ownBlock = some z → z < w1.heap.size → z = (L[gs.length]'h.hi).g := fun z hz hlt => by
    rcases h.cblk z hz with r | r
    · exact r
    · omega
  refine ⟨⟨h.p.len, fun j hj => ?_, fun j hj hl => ?_, fun j hj hl => ?_, h.p.blk, h.p.dis, h.p.nd, h.p.lt, ?_⟩, h.hi, ho2, fun z hz => ?_, fun j hj z hz he => ?_⟩
  · have hlt := Nat.lt_of_lt_of_le (h.p.lt j hj) h.p.fr.size
    by_cases e : g.ownBlock = some L[j].g
    · have e2 := hin _ e (h.p.lt j hj)
      have e3 : j = gs.length := by
        by_cases e4 : j = gs.length
        · exact e4
        · exact absurd e2 (h.p.nd j _ hj h.hi e4)
      subst e3
      rcases ha.go with ⟨r, _⟩ | ⟨_, b⟩
      · obtain ⟨ys, ey⟩ := marksC_add mk gs.length (L[gs.length]'h.hi).n (k + 1)
        rw [ey] at ho2
        exact cellsK_own ho2 (r.trans e)
      · exact (h.p.old _ hj).kept (b.block _ hlt)
    · exact (h.p.old j hj).kept (ha.keep hlt e)
  · refine row_keptB (h.p.own j hj hl) fun z hz => ?_
    simp [LE.v, Value.ownBlock] at hz
    subst hz
    refine ha.keep (Nat.lt_of_lt_of_le (h.p.lt j hj) h.p.fr.size) fun e => ?_
    exact h.p.nd j _ hj h.hi (by omega) (hin _ e (h.p.lt j hj))
  · refine row_keptB (h.p.new j hj hl) fun z hz => ?_
    exact ha.keep (World.ownsRow.lt (h.p.new j hj hl) z hz).2 fun e => h.cdis j hl z e hz
  · have hf := h.p.fr
    have hk : ∀ z, z < w1.heap.size → (∀ e ∈ L, e.g ≠ z) → w'.heap[z]? = w.heap[z]? := fun z hz hne => ha.keep (Nat.lt_of_lt_of_le hz hf.size) fun e => hne _ (List.getElem_mem h.hi) (hin z e hz).symm
    rcases ha.go with ⟨_, q⟩ | ⟨_, q⟩
    · exact ⟨q.os.trans hf.os, q.tape.trans hf.tape, q.output.trans hf.output, Nat.le_trans hf.size q.size, fun z hz hne => (hk z hz hne).trans (hf.block z hz hne)⟩
    · exact ⟨q.os.trans hf.os, q.tape.trans hf.tape, q.output.trans hf.output, Nat.le_trans hf.size q.size, fun z hz hne => (hk z hz hne).trans (hf.block z hz hne)⟩
  · rcases ha.go with ⟨r, _⟩ | ⟨r, _⟩
    · exact h.cblk z (r ▸ hz)
    · rw [hz] at r; simp at r; exact .inr (by have := h.p.fr.size; omega)
  · rcases ha.go with ⟨r, _⟩ | ⟨r, _⟩
    · exact h.cdis j hj z (r ▸ hz) he
    · rw [hz] at r; simp at r
      have := (World.ownsRow.lt (h.p.new j (by have := h.p.len; omega) hj) z he).2
      omega
theorem P2g.fin {tl : TypeId} {gv : Value} {ss : List Value} (h : P2g t sz mk w1 L gs 40 g w) (hl : HL tl w gv ss) (htl : t ≠ tl) (hlo : ∀ z, gv.ownBlock = some z → w1.heap.size ≤ z) (hg : w.grownBy w' gv.ownBlock) : P2 t sz mk w1 L (gs ++ [g]) (gs ++ [g]).length w' := by
  have hr : ∀ v n xs, w.ownsRow 0 t sz v n xs → w'.ownsRow 0 t sz v n xs := fun v n xs ho => row_keptB ho fun z hz => by
    refine hg.block z (World.ownsRow.lt ho z hz).2 ?_
    rcases ho.2 with ⟨rfl, _⟩ | ⟨b, cap, cur, rfl, _, hb, _⟩
    · simp [Value.ownBlock] at hz
    · simp [Value.ownBlock] at hz
      subst hz
      exact hl.ne hb htl
  have hf := h.p.fr
  have hlen : (gs ++ [g]).length = gs.length + 1 := by simp
  refine ⟨by rw [hlen]; exact h.hi, fun j hj => (h.p.old j hj).kept (hg.block _ (Nat.lt_of_lt_of_le (h.p.lt j hj) hf.size) fun e => ?_), fun j hj hj2 => hr _ _ _ (h.p.own j hj (by omega)), fun j hj hj2 => ?_, fun j hj hj2 z hz => ?_, fun j j' hj hj' z hne hz hz' => ?_, h.p.nd, h.p.lt, ⟨hg.os.trans hf.os, hg.tape.trans hf.tape, hg.output.trans hf.output, Nat.le_trans hf.size hg.size, fun z hz hne => (hg.block z (Nat.lt_of_lt_of_le hz hf.size) fun e => ?_).trans (hf.block z hz hne)⟩⟩
  · have := hlo _ e.symm; have := h.p.lt j hj; omega
  · by_cases e : j < gs.length
    · rw [List.getElem_append_left e]
      exact hr _ _ _ (h.p.new j hj e)
    · obtain rfl : j = gs.length := by omega
      simp only [List.getElem_concat_length]
      exact hr _ _ _ h.cur
  · by_cases e : j < gs.length
    · rw [List.getElem_append_left e] at hz
      exact h.p.blk j hj e z hz
    · obtain rfl : j = gs.length := by omega
      simp only [List.getElem_concat_length] at hz
      exact h.cblk z hz
  · by_cases e : j < gs.length
    · rw [List.getElem_append_left e] at hz
      by_cases e' : j' < gs.length
      · rw [List.getElem_append_left e'] at hz'
        exact h.p.dis j j' e e' z hne hz hz'
      · obtain rfl : j' = gs.length := by omega
        simp only [List.getElem_concat_length] at hz'
        exact h.cdis j e z hz' hz
    · obtain rfl : j = gs.length := by omega
      simp only [List.getElem_concat_length] at hz
      have e' : j' < gs.length := by omega
      rw [List.getElem_append_left e'] at hz'
      exact h.cdis j' e' z hz hz'
  · have := hlo _ e.symm; omega
theorem P2.look (h : P2 t sz mk w1 L gs lo w) (hm : ∀ i k, (mk i k).length = sz) (j : Nat) (hj : j < L.length) (hj2 : j < gs.length) : ∃ b c, gs[j] = .slice (some ⟨b, 0, none⟩) (L[j].n + 40) c ∧ ∀ k, k < L[j].n + 40 → ∀ d, d < sz → w.cell? ⟨b, k * sz + d, none⟩ = (mk j k)[d]? := by
  have ho := h.new j hj hj2
  rcases ho.2 with ⟨_, h0⟩ | ⟨b, cap, cur, e, _, hb, _⟩
  · omega
  · refine ⟨b, cap, e, fun k hk d hd => ?_⟩
    have hu : d < (mk j k).length := by rw [hm]; exact hd
    have := World.ownsRow.cells ho (g := b) (by rw [e]; rfl) (k * sz + d) (mk j k)[d] (by rw [marksC_get hm _ _ _ _ hk hd]; simp [hu])
    rw [add_none, Nat.zero_add] at this
    rw [this]; simp [hu]
theorem P2.lookOld (h : P2 t sz mk w1 L gs lo w) (hm : ∀ i k, (mk i k).length = sz) (j : Nat) (hj : j < L.length) : ∀ k, k < L[j].n → ∀ d, d < sz → w.cell? ⟨L[j].g, k * sz + d, none⟩ = (mk j k)[d]? := by
  intro k hk d hd
  have hu : d < (mk j k).length := by rw [hm]; exact hd
  rw [h.old j hj (k * sz + d) (mk j k)[d] (by rw [marksC_get hm _ _ _ _ hk hd]; simp [hu])]
  simp [hu]
end
/-- One more behind a list of one's own. -/
theorem run_row_append {tt t : TypeId} {i0 : TypeInfo} {z0 : Value} {sz by_ : Nat} (hu : Tryz.prog.underlying tt = some (.slice t)) (hi : Tryz.prog.info? t = some i0) (hz0 : i0.zero = some z0) (hz1 : i0.size = sz) (hz2 : i0.bytes = by_) (hzc : z0.cells.size = sz) (h0 : 0 < sz) (hby : by_ ≤ 64)
    (w : World) (ty : TypeId) (v : Value) (n : Nat) (xs : List Value) (h : w.ownsRow 0 t sz v n xs) (b c : Nat) (ys : List Value) (hy : ys.length = sz) (hx : ∀ j u, ys[j]? = some u → w.cell? ⟨b, j, none⟩ = some u) (h1 : ∀ u ∈ ys, u.oneCell' = true) (hlen : n ≤ 1000000000) :
    ∃ v' w', (Builtin.append_ #[tt, tt] ty #[v, .slice (some ⟨b, 0, none⟩) 1 c]).run Tryz.prog w = .ok v' w' ∧ w'.ownsRow 0 t sz v' (n + 1) (xs ++ ys) ∧ App w w' v v' := by
  have hnews : ∀ j u, ys[j]? = some u → w.cell? ((⟨b, 0, none⟩ : Addr).add j) = some u := by
    intro j u hu
    rw [add_none, Nat.zero_add]
    exact hx j u hu
  have hlim : (n + 1) * by_ ≤ 140737488355328 := Nat.le_trans (Nat.mul_le_mul_left _ hby) (by omega)
  obtain ⟨v', w', hrun, hown, hgrow, hnil⟩ := run_append_own (P := Tryz.prog) w 0 tt ty t i0 z0 sz by_ hu hi hz0 hz1 hz2 hzc h0 v n xs h ⟨b, 0, none⟩ 1 c ys (by rw [Nat.one_mul]; exact hy) hnews h1 (by unfold maxLen; omega) hlim (Nat.zero_le _)
  refine ⟨v', w', hrun, hown, ⟨?_⟩⟩
  rcases h.2 with ⟨rfl, hn0⟩ | ⟨g, cap, cur, rfl, hbg, hg, hnc, hcm, hcs, htake⟩
  · subst hn0
    obtain rfl : xs = [] := List.eq_nil_of_length_eq_zero (by rw [h.1, Nat.zero_mul])
    have hr2 := run_append_nil (P := Tryz.prog) w tt ty t i0 z0 hu hi hz0 ⟨b, 0, none⟩ 1 c ys (by rw [hz1, Nat.one_mul]; exact hy) hnews (by omega) (by omega) (by rw [hz2]; omega)
    have e := hrun.symm.trans hr2
    right
    simp only [Result.ok.injEq] at e
    rw [e.1, e.2]
    exact ⟨rfl, (Below.refl _ _).drew.alloc (Nat.le_refl _) _⟩
  · by_cases hroom : n + 1 ≤ cap
    · have hr2 := run_append_room (P := Tryz.prog) w tt ty t i0 hu hi g n cap cur hg ⟨b, 0, none⟩ 1 c ys (by rw [hz1, Nat.one_mul]; exact hy) hnews h1 hroom (by rw [hz1, hcs, hy]; have : (n + 1) * sz ≤ cap * sz := Nat.mul_le_mul_right _ hroom; rw [Nat.succ_mul] at this; exact this)
      have e := hrun.symm.trans hr2
      simp only [Result.ok.injEq] at e
      left
      refine ⟨by rw [e.1]; rfl, hgrow⟩
    · have hr2 := run_append_grow (P := Tryz.prog) w tt ty t i0 z0 hu hi hz0 ⟨g, 0, none⟩ n cap xs (by rw [hz1]; exact h.1) (World.ownsRow.cells h (g := g) rfl) ⟨b, 0, none⟩ 1 c ys (by rw [hz1, Nat.one_mul]; exact hy) hnews (by omega) (by omega) (growslice_fits (by omega) (by rw [hz2]; exact hlim))
      have e := hrun.symm.trans hr2
      simp only [Result.ok.injEq] at e
      right
      rw [e.1, e.2]
      exact ⟨rfl, (Below.refl _ _).drew.alloc (Nat.le_refl _) _⟩
theorem wpList_row_append {tt t : TypeId} {i0 : TypeInfo} {z0 : Value} {sz by_ : Nat} (hu : Tryz.prog.underlying tt = some (.slice t)) (hi : Tryz.prog.info? t = some i0) (hz0 : i0.zero = some z0) (hz1 : i0.size = sz) (hz2 : i0.bytes = by_) (hzc : z0.cells.size = sz) (h0 : 0 < sz) (hby : by_ ≤ 64)
    {ops : Array Oper} {rest : List Oper} {o : Oper} {a : Act} {Q : Exit → Act → World → Prop} {w : World} (hgd : o.guard = none) (s x : Operand)
    (ho : o.op = .call { callee := .builtin .append, args := #[s, x], argTypes := #[tt, tt] })
    (v : Value) (n : Nat) (xs : List Value) (hs : a.eval s = v) (h : w.ownsRow 0 t sz v n xs) (b c : Nat) (ys : List Value) (hx : a.eval x = .slice (some ⟨b, 0, none⟩) 1 c) (hy : ys.length = sz) (hc : ∀ j u, ys[j]? = some u → w.cell? ⟨b, j, none⟩ = some u) (h1 : ∀ u ∈ ys, u.oneCell' = true) (hlen : n ≤ 1000000000)
    (hK : ∀ v' w', w'.ownsRow 0 t sz v' (n + 1) (xs ++ ys) → App w w' v v' → wpList Tryz.prog ops Q rest (a.put o.dst v') w') : wpList Tryz.prog ops Q (o :: rest) a w := by
  refine wpList_plain hgd fun K hK' => ?_
  obtain ⟨v', w', hrun, h2, h3⟩ := run_row_append hu hi hz0 hz1 hz2 hzc h0 hby w o.type v n xs h b c ys hy hc h1 hlen
  unfold Oper.wp execOp
  simp only [ho, resolve, invoke, builtin, Sem.run_bind, Sem.run_pure, Result.andThen_ok, List.map_toArray, List.map_cons, List.map_nil, hs, hx, hrun]
  exact hK' _ _ (hK v' w' h2 h3)
theorem step_row_append {tt t : TypeId} {i0 : TypeInfo} {z0 : Value} {sz by_ : Nat} (hu : Tryz.prog.underlying tt = some (.slice t)) (hi : Tryz.prog.info? t = some i0) (hz0 : i0.zero = some z0) (hz1 : i0.size = sz) (hz2 : i0.bytes = by_) (hzc : z0.cells.size = sz) (h0 : 0 < sz) (hby : by_ ≤ 64)
    {ops : Array Oper} {o : Oper} {a : Act} {w : World} {K : Act → World → Prop} {Q : Exit → Act → World → Prop} {E : Prop}
    (hg : o.guard = none) (s x : Operand) (hop : o.op = Op.call { callee := Callee.builtin Builtin.append, args := #[s, x], argTypes := #[tt, tt] })
    (v : Value) (n : Nat) (xs : List Value) (hs : a.eval s = v) (h : w.ownsRow 0 t sz v n xs) (b c : Nat) (ys : List Value) (hx : a.eval x = .slice (some ⟨b, 0, none⟩) 1 c) (hy : ys.length = sz) (hc : ∀ j u, ys[j]? = some u → w.cell? ⟨b, j, none⟩ = some u) (h1 : ∀ u ∈ ys, u.oneCell' = true) (hlen : n ≤ 1000000000)
    (hK : ∀ v' w', w'.ownsRow 0 t sz v' (n + 1) (xs ++ ys) → App w w' v v' → K (a.put o.dst v') w') :
    if Region.wanted o (yielded ops a.tmps) = true then Oper.wp Tryz.prog o a w K Q else E := by
  have hw : Region.wanted o (yielded ops a.tmps) = true := by simp [Region.wanted, hg]
  rw [if_pos hw]
  obtain ⟨v', w', hrun, r1, r2⟩ := run_row_append hu hi hz0 hz1 hz2 hzc h0 hby w o.type v n xs h b c ys hy hc h1 hlen
  unfold Oper.wp
  simp [execOp, hop, resolve, invoke, builtin, hs, hx, hrun, Result.andThen]
  exact hK v' w' r1 r2
section
variable {t : TypeId} {sz : Nat} {mk : Nat → Nat → List Value} {w0 w1 w w' : World} {L : List LE} {gs : List Value} {i k lo eg en ec : Nat} {g g' : Value}
theorem P1I.cellE (h : P1I t sz mk w0 L i k w) (he : L[i]? = some ⟨eg, en, ec⟩) (m : Nat) (hm : m < en * sz) : ∃ u, w.cell? ⟨eg, m, none⟩ = some u := by
  obtain ⟨hi, e⟩ := List.getElem?_eq_some_iff.1 he
  have := h.cell hi m (by rw [e]; exact hm)
  rwa [e] at this
theorem P1I.freeE (h : P1I t sz mk w0 L i k w) (he : L[i]? = some ⟨eg, en, ec⟩) (m : Nat) : w.frozen? ⟨eg, m, none⟩ = false := by
  obtain ⟨hi, e⟩ := List.getElem?_eq_some_iff.1 he
  have := h.free hi m
  rwa [e] at this
theorem P1I.set1E (h : P1I t 1 mk w0 L i k w) (he : L[i]? = some ⟨eg, en, ec⟩) (hk : k < en) (u : Value) (hu : mk i k = [u]) : P1I t 1 mk w0 L i (k + 1) (w.setCell ⟨eg, k, none⟩ u) := by
  obtain ⟨hi, e⟩ := List.getElem?_eq_some_iff.1 he
  have := h.set1 hi (by rw [e]; exact hk) u hu
  rwa [e] at this
theorem P1I.set2E (h : P1I t 2 mk w0 L i k w) (he : L[i]? = some ⟨eg, en, ec⟩) (hk : k < en) (u v : Value) (hu : mk i k = [u, v]) : P1I t 2 mk w0 L i (k + 1) ((w.setCell ⟨eg, k * 2, none⟩ u).setCell ⟨eg, k * 2 + 1, none⟩ v) := by
  obtain ⟨hi, e⟩ := List.getElem?_eq_some_iff.1 he
  have := h.set2 hi (by rw [e]; exact hk) u v hu
  rwa [e] at this
theorem P1I.nextE (h : P1I t sz mk w0 L i en w) (he : L[i]? = some ⟨eg, en, ec⟩) : P1I t sz mk w0 L (i + 1) 0 w := by
  obtain ⟨hi, e⟩ := List.getElem?_eq_some_iff.1 he
  exact h.next hi (by rw [e])
theorem P1I.fr (h : P1I t sz mk w0 L i k w) : KFr L w0 w := by
  obtain ⟨X, h⟩ := h
  exact h.fr
theorem P2.beginE (h : P2 t sz mk w1 L gs gs.length w) (he : L[gs.length]? = some ⟨eg, en, ec⟩) : P2g t sz mk w1 L gs 0 (.slice (some ⟨eg, 0, none⟩) en ec) w := by
  obtain ⟨hi, e⟩ := List.getElem?_eq_some_iff.1 he
  have := h.begin hi
  rwa [e] at this
theorem P2g.curE (h : P2g t sz mk w1 L gs k g w) (he : L[gs.length]? = some ⟨eg, en, ec⟩) : w.ownsRow 0 t sz g (en + k) (marksC mk gs.length (en + k)) := by
  obtain ⟨hi, e⟩ := List.getElem?_eq_some_iff.1 he
  have := h.cur
  rwa [e] at this
theorem P2g.appE (h : P2g t sz mk w1 L gs k g w) (he : L[gs.length]? = some ⟨eg, en, ec⟩) (ha : App w w' g g') (ho : w'.ownsRow 0 t sz g' (en + k + 1) (marksC mk gs.length (en + k) ++ mk gs.length (en + k))) : P2g t sz mk w1 L gs (k + 1) g' w' := by
  obtain ⟨hi, e⟩ := List.getElem?_eq_some_iff.1 he
  refine h.app ha ?_
  rw [e]
  exact ho
theorem P2.lookE (h : P2 t sz mk w1 L gs lo w) (hm : ∀ i k, (mk i k).length = sz) (he : L[i]? = some ⟨eg, en, ec⟩) (hj2 : i < gs.length) : ∃ b c, gs[i]? = some (.slice (some ⟨b, 0, none⟩) (en + 40) c) ∧ ∀ k, k < en + 40 → ∀ d, d < sz → w.cell? ⟨b, k * sz + d, none⟩ = (mk i k)[d]? := by
  obtain ⟨hi, e⟩ := List.getElem?_eq_some_iff.1 he
  obtain ⟨b, c, e1, e2⟩ := h.look hm i hi hj2
  rw [e] at e1 e2
  exact ⟨b, c, by rw [List.getElem?_eq_getElem hj2, e1], e2⟩
theorem P2.lookOldE (h : P2 t sz mk w1 L gs lo w) (hm : ∀ i k, (mk i k).length = sz) (he : L[i]? = some ⟨eg, en, ec⟩) : ∀ k, k < en → ∀ d, d < sz → w.cell? ⟨eg, k * sz + d, none⟩ = (mk i k)[d]? := by
  obtain ⟨hi, e⟩ := List.getElem?_eq_some_iff.1 he
  have := h.lookOld hm i hi
  rwa [e] at this
theorem HL.setK {tl : TypeId} {lv : Value} {ss : List Value} (h : HL tl w lv ss) (hf : KFr L w w') (hn : ∀ e ∈ L, some e.g ≠ lv.ownBlock) : HL tl w' lv ss := h.kept fun z hz => hf.block z (h.lt z hz) fun e he e2 => hn e he (by rw [hz, e2])
theorem le_at {tl : TypeId} {lb ln lc : Nat} (h : HL tl w (.slice (some ⟨lb, 0, none⟩) ln lc) (L.map LE.v)) {i : Nat} (hi : i < L.length) : ∃ eg en ec, Hid (L[i]? = some ⟨eg, en, ec⟩) ∧ w.cell? ⟨lb, i, none⟩ = some (.slice (some ⟨eg, 0, none⟩) en ec) := by
  obtain ⟨g, c, e, hc⟩ := h.at i L[i].v (by simp [hi])
  simp only [Value.slice.injEq, Option.some.injEq, Addr.mk.injEq] at e
  obtain ⟨⟨rfl, _⟩, _⟩ := e
  exact ⟨L[i].g, L[i].n, L[i].c, by show _ = _; simp [hi], hc⟩
theorem row_slice {n : Nat} {xs : List Value} (h : w.ownsRow 0 t sz g n xs) : ∃ a c, g = .slice a n c := by
  rcases h.2 with ⟨rfl, rfl⟩ | ⟨b, cap, cur, rfl, _⟩
  · exact ⟨none, 0, rfl⟩
  · exact ⟨_, _, rfl⟩
theorem HL.app {tl : TypeId} {gv : Value} {ss : List Value} {n : Nat} {xs : List Value} (h : HL tl w gv ss) (hc : w.ownsRow 0 t sz g n xs) (ht : t ≠ tl) (ha : App w w' g g') : HL tl w' gv ss := h.kept fun z hz => ha.keep (h.lt z hz) fun e => by
  rcases hc.2 with ⟨rfl, _⟩ | ⟨b, cap, cur, rfl, _, hb, _⟩
  · simp [Value.ownBlock] at e
  · simp [Value.ownBlock] at e
    subst e
    exact h.ne hb ht hz.symm
theorem one_new (w : World) (x : Value) (t : TypeId) : ∀ j u, [x][j]? = some u → (w.alloc (.cells #[x] t)).cell? ⟨w.heap.size, j, none⟩ = some u := by
  intro j u hu
  rw [cellq_any (heap_alloc_new w _)]
  match j with
  | 0 => simp at hu ⊢; exact hu
  | j + 1 => simp at hu
theorem two_new (w : World) (x y : Value) (t : TypeId) : ∀ j u, [x, y][j]? = some u → (w.alloc (.cells #[x, y] t)).cell? ⟨w.heap.size, j, none⟩ = some u := by
  intro j u hu
  rw [cellq_any (heap_alloc_new w _)]
  match j with
  | 0 => simp at hu ⊢; exact hu
  | 1 => simp at hu ⊢; exact hu
  | j + 2 => simp at hu
end
end Go.Proofs.YtcgghlaifmlpiaaGreatDoor
namespace Go.Proofs.YtcgghlaifmlpiaaGreatDoor
set_option linter.unusedVariables false
open Go.RowKit Go.Maps

def kUpdV (V : Nat → Value) (i : Nat) (v : Value) : Nat → Value := fun j => if j = i then v else V j
def kUpdE (E : Nat → List LE) (i : Nat) (e : LE) : Nat → List LE := fun j => if j = i then E j ++ [e] else E j
def kArr (V : Nat → Value) : Array Value := ((List.range 16).map V).toArray
theorem kArr_get (V : Nat → Value) {i : Nat} (hi : i < 16) : (kArr V)[i]? = some (V i) := by simp [kArr, hi]
theorem kArr_set (V : Nat → Value) {i : Nat} (v : Value) : (kArr V).setIfInBounds i v = kArr (kUpdV V i v) := by
  unfold kArr
  apply Array.toList_inj.1
  simp only [Array.toList_setIfInBounds]
  apply List.ext_getElem
  · simp
  · intro k h1 h2
    simp only [List.getElem_set, List.getElem_map, List.getElem_range, kUpdV]
    by_cases e : i = k
    · simp [e]
    · have e' : ¬ k = i := fun q => e q.symm
      simp [e, e']
/-- The types of the book's lists: of an element, how many cells it takes, of a list. -/
structure KT where
  te : Nat → TypeId
  sz : Nat → Nat
  tl : Nat → TypeId
/-- They are all unlike. -/
structure KT.Ok (T : KT) : Prop where
  qe : ∀ i, 68 ≠ T.te i
  ql : ∀ i, 68 ≠ T.tl i
  el : ∀ i j, T.te i ≠ T.tl j
/-- What the book's calls leave as it was: every block of a kind that the book has not. -/
def KQ (T : KT) (w w' : World) : Prop := w.heap.size ≤ w'.heap.size ∧ ∀ (k : Nat) (C : Array Value) (t : TypeId), w.heap[k]? = some (.cells C t (0, 0)) → t ≠ 68 → (∀ i, t ≠ T.tl i) → w'.heap[k]? = w.heap[k]?
theorem KQ.refl (T : KT) (w : World) : KQ T w w := ⟨Nat.le_refl _, fun _ _ _ _ _ _ => rfl⟩
theorem KQ.trans {T : KT} {a b c : World} (h : KQ T a b) (h' : KQ T b c) : KQ T a c := ⟨Nat.le_trans h.1 h'.1, fun k C t hk h1 h2 => by
  have e := h.2 k C t hk h1 h2
  exact (h'.2 k C t (e.trans hk) h1 h2).trans e⟩
theorem KQ.of {T : KT} {a b : World} (h : Below a.heap.size a b) : KQ T a b := ⟨h.size, fun k _ _ hk _ _ => h.block k (lt_of_block hk)⟩
theorem KQ.row {T : KT} {a b : World} (h : KQ T a b) {t : TypeId} {sz n : Nat} {v : Value} {xs : List Value} (h1 : t ≠ 68) (h2 : ∀ i, t ≠ T.tl i) (ho : a.ownsRow 0 t sz v n xs) : b.ownsRow 0 t sz v n xs := by
  refine row_keptB ho fun k hk => ?_
  obtain ⟨cur, hb⟩ : ∃ cur, a.heap[k]? = some (.cells cur t (0, 0)) := by
    rcases ho.2 with ⟨rfl, _⟩ | ⟨g, cap, cur, rfl, _, hb, _⟩
    · simp [Value.ownBlock] at hk
    · simp [Value.ownBlock] at hk
      subst hk
      exact ⟨cur, hb⟩
  exact h.2 k cur t hb h1 h2
/-- A book: what lies in its cells; all is its own, from B on. -/
structure KI (T : KT) (B : Nat) (w : World) (q : Nat) (V : Nat → Value) (E : Nat → List LE) : Prop where
  hq : w.heap[q]? = some (.cells (kArr V) 68 (0, 0))
  row : ∀ i, HL (T.tl i) w (V i) ((E i).map LE.v)
  apart : ∀ i j k, i ≠ j → (V i).ownBlock = some k → (V j).ownBlock ≠ some k
  own : ∀ i, ∃ X : Nat → List Value, ∀ j (h : j < (E i).length), w.ownsRow 0 (T.te i) (T.sz i) (E i)[j].v (E i)[j].n (X j)
  nd : ∀ i j j' (h : j < (E i).length) (h' : j' < (E i).length), j ≠ j' → (E i)[j].g ≠ (E i)[j'].g
  loq : B ≤ q
  loV : ∀ i k, (V i).ownBlock = some k → B ≤ k
  loE : ∀ i, ∀ e ∈ E i, B ≤ e.g
  size : B ≤ w.heap.size
section
variable {T : KT} {B : Nat} {w w' : World} {q : Nat} {V : Nat → Value} {E : Nat → List LE}
theorem KI.cell (h : KI T B w q V E) {i : Nat} (hi : i < 16) : w.cell? ⟨q, i, none⟩ = some (V i) := by
  simp only [World.cell?, h.hq]
  exact kArr_get V hi
theorem KI.ne (h : KI T B w q V E) (hT : T.Ok) (i : Nat) : some q ≠ (V i).ownBlock := (h.row i).ne h.hq (hT.ql i)
theorem KI.later (h : KI T B w q V E) (hb : Below w.heap.size w w') : KI T B w' q V E :=
  ⟨(hb.block q (lt_of_block h.hq)).trans h.hq, fun i => (h.row i).later hb, h.apart, fun i => by obtain ⟨X, hX⟩ := h.own i; exact ⟨X, fun j hj => row_later (hX j hj) hb⟩, h.nd, h.loq, h.loV, h.loE, Nat.le_trans h.size hb.size⟩
theorem KI.lt (h : KI T B w q V E) (i : Nat) : ∀ e ∈ E i, e.g < w.heap.size := by
  intro e he
  obtain ⟨j, hj, rfl⟩ := List.getElem_of_mem he
  obtain ⟨X, hX⟩ := h.own i
  obtain ⟨cur, h1, _⟩ := row_block (hX j hj)
  exact lt_of_block h1
theorem KI.store {i : Nat} {v' : Value} {e : LE} {X : List Value} (hT : T.Ok) (h : KI T B w q V E) (hg : Grew w w' (V i) v') (hl : HL (T.tl i) w' v' ((E i).map LE.v ++ [e.v])) (he : w.ownsRow 0 (T.te i) (T.sz i) e.v e.n X) (hnew : ∀ x ∈ E i, x.g ≠ e.g) (hlo : B ≤ e.g) : KI T B (w'.setCell ⟨q, i, none⟩ v') q (kUpdV V i v') (kUpdE E i e) ∧ Below B w (w'.setCell ⟨q, i, none⟩ v') := by
  have b : w'.heap[q]? = some (.cells (kArr V) 68 (0, 0)) := (hg.grown.block q (lt_of_block h.hq) (h.ne hT i)).trans h.hq
  have rk : ∀ j sz n v xs, w.ownsRow 0 (T.te j) sz v n xs → (w'.setCell ⟨q, i, none⟩ v').ownsRow 0 (T.te j) sz v n xs := fun j sz n v xs ho => row_keptB ho fun k hk => by
    rcases ho.2 with ⟨rfl, _⟩ | ⟨g, cap, cur, rfl, _, hb, _⟩
    · simp [Value.ownBlock] at hk
    · simp [Value.ownBlock] at hk
      subst hk
      have n1 : g ≠ q := fun e => by rw [e, h.hq] at hb; simp at hb; exact hT.qe j hb.2
      rw [Below.heap_setCell _ _ _ _ n1]
      exact hg.grown.block g (lt_of_block hb) ((h.row i).ne hb (hT.el j i))
  have mvd : ∀ k, v'.ownBlock = some k → ∀ j, j ≠ i → (V j).ownBlock ≠ some k := fun k hk j hj hjk => by
    rcases hg.moved with r | ⟨m, r, hm⟩
    · exact h.apart j i k hj hjk (r ▸ hk)
    · rw [hk] at r; have := Option.some.inj r; have := (h.row j).lt k hjk; omega
  have hlv : ∀ k, v'.ownBlock = some k → B ≤ k := fun k hk => by
    rcases hg.moved with r | ⟨m, r, hm⟩
    · exact h.loV i k (r ▸ hk)
    · rw [hk] at r; have := Option.some.inj r; have := h.size; omega
  have hbel : Below B w (w'.setCell ⟨q, i, none⟩ v') := ((Below.refl B w).grown hg.grown h.size (h.loV i)).setCell h.loq _
  refine ⟨⟨by rw [heap_set b, kArr_set], fun j => ?_, fun j j' k hne hk hk' => ?_, fun j => ?_, fun j x y hx hy hne => ?_, h.loq, fun j k hk => ?_, fun j x hx => ?_, ?_⟩, hbel⟩
  · unfold kUpdV kUpdE
    split
    · rename_i e1
      subst e1
      rw [List.map_append, List.map_cons, List.map_nil]
      exact hl.kept fun k hk => Below.heap_setCell _ _ _ _ (fun e => hl.ne b (hT.ql j) (by rw [hk, e]))
    · rename_i hj
      exact (h.row j).kept fun k hk => by
        rw [Below.heap_setCell _ _ _ _ (fun e => h.ne hT j (by rw [hk, e]))]
        exact hg.grown.block k ((h.row j).lt k hk) (fun e => h.apart j i k hj hk e.symm)
  · unfold kUpdV at hk hk'
    split at hk
    · rename_i e1
      split at hk'
      · rename_i e2; exact hne (e1.trans e2.symm)
      · rename_i e2; exact mvd k hk j' e2 hk'
    · rename_i e1
      split at hk'
      · rename_i e2; exact mvd k hk' j e1 hk
      · exact h.apart j j' k hne hk hk'
  · obtain ⟨Y, hY⟩ := h.own j
    by_cases e1 : j = i
    · subst e1
      suffices hs : ∀ L' : List LE, L' = E j ++ [e] → ∃ Z : Nat → List Value, ∀ m (h : m < L'.length), (w'.setCell ⟨q, j, none⟩ v').ownsRow 0 (T.te j) (T.sz j) L'[m].v L'[m].n (Z m) from hs _ (if_pos rfl)
      rintro L' rfl
      refine ⟨fun m => if m < (E j).length then Y m else X, fun m hm => ?_⟩
      by_cases e2 : m < (E j).length
      · simp only [if_pos e2, List.getElem_append_left e2]
        exact rk j _ _ _ _ (hY m e2)
      · have e3 : m = (E j).length := by simp at hm; omega
        have e4 : (E j ++ [e])[m] = e := by simp [e3]
        simp only [if_neg e2, e4]
        exact rk j _ _ _ _ he
    · refine ⟨Y, fun m hm => ?_⟩
      simp only [kUpdE, if_neg e1] at hm ⊢
      exact rk j _ _ _ _ (hY m hm)
  · by_cases e1 : j = i
    · subst e1
      simp only [kUpdE, if_pos] at hx hy ⊢
      by_cases e2 : x < (E j).length
      · simp only [List.getElem_append_left e2]
        by_cases e3 : y < (E j).length
        · simp only [List.getElem_append_left e3]
          exact h.nd j x y e2 e3 hne
        · obtain rfl : y = (E j).length := by simp at hy; omega
          simp only [List.getElem_concat_length]
          exact hnew _ (List.getElem_mem e2)
      · obtain rfl : x = (E j).length := by simp at hx; omega
        have e3 : y < (E j).length := by simp at hy; omega
        simp only [List.getElem_append_left e3, List.getElem_concat_length]
        exact fun e4 => hnew _ (List.getElem_mem e3) e4.symm
    · simp only [kUpdE, if_neg e1] at hx hy ⊢
      exact h.nd j x y hx hy hne
  · unfold kUpdV at hk
    split at hk
    · exact hlv k hk
    · exact h.loV j k hk
  · unfold kUpdE at hx
    split at hx
    · rcases List.mem_append.1 hx with r | r
      · exact h.loE j x r
      · simp at r; subst r; exact hlo
    · exact h.loE j x hx
  · exact Nat.le_trans h.size hbel.size
theorem KI.storeQ {i : Nat} {v' : Value} (hT : T.Ok) (h : KI T B w q V E) (hg : Grew w w' (V i) v') : KQ T w (w'.setCell ⟨q, i, none⟩ v') :=
  ⟨by simpa using hg.grown.size, fun k C t hk h1 h2 => by
    have n1 : k ≠ q := fun e => by rw [e, h.hq] at hk; simp at hk; exact h1 hk.2.symm
    rw [Below.heap_setCell _ _ _ _ n1]
    exact hg.grown.block k (lt_of_block hk) ((h.row i).ne hk (h2 i))⟩
/-- A frame within the book's own lists. -/
theorem KI.fr (hT : T.Ok) (h : KI T B w q V E) {i : Nat} (hf : KFr (E i) w w') : Below B w w' :=
  ⟨hf.os, hf.tape, hf.output, hf.size, fun k hk => hf.block k (Nat.lt_of_lt_of_le hk h.size) (fun e he e2 => by have := h.loE i e he; omega)⟩
end
abbrev kNil : Value := .slice none 0 0
theorem knew (T : KT) (w : World) : KI T w.heap.size (w.alloc (.cells #[kNil, kNil, kNil, kNil, kNil, kNil, kNil, kNil, kNil, kNil, kNil, kNil, kNil, kNil, kNil, kNil] 68)) w.heap.size (fun _ => kNil) (fun _ => []) :=
  ⟨heap_alloc_new w _, fun i => HL.nil _ _, fun i j k _ hk => (by simp [Value.ownBlock] at hk), fun i => ⟨fun _ => [], fun j hj => absurd hj (Nat.not_lt_zero j)⟩, fun i j j' hj => absurd hj (Nat.not_lt_zero j), Nat.le_refl _, fun i k hk => (by simp [Value.ownBlock] at hk), fun i e he => (by cases he), (below_alloc w _).size⟩
end Go.Proofs.YtcgghlaifmlpiaaGreatDoor
namespace Go.Proofs.YtcgghlaifmlpiaaGreatDoor
set_option linter.unusedVariables false
open Go.RowKit Go.Maps

set_option maxHeartbeats 1000000 in
theorem apartnilBytes (q : Nat) (a : Option Addr) (c : Nat) (w : World) (hq : w.cell? ⟨q, 0, none⟩ = some (.slice a 0 c)) : Calls Tryz.prog 57 #[.pointer (some ⟨q, 0, none⟩)] w fun e w' => e = .returned (.bool true) ∧ w = w' := by
  go_enter Tryz.func57, Tryz.ntmps57
  go_wp2
  go_loop [4] (fun i => i = .int .i64 0) (fun _ => 0)
  case atStart => rfl
  case round =>
    subst hrel
    go_wp2
    go_loop [7] (fun i => i = .int .i64 0) (fun _ => 0)
    case atStart => rfl
    case round =>
      subst hrel
      go_wp2
      go_loop [10] (fun i => i = .int .i64 0) (fun _ => 0)
      case atStart => rfl
      case round =>
        subst hrel
        go_wp2
        go_ret
        exact ⟨rfl, rfl⟩
set_option maxHeartbeats 1000000 in
theorem apartnilInts (q : Nat) (a : Option Addr) (c : Nat) (w : World) (hq : w.cell? ⟨q, 1, none⟩ = some (.slice a 0 c)) : Calls Tryz.prog 58 #[.pointer (some ⟨q, 0, none⟩)] w fun e w' => e = .returned (.bool true) ∧ w = w' := by
  go_enter Tryz.func58, Tryz.ntmps58
  go_wp2
  go_loop [4] (fun i => i = .int .i64 0) (fun _ => 0)
  case atStart => rfl
  case round =>
    subst hrel
    go_wp2
    go_loop [7] (fun i => i = .int .i64 0) (fun _ => 0)
    case atStart => rfl
    case round =>
      subst hrel
      go_wp2
      go_loop [10] (fun i => i = .int .i64 0) (fun _ => 0)
      case atStart => rfl
      case round =>
        subst hrel
        go_wp2
        go_ret
        exact ⟨rfl, rfl⟩
set_option maxHeartbeats 1000000 in
theorem apartnilStrings (q : Nat) (a : Option Addr) (c : Nat) (w : World) (hq : w.cell? ⟨q, 2, none⟩ = some (.slice a 0 c)) : Calls Tryz.prog 59 #[.pointer (some ⟨q, 0, none⟩)] w fun e w' => e = .returned (.bool true) ∧ w = w' := by
  go_enter Tryz.func59, Tryz.ntmps59
  go_wp2
  go_loop [4] (fun i => i = .int .i64 0) (fun _ => 0)
  case atStart => rfl
  case round =>
    subst hrel
    go_wp2
    go_loop [7] (fun i => i = .int .i64 0) (fun _ => 0)
    case atStart => rfl
    case round =>
      subst hrel
      go_wp2
      go_loop [10] (fun i => i = .int .i64 0) (fun _ => 0)
      case atStart => rfl
      case round =>
        subst hrel
        go_wp2
        go_ret
        exact ⟨rfl, rfl⟩
set_option maxHeartbeats 1000000 in
theorem apartnilBools (q : Nat) (a : Option Addr) (c : Nat) (w : World) (hq : w.cell? ⟨q, 3, none⟩ = some (.slice a 0 c)) : Calls Tryz.prog 60 #[.pointer (some ⟨q, 0, none⟩)] w fun e w' => e = .returned (.bool true) ∧ w = w' := by
  go_enter Tryz.func60, Tryz.ntmps60
  go_wp2
  go_loop [4] (fun i => i = .int .i64 0) (fun _ => 0)
  case atStart => rfl
  case round =>
    subst hrel
    go_wp2
    go_loop [7] (fun i => i = .int .i64 0) (fun _ => 0)
    case atStart => rfl
    case round =>
      subst hrel
      go_wp2
      go_loop [10] (fun i => i = .int .i64 0) (fun _ => 0)
      case atStart => rfl
      case round =>
        subst hrel
        go_wp2
        go_ret
        exact ⟨rfl, rfl⟩
set_option maxHeartbeats 1000000 in
theorem apartnilSyms (q : Nat) (a : Option Addr) (c : Nat) (w : World) (hq : w.cell? ⟨q, 4, none⟩ = some (.slice a 0 c)) : Calls Tryz.prog 61 #[.pointer (some ⟨q, 0, none⟩)] w fun e w' => e = .returned (.bool true) ∧ w = w' := by
  go_enter Tryz.func61, Tryz.ntmps61
  go_wp2
  go_loop [4] (fun i => i = .int .i64 0) (fun _ => 0)
  case atStart => rfl
  case round =>
    subst hrel
    go_wp2
    go_loop [7] (fun i => i = .int .i64 0) (fun _ => 0)
    case atStart => rfl
    case round =>
      subst hrel
      go_wp2
      go_loop [10] (fun i => i = .int .i64 0) (fun _ => 0)
      case atStart => rfl
      case round =>
        subst hrel
        go_wp2
        go_ret
        exact ⟨rfl, rfl⟩
set_option maxHeartbeats 1000000 in
theorem apartnilCores (q : Nat) (a : Option Addr) (c : Nat) (w : World) (hq : w.cell? ⟨q, 5, none⟩ = some (.slice a 0 c)) : Calls Tryz.prog 62 #[.pointer (some ⟨q, 0, none⟩)] w fun e w' => e = .returned (.bool true) ∧ w = w' := by
  go_enter Tryz.func62, Tryz.ntmps62
  go_wp2
  go_loop [4] (fun i => i = .int .i64 0) (fun _ => 0)
  case atStart => rfl
  case round =>
    subst hrel
    go_wp2
    go_loop [7] (fun i => i = .int .i64 0) (fun _ => 0)
    case atStart => rfl
    case round =>
      subst hrel
      go_wp2
      go_loop [10] (fun i => i = .int .i64 0) (fun _ => 0)
      case atStart => rfl
      case round =>
        subst hrel
        go_wp2
        go_ret
        exact ⟨rfl, rfl⟩
set_option maxHeartbeats 1000000 in
theorem apartnilActions (q : Nat) (a : Option Addr) (c : Nat) (w : World) (hq : w.cell? ⟨q, 6, none⟩ = some (.slice a 0 c)) : Calls Tryz.prog 63 #[.pointer (some ⟨q, 0, none⟩)] w fun e w' => e = .returned (.bool true) ∧ w = w' := by
  go_enter Tryz.func63, Tryz.ntmps63
  go_wp2
  go_loop [4] (fun i => i = .int .i64 0) (fun _ => 0)
  case atStart => rfl
  case round =>
    subst hrel
    go_wp2
    go_loop [7] (fun i => i = .int .i64 0) (fun _ => 0)
    case atStart => rfl
    case round =>
      subst hrel
      go_wp2
      go_loop [10] (fun i => i = .int .i64 0) (fun _ => 0)
      case atStart => rfl
      case round =>
        subst hrel
        go_wp2
        go_ret
        exact ⟨rfl, rfl⟩
set_option maxHeartbeats 1000000 in
theorem apartnilEdges (q : Nat) (a : Option Addr) (c : Nat) (w : World) (hq : w.cell? ⟨q, 7, none⟩ = some (.slice a 0 c)) : Calls Tryz.prog 64 #[.pointer (some ⟨q, 0, none⟩)] w fun e w' => e = .returned (.bool true) ∧ w = w' := by
  go_enter Tryz.func64, Tryz.ntmps64
  go_wp2
  go_loop [4] (fun i => i = .int .i64 0) (fun _ => 0)
  case atStart => rfl
  case round =>
    subst hrel
    go_wp2
    go_loop [7] (fun i => i = .int .i64 0) (fun _ => 0)
    case atStart => rfl
    case round =>
      subst hrel
      go_wp2
      go_loop [10] (fun i => i = .int .i64 0) (fun _ => 0)
      case atStart => rfl
      case round =>
        subst hrel
        go_wp2
        go_ret
        exact ⟨rfl, rfl⟩
set_option maxHeartbeats 1000000 in
theorem apartnilPairs (q : Nat) (a : Option Addr) (c : Nat) (w : World) (hq : w.cell? ⟨q, 8, none⟩ = some (.slice a 0 c)) : Calls Tryz.prog 65 #[.pointer (some ⟨q, 0, none⟩)] w fun e w' => e = .returned (.bool true) ∧ w = w' := by
  go_enter Tryz.func65, Tryz.ntmps65
  go_wp2
  go_loop [4] (fun i => i = .int .i64 0) (fun _ => 0)
  case atStart => rfl
  case round =>
    subst hrel
    go_wp2
    go_loop [7] (fun i => i = .int .i64 0) (fun _ => 0)
    case atStart => rfl
    case round =>
      subst hrel
      go_wp2
      go_loop [10] (fun i => i = .int .i64 0) (fun _ => 0)
      case atStart => rfl
      case round =>
        subst hrel
        go_wp2
        go_ret
        exact ⟨rfl, rfl⟩
set_option maxHeartbeats 1000000 in
theorem apartnilTokens (q : Nat) (a : Option Addr) (c : Nat) (w : World) (hq : w.cell? ⟨q, 9, none⟩ = some (.slice a 0 c)) : Calls Tryz.prog 66 #[.pointer (some ⟨q, 0, none⟩)] w fun e w' => e = .returned (.bool true) ∧ w = w' := by
  go_enter Tryz.func66, Tryz.ntmps66
  go_wp2
  go_loop [4] (fun i => i = .int .i64 0) (fun _ => 0)
  case atStart => rfl
  case round =>
    subst hrel
    go_wp2
    go_loop [7] (fun i => i = .int .i64 0) (fun _ => 0)
    case atStart => rfl
    case round =>
      subst hrel
      go_wp2
      go_loop [10] (fun i => i = .int .i64 0) (fun _ => 0)
      case atStart => rfl
      case round =>
        subst hrel
        go_wp2
        go_ret
        exact ⟨rfl, rfl⟩
set_option maxHeartbeats 1000000 in
theorem apartnilProds (q : Nat) (a : Option Addr) (c : Nat) (w : World) (hq : w.cell? ⟨q, 10, none⟩ = some (.slice a 0 c)) : Calls Tryz.prog 67 #[.pointer (some ⟨q, 0, none⟩)] w fun e w' => e = .returned (.bool true) ∧ w = w' := by
  go_enter Tryz.func67, Tryz.ntmps67
  go_wp2
  go_loop [4] (fun i => i = .int .i64 0) (fun _ => 0)
  case atStart => rfl
  case round =>
    subst hrel
    go_wp2
    go_loop [7] (fun i => i = .int .i64 0) (fun _ => 0)
    case atStart => rfl
    case round =>
      subst hrel
      go_wp2
      go_loop [11] (fun i => i = .int .i64 0) (fun _ => 0)
      case atStart => rfl
      case round =>
        subst hrel
        go_wp2
        go_ret
        exact ⟨rfl, rfl⟩
set_option maxHeartbeats 1000000 in
theorem apartnilLevels (q : Nat) (a : Option Addr) (c : Nat) (w : World) (hq : w.cell? ⟨q, 11, none⟩ = some (.slice a 0 c)) : Calls Tryz.prog 68 #[.pointer (some ⟨q, 0, none⟩)] w fun e w' => e = .returned (.bool true) ∧ w = w' := by
  go_enter Tryz.func68, Tryz.ntmps68
  go_wp2
  go_loop [4] (fun i => i = .int .i64 0) (fun _ => 0)
  case atStart => rfl
  case round =>
    subst hrel
    go_wp2
    go_loop [7] (fun i => i = .int .i64 0) (fun _ => 0)
    case atStart => rfl
    case round =>
      subst hrel
      go_wp2
      go_loop [11] (fun i => i = .int .i64 0) (fun _ => 0)
      case atStart => rfl
      case round =>
        subst hrel
        go_wp2
        go_ret
        exact ⟨rfl, rfl⟩
set_option maxHeartbeats 1000000 in
theorem apartnilItems (q : Nat) (a : Option Addr) (c : Nat) (w : World) (hq : w.cell? ⟨q, 12, none⟩ = some (.slice a 0 c)) : Calls Tryz.prog 69 #[.pointer (some ⟨q, 0, none⟩)] w fun e w' => e = .returned (.bool true) ∧ w = w' := by
  go_enter Tryz.func69, Tryz.ntmps69
  go_wp2
  go_loop [4] (fun i => i = .int .i64 0) (fun _ => 0)
  case atStart => rfl
  case round =>
    subst hrel
    go_wp2
    go_loop [7] (fun i => i = .int .i64 0) (fun _ => 0)
    case atStart => rfl
    case round =>
      subst hrel
      go_wp2
      go_loop [11] (fun i => i = .int .i64 0) (fun _ => 0)
      case atStart => rfl
      case round =>
        subst hrel
        go_wp2
        go_ret
        exact ⟨rfl, rfl⟩
set_option maxHeartbeats 1000000 in
theorem apartnilTrees (q : Nat) (a : Option Addr) (c : Nat) (w : World) (hq : w.cell? ⟨q, 13, none⟩ = some (.slice a 0 c)) : Calls Tryz.prog 70 #[.pointer (some ⟨q, 0, none⟩)] w fun e w' => e = .returned (.bool true) ∧ w = w' := by
  go_enter Tryz.func70, Tryz.ntmps70
  go_wp2
  go_loop [4] (fun i => i = .int .i64 0) (fun _ => 0)
  case atStart => rfl
  case round =>
    subst hrel
    go_wp2
    go_loop [7] (fun i => i = .int .i64 0) (fun _ => 0)
    case atStart => rfl
    case round =>
      subst hrel
      go_wp2
      go_loop [11] (fun i => i = .int .i64 0) (fun _ => 0)
      case atStart => rfl
      case round =>
        subst hrel
        go_wp2
        go_ret
        exact ⟨rfl, rfl⟩
set_option maxHeartbeats 1000000 in
theorem apartnilRows (q : Nat) (a : Option Addr) (c : Nat) (w : World) (hq : w.cell? ⟨q, 14, none⟩ = some (.slice a 0 c)) : Calls Tryz.prog 71 #[.pointer (some ⟨q, 0, none⟩)] w fun e w' => e = .returned (.bool true) ∧ w = w' := by
  go_enter Tryz.func71, Tryz.ntmps71
  go_wp2
  go_loop [4] (fun i => i = .int .i64 0) (fun _ => 0)
  case atStart => rfl
  case round =>
    subst hrel
    go_wp2
    go_loop [7] (fun i => i = .int .i64 0) (fun _ => 0)
    case atStart => rfl
    case round =>
      subst hrel
      go_wp2
      go_loop [11] (fun i => i = .int .i64 0) (fun _ => 0)
      case atStart => rfl
      case round =>
        subst hrel
        go_wp2
        go_ret
        exact ⟨rfl, rfl⟩
set_option maxHeartbeats 1000000 in
theorem apartnilConflicts (q : Nat) (a : Option Addr) (c : Nat) (w : World) (hq : w.cell? ⟨q, 15, none⟩ = some (.slice a 0 c)) : Calls Tryz.prog 72 #[.pointer (some ⟨q, 0, none⟩)] w fun e w' => e = .returned (.bool true) ∧ w = w' := by
  go_enter Tryz.func72, Tryz.ntmps72
  go_wp2
  go_loop [4] (fun i => i = .int .i64 0) (fun _ => 0)
  case atStart => rfl
  case round =>
    subst hrel
    go_wp2
    go_loop [7] (fun i => i = .int .i64 0) (fun _ => 0)
    case atStart => rfl
    case round =>
      subst hrel
      go_wp2
      go_loop [11] (fun i => i = .int .i64 0) (fun _ => 0)
      case atStart => rfl
      case round =>
        subst hrel
        go_wp2
        go_ret
        exact ⟨rfl, rfl⟩
end Go.Proofs.YtcgghlaifmlpiaaGreatDoor
