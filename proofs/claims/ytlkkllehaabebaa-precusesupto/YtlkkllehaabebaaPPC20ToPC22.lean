import Derived.Test.YtlkkllehaabebaaPPC18ToPC19
namespace Go.Proofs.Ytlkkllehaabebaa
set_option linter.unusedVariables false
set_option maxRecDepth 100000
set_option maxHeartbeats 16000000
open Go.RowKit Go.Maps
def keepL (p : Int) (l : List Int) : List Int := l.filter fun x => decide (x ≠ p)
theorem keep_snoc (p : Int) (l : List Int) (x : Int) : keepL p (l ++ [x]) = if x = p then keepL p l else keepL p l ++ [x] := by
 unfold keepL
 rw [List.filter_append]
 by_cases h : x = p <;> simp [h]
theorem keep_len (p : Int) (l : List Int) : (keepL p l).length <= l.length := List.length_filter_le _ _
structure DS (l : List Int) (p : Int) (b cap : Nat) (w : World) (i j : Nat) (wr : World) : Prop where
 ex : ∃ cur, wr.heap[b]? = some (.cells cur 3 (0, 0)) /\ cur.size = cap /\ cur.toList.take i = (keepL p (l.take j)).map (Value.int .i64 ·) /\ ∀ x, j <= x -> x < l.length -> cur[x]? = some (.int .i64 (l.getD x 0))
 il : i = (keepL p (l.take j)).length
 oth : ∀ x, x ≠ b -> wr.heap[x]? = w.heap[x]?
 sz : wr.heap.size = w.heap.size
 bel : ∀ n0 w0, Below n0 w0 w -> n0 <= b -> Below n0 w0 wr
theorem take_snocD {l : List Int} {j : Nat} (hj : j < l.length) : l.take (j + 1) = l.take j ++ [l.getD j 0] := by
 rw [List.take_succ_eq_append_getElem hj]
 simp [List.getD, hj]
theorem DS.skip {l : List Int} {p : Int} {b cap : Nat} {w : World} {i j : Nat} {wr : World} (h : DS l p b cap w i j wr) (hj : j < l.length) (e : l.getD j 0 = p) : DS l p b cap w i (j + 1) wr := by
 obtain ⟨cur, h1, h2, h3, h4⟩ := h.ex
 have q : keepL p (l.take (j + 1)) = keepL p (l.take j) := by rw [take_snocD hj, keep_snoc, if_pos e]
 exact ⟨⟨cur, h1, h2, by rw [q]; exact h3, fun x hx hl => h4 x (by omega) hl⟩, by rw [q]; exact h.il, h.oth, h.sz, h.bel⟩
theorem DS.put {l : List Int} {p : Int} {b cap : Nat} {w : World} {i j : Nat} {wr : World} (h : DS l p b cap w i j wr) (hj : j < l.length) (hc : l.length <= cap) (e : l.getD j 0 ≠ p) : DS l p b cap w (i + 1) (j + 1) (wr.setCell ⟨b, i, none⟩ (.int .i64 (l.getD j 0))) := by
 obtain ⟨cur, h1, h2, h3, h4⟩ := h.ex
 have q : keepL p (l.take (j + 1)) = keepL p (l.take j) ++ [l.getD j 0] := by rw [take_snocD hj, keep_snoc, if_neg e]
 have hi : i <= j := by
  have := keep_len p (l.take j)
  rw [List.length_take] at this
  have := h.il
  omega
 refine ⟨⟨cur.setIfInBounds i (.int .i64 (l.getD j 0)), heap_set h1 i _, by simpa using h2, ?_, fun x hx hl => ?_⟩, by rw [q, List.length_append, <- h.il]; rfl, fun x hx => (setj_ne hx).trans (h.oth x hx), by rw [<- h.sz]; simp, fun n0 w0 hb hn => (h.bel n0 w0 hb hn).setCell (p := ⟨b, i, none⟩) hn _⟩
 ·rw [q, List.map_append, <- h3, Array.toList_setIfInBounds]
  have hlt : i < cur.toList.length := by rw [Array.length_toList, h2]; omega
  rw [List.take_succ_eq_append_getElem (by rw [List.length_set]; exact hlt), List.take_set_of_le (Nat.le_refl _)]
  simp
 ·rw [Array.getElem?_setIfInBounds_ne (by omega)]
  exact h4 x (by omega) hl
theorem DS.cell {l : List Int} {p : Int} {b cap : Nat} {w : World} {i j : Nat} {wr : World} (h : DS l p b cap w i j wr) (hj : j < l.length) : wr.cell? ⟨b, j, none⟩ = some (.int .i64 (l.getD j 0)) := by
 obtain ⟨cur, h1, h2, h3, h4⟩ := h.ex
 rw [cellq_any h1]
 exact h4 j (Nat.le_refl _) hj
theorem DS.any {l : List Int} {p : Int} {b cap : Nat} {w : World} {i j : Nat} {wr : World} (h : DS l p b cap w i j wr) {x : Nat} (hx : x < cap) : (wr.cell? ⟨b, x, none⟩).isSome = true /\ wr.frozen? ⟨b, x, none⟩ = false /\ b < wr.heap.size := by
 obtain ⟨cur, h1, h2, h3, h4⟩ := h.ex
 refine ⟨?_, frostS h1 x, lt_of_block h1⟩
 rw [cellq_any h1]
 simp [h2, hx]
end Go.Proofs.Ytlkkllehaabebaa
namespace Go.Proofs.Ytlkkllehaabebaa
set_option linter.unusedVariables false
set_option maxRecDepth 100000
set_option maxHeartbeats 16000000
open Go.RowKit Go.Maps
end Go.Proofs.Ytlkkllehaabebaa
namespace Go.Proofs.Ytlkkllehaabebaa
set_option linter.unusedVariables false
set_option maxRecDepth 100000
set_option maxHeartbeats 16000000
open Go.RowKit Go.Maps
def D2 (n : Nat) (w : World) (d : DV) (ao : Option Addr) (c : Nat) : Prop :=
 (d.drop = [] /\ ao = none /\ c = 0) ∨ ∃ b cur, n <= b /\ ao = some ⟨b, 0, none⟩ /\ w.heap[b]? = some (.cells cur 3 (0, 0)) /\ cur.size = c /\ d.drop.length <= c /\ cur.toList.take d.drop.length = d.drop.map (Value.int .i64 ·)
theorem D1.two {n : Nat} {w : World} {d : DV} {ao : Option Addr} {c : Nat} (h : D1 n w d ao c) : D2 n w d ao c := by
 rcases h with h | ⟨b, p, h1, h2, h3, h4, h5⟩
 ·exact .inl h
 ·exact .inr ⟨b, _, h1, h3, h5, by rw [h4]; rfl, by rw [h2, h4]; simp, by rw [h2]; rfl⟩
theorem D2.kept {n m : Nat} {w w' : World} {d : DV} {ao : Option Addr} {c : Nat} (h : D2 n w d ao c) (hm : m <= n) (hb : ∀ j, n <= j -> w'.heap[j]? = w.heap[j]?) : D2 m w' d ao c := by
 rcases h with h | ⟨b, cur, h1, h2, h3, h4⟩
 ·exact .inl h
 ·exact .inr ⟨b, cur, Nat.le_trans hm h1, h2, (hb b h1).trans h3, h4⟩
theorem D2.later {n : Nat} {w w' : World} {d : DV} {ao : Option Addr} {c : Nat} (h : D2 n w d ao c) (hb : Below w.heap.size w w') : D2 n w' d ao c := by
 rcases h with h | ⟨b, cur, h1, h2, h3, h4⟩
 ·exact .inl h
 ·exact .inr ⟨b, cur, h1, h2, blk_later h3 hb, h4⟩
theorem D2.row {n : Nat} {w : World} {d : DV} {ao : Option Addr} {c : Nat} (h : D2 n w d ao c) : InRow w ao d.drop := by
 rcases h with ⟨h, _⟩ | ⟨b, cur, h1, h2, h3, h4, h5, h6⟩
 ·intro hn; exact absurd h hn
 ·intro _
  refine ⟨b, 0, h2, lt_of_block h3, fun i hi => ?_⟩
  rw [Nat.zero_add, cellq_any h3]
  have e : (cur.toList.take d.drop.length)[i]? = (d.drop.map (Value.int .i64 ·))[i]? := by rw [h6]
  rw [List.getElem?_take, if_pos hi, List.getElem?_map, List.getElem?_eq_getElem hi] at e
  rw [<- Array.getElem?_toList, e]
  simp [List.getD, hi]
end Go.Proofs.Ytlkkllehaabebaa
