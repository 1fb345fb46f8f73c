import Derived.Test.YtfckmbdcfeljiaaDoorRText
import Derived.Test.YtfckmbdcfeljiaaDoorOne
namespace Go.Proofs.YtfckmbdcfeljiaaDoor
set_option linter.unusedVariables false
open Go.RowKit

/-- A thing to lay down, as the law's list holds it. -/
structure PutV where
  what : Int
  V : Int
  N : Int
  s : ByteArray
def PutV.none : PutV := ⟨0, 0, 0, .empty⟩
structure PutV.ok (p : PutV) : Prop where
  w0 : -9223372036854775808 ≤ p.what
  w1 : p.what ≤ 9223372036854775807
  v0 : 0 ≤ p.V
  v1 : p.V ≤ 18446744073709551615
  n0 : -9223372036854775808 ≤ p.N
  n1 : p.N ≤ 9223372036854775807
  s1 : p.s.size ≤ 2000000
/-- The list lies in w. -/
def PutsAt (w : World) (ao : Option Addr) (ps : List PutV) : Prop :=
  (∀ p ∈ ps, p.ok) ∧ (ps ≠ [] → ∃ b off, ao = some ⟨b, off, Option.none⟩ ∧ ∀ i, i < ps.length →
    w.cell? ⟨b, off + i * 4, Option.none⟩ = some (.int .i64 (ps.getD i .none).what) ∧ w.cell? ⟨b, off + i * 4 + 1, Option.none⟩ = some (.int .u64 (ps.getD i .none).V) ∧
    w.cell? ⟨b, off + i * 4 + 2, Option.none⟩ = some (.int .i64 (ps.getD i .none).N) ∧ w.cell? ⟨b, off + i * 4 + 3, Option.none⟩ = some (.string (ps.getD i .none).s))
theorem PutsAt.later {w w' : World} {ao : Option Addr} {ps : List PutV} (h : PutsAt w ao ps) (hb : Below w.heap.size w w') : PutsAt w' ao ps := by
  refine ⟨h.1, fun hne => ?_⟩
  obtain ⟨b, off, he, hc⟩ := h.2 hne
  refine ⟨b, off, he, fun i hi => ?_⟩
  obtain ⟨c0, c1, c2, c3⟩ := hc i hi
  exact ⟨(hb.cell (p := ⟨b, off + i * 4, Option.none⟩) (World.block_lt_of_cell? w _ c0)).trans c0, (hb.cell (p := ⟨b, off + i * 4 + 1, Option.none⟩) (World.block_lt_of_cell? w _ c1)).trans c1, (hb.cell (p := ⟨b, off + i * 4 + 2, Option.none⟩) (World.block_lt_of_cell? w _ c2)).trans c2, (hb.cell (p := ⟨b, off + i * 4 + 3, Option.none⟩) (World.block_lt_of_cell? w _ c3)).trans c3⟩

def item (p : PutV) : List Int :=
  if p.what = 0 then enc 10 p.V else if p.what = 1 then enc 10 p.N else if p.what = 2 then enc 10 (foldS p.N) else if p.what = 4 then enc 10 p.s.size ++ strBytes p.s else []
def putS (st : List Int × Int) (p : PutV) : List Int × Int :=
  if st.2 ≠ 0 then st else if p.what = 1 ∧ p.N < 0 then (st.1, 4) else (st.1 ++ item p, 0)
def stAt (ps : List PutV) (j : Nat) : List Int × Int := (ps.take j).foldl putS ([], 0)
theorem stAt_zero (ps : List PutV) : stAt ps 0 = ([], 0) := rfl
theorem stAt_succ (ps : List PutV) (j : Nat) (h : j < ps.length) : stAt ps (j + 1) = putS (stAt ps j) (ps.getD j .none) := by
  unfold stAt
  have hg : ps.getD j .none = ps[j] := by simp [List.getD, h]
  rw [List.take_succ_eq_append_getElem h, List.foldl_append, List.foldl_cons, List.foldl_nil, hg]
theorem putS_err (st : List Int × Int) (p : PutV) (h : st.2 = 0 ∨ st.2 = 4) : (putS st p).2 = 0 ∨ (putS st p).2 = 4 := by
  unfold putS
  by_cases h1 : st.2 = 0
  · rw [if_neg (by simp [h1])]
    by_cases h2 : p.what = 1 ∧ p.N < 0
    · rw [if_pos h2]; exact .inr rfl
    · rw [if_neg h2]; exact .inl rfl
  · rw [if_pos h1]; exact h
theorem stAt_err (ps : List PutV) (j : Nat) (hj : j ≤ ps.length) : (stAt ps j).2 = 0 ∨ (stAt ps j).2 = 4 := by
  induction j with
  | zero => exact .inl rfl
  | succ j ih => rw [stAt_succ ps j (by omega)]; exact putS_err _ _ (ih (by omega))
theorem putS_sticky (st : List Int × Int) (p : PutV) (h : (putS st p).2 = 0) : st.2 = 0 ∧ ¬ (p.what = 1 ∧ p.N < 0) ∧ (putS st p).1 = st.1 ++ item p := by
  unfold putS at *
  by_cases h1 : st.2 = 0
  · rw [if_neg (by simp [h1])] at h ⊢
    by_cases h2 : p.what = 1 ∧ p.N < 0
    · rw [if_pos h2] at h; simp at h
    · rw [if_neg h2]; exact ⟨h1, h2, rfl⟩
  · rw [if_pos h1] at h; exact absurd h h1
theorem stAt_back (ps : List PutV) : ∀ (k j : Nat), j + k ≤ ps.length → (stAt ps (j + k)).2 = 0 → (stAt ps j).2 = 0 ∧ ∃ t, (stAt ps (j + k)).1 = (stAt ps j).1 ++ t := by
  intro k
  induction k with
  | zero => intro j _ h; exact ⟨h, [], by simp⟩
  | succ k ih =>
    intro j hj h
    have e : j + (k + 1) = (j + k) + 1 := by omega
    rw [e, stAt_succ ps (j + k) (by omega)] at h ⊢
    obtain ⟨h1, _, h3⟩ := putS_sticky _ _ h
    obtain ⟨h4, t, h5⟩ := ih j (by omega) h1
    exact ⟨h4, t ++ item (ps.getD (j + k) .none), by rw [h3, h5, List.append_assoc]⟩
/-- What lies in the whole behind the first j things. -/
theorem stAt_item (ps : List PutV) (j : Nat) (hj : j < ps.length) (h : (stAt ps ps.length).2 = 0) : (stAt ps j).2 = 0 ∧ ¬ ((ps.getD j .none).what = 1 ∧ (ps.getD j .none).N < 0) ∧ (stAt ps (j + 1)).1 = (stAt ps j).1 ++ item (ps.getD j .none) ∧ ∃ t, (stAt ps ps.length).1 = (stAt ps j).1 ++ (item (ps.getD j .none) ++ t) := by
  obtain ⟨h1, t, h2⟩ := stAt_back ps (ps.length - (j + 1)) (j + 1) (by omega) (by rw [show j + 1 + (ps.length - (j + 1)) = ps.length by omega]; exact h)
  rw [show j + 1 + (ps.length - (j + 1)) = ps.length by omega] at h2
  rw [stAt_succ ps j hj] at h1 h2 ⊢
  obtain ⟨a, b, c⟩ := putS_sticky _ _ h1
  exact ⟨a, b, c, t, by rw [h2, c, List.append_assoc]⟩
/-- How much at the most. -/
def tot (ps : List PutV) : Nat := (ps.map fun p => 10 + p.s.size).sum
theorem item_len (p : PutV) : (item p).length ≤ 10 + p.s.size := by
  have h1 := enc_len 10 p.V
  have h2 := enc_len 10 p.N
  have h3 := enc_len 10 (foldS p.N)
  have h4 := enc_len 10 (p.s.size : Int)
  have h5 := strBytes_len p.s
  unfold item
  split
  · omega
  · split
    · omega
    · split
      · omega
      · split
        · simp; omega
        · simp
theorem stAt_len (ps : List PutV) (j : Nat) (hj : j ≤ ps.length) : (stAt ps j).1.length ≤ tot (ps.take j) := by
  induction j with
  | zero => simp [stAt, tot]
  | succ j ih =>
    have hi := ih (by omega)
    rw [stAt_succ ps j (by omega), List.take_succ_eq_append_getElem (by omega)]
    have e : tot (ps.take j ++ [ps[j]]) = tot (ps.take j) + (10 + ps[j].s.size) := by unfold tot; rw [List.map_append, List.sum_append]; rfl
    rw [e]
    have hg : ps.getD j .none = ps[j] := by simp [List.getD, show j < ps.length by omega]
    rw [hg]
    have hl := item_len ps[j]
    unfold putS
    split
    · omega
    · split
      · simp; omega
      · simp; omega
theorem tot_take (ps : List PutV) (j : Nat) : tot (ps.take j) ≤ tot ps := by
  have e : tot ps = tot (ps.take j) + tot (ps.drop j) := by
    conv => lhs; rw [← List.take_append_drop j ps]
    unfold tot
    rw [List.map_append, List.sum_append]
  omega
theorem stAt_lim (ps : List PutV) (j : Nat) (hj : j ≤ ps.length) (h : tot ps ≤ 100000000) : (stAt ps j).1.length ≤ 100000000 := by
  have := stAt_len ps j hj
  have := tot_take ps j
  omega
theorem strBytes_inj {a b : ByteArray} (h : strBytes a = strBytes b) : a = b := by
  have : a.data.toList = b.data.toList := by
    unfold strBytes at h
    apply List.ext_getElem?
    intro i
    have hi := congrArg (·[i]?) h
    simp only [List.getElem?_map] at hi
    cases ha : a.data.toList[i]? <;> cases hb : b.data.toList[i]? <;> simp [ha, hb] at hi ⊢
    exact UInt8.toNat_inj.1 (by omega)
  cases a; cases b
  simp at this
  rw [this]
end Go.Proofs.YtfckmbdcfeljiaaDoor
