import Derived.Test.YtfckmbdcfeljiaaSIn
namespace Go.Proofs.Ytfckmbdcfeljiaa
set_option linter.unusedVariables false
open Go.RowKit Go.Maps

/-- Symbols that can be read in w. -/
def SymRow (w : World) (ao : Option Addr) (l : List (Int × Int)) : Prop := l ≠ [] → ∃ b off, ao = some ⟨b, off, none⟩ ∧ b < w.heap.size ∧ ∀ i, i < l.length →
  w.cell? ⟨b, off + i * 2, none⟩ = some (.int .i64 (l.getD i (0, 0)).1) ∧ w.cell? ⟨b, off + i * 2 + 1, none⟩ = some (.int .i64 (l.getD i (0, 0)).2)
theorem SymRow.later {B : Nat} {w w' : World} {ao : Option Addr} {l : List (Int × Int)} (h : SymRow w ao l) (hB : w.heap.size ≤ B) (hb : Below B w w') : SymRow w' ao l := by
  intro hne
  obtain ⟨b, off, rfl, hl, hc⟩ := h hne
  refine ⟨b, off, rfl, Nat.lt_of_lt_of_le hl hb.size, fun i hi => ?_⟩
  have e : ∀ j, w'.cell? ⟨b, j, none⟩ = w.cell? ⟨b, j, none⟩ := fun j => hb.cell (p := ⟨b, j, none⟩) (by show b < B; omega)
  rw [e, e]
  exact hc i hi
def symCells (l : List (Int × Int)) : List Value := l.flatMap fun q => [.int .i64 q.1, .int .i64 q.2]
theorem symCells_len (l : List (Int × Int)) : (symCells l).length = l.length * 2 := by
  induction l with
  | nil => rfl
  | cons q r ih => simp [symCells] at ih ⊢; omega
theorem symCells_get : ∀ (l : List (Int × Int)) (i : Nat), i < l.length → (symCells l)[i * 2]? = some (.int .i64 (l.getD i (0, 0)).1) ∧ (symCells l)[i * 2 + 1]? = some (.int .i64 (l.getD i (0, 0)).2)
  | [], i, h => by simp at h
  | q :: r, 0, _ => by simp [symCells]
  | q :: r, i + 1, h => by
    have := symCells_get r i (by simpa using h)
    have e : symCells (q :: r) = .int .i64 q.1 :: .int .i64 q.2 :: symCells r := rfl
    rw [e, show (i + 1) * 2 = i * 2 + 1 + 1 by omega]
    simpa using this
/-- A list of symbols that is one's own. -/
def SY (w : World) (v : Value) (l : List (Int × Int)) : Prop := w.ownsRow 0 70 2 v l.length (symCells l)
theorem infoSym : (Try.prog.info? 70).map (fun i => (i.zero, i.size, i.bytes)) = some (some (.agg #[.int .i64 0, .int .i64 0]), 2, 16) := by kernel_rfl
theorem infoSym_parts : ∃ i, Try.prog.info? 70 = some i ∧ i.zero = some (.agg #[.int .i64 0, .int .i64 0]) ∧ i.size = 2 ∧ i.bytes = 16 := by
  have h := infoSym
  cases e : Try.prog.info? 70 with
  | none => rw [e] at h; cases h
  | some i => rw [e] at h; simp at h; exact ⟨i, rfl, h⟩
theorem SY.nil (w : World) : SY w (.slice none 0 0) [] := World.ownsRow_nil w 0 70 2
theorem sy_len {w : World} {v : Value} {l : List (Int × Int)} (h : SY w v l) : ∃ a c, v = .slice a l.length c := by
  rcases h.2 with ⟨rfl, h0⟩ | ⟨g, cap, cur, rfl, _⟩
  · exact ⟨none, 0, by rw [h0]⟩
  · exact ⟨_, _, rfl⟩
theorem SY.kept {w w' : World} {v : Value} {l : List (Int × Int)} (h : SY w v l) (hb : ∀ k, v.ownBlock = some k → w'.heap[k]? = w.heap[k]?) : SY w' v l := by
  refine ⟨h.1, ?_⟩
  rcases h.2 with q | ⟨g, cap, cur, rfl, h1, h2, h3⟩
  · exact .inl q
  · exact .inr ⟨g, cap, cur, rfl, h1, (hb g rfl).trans h2, h3⟩
theorem SY.lt {w : World} {v : Value} {l : List (Int × Int)} (h : SY w v l) : ∀ k, v.ownBlock = some k → k < w.heap.size := fun k hk => (World.ownsRow.lt h k hk).2
theorem SY.later {w w' : World} {v : Value} {l : List (Int × Int)} (h : SY w v l) (hb : Below w.heap.size w w') : SY w' v l := h.kept fun k hk => hb.block k (h.lt k hk)
theorem SY.row {w : World} {a : Option Addr} {n c : Nat} {l : List (Int × Int)} (h : SY w (.slice a n c) l) : SymRow w a l := by
  intro hne
  rcases h.2 with ⟨e, h0⟩ | ⟨g, cap, cur, e, h1, h2, h3⟩
  · exact absurd (List.eq_nil_of_length_eq_zero h0) hne
  · have hc := fun j x hx => World.ownsRow.cells h (g := g) (by rw [e]; rfl) j x hx
    cases e
    refine ⟨g, 0, rfl, lt_of_block h2, fun i hi => ?_⟩
    obtain ⟨q1, q2⟩ := symCells_get l i hi
    have r1 := hc _ _ q1
    have r2 := hc _ _ q2
    rw [add_none] at r1 r2
    exact ⟨r1, r2⟩
theorem wpList_sy_append {ops : Array Oper} {rest : List Oper} {o : Oper} {a : Act} {Q : Exit → Act → World → Prop} {w : World} (hgd : o.guard = none) (s x : Operand)
    (ho : o.op = .call { callee := .builtin .append, args := #[s, x], argTypes := #[46, 46] })
    (v : Value) (l : List (Int × Int)) (hs : a.eval s = v) (h : SY w v l) (b c : Nat) (k n : Int) (hx : a.eval x = .slice (some ⟨b, 0, none⟩) 1 c) (hy : w.cell? ⟨b, 0, none⟩ = some (.int .i64 k)) (hy2 : w.cell? ⟨b, 1, none⟩ = some (.int .i64 n)) (hlen : l.length ≤ 2000000)
    (hK : ∀ a' n' c' w', SY w' (.slice a' n' c') (l ++ [(k, n)]) → Grew w w' v (.slice a' n' c') → wpList Try.prog ops Q rest (a.put o.dst (.slice a' n' c')) w') : wpList Try.prog ops Q (o :: rest) a w := by
  obtain ⟨i0, hi, hz0, hz1, hz2⟩ := infoSym_parts
  refine wpList_append_own_at w hgd s x 46 ho 0 70 i0 (.agg #[.int .i64 0, .int .i64 0]) 2 16 Try.underlying46 hi hz0 hz1 hz2 rfl (by decide) v l.length (symCells l) hs h ⟨b, 0, none⟩ 1 c [.int .i64 k, .int .i64 n] hx (by simp) ?_ ?_ (by unfold maxLen; omega) (by omega) (Nat.zero_le _) ?_
  · intro j u hu
    match j with
    | 0 => simp at hu; subst hu; rw [add_none]; exact hy
    | 1 => simp at hu; subst hu; rw [add_none]; exact hy2
    | j + 2 => simp at hu
  · intro u hu; simp at hu; rcases hu with rfl | rfl <;> rfl
  · intro v' w' h2 h3 _ h5
    have h6 : SY w' v' (l ++ [(k, n)]) := by
      unfold SY
      have e : symCells (l ++ [(k, n)]) = symCells l ++ [.int .i64 k, .int .i64 n] := by simp [symCells]
      rw [e]
      simpa using h2
    obtain ⟨a', c', rfl⟩ := sy_len h6
    exact hK _ _ _ w' h6 ⟨h3, h5.imp id fun e => ⟨_, e, Nat.le_refl _⟩⟩
end Go.Proofs.Ytfckmbdcfeljiaa
