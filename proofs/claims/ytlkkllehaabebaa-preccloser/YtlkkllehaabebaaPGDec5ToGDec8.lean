import Derived.Test.YtlkkllehaabebaaPGDecToGDec4
namespace Go.Proofs.Ytlkkllehaabebaa
set_option linter.unusedVariables false
set_option maxRecDepth 100000
set_option maxHeartbeats 16000000
open Go.RowKit
end Go.Proofs.Ytlkkllehaabebaa
namespace Go.Proofs.Ytlkkllehaabebaa
set_option linter.unusedVariables false
set_option maxRecDepth 100000
set_option maxHeartbeats 16000000
open Go.RowKit
def levCells (l : List LV) : List Value := l.flatMap fun q => [.int .i64 q.assoc, .slice q.ta q.terms.length q.tc]
def LY (w : World) (v : Value) (l : List LV) : Prop := w.ownsRow 0 76 2 v l.length (levCells l)
theorem infoLev : (Try.prog.info? 76).map (fun i => (i.zero, i.size, i.bytes)) = some (some (.agg #[.int .i64 0, .slice none 0 0]), 2, 32) := by kernel_rfl
theorem infoLev_parts : ∃ i, Try.prog.info? 76 = some i /\ i.zero = some (.agg #[.int .i64 0, .slice none 0 0]) /\ i.size = 2 /\ i.bytes = 32 := by
 have h := infoLev
 cases e : Try.prog.info? 76 with
 | none => rw [e] at h; cases h
 | some i => rw [e] at h; simp at h; exact ⟨i, rfl, h.1, h.2.1, h.2.2⟩
theorem LY.nil (w : World) : LY w (.slice none 0 0) [] := World.ownsRow_nil w 0 76 2
theorem LY.len {w : World} {v : Value} {l : List LV} (h : LY w v l) : ∃ a c, v = .slice a l.length c := by
 rcases h.2 with ⟨e, h0⟩ | ⟨g, cap, cur, e, _⟩
 ·rw [h0]; exact ⟨_, _, e⟩
 ·exact ⟨_, _, e⟩
theorem LY.lt {w : World} {v : Value} {l : List LV} (h : LY w v l) : ∀ k, v.ownBlock = some k -> k < w.heap.size := fun k hk => (World.ownsRow.lt h k hk).2
theorem LY.kept {w w' : World} {v : Value} {l : List LV} (h : LY w v l) (hb : ∀ k, v.ownBlock = some k -> w'.heap[k]? = w.heap[k]?) : LY w' v l := by
 refine ⟨h.1, ?_⟩
 rcases h.2 with q | ⟨g, cap, cur, rfl, h1, h2, h3⟩
 ·exact .inl q
 ·exact .inr ⟨g, cap, cur, rfl, h1, (hb g rfl).trans h2, h3⟩
theorem LY.later {w w' : World} {v : Value} {l : List LV} (h : LY w v l) (hb : Below w.heap.size w w') : LY w' v l := h.kept fun k hk => hb.block k (h.lt k hk)
theorem wpList_LY_append_w {ops : Array Oper} {rest : List Oper} {o : Oper} {a : Act} {Q : Exit -> Act -> World -> Prop} {w : World} (hgd : o.guard = none) (s x : Operand)
  (ho : o.op = .call { callee := .builtin .append, args := #[s, x], argTypes := #[24, 24] })
  (v : Value) (l : List LV) (hs : a.eval s = v) (h : LY w v l) (b c : Nat) (q : LV) (hx : a.eval x = .slice (some ⟨b, 0, none⟩) 1 c) (hy : ∀ j u, [.int .i64 q.assoc, .slice q.ta q.terms.length q.tc][j]? = some u -> w.cell? ⟨b, j, none⟩ = some u) (hlen : l.length <= 100000000)
  (hK : ∀ a' n' c' w', LY w' (.slice a' n' c') (l ++ [q]) -> Grew w w' v (.slice a' n' c') -> wpList Try.prog ops Q rest (a.put o.dst (.slice a' n' c')) w') : wpList Try.prog ops Q (o :: rest) a w := by
 obtain ⟨i0, hi, hz0, hz1, hz2⟩ := infoLev_parts
 refine wpList_append_own_at w hgd s x 24 ho 0 76 i0 (.agg #[.int .i64 0, .slice none 0 0]) 2 32 Try.underlying24 hi hz0 hz1 hz2 rfl (by decide) v l.length (levCells l) hs h ⟨b, 0, none⟩ 1 c [.int .i64 q.assoc, .slice q.ta q.terms.length q.tc] hx (by simp) ?_ ?_ (by unfold maxLen; omega) (by omega) (Nat.zero_le _) ?_
 ·intro j u hu
  rw [add_none, Nat.zero_add]
  exact hy j u hu
 ·intro u hu; simp at hu; rcases hu with rfl | rfl <;> rfl
 ·intro v' w' h2 h3 _ h5
  have h6 : LY w' v' (l ++ [q]) := by
   unfold LY
   have e : levCells (l ++ [q]) = levCells l ++ [.int .i64 q.assoc, .slice q.ta q.terms.length q.tc] := by simp [levCells]
   rw [e]
   simpa using h2
  obtain ⟨a', c', rfl⟩ := LY.len h6
  exact hK _ _ _ w' h6 ⟨h3, h5.imp id fun e => ⟨_, e, Nat.le_refl _⟩⟩
def proCells (l : List PV) : List Value := l.flatMap fun q => [.int .i64 q.left, .slice q.ra q.right.length q.rc, .int .i64 q.prec]
def PY (w : World) (v : Value) (l : List PV) : Prop := w.ownsRow 0 83 3 v l.length (proCells l)
theorem infoPro : (Try.prog.info? 83).map (fun i => (i.zero, i.size, i.bytes)) = some (some (.agg #[.int .i64 0, .slice none 0 0, .int .i64 0]), 3, 40) := by kernel_rfl
theorem infoPro_parts : ∃ i, Try.prog.info? 83 = some i /\ i.zero = some (.agg #[.int .i64 0, .slice none 0 0, .int .i64 0]) /\ i.size = 3 /\ i.bytes = 40 := by
 have h := infoPro
 cases e : Try.prog.info? 83 with
 | none => rw [e] at h; cases h
 | some i => rw [e] at h; simp at h; exact ⟨i, rfl, h.1, h.2.1, h.2.2⟩
theorem PY.nil (w : World) : PY w (.slice none 0 0) [] := World.ownsRow_nil w 0 83 3
theorem PY.len {w : World} {v : Value} {l : List PV} (h : PY w v l) : ∃ a c, v = .slice a l.length c := by
 rcases h.2 with ⟨e, h0⟩ | ⟨g, cap, cur, e, _⟩
 ·rw [h0]; exact ⟨_, _, e⟩
 ·exact ⟨_, _, e⟩
theorem PY.lt {w : World} {v : Value} {l : List PV} (h : PY w v l) : ∀ k, v.ownBlock = some k -> k < w.heap.size := fun k hk => (World.ownsRow.lt h k hk).2
theorem PY.kept {w w' : World} {v : Value} {l : List PV} (h : PY w v l) (hb : ∀ k, v.ownBlock = some k -> w'.heap[k]? = w.heap[k]?) : PY w' v l := by
 refine ⟨h.1, ?_⟩
 rcases h.2 with q | ⟨g, cap, cur, rfl, h1, h2, h3⟩
 ·exact .inl q
 ·exact .inr ⟨g, cap, cur, rfl, h1, (hb g rfl).trans h2, h3⟩
theorem PY.later {w w' : World} {v : Value} {l : List PV} (h : PY w v l) (hb : Below w.heap.size w w') : PY w' v l := h.kept fun k hk => hb.block k (h.lt k hk)
theorem wpList_PY_append_w {ops : Array Oper} {rest : List Oper} {o : Oper} {a : Act} {Q : Exit -> Act -> World -> Prop} {w : World} (hgd : o.guard = none) (s x : Operand)
  (ho : o.op = .call { callee := .builtin .append, args := #[s, x], argTypes := #[23, 23] })
  (v : Value) (l : List PV) (hs : a.eval s = v) (h : PY w v l) (b c : Nat) (q : PV) (hx : a.eval x = .slice (some ⟨b, 0, none⟩) 1 c) (hy : ∀ j u, [.int .i64 q.left, .slice q.ra q.right.length q.rc, .int .i64 q.prec][j]? = some u -> w.cell? ⟨b, j, none⟩ = some u) (hlen : l.length <= 100000000)
  (hK : ∀ a' n' c' w', PY w' (.slice a' n' c') (l ++ [q]) -> Grew w w' v (.slice a' n' c') -> wpList Try.prog ops Q rest (a.put o.dst (.slice a' n' c')) w') : wpList Try.prog ops Q (o :: rest) a w := by
 obtain ⟨i0, hi, hz0, hz1, hz2⟩ := infoPro_parts
 refine wpList_append_own_at w hgd s x 23 ho 0 83 i0 (.agg #[.int .i64 0, .slice none 0 0, .int .i64 0]) 3 40 Try.underlying23 hi hz0 hz1 hz2 rfl (by decide) v l.length (proCells l) hs h ⟨b, 0, none⟩ 1 c [.int .i64 q.left, .slice q.ra q.right.length q.rc, .int .i64 q.prec] hx (by simp) ?_ ?_ (by unfold maxLen; omega) (by omega) (Nat.zero_le _) ?_
 ·intro j u hu
  rw [add_none, Nat.zero_add]
  exact hy j u hu
 ·intro u hu; simp at hu; rcases hu with rfl | rfl | rfl <;> rfl
 ·intro v' w' h2 h3 _ h5
  have h6 : PY w' v' (l ++ [q]) := by
   unfold PY
   have e : proCells (l ++ [q]) = proCells l ++ [.int .i64 q.left, .slice q.ra q.right.length q.rc, .int .i64 q.prec] := by simp [proCells]
   rw [e]
   simpa using h2
  obtain ⟨a', c', rfl⟩ := PY.len h6
  exact hK _ _ _ w' h6 ⟨h3, h5.imp id fun e => ⟨_, e, Nat.le_refl _⟩⟩
end Go.Proofs.Ytlkkllehaabebaa
