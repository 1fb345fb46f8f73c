import Derived.Test.YtccednepbkjajaaPGEncToBack0
import Derived.Test.YtccednepbkjajaaPGCheckCToGCheckD
namespace Go.Proofs.Ytccednepbkjajaa
set_option linter.unusedVariables false
open Go.RowKit
section
variable {wr : World} {r : Nat} {ao : Option Addr} {N cap : Nat} {zs : List Int} {pos : Nat}
end
theorem two_alloc (w : World) (x y : Obj) : Below w.heap.size w ((w.alloc x).alloc y) /\ ((w.alloc x).alloc y).heap[w.heap.size]? = some x /\ ((w.alloc x).alloc y).heap[w.heap.size + 1]? = some y := by
 have e1 : (w.alloc x).heap.size = w.heap.size + 1 := by simp
 refine ⟨(below_alloc w x).trans ((below_alloc _ y).mono (by omega)), ?_, ?_⟩
 ·rw [<- heap_alloc_new w x]
  exact (below_alloc (w.alloc x) y).block _ (by omega)
 ·rw [<- heap_alloc_new (w.alloc x) y, e1]
def levCells (l : List LV) : List Value := l.flatMap fun q => [.int .i64 q.assoc, .slice q.ta q.terms.length q.tc]
theorem levCells_len (l : List LV) : (levCells l).length = l.length * 2 := by
 induction l with
 | nil => rfl
 | cons a r ih => simp [levCells] at ih ⊢; omega
def LY (w : World) (v : Value) (l : List LV) : Prop := w.ownsRow 0 99 2 v l.length (levCells l)
theorem infoLev : (Try.prog.info? 99).map (fun i => (i.zero, i.size, i.bytes)) = some (some (.agg #[.int .i64 0, .slice none 0 0]), 2, 32) := by kernel_rfl
theorem infoLev_parts : ∃ i, Try.prog.info? 99 = some i /\ i.zero = some (.agg #[.int .i64 0, .slice none 0 0]) /\ i.size = 2 /\ i.bytes = 32 := by
 have h := infoLev
 cases e : Try.prog.info? 99 with
 | none => rw [e] at h; cases h
 | some i => rw [e] at h; simp at h; exact ⟨i, rfl, h.1, h.2.1, h.2.2⟩
theorem LY.nil (w : World) : LY w (.slice none 0 0) [] := World.ownsRow_nil w 0 99 2
theorem LY.len {w : World} {v : Value} {l : List LV} (h : LY w v l) : ∃ a c, v = .slice a l.length c := by
 rcases h.2 with ⟨e, h0⟩ | ⟨g, cap, cur, e, _⟩
 ·rw [h0]; exact ⟨_, _, e⟩
 ·exact ⟨_, _, e⟩
theorem LY.lt {w : World} {v : Value} {l : List LV} (h : LY w v l) : ∀ k, v.ownBlock = some k -> k < w.heap.size := fun k hk => (World.ownsRow.lt h k hk).2
theorem LY.kept {w w' : World} {v : Value} {l : List LV} (h : LY w v l) (hb : ∀ k, v.ownBlock = some k -> w'.heap[k]? = w.heap[k]?) : LY w' v l := by
 refine ⟨h.1, ?_⟩
 rcases h.2 with q | ⟨g, cap, cur, rfl, h1, h2, h3⟩
 ·exact .inl q
 ·exact .inr ⟨g, cap, cur, rfl, h1, (hb g rfl).trans h2, h3⟩
theorem LY.later {w w' : World} {v : Value} {l : List LV} (h : LY w v l) (hb : Below w.heap.size w w') : LY w' v l := h.kept fun k hk => hb.block k (h.lt k hk)
def proCells (l : List PV) : List Value := l.flatMap fun q => [.int .i64 q.left, .slice q.ra q.right.length q.rc, .int .i64 q.prec]
theorem proCells_len (l : List PV) : (proCells l).length = l.length * 3 := by
 induction l with
 | nil => rfl
 | cons a r ih => simp [proCells] at ih ⊢; omega
def PY (w : World) (v : Value) (l : List PV) : Prop := w.ownsRow 0 52 3 v l.length (proCells l)
theorem infoPro : (Try.prog.info? 52).map (fun i => (i.zero, i.size, i.bytes)) = some (some (.agg #[.int .i64 0, .slice none 0 0, .int .i64 0]), 3, 40) := by kernel_rfl
theorem infoPro_parts : ∃ i, Try.prog.info? 52 = some i /\ i.zero = some (.agg #[.int .i64 0, .slice none 0 0, .int .i64 0]) /\ i.size = 3 /\ i.bytes = 40 := by
 have h := infoPro
 cases e : Try.prog.info? 52 with
 | none => rw [e] at h; cases h
 | some i => rw [e] at h; simp at h; exact ⟨i, rfl, h.1, h.2.1, h.2.2⟩
theorem PY.nil (w : World) : PY w (.slice none 0 0) [] := World.ownsRow_nil w 0 52 3
theorem PY.len {w : World} {v : Value} {l : List PV} (h : PY w v l) : ∃ a c, v = .slice a l.length c := by
 rcases h.2 with ⟨e, h0⟩ | ⟨g, cap, cur, e, _⟩
 ·rw [h0]; exact ⟨_, _, e⟩
 ·exact ⟨_, _, e⟩
theorem PY.lt {w : World} {v : Value} {l : List PV} (h : PY w v l) : ∀ k, v.ownBlock = some k -> k < w.heap.size := fun k hk => (World.ownsRow.lt h k hk).2
theorem PY.kept {w w' : World} {v : Value} {l : List PV} (h : PY w v l) (hb : ∀ k, v.ownBlock = some k -> w'.heap[k]? = w.heap[k]?) : PY w' v l := by
 refine ⟨h.1, ?_⟩
 rcases h.2 with q | ⟨g, cap, cur, rfl, h1, h2, h3⟩
 ·exact .inl q
 ·exact .inr ⟨g, cap, cur, rfl, h1, (hb g rfl).trans h2, h3⟩
theorem PY.later {w w' : World} {v : Value} {l : List PV} (h : PY w v l) (hb : Below w.heap.size w w') : PY w' v l := h.kept fun k hk => hb.block k (h.lt k hk)
end Go.Proofs.Ytccednepbkjajaa
