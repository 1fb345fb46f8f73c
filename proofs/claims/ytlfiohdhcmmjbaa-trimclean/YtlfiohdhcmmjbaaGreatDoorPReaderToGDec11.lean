import Derived.Test.YtlfiohdhcmmjbaaGreatDoorPPlainToGEnc2
import Derived.Test.YtlfiohdhcmmjbaaGreatDoorPGCheckCToGCheckD
namespace Go.Proofs.YtlfiohdhcmmjbaaGreatDoor.C
set_option linter.unusedVariables false
set_option maxRecDepth 100000
set_option maxHeartbeats 16000000
open Go.RowKit
structure ROnly (w w' : World) (r : Nat) : Prop where
 os : w'.os = w.os
 tape : w'.tape = w.tape
 output : w'.output = w.output
 size : w.heap.size <= w'.heap.size
 block : ∀ k, k < w.heap.size -> k ≠ r -> w'.heap[k]? = w.heap[k]?
theorem ROnly.refl (w : World) (r : Nat) : ROnly w w r := ⟨rfl, rfl, rfl, Nat.le_refl _, fun _ _ _ => rfl⟩
theorem ROnly.trans {a b c : World} {r : Nat} (h : ROnly a b r) (k : ROnly b c r) : ROnly a c r :=
 ⟨k.os.trans h.os, k.tape.trans h.tape, k.output.trans h.output, Nat.le_trans h.size k.size, fun i hi hr => (k.block i (Nat.lt_of_lt_of_le hi h.size) hr).trans (h.block i hi hr)⟩
theorem ROnly.ofBelow {w w' : World} {r : Nat} (h : Below w.heap.size w w') : ROnly w w' r := ⟨h.os, h.tape, h.output, h.size, fun k hk _ => h.block k hk⟩
theorem ROnly.below {w w' : World} {r B : Nat} (h : ROnly w w' r) (hB : B <= r) (hw : B <= w.heap.size) : Below B w w' := ⟨h.os, h.tape, h.output, h.size, fun k hk => h.block k (by omega) (by omega)⟩
theorem ROnly.set (w : World) (r o : Nat) (u : Value) : ROnly w (w.setCell ⟨r, o, none⟩ u) r := ⟨rfl, rfl, rfl, by simp [World.setCell], fun k _ hk => Below.heap_setCell _ _ _ _ hk⟩
section
variable {w : World} {r : Nat} {ao : Option Addr} {N cap : Nat} {xs : List Int} {pos : Nat} {err : Int}
end
end Go.Proofs.YtlfiohdhcmmjbaaGreatDoor.C
namespace Go.Proofs.YtlfiohdhcmmjbaaGreatDoor.C
set_option linter.unusedVariables false
set_option maxRecDepth 100000
set_option maxHeartbeats 16000000
open Go.RowKit
def peekS (xs : List Int) (pos : Nat) (most : Int) : Int × Int × Int :=
 if (parse (xs.drop pos)).2.2 ≠ 0 then (0, 0, (parse (xs.drop pos)).2.2)
 else if most < (parse (xs.drop pos)).1 then (0, 0, 4)
 else ((parse (xs.drop pos)).1, (parse (xs.drop pos)).2.1, 0)
end Go.Proofs.YtlfiohdhcmmjbaaGreatDoor.C
namespace Go.Proofs.YtlfiohdhcmmjbaaGreatDoor.C
set_option linter.unusedVariables false
set_option maxRecDepth 100000
set_option maxHeartbeats 16000000
open Go.RowKit
def takeS (xs : List Int) (pos : Nat) (err most : Int) : Int × Nat × Int :=
 if err ≠ 0 then (0, pos, err)
 else if (peekS xs pos most).2.2 ≠ 0 then (0, pos, (peekS xs pos most).2.2)
 else ((peekS xs pos most).1, pos + (peekS xs pos most).2.1.toNat, 0)
end Go.Proofs.YtlfiohdhcmmjbaaGreatDoor.C
namespace Go.Proofs.YtlfiohdhcmmjbaaGreatDoor.C
set_option linter.unusedVariables false
set_option maxRecDepth 100000
set_option maxHeartbeats 16000000
open Go.RowKit
structure PutV where
 what : Int
 V : Int
 N : Int
 s : ByteArray
def PutV.none : PutV := ⟨0, 0, 0, .empty⟩
structure PutV.ok (p : PutV) : Prop where
 w0 : -9223372036854775808 <= p.what
 w1 : p.what <= 9223372036854775807
 v0 : 0 <= p.V
 v1 : p.V <= 18446744073709551615
 n0 : -9223372036854775808 <= p.N
 n1 : p.N <= 9223372036854775807
 s1 : p.s.size <= 2000000
def PutsAt (w : World) (ao : Option Addr) (ps : List PutV) : Prop :=
 (∀ p ∈ ps, p.ok) /\ (ps ≠ [] -> ∃ b off, ao = some ⟨b, off, Option.none⟩ /\ ∀ i, i < ps.length ->
  w.cell? ⟨b, off + i * 4, Option.none⟩ = some (.int .i64 (ps.getD i .none).what) /\ w.cell? ⟨b, off + i * 4 + 1, Option.none⟩ = some (.int .u64 (ps.getD i .none).V) /\
  w.cell? ⟨b, off + i * 4 + 2, Option.none⟩ = some (.int .i64 (ps.getD i .none).N) /\ w.cell? ⟨b, off + i * 4 + 3, Option.none⟩ = some (.string (ps.getD i .none).s))
theorem PutsAt.later {w w' : World} {ao : Option Addr} {ps : List PutV} (h : PutsAt w ao ps) (hb : Below w.heap.size w w') : PutsAt w' ao ps := by
 refine ⟨h.1, fun hne => ?_⟩
 obtain ⟨b, off, he, hc⟩ := h.2 hne
 refine ⟨b, off, he, fun i hi => ?_⟩
 obtain ⟨c0, c1, c2, c3⟩ := hc i hi
 exact ⟨(hb.cell (p := ⟨b, off + i * 4, Option.none⟩) (World.block_lt_of_cell? w _ c0)).trans c0, (hb.cell (p := ⟨b, off + i * 4 + 1, Option.none⟩) (World.block_lt_of_cell? w _ c1)).trans c1, (hb.cell (p := ⟨b, off + i * 4 + 2, Option.none⟩) (World.block_lt_of_cell? w _ c2)).trans c2, (hb.cell (p := ⟨b, off + i * 4 + 3, Option.none⟩) (World.block_lt_of_cell? w _ c3)).trans c3⟩
end Go.Proofs.YtlfiohdhcmmjbaaGreatDoor.C
namespace Go.Proofs.YtlfiohdhcmmjbaaGreatDoor
set_option linter.unusedVariables false
set_option maxRecDepth 100000
set_option maxHeartbeats 16000000
open Go.RowKit
section
variable {wr : World} {r : Nat} {ao : Option Addr} {N cap : Nat} {zs : List Int} {pos : Nat}
end
end Go.Proofs.YtlfiohdhcmmjbaaGreatDoor
namespace Go.Proofs.YtlfiohdhcmmjbaaGreatDoor
set_option linter.unusedVariables false
set_option maxRecDepth 100000
set_option maxHeartbeats 16000000
open Go.RowKit
end Go.Proofs.YtlfiohdhcmmjbaaGreatDoor
namespace Go.Proofs.YtlfiohdhcmmjbaaGreatDoor
set_option linter.unusedVariables false
set_option maxRecDepth 100000
set_option maxHeartbeats 16000000
open Go.RowKit
theorem two_alloc (w : World) (x y : Obj) : Below w.heap.size w ((w.alloc x).alloc y) /\ ((w.alloc x).alloc y).heap[w.heap.size]? = some x /\ ((w.alloc x).alloc y).heap[w.heap.size + 1]? = some y := by
 have e1 : (w.alloc x).heap.size = w.heap.size + 1 := by simp
 refine ⟨(below_alloc w x).trans ((below_alloc _ y).mono (by omega)), ?_, ?_⟩
 ·rw [<- heap_alloc_new w x]
  exact (below_alloc (w.alloc x) y).block _ (by omega)
 ·rw [<- heap_alloc_new (w.alloc x) y, e1]
end Go.Proofs.YtlfiohdhcmmjbaaGreatDoor
namespace Go.Proofs.YtlfiohdhcmmjbaaGreatDoor
set_option linter.unusedVariables false
set_option maxRecDepth 100000
set_option maxHeartbeats 16000000
open Go.RowKit
def levCells (l : List LV) : List Value := l.flatMap fun q => [.int .i64 q.assoc, .slice q.ta q.terms.length q.tc]
def LY (w : World) (v : Value) (l : List LV) : Prop := w.ownsRow 0 78 2 v l.length (levCells l)
theorem infoLev : (Tryz.prog.info? 78).map (fun i => (i.zero, i.size, i.bytes)) = some (some (.agg #[.int .i64 0, .slice none 0 0]), 2, 32) := by kernel_rfl
theorem infoLev_parts : ∃ i, Tryz.prog.info? 78 = some i /\ i.zero = some (.agg #[.int .i64 0, .slice none 0 0]) /\ i.size = 2 /\ i.bytes = 32 := by
 have h := infoLev
 cases e : Tryz.prog.info? 78 with
 | none => rw [e] at h; cases h
 | some i => rw [e] at h; simp at h; exact ⟨i, rfl, h.1, h.2.1, h.2.2⟩
theorem LY.nil (w : World) : LY w (.slice none 0 0) [] := World.ownsRow_nil w 0 78 2
theorem LY.len {w : World} {v : Value} {l : List LV} (h : LY w v l) : ∃ a c, v = .slice a l.length c := by
 rcases h.2 with ⟨e, h0⟩ | ⟨g, cap, cur, e, _⟩
 ·rw [h0]; exact ⟨_, _, e⟩
 ·exact ⟨_, _, e⟩
theorem LY.lt {w : World} {v : Value} {l : List LV} (h : LY w v l) : ∀ k, v.ownBlock = some k -> k < w.heap.size := fun k hk => (World.ownsRow.lt h k hk).2
theorem LY.kept {w w' : World} {v : Value} {l : List LV} (h : LY w v l) (hb : ∀ k, v.ownBlock = some k -> w'.heap[k]? = w.heap[k]?) : LY w' v l := by
 refine ⟨h.1, ?_⟩
 rcases h.2 with q | ⟨g, cap, cur, rfl, h1, h2, h3⟩
 ·exact .inl q
 ·exact .inr ⟨g, cap, cur, rfl, h1, (hb g rfl).trans h2, h3⟩
theorem LY.later {w w' : World} {v : Value} {l : List LV} (h : LY w v l) (hb : Below w.heap.size w w') : LY w' v l := h.kept fun k hk => hb.block k (h.lt k hk)
theorem wpList_LY_append_w {ops : Array Oper} {rest : List Oper} {o : Oper} {a : Act} {Q : Exit -> Act -> World -> Prop} {w : World} (hgd : o.guard = none) (s x : Operand)
  (ho : o.op = .call { callee := .builtin .append, args := #[s, x], argTypes := #[24, 24] })
  (v : Value) (l : List LV) (hs : a.eval s = v) (h : LY w v l) (b c : Nat) (q : LV) (hx : a.eval x = .slice (some ⟨b, 0, none⟩) 1 c) (hy : ∀ j u, [.int .i64 q.assoc, .slice q.ta q.terms.length q.tc][j]? = some u -> w.cell? ⟨b, j, none⟩ = some u) (hlen : l.length <= 100000000)
  (hK : ∀ a' n' c' w', LY w' (.slice a' n' c') (l ++ [q]) -> Grew w w' v (.slice a' n' c') -> wpList Tryz.prog ops Q rest (a.put o.dst (.slice a' n' c')) w') : wpList Tryz.prog ops Q (o :: rest) a w := by
 obtain ⟨i0, hi, hz0, hz1, hz2⟩ := infoLev_parts
 refine wpList_append_own_at w hgd s x 24 ho 0 78 i0 (.agg #[.int .i64 0, .slice none 0 0]) 2 32 Tryz.underlying24 hi hz0 hz1 hz2 rfl (by decide) v l.length (levCells l) hs h ⟨b, 0, none⟩ 1 c [.int .i64 q.assoc, .slice q.ta q.terms.length q.tc] hx (by simp) ?_ ?_ (by unfold maxLen; omega) (by omega) (Nat.zero_le _) ?_
 ·intro j u hu
  rw [add_none, Nat.zero_add]
  exact hy j u hu
 ·intro u hu; simp at hu; rcases hu with rfl | rfl <;> rfl
 ·intro v' w' h2 h3 _ h5
  have h6 : LY w' v' (l ++ [q]) := by
   unfold LY
   have e : levCells (l ++ [q]) = levCells l ++ [.int .i64 q.assoc, .slice q.ta q.terms.length q.tc] := by simp [levCells]
   rw [e]
   simpa using h2
  obtain ⟨a', c', rfl⟩ := LY.len h6
  exact hK _ _ _ w' h6 ⟨h3, h5.imp id fun e => ⟨_, e, Nat.le_refl _⟩⟩
theorem wpList_LY_append {ops : Array Oper} {rest : List Oper} {o : Oper} {a : Act} {Q : Exit -> Act -> World -> Prop} {w : World} (hgd : o.guard = none) (s x : Operand)
  (ho : o.op = .call { callee := .builtin .append, args := #[s, x], argTypes := #[24, 24] })
  (v : Value) (l : List LV) (hs : a.eval s = v) (h : LY w v l) (b c : Nat) (q : LV) (hx : a.eval x = .slice (some ⟨b, 0, none⟩) 1 c) (hy : ∀ j u, [.int .i64 q.assoc, .slice q.ta q.terms.length q.tc][j]? = some u -> w.cell? ⟨b, j, none⟩ = some u) (hlen : l.length <= 2000000)
  (hK : ∀ a' n' c' w', LY w' (.slice a' n' c') (l ++ [q]) -> Grew w w' v (.slice a' n' c') -> wpList Tryz.prog ops Q rest (a.put o.dst (.slice a' n' c')) w') : wpList Tryz.prog ops Q (o :: rest) a w := wpList_LY_append_w hgd s x ho v l hs h b c q hx hy (Nat.le_trans hlen (by omega)) hK
def proCells (l : List PV) : List Value := l.flatMap fun q => [.int .i64 q.left, .slice q.ra q.right.length q.rc, .int .i64 q.prec]
def PY (w : World) (v : Value) (l : List PV) : Prop := w.ownsRow 0 71 3 v l.length (proCells l)
theorem infoPro : (Tryz.prog.info? 71).map (fun i => (i.zero, i.size, i.bytes)) = some (some (.agg #[.int .i64 0, .slice none 0 0, .int .i64 0]), 3, 40) := by kernel_rfl
theorem infoPro_parts : ∃ i, Tryz.prog.info? 71 = some i /\ i.zero = some (.agg #[.int .i64 0, .slice none 0 0, .int .i64 0]) /\ i.size = 3 /\ i.bytes = 40 := by
 have h := infoPro
 cases e : Tryz.prog.info? 71 with
 | none => rw [e] at h; cases h
 | some i => rw [e] at h; simp at h; exact ⟨i, rfl, h.1, h.2.1, h.2.2⟩
theorem PY.nil (w : World) : PY w (.slice none 0 0) [] := World.ownsRow_nil w 0 71 3
theorem PY.len {w : World} {v : Value} {l : List PV} (h : PY w v l) : ∃ a c, v = .slice a l.length c := by
 rcases h.2 with ⟨e, h0⟩ | ⟨g, cap, cur, e, _⟩
 ·rw [h0]; exact ⟨_, _, e⟩
 ·exact ⟨_, _, e⟩
theorem PY.lt {w : World} {v : Value} {l : List PV} (h : PY w v l) : ∀ k, v.ownBlock = some k -> k < w.heap.size := fun k hk => (World.ownsRow.lt h k hk).2
theorem PY.kept {w w' : World} {v : Value} {l : List PV} (h : PY w v l) (hb : ∀ k, v.ownBlock = some k -> w'.heap[k]? = w.heap[k]?) : PY w' v l := by
 refine ⟨h.1, ?_⟩
 rcases h.2 with q | ⟨g, cap, cur, rfl, h1, h2, h3⟩
 ·exact .inl q
 ·exact .inr ⟨g, cap, cur, rfl, h1, (hb g rfl).trans h2, h3⟩
theorem PY.later {w w' : World} {v : Value} {l : List PV} (h : PY w v l) (hb : Below w.heap.size w w') : PY w' v l := h.kept fun k hk => hb.block k (h.lt k hk)
theorem wpList_PY_append_w {ops : Array Oper} {rest : List Oper} {o : Oper} {a : Act} {Q : Exit -> Act -> World -> Prop} {w : World} (hgd : o.guard = none) (s x : Operand)
  (ho : o.op = .call { callee := .builtin .append, args := #[s, x], argTypes := #[23, 23] })
  (v : Value) (l : List PV) (hs : a.eval s = v) (h : PY w v l) (b c : Nat) (q : PV) (hx : a.eval x = .slice (some ⟨b, 0, none⟩) 1 c) (hy : ∀ j u, [.int .i64 q.left, .slice q.ra q.right.length q.rc, .int .i64 q.prec][j]? = some u -> w.cell? ⟨b, j, none⟩ = some u) (hlen : l.length <= 100000000)
  (hK : ∀ a' n' c' w', PY w' (.slice a' n' c') (l ++ [q]) -> Grew w w' v (.slice a' n' c') -> wpList Tryz.prog ops Q rest (a.put o.dst (.slice a' n' c')) w') : wpList Tryz.prog ops Q (o :: rest) a w := by
 obtain ⟨i0, hi, hz0, hz1, hz2⟩ := infoPro_parts
 refine wpList_append_own_at w hgd s x 23 ho 0 71 i0 (.agg #[.int .i64 0, .slice none 0 0, .int .i64 0]) 3 40 Tryz.underlying23 hi hz0 hz1 hz2 rfl (by decide) v l.length (proCells l) hs h ⟨b, 0, none⟩ 1 c [.int .i64 q.left, .slice q.ra q.right.length q.rc, .int .i64 q.prec] hx (by simp) ?_ ?_ (by unfold maxLen; omega) (by omega) (Nat.zero_le _) ?_
 ·intro j u hu
  rw [add_none, Nat.zero_add]
  exact hy j u hu
 ·intro u hu; simp at hu; rcases hu with rfl | rfl | rfl <;> rfl
 ·intro v' w' h2 h3 _ h5
  have h6 : PY w' v' (l ++ [q]) := by
   unfold PY
   have e : proCells (l ++ [q]) = proCells l ++ [.int .i64 q.left, .slice q.ra q.right.length q.rc, .int .i64 q.prec] := by simp [proCells]
   rw [e]
   simpa using h2
  obtain ⟨a', c', rfl⟩ := PY.len h6
  exact hK _ _ _ w' h6 ⟨h3, h5.imp id fun e => ⟨_, e, Nat.le_refl _⟩⟩
theorem wpList_PY_append {ops : Array Oper} {rest : List Oper} {o : Oper} {a : Act} {Q : Exit -> Act -> World -> Prop} {w : World} (hgd : o.guard = none) (s x : Operand)
  (ho : o.op = .call { callee := .builtin .append, args := #[s, x], argTypes := #[23, 23] })
  (v : Value) (l : List PV) (hs : a.eval s = v) (h : PY w v l) (b c : Nat) (q : PV) (hx : a.eval x = .slice (some ⟨b, 0, none⟩) 1 c) (hy : ∀ j u, [.int .i64 q.left, .slice q.ra q.right.length q.rc, .int .i64 q.prec][j]? = some u -> w.cell? ⟨b, j, none⟩ = some u) (hlen : l.length <= 2000000)
  (hK : ∀ a' n' c' w', PY w' (.slice a' n' c') (l ++ [q]) -> Grew w w' v (.slice a' n' c') -> wpList Tryz.prog ops Q rest (a.put o.dst (.slice a' n' c')) w') : wpList Tryz.prog ops Q (o :: rest) a w := wpList_PY_append_w hgd s x ho v l hs h b c q hx hy (Nat.le_trans hlen (by omega)) hK
end Go.Proofs.YtlfiohdhcmmjbaaGreatDoor
namespace Go.Proofs.YtlfiohdhcmmjbaaGreatDoor
set_option linter.unusedVariables false
set_option maxRecDepth 100000
set_option maxHeartbeats 16000000
open Go.RowKit
def LV.core (q : LV) : Int × List Int := (q.assoc, q.terms)
structure LO (B : Nat) (w : World) (v : Value) (l : List LV) : Prop where
 row : LY w v l
 lo : ∀ j, v.ownBlock = some j -> B <= j
 each : ∀ q ∈ l, IL w (.slice q.ta q.terms.length q.tc) q.terms
 apart : ∀ q ∈ l, ∀ j, (Value.slice q.ta q.terms.length q.tc).ownBlock = some j -> B <= j /\ v.ownBlock ≠ some j
 two : l.Pairwise fun p q => ∀ j, (Value.slice p.ta p.terms.length p.tc).ownBlock = some j -> (Value.slice q.ta q.terms.length q.tc).ownBlock ≠ some j
theorem LO.nil (B : Nat) (w : World) : LO B w (.slice none 0 0) [] := ⟨LY.nil w, fun j hj => (by simp [Value.ownBlock] at hj), fun q hq => (by cases hq), fun q hq => (by cases hq), List.Pairwise.nil⟩
theorem LO.kept {B : Nat} {w w' : World} {v : Value} {l : List LV} (h : LO B w v l) (hb : ∀ k, B <= k -> k < w.heap.size -> w'.heap[k]? = w.heap[k]?) : LO B w' v l :=
 ⟨h.row.kept fun k hk => hb k (h.lo k hk) (h.row.lt k hk), h.lo, fun q hq => (h.each q hq).kept fun k hk => hb k (h.apart q hq k hk).1 ((h.each q hq).lt k hk), h.apart, h.two⟩
theorem LO.later {B : Nat} {w w' : World} {v : Value} {l : List LV} (h : LO B w v l) (hb : Below w.heap.size w w') : LO B w' v l := h.kept fun k _ hk => hb.block k hk
theorem LO.append {B : Nat} {w w' : World} {v v' : Value} {l : List LV} {q : LV} (h : LO B w v l) (h1 : LY w' v' (l ++ [q])) (hg : Grew w w' v v') (hB : B <= w.heap.size) (hq : IL w (.slice q.ta q.terms.length q.tc) q.terms) (hn : ∀ j, (Value.slice q.ta q.terms.length q.tc).ownBlock = some j -> B <= j /\ v.ownBlock ≠ some j /\ ∀ x ∈ l, (Value.slice x.ta x.terms.length x.tc).ownBlock ≠ some j) : LO B w' v' (l ++ [q]) := by
 have hlo : ∀ j, v'.ownBlock = some j -> B <= j := fun j hj => by
  rcases hg.moved with e | ⟨z, e, hz⟩
  ·exact h.lo j (e ▸ hj)
  ·rw [hj] at e; have := Option.some.inj e; omega
 have hk : ∀ j, j < w.heap.size -> v.ownBlock ≠ some j -> w'.heap[j]? = w.heap[j]? := fun j hj hne => hg.grown.block j hj (fun e => hne e.symm)
 have hne : ∀ j, j < w.heap.size -> v.ownBlock ≠ some j -> v'.ownBlock ≠ some j := fun j hj hne e => by
  rcases hg.moved with e' | ⟨z, e', hz⟩
  ·exact hne (e' ▸ e)
  ·rw [e] at e'; have := Option.some.inj e'; omega
 refine ⟨h1, hlo, fun x hx => ?_, fun x hx j hj => ?_, List.pairwise_append.2 ⟨h.two, List.pairwise_singleton _ _, fun x hx y hy j hj hj' => by obtain rfl := List.mem_singleton.1 hy; exact (hn j hj').2.2 x hx hj⟩⟩
 ·rcases List.mem_append.1 hx with hx | hx
  ·exact (h.each x hx).kept fun k hk' => hk k ((h.each x hx).lt k hk') (h.apart x hx k hk').2
  ·obtain rfl := List.mem_singleton.1 hx
   exact hq.kept fun k hk' => hk k (hq.lt k hk') (hn k hk').2.1
 ·rcases List.mem_append.1 hx with hx | hx
  ·exact ⟨(h.apart x hx j hj).1, hne j ((h.each x hx).lt j hj) (h.apart x hx j hj).2⟩
  ·obtain rfl := List.mem_singleton.1 hx
   exact ⟨(hn j hj).1, hne j (hq.lt j hj) (hn j hj).2.1⟩
def OkW (q : LV) : Prop := (0 <= q.assoc /\ q.assoc <= 2147483647) /\ (∀ s ∈ q.terms, 0 <= s /\ s <= 2147483647) /\ q.terms.length <= 1000000
def PV.core (q : PV) : Int × List (Int × Int) × Int := (q.left, q.right, q.prec)
structure PO (B : Nat) (w : World) (v : Value) (l : List PV) : Prop where
 row : PY w v l
 lo : ∀ j, v.ownBlock = some j -> B <= j
 each : ∀ q ∈ l, SY w (.slice q.ra q.right.length q.rc) q.right
 apart : ∀ q ∈ l, ∀ j, (Value.slice q.ra q.right.length q.rc).ownBlock = some j -> B <= j /\ v.ownBlock ≠ some j
 two : l.Pairwise fun p q => ∀ j, (Value.slice p.ra p.right.length p.rc).ownBlock = some j -> (Value.slice q.ra q.right.length q.rc).ownBlock ≠ some j
theorem PO.nil (B : Nat) (w : World) : PO B w (.slice none 0 0) [] := ⟨PY.nil w, fun j hj => (by simp [Value.ownBlock] at hj), fun q hq => (by cases hq), fun q hq => (by cases hq), List.Pairwise.nil⟩
theorem PO.kept {B : Nat} {w w' : World} {v : Value} {l : List PV} (h : PO B w v l) (hb : ∀ k, B <= k -> k < w.heap.size -> w'.heap[k]? = w.heap[k]?) : PO B w' v l :=
 ⟨h.row.kept fun k hk => hb k (h.lo k hk) (h.row.lt k hk), h.lo, fun q hq => (h.each q hq).kept fun k hk => hb k (h.apart q hq k hk).1 ((h.each q hq).lt k hk), h.apart, h.two⟩
theorem PO.later {B : Nat} {w w' : World} {v : Value} {l : List PV} (h : PO B w v l) (hb : Below w.heap.size w w') : PO B w' v l := h.kept fun k _ hk => hb.block k hk
theorem PO.append {B : Nat} {w w' : World} {v v' : Value} {l : List PV} {q : PV} (h : PO B w v l) (h1 : PY w' v' (l ++ [q])) (hg : Grew w w' v v') (hB : B <= w.heap.size) (hq : SY w (.slice q.ra q.right.length q.rc) q.right) (hn : ∀ j, (Value.slice q.ra q.right.length q.rc).ownBlock = some j -> B <= j /\ v.ownBlock ≠ some j /\ ∀ x ∈ l, (Value.slice x.ra x.right.length x.rc).ownBlock ≠ some j) : PO B w' v' (l ++ [q]) := by
 have hlo : ∀ j, v'.ownBlock = some j -> B <= j := fun j hj => by
  rcases hg.moved with e | ⟨z, e, hz⟩
  ·exact h.lo j (e ▸ hj)
  ·rw [hj] at e; have := Option.some.inj e; omega
 have hk : ∀ j, j < w.heap.size -> v.ownBlock ≠ some j -> w'.heap[j]? = w.heap[j]? := fun j hj hne => hg.grown.block j hj (fun e => hne e.symm)
 have hne : ∀ j, j < w.heap.size -> v.ownBlock ≠ some j -> v'.ownBlock ≠ some j := fun j hj hne e => by
  rcases hg.moved with e' | ⟨z, e', hz⟩
  ·exact hne (e' ▸ e)
  ·rw [e] at e'; have := Option.some.inj e'; omega
 refine ⟨h1, hlo, fun x hx => ?_, fun x hx j hj => ?_, List.pairwise_append.2 ⟨h.two, List.pairwise_singleton _ _, fun x hx y hy j hj hj' => by obtain rfl := List.mem_singleton.1 hy; exact (hn j hj').2.2 x hx hj⟩⟩
 ·rcases List.mem_append.1 hx with hx | hx
  ·exact (h.each x hx).kept fun k hk' => hk k ((h.each x hx).lt k hk') (h.apart x hx k hk').2
  ·obtain rfl := List.mem_singleton.1 hx
   exact hq.kept fun k hk' => hk k (hq.lt k hk') (hn k hk').2.1
 ·rcases List.mem_append.1 hx with hx | hx
  ·exact ⟨(h.apart x hx j hj).1, hne j ((h.each x hx).lt j hj) (h.apart x hx j hj).2⟩
  ·obtain rfl := List.mem_singleton.1 hx
   exact ⟨(hn j hj).1, hne j (hq.lt j hj) (hn j hj).2.1⟩
def OkQ (q : PV) : Prop := (0 <= q.left /\ q.left <= 2147483647) /\ (-1 <= q.prec /\ q.prec <= 1048576) /\ (∀ s ∈ q.right, (s.1 = 1 ∨ s.1 = 2) /\ 0 <= s.2 /\ s.2 <= 1048576) /\ q.right.length <= 1000000
def GO (B : Nat) (w : World) (v : Value) (l : List ByteArray) : Prop := GS w v l /\ ∀ j, v.ownBlock = some j -> B <= j
theorem GO.kept {B : Nat} {w w' : World} {v : Value} {l : List ByteArray} (h : GO B w v l) (hb : ∀ k, B <= k -> k < w.heap.size -> w'.heap[k]? = w.heap[k]?) : GO B w' v l := ⟨h.1.kept fun k hk => hb k (h.2 k hk) (h.1.lt k hk), h.2⟩
theorem GO.mono {B B' : Nat} {w : World} {v : Value} {l : List ByteArray} (h : GO B w v l) (hB : B' <= B) : GO B' w v l := ⟨h.1, fun j hj => Nat.le_trans hB (h.2 j hj)⟩
theorem PO.mono {B B' : Nat} {w : World} {v : Value} {l : List PV} (h : PO B w v l) (hB : B' <= B) : PO B' w v l := ⟨h.row, fun j hj => Nat.le_trans hB (h.lo j hj), h.each, fun q hq j hj => ⟨Nat.le_trans hB (h.apart q hq j hj).1, (h.apart q hq j hj).2⟩, h.two⟩
theorem LO.mono {B B' : Nat} {w : World} {v : Value} {l : List LV} (h : LO B w v l) (hB : B' <= B) : LO B' w v l := ⟨h.row, fun j hj => Nat.le_trans hB (h.lo j hj), h.each, fun q hq j hj => ⟨Nat.le_trans hB (h.apart q hq j hj).1, (h.apart q hq j hj).2⟩, h.two⟩
structure DG (B : Nat) (w : World) (g : GV) : Prop where
 t : GO B w (.slice g.ta g.ts.length g.tc) g.ts
 n_ : GO B w (.slice g.na g.ns.length g.nc) g.ns
 p : PO B w (.slice g.pa g.ps.length g.pc) g.ps
 l : LO B w (.slice g.la g.ls.length g.lc) g.ls
 tn : ∀ j, (Value.slice g.ta g.ts.length g.tc).ownBlock = some j -> (Value.slice g.na g.ns.length g.nc).ownBlock ≠ some j
structure SameG (g g' : GV) : Prop where
 ts : g'.ts = g.ts
 ns : g'.ns = g.ns
 start : g'.start = g.start
 ps : g'.ps.map PV.core = g.ps.map PV.core
 ls : g'.ls.map LV.core = g.ls.map LV.core
structure OkD (g : GV) : Prop where
 ts : ∀ s ∈ g.ts, s.size <= 65536
 ns : ∀ s ∈ g.ns, s.size <= 65536
 st : 0 <= g.start /\ g.start <= 2147483647
 ps : ∀ s ∈ g.ps, OkQ s
 ls : ∀ s ∈ g.ls, OkW s
 tl : g.ts.length <= 1000000
 nl : g.ns.length <= 1000000
 pl : g.ps.length <= 1000000
 ll : g.ls.length <= 1000000
end Go.Proofs.YtlfiohdhcmmjbaaGreatDoor
