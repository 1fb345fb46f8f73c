import Derived.Test.YtjpknihkcndoiaaGreatPGDecToGDec8
import Derived.Test.YtjpknihkcndoiaaGreatPGEnc3
namespace Go.Proofs.YtjpknihkcndoiaaGreat
set_option linter.unusedVariables false
set_option maxRecDepth 100000
set_option maxHeartbeats 16000000
open Go.RowKit
def LV.core (q : LV) : Int × List Int := (q.assoc, q.terms)
structure LO (B : Nat) (w : World) (v : Value) (l : List LV) : Prop where
 row : LY w v l
 lo : ∀ j, v.ownBlock = some j -> B <= j
 each : ∀ q ∈ l, IL w (.slice q.ta q.terms.length q.tc) q.terms
 apart : ∀ q ∈ l, ∀ j, (Value.slice q.ta q.terms.length q.tc).ownBlock = some j -> B <= j /\ v.ownBlock ≠ some j
 two : l.Pairwise fun p q => ∀ j, (Value.slice p.ta p.terms.length p.tc).ownBlock = some j -> (Value.slice q.ta q.terms.length q.tc).ownBlock ≠ some j
theorem LO.nil (B : Nat) (w : World) : LO B w (.slice none 0 0) [] := ⟨LY.nil w, fun j hj => (by simp [Value.ownBlock] at hj), fun q hq => (by cases hq), fun q hq => (by cases hq), List.Pairwise.nil⟩
theorem LO.kept {B : Nat} {w w' : World} {v : Value} {l : List LV} (h : LO B w v l) (hb : ∀ k, B <= k -> k < w.heap.size -> w'.heap[k]? = w.heap[k]?) : LO B w' v l :=
 ⟨h.row.kept fun k hk => hb k (h.lo k hk) (h.row.lt k hk), h.lo, fun q hq => (h.each q hq).kept fun k hk => hb k (h.apart q hq k hk).1 ((h.each q hq).lt k hk), h.apart, h.two⟩
theorem LO.later {B : Nat} {w w' : World} {v : Value} {l : List LV} (h : LO B w v l) (hb : Below w.heap.size w w') : LO B w' v l := h.kept fun k _ hk => hb.block k hk
theorem LO.append {B : Nat} {w w' : World} {v v' : Value} {l : List LV} {q : LV} (h : LO B w v l) (h1 : LY w' v' (l ++ [q])) (hg : Grew w w' v v') (hB : B <= w.heap.size) (hq : IL w (.slice q.ta q.terms.length q.tc) q.terms) (hn : ∀ j, (Value.slice q.ta q.terms.length q.tc).ownBlock = some j -> B <= j /\ v.ownBlock ≠ some j /\ ∀ x ∈ l, (Value.slice x.ta x.terms.length x.tc).ownBlock ≠ some j) : LO B w' v' (l ++ [q]) := by
 have hlo : ∀ j, v'.ownBlock = some j -> B <= j := fun j hj => by
  rcases hg.moved with e | ⟨z, e, hz⟩
  ·exact h.lo j (e ▸ hj)
  ·rw [hj] at e; have := Option.some.inj e; omega
 have hk : ∀ j, j < w.heap.size -> v.ownBlock ≠ some j -> w'.heap[j]? = w.heap[j]? := fun j hj hne => hg.grown.block j hj (fun e => hne e.symm)
 have hne : ∀ j, j < w.heap.size -> v.ownBlock ≠ some j -> v'.ownBlock ≠ some j := fun j hj hne e => by
  rcases hg.moved with e' | ⟨z, e', hz⟩
  ·exact hne (e' ▸ e)
  ·rw [e] at e'; have := Option.some.inj e'; omega
 refine ⟨h1, hlo, fun x hx => ?_, fun x hx j hj => ?_, List.pairwise_append.2 ⟨h.two, List.pairwise_singleton _ _, fun x hx y hy j hj hj' => by obtain rfl := List.mem_singleton.1 hy; exact (hn j hj').2.2 x hx hj⟩⟩
 ·rcases List.mem_append.1 hx with hx | hx
  ·exact (h.each x hx).kept fun k hk' => hk k ((h.each x hx).lt k hk') (h.apart x hx k hk').2
  ·obtain rfl := List.mem_singleton.1 hx
   exact hq.kept fun k hk' => hk k (hq.lt k hk') (hn k hk').2.1
 ·rcases List.mem_append.1 hx with hx | hx
  ·exact ⟨(h.apart x hx j hj).1, hne j ((h.each x hx).lt j hj) (h.apart x hx j hj).2⟩
  ·obtain rfl := List.mem_singleton.1 hx
   exact ⟨(hn j hj).1, hne j (hq.lt j hj) (hn j hj).2.1⟩
def OkW (q : LV) : Prop := (0 <= q.assoc /\ q.assoc <= 2147483647) /\ (∀ s ∈ q.terms, 0 <= s /\ s <= 2147483647) /\ q.terms.length <= 1000000
def PV.core (q : PV) : Int × List (Int × Int) × Int := (q.left, q.right, q.prec)
structure PO (B : Nat) (w : World) (v : Value) (l : List PV) : Prop where
 row : PY w v l
 lo : ∀ j, v.ownBlock = some j -> B <= j
 each : ∀ q ∈ l, SY w (.slice q.ra q.right.length q.rc) q.right
 apart : ∀ q ∈ l, ∀ j, (Value.slice q.ra q.right.length q.rc).ownBlock = some j -> B <= j /\ v.ownBlock ≠ some j
 two : l.Pairwise fun p q => ∀ j, (Value.slice p.ra p.right.length p.rc).ownBlock = some j -> (Value.slice q.ra q.right.length q.rc).ownBlock ≠ some j
theorem PO.nil (B : Nat) (w : World) : PO B w (.slice none 0 0) [] := ⟨PY.nil w, fun j hj => (by simp [Value.ownBlock] at hj), fun q hq => (by cases hq), fun q hq => (by cases hq), List.Pairwise.nil⟩
theorem PO.kept {B : Nat} {w w' : World} {v : Value} {l : List PV} (h : PO B w v l) (hb : ∀ k, B <= k -> k < w.heap.size -> w'.heap[k]? = w.heap[k]?) : PO B w' v l :=
 ⟨h.row.kept fun k hk => hb k (h.lo k hk) (h.row.lt k hk), h.lo, fun q hq => (h.each q hq).kept fun k hk => hb k (h.apart q hq k hk).1 ((h.each q hq).lt k hk), h.apart, h.two⟩
theorem PO.later {B : Nat} {w w' : World} {v : Value} {l : List PV} (h : PO B w v l) (hb : Below w.heap.size w w') : PO B w' v l := h.kept fun k _ hk => hb.block k hk
theorem PO.append {B : Nat} {w w' : World} {v v' : Value} {l : List PV} {q : PV} (h : PO B w v l) (h1 : PY w' v' (l ++ [q])) (hg : Grew w w' v v') (hB : B <= w.heap.size) (hq : SY w (.slice q.ra q.right.length q.rc) q.right) (hn : ∀ j, (Value.slice q.ra q.right.length q.rc).ownBlock = some j -> B <= j /\ v.ownBlock ≠ some j /\ ∀ x ∈ l, (Value.slice x.ra x.right.length x.rc).ownBlock ≠ some j) : PO B w' v' (l ++ [q]) := by
 have hlo : ∀ j, v'.ownBlock = some j -> B <= j := fun j hj => by
  rcases hg.moved with e | ⟨z, e, hz⟩
  ·exact h.lo j (e ▸ hj)
  ·rw [hj] at e; have := Option.some.inj e; omega
 have hk : ∀ j, j < w.heap.size -> v.ownBlock ≠ some j -> w'.heap[j]? = w.heap[j]? := fun j hj hne => hg.grown.block j hj (fun e => hne e.symm)
 have hne : ∀ j, j < w.heap.size -> v.ownBlock ≠ some j -> v'.ownBlock ≠ some j := fun j hj hne e => by
  rcases hg.moved with e' | ⟨z, e', hz⟩
  ·exact hne (e' ▸ e)
  ·rw [e] at e'; have := Option.some.inj e'; omega
 refine ⟨h1, hlo, fun x hx => ?_, fun x hx j hj => ?_, List.pairwise_append.2 ⟨h.two, List.pairwise_singleton _ _, fun x hx y hy j hj hj' => by obtain rfl := List.mem_singleton.1 hy; exact (hn j hj').2.2 x hx hj⟩⟩
 ·rcases List.mem_append.1 hx with hx | hx
  ·exact (h.each x hx).kept fun k hk' => hk k ((h.each x hx).lt k hk') (h.apart x hx k hk').2
  ·obtain rfl := List.mem_singleton.1 hx
   exact hq.kept fun k hk' => hk k (hq.lt k hk') (hn k hk').2.1
 ·rcases List.mem_append.1 hx with hx | hx
  ·exact ⟨(h.apart x hx j hj).1, hne j ((h.each x hx).lt j hj) (h.apart x hx j hj).2⟩
  ·obtain rfl := List.mem_singleton.1 hx
   exact ⟨(hn j hj).1, hne j (hq.lt j hj) (hn j hj).2.1⟩
def OkQ (q : PV) : Prop := (0 <= q.left /\ q.left <= 2147483647) /\ (-1 <= q.prec /\ q.prec <= 1048576) /\ (∀ s ∈ q.right, (s.1 = 1 ∨ s.1 = 2) /\ 0 <= s.2 /\ s.2 <= 1048576) /\ q.right.length <= 1000000
def GO (B : Nat) (w : World) (v : Value) (l : List ByteArray) : Prop := GS w v l /\ ∀ j, v.ownBlock = some j -> B <= j
theorem GO.kept {B : Nat} {w w' : World} {v : Value} {l : List ByteArray} (h : GO B w v l) (hb : ∀ k, B <= k -> k < w.heap.size -> w'.heap[k]? = w.heap[k]?) : GO B w' v l := ⟨h.1.kept fun k hk => hb k (h.2 k hk) (h.1.lt k hk), h.2⟩
theorem GO.mono {B B' : Nat} {w : World} {v : Value} {l : List ByteArray} (h : GO B w v l) (hB : B' <= B) : GO B' w v l := ⟨h.1, fun j hj => Nat.le_trans hB (h.2 j hj)⟩
theorem PO.mono {B B' : Nat} {w : World} {v : Value} {l : List PV} (h : PO B w v l) (hB : B' <= B) : PO B' w v l := ⟨h.row, fun j hj => Nat.le_trans hB (h.lo j hj), h.each, fun q hq j hj => ⟨Nat.le_trans hB (h.apart q hq j hj).1, (h.apart q hq j hj).2⟩, h.two⟩
theorem LO.mono {B B' : Nat} {w : World} {v : Value} {l : List LV} (h : LO B w v l) (hB : B' <= B) : LO B' w v l := ⟨h.row, fun j hj => Nat.le_trans hB (h.lo j hj), h.each, fun q hq j hj => ⟨Nat.le_trans hB (h.apart q hq j hj).1, (h.apart q hq j hj).2⟩, h.two⟩
structure DG (B : Nat) (w : World) (g : GV) : Prop where
 t : GO B w (.slice g.ta g.ts.length g.tc) g.ts
 n_ : GO B w (.slice g.na g.ns.length g.nc) g.ns
 p : PO B w (.slice g.pa g.ps.length g.pc) g.ps
 l : LO B w (.slice g.la g.ls.length g.lc) g.ls
 tn : ∀ j, (Value.slice g.ta g.ts.length g.tc).ownBlock = some j -> (Value.slice g.na g.ns.length g.nc).ownBlock ≠ some j
structure SameG (g g' : GV) : Prop where
 ts : g'.ts = g.ts
 ns : g'.ns = g.ns
 start : g'.start = g.start
 ps : g'.ps.map PV.core = g.ps.map PV.core
 ls : g'.ls.map LV.core = g.ls.map LV.core
structure OkD (g : GV) : Prop where
 ts : ∀ s ∈ g.ts, s.size <= 65536
 ns : ∀ s ∈ g.ns, s.size <= 65536
 st : 0 <= g.start /\ g.start <= 2147483647
 ps : ∀ s ∈ g.ps, OkQ s
 ls : ∀ s ∈ g.ls, OkW s
 tl : g.ts.length <= 1000000
 nl : g.ns.length <= 1000000
 pl : g.ps.length <= 1000000
 ll : g.ls.length <= 1000000
end Go.Proofs.YtjpknihkcndoiaaGreat
