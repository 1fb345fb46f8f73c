import Derived.Test.YtobhemaikomdaaaGreatDoorPGEncToBack0
import Derived.Test.YtobhemaikomdaaaGreatDoorPGCheckCToGCheckD
namespace Go.Proofs.YtobhemaikomdaaaGreatDoor
set_option linter.unusedVariables false
open Go.RowKit
section
variable {wr : World} {r : Nat} {ao : Option Addr} {N cap : Nat} {zs : List Int} {pos : Nat}
end
def levCells (l : List LV) : List Value := l.flatMap fun q => [.int .i64 q.assoc, .slice q.ta q.terms.length q.tc]
def LY (w : World) (v : Value) (l : List LV) : Prop := w.ownsRow 0 151 2 v l.length (levCells l)
theorem LY.nil (w : World) : LY w (.slice none 0 0) [] := World.ownsRow_nil w 0 151 2
theorem LY.len {w : World} {v : Value} {l : List LV} (h : LY w v l) : ∃ a c, v = .slice a l.length c := by
 rcases h.2 with ⟨e, h0⟩ | ⟨g, cap, cur, e, _⟩
 ·rw [h0]; exact ⟨_, _, e⟩
 ·exact ⟨_, _, e⟩
theorem LY.lt {w : World} {v : Value} {l : List LV} (h : LY w v l) : ∀ k, v.ownBlock = some k -> k < w.heap.size := fun k hk => (World.ownsRow.lt h k hk).2
theorem LY.kept {w w' : World} {v : Value} {l : List LV} (h : LY w v l) (hb : ∀ k, v.ownBlock = some k -> w'.heap[k]? = w.heap[k]?) : LY w' v l := by
 refine ⟨h.1, ?_⟩
 rcases h.2 with q | ⟨g, cap, cur, rfl, h1, h2, h3⟩
 ·exact .inl q
 ·exact .inr ⟨g, cap, cur, rfl, h1, (hb g rfl).trans h2, h3⟩
theorem LY.later {w w' : World} {v : Value} {l : List LV} (h : LY w v l) (hb : Below w.heap.size w w') : LY w' v l := h.kept fun k hk => hb.block k (h.lt k hk)
def proCells (l : List PV) : List Value := l.flatMap fun q => [.int .i64 q.left, .slice q.ra q.right.length q.rc, .int .i64 q.prec]
def PY (w : World) (v : Value) (l : List PV) : Prop := w.ownsRow 0 61 3 v l.length (proCells l)
theorem PY.nil (w : World) : PY w (.slice none 0 0) [] := World.ownsRow_nil w 0 61 3
theorem PY.len {w : World} {v : Value} {l : List PV} (h : PY w v l) : ∃ a c, v = .slice a l.length c := by
 rcases h.2 with ⟨e, h0⟩ | ⟨g, cap, cur, e, _⟩
 ·rw [h0]; exact ⟨_, _, e⟩
 ·exact ⟨_, _, e⟩
theorem PY.lt {w : World} {v : Value} {l : List PV} (h : PY w v l) : ∀ k, v.ownBlock = some k -> k < w.heap.size := fun k hk => (World.ownsRow.lt h k hk).2
theorem PY.kept {w w' : World} {v : Value} {l : List PV} (h : PY w v l) (hb : ∀ k, v.ownBlock = some k -> w'.heap[k]? = w.heap[k]?) : PY w' v l := by
 refine ⟨h.1, ?_⟩
 rcases h.2 with q | ⟨g, cap, cur, rfl, h1, h2, h3⟩
 ·exact .inl q
 ·exact .inr ⟨g, cap, cur, rfl, h1, (hb g rfl).trans h2, h3⟩
theorem PY.later {w w' : World} {v : Value} {l : List PV} (h : PY w v l) (hb : Below w.heap.size w w') : PY w' v l := h.kept fun k hk => hb.block k (h.lt k hk)
def encV (l : LV) : List Int := C.enc 10 l.assoc ++ encL encI l.terms
def encG (g : GV) : List Int := encL encS g.ts ++ (encL encS g.ns ++ (C.enc 10 g.start ++ (encL encP g.ps ++ encL encV g.ls)))
def LV.core (q : LV) : Int × List Int := (q.assoc, q.terms)
structure LO (B : Nat) (w : World) (v : Value) (l : List LV) : Prop where
 row : LY w v l
 lo : ∀ j, v.ownBlock = some j -> B <= j
 each : ∀ q ∈ l, IL w (.slice q.ta q.terms.length q.tc) q.terms
 apart : ∀ q ∈ l, ∀ j, (Value.slice q.ta q.terms.length q.tc).ownBlock = some j -> B <= j /\ v.ownBlock ≠ some j
 two : l.Pairwise fun p q => ∀ j, (Value.slice p.ta p.terms.length p.tc).ownBlock = some j -> (Value.slice q.ta q.terms.length q.tc).ownBlock ≠ some j
theorem LO.nil (B : Nat) (w : World) : LO B w (.slice none 0 0) [] := ⟨LY.nil w, fun j hj => (by simp [Value.ownBlock] at hj), fun q hq => (by cases hq), fun q hq => (by cases hq), List.Pairwise.nil⟩
theorem LO.kept {B : Nat} {w w' : World} {v : Value} {l : List LV} (h : LO B w v l) (hb : ∀ k, B <= k -> k < w.heap.size -> w'.heap[k]? = w.heap[k]?) : LO B w' v l :=
 ⟨h.row.kept fun k hk => hb k (h.lo k hk) (h.row.lt k hk), h.lo, fun q hq => (h.each q hq).kept fun k hk => hb k (h.apart q hq k hk).1 ((h.each q hq).lt k hk), h.apart, h.two⟩
theorem LO.later {B : Nat} {w w' : World} {v : Value} {l : List LV} (h : LO B w v l) (hb : Below w.heap.size w w') : LO B w' v l := h.kept fun k _ hk => hb.block k hk
theorem LO.append {B : Nat} {w w' : World} {v v' : Value} {l : List LV} {q : LV} (h : LO B w v l) (h1 : LY w' v' (l ++ [q])) (hg : Grew w w' v v') (hB : B <= w.heap.size) (hq : IL w (.slice q.ta q.terms.length q.tc) q.terms) (hn : ∀ j, (Value.slice q.ta q.terms.length q.tc).ownBlock = some j -> B <= j /\ v.ownBlock ≠ some j /\ ∀ x ∈ l, (Value.slice x.ta x.terms.length x.tc).ownBlock ≠ some j) : LO B w' v' (l ++ [q]) := by
 have hlo : ∀ j, v'.ownBlock = some j -> B <= j := fun j hj => by
  rcases hg.moved with e | ⟨z, e, hz⟩
  ·exact h.lo j (e ▸ hj)
  ·rw [hj] at e; have := Option.some.inj e; omega
 have hk : ∀ j, j < w.heap.size -> v.ownBlock ≠ some j -> w'.heap[j]? = w.heap[j]? := fun j hj hne => hg.grown.block j hj (fun e => hne e.symm)
 have hne : ∀ j, j < w.heap.size -> v.ownBlock ≠ some j -> v'.ownBlock ≠ some j := fun j hj hne e => by
  rcases hg.moved with e' | ⟨z, e', hz⟩
  ·exact hne (e' ▸ e)
  ·rw [e] at e'; have := Option.some.inj e'; omega
 refine ⟨h1, hlo, fun x hx => ?_, fun x hx j hj => ?_, List.pairwise_append.2 ⟨h.two, List.pairwise_singleton _ _, fun x hx y hy j hj hj' => by obtain rfl := List.mem_singleton.1 hy; exact (hn j hj').2.2 x hx hj⟩⟩
 ·rcases List.mem_append.1 hx with hx | hx
  ·exact (h.each x hx).kept fun k hk' => hk k ((h.each x hx).lt k hk') (h.apart x hx k hk').2
  ·obtain rfl := List.mem_singleton.1 hx
   exact hq.kept fun k hk' => hk k (hq.lt k hk') (hn k hk').2.1
 ·rcases List.mem_append.1 hx with hx | hx
  ·exact ⟨(h.apart x hx j hj).1, hne j ((h.each x hx).lt j hj) (h.apart x hx j hj).2⟩
  ·obtain rfl := List.mem_singleton.1 hx
   exact ⟨(hn j hj).1, hne j (hq.lt j hj) (hn j hj).2.1⟩
def OkW (q : LV) : Prop := (0 <= q.assoc /\ q.assoc <= 2147483647) /\ (∀ s ∈ q.terms, 0 <= s /\ s <= 2147483647) /\ q.terms.length <= 1000000
def PV.core (q : PV) : Int × List (Int × Int) × Int := (q.left, q.right, q.prec)
structure PO (B : Nat) (w : World) (v : Value) (l : List PV) : Prop where
 row : PY w v l
 lo : ∀ j, v.ownBlock = some j -> B <= j
 each : ∀ q ∈ l, SY w (.slice q.ra q.right.length q.rc) q.right
 apart : ∀ q ∈ l, ∀ j, (Value.slice q.ra q.right.length q.rc).ownBlock = some j -> B <= j /\ v.ownBlock ≠ some j
 two : l.Pairwise fun p q => ∀ j, (Value.slice p.ra p.right.length p.rc).ownBlock = some j -> (Value.slice q.ra q.right.length q.rc).ownBlock ≠ some j
theorem PO.nil (B : Nat) (w : World) : PO B w (.slice none 0 0) [] := ⟨PY.nil w, fun j hj => (by simp [Value.ownBlock] at hj), fun q hq => (by cases hq), fun q hq => (by cases hq), List.Pairwise.nil⟩
theorem PO.kept {B : Nat} {w w' : World} {v : Value} {l : List PV} (h : PO B w v l) (hb : ∀ k, B <= k -> k < w.heap.size -> w'.heap[k]? = w.heap[k]?) : PO B w' v l :=
 ⟨h.row.kept fun k hk => hb k (h.lo k hk) (h.row.lt k hk), h.lo, fun q hq => (h.each q hq).kept fun k hk => hb k (h.apart q hq k hk).1 ((h.each q hq).lt k hk), h.apart, h.two⟩
theorem PO.later {B : Nat} {w w' : World} {v : Value} {l : List PV} (h : PO B w v l) (hb : Below w.heap.size w w') : PO B w' v l := h.kept fun k _ hk => hb.block k hk
theorem PO.append {B : Nat} {w w' : World} {v v' : Value} {l : List PV} {q : PV} (h : PO B w v l) (h1 : PY w' v' (l ++ [q])) (hg : Grew w w' v v') (hB : B <= w.heap.size) (hq : SY w (.slice q.ra q.right.length q.rc) q.right) (hn : ∀ j, (Value.slice q.ra q.right.length q.rc).ownBlock = some j -> B <= j /\ v.ownBlock ≠ some j /\ ∀ x ∈ l, (Value.slice x.ra x.right.length x.rc).ownBlock ≠ some j) : PO B w' v' (l ++ [q]) := by
 have hlo : ∀ j, v'.ownBlock = some j -> B <= j := fun j hj => by
  rcases hg.moved with e | ⟨z, e, hz⟩
  ·exact h.lo j (e ▸ hj)
  ·rw [hj] at e; have := Option.some.inj e; omega
 have hk : ∀ j, j < w.heap.size -> v.ownBlock ≠ some j -> w'.heap[j]? = w.heap[j]? := fun j hj hne => hg.grown.block j hj (fun e => hne e.symm)
 have hne : ∀ j, j < w.heap.size -> v.ownBlock ≠ some j -> v'.ownBlock ≠ some j := fun j hj hne e => by
  rcases hg.moved with e' | ⟨z, e', hz⟩
  ·exact hne (e' ▸ e)
  ·rw [e] at e'; have := Option.some.inj e'; omega
 refine ⟨h1, hlo, fun x hx => ?_, fun x hx j hj => ?_, List.pairwise_append.2 ⟨h.two, List.pairwise_singleton _ _, fun x hx y hy j hj hj' => by obtain rfl := List.mem_singleton.1 hy; exact (hn j hj').2.2 x hx hj⟩⟩
 ·rcases List.mem_append.1 hx with hx | hx
  ·exact (h.each x hx).kept fun k hk' => hk k ((h.each x hx).lt k hk') (h.apart x hx k hk').2
  ·obtain rfl := List.mem_singleton.1 hx
   exact hq.kept fun k hk' => hk k (hq.lt k hk') (hn k hk').2.1
 ·rcases List.mem_append.1 hx with hx | hx
  ·exact ⟨(h.apart x hx j hj).1, hne j ((h.each x hx).lt j hj) (h.apart x hx j hj).2⟩
  ·obtain rfl := List.mem_singleton.1 hx
   exact ⟨(hn j hj).1, hne j (hq.lt j hj) (hn j hj).2.1⟩
def OkQ (q : PV) : Prop := (0 <= q.left /\ q.left <= 2147483647) /\ (-1 <= q.prec /\ q.prec <= 1048576) /\ (∀ s ∈ q.right, (s.1 = 1 ∨ s.1 = 2) /\ 0 <= s.2 /\ s.2 <= 1048576) /\ q.right.length <= 1000000
def GO (B : Nat) (w : World) (v : Value) (l : List ByteArray) : Prop := GS w v l /\ ∀ j, v.ownBlock = some j -> B <= j
theorem GO.kept {B : Nat} {w w' : World} {v : Value} {l : List ByteArray} (h : GO B w v l) (hb : ∀ k, B <= k -> k < w.heap.size -> w'.heap[k]? = w.heap[k]?) : GO B w' v l := ⟨h.1.kept fun k hk => hb k (h.2 k hk) (h.1.lt k hk), h.2⟩
theorem GO.mono {B B' : Nat} {w : World} {v : Value} {l : List ByteArray} (h : GO B w v l) (hB : B' <= B) : GO B' w v l := ⟨h.1, fun j hj => Nat.le_trans hB (h.2 j hj)⟩
theorem PO.mono {B B' : Nat} {w : World} {v : Value} {l : List PV} (h : PO B w v l) (hB : B' <= B) : PO B' w v l := ⟨h.row, fun j hj => Nat.le_trans hB (h.lo j hj), h.each, fun q hq j hj => ⟨Nat.le_trans hB (h.apart q hq j hj).1, (h.apart q hq j hj).2⟩, h.two⟩
theorem LO.mono {B B' : Nat} {w : World} {v : Value} {l : List LV} (h : LO B w v l) (hB : B' <= B) : LO B' w v l := ⟨h.row, fun j hj => Nat.le_trans hB (h.lo j hj), h.each, fun q hq j hj => ⟨Nat.le_trans hB (h.apart q hq j hj).1, (h.apart q hq j hj).2⟩, h.two⟩
structure DG (B : Nat) (w : World) (g : GV) : Prop where
 t : GO B w (.slice g.ta g.ts.length g.tc) g.ts
 n_ : GO B w (.slice g.na g.ns.length g.nc) g.ns
 p : PO B w (.slice g.pa g.ps.length g.pc) g.ps
 l : LO B w (.slice g.la g.ls.length g.lc) g.ls
 tn : ∀ j, (Value.slice g.ta g.ts.length g.tc).ownBlock = some j -> (Value.slice g.na g.ns.length g.nc).ownBlock ≠ some j
structure SameG (g g' : GV) : Prop where
 ts : g'.ts = g.ts
 ns : g'.ns = g.ns
 start : g'.start = g.start
 ps : g'.ps.map PV.core = g.ps.map PV.core
 ls : g'.ls.map LV.core = g.ls.map LV.core
structure OkD (g : GV) : Prop where
 ts : ∀ s ∈ g.ts, s.size <= 65536
 ns : ∀ s ∈ g.ns, s.size <= 65536
 st : 0 <= g.start /\ g.start <= 2147483647
 ps : ∀ s ∈ g.ps, OkQ s
 ls : ∀ s ∈ g.ls, OkW s
 tl : g.ts.length <= 1000000
 nl : g.ns.length <= 1000000
 pl : g.ps.length <= 1000000
 ll : g.ls.length <= 1000000
theorem proCells_get : ∀ (l : List PV) (i : Nat), i < l.length -> (proCells l)[i * 3]? = some (.int .i64 (l.getD i .none).left) /\ (proCells l)[i * 3 + 1]? = some (.slice (l.getD i .none).ra (l.getD i .none).right.length (l.getD i .none).rc) /\ (proCells l)[i * 3 + 2]? = some (.int .i64 (l.getD i .none).prec)
 | [], i, h => by simp at h
 | q :: r, 0, _ => by simp [proCells]
 | q :: r, i + 1, h => by
  have := proCells_get r i (by simpa using h)
  have e : proCells (q :: r) = .int .i64 q.left :: .slice q.ra q.right.length q.rc :: .int .i64 q.prec :: proCells r := rfl
  rw [e, show (i + 1) * 3 = i * 3 + 1 + 1 + 1 by omega]
  simpa using this
theorem levCells_get : ∀ (l : List LV) (i : Nat), i < l.length -> (levCells l)[i * 2]? = some (.int .i64 (l.getD i .none).assoc) /\ (levCells l)[i * 2 + 1]? = some (.slice (l.getD i .none).ta (l.getD i .none).terms.length (l.getD i .none).tc)
 | [], i, h => by simp at h
 | q :: r, 0, _ => by simp [levCells]
 | q :: r, i + 1, h => by
  have := levCells_get r i (by simpa using h)
  have e : levCells (q :: r) = .int .i64 q.assoc :: .slice q.ta q.terms.length q.tc :: levCells r := rfl
  rw [e, show (i + 1) * 2 = i * 2 + 1 + 1 by omega]
  simpa using this
theorem IL.inrowD {w : World} {a : Option Addr} {n c : Nat} {l : List Int} (h : IL w (.slice a n c) l) : InRow w a l := by
 intro hne
 rcases h.2 with ⟨e, h0⟩ | ⟨g, cap, cur, e, h1, h2, h3⟩
 ·exact absurd (List.eq_nil_of_length_eq_zero h0) hne
 ·have hc := fun j x hx => World.ownsRow.cells h (g := g) (by rw [e]; rfl) j x hx
  cases e
  refine ⟨g, 0, rfl, lt_of_block h2, fun i hi => ?_⟩
  have r1 := hc i (.int .i64 (l.getD i 0)) (by simp [List.getD, hi])
  rw [add_none] at r1
  exact r1
theorem PO.at {B : Nat} {w : World} {a : Option Addr} {n c : Nat} {l : List PV} (h : PO B w (.slice a n c) l) : PrRow w a l := by
 refine ⟨fun hne => ?_, fun p hp => (h.each p hp).row⟩
 have hr := h.row
 rcases hr.2 with ⟨e, h0⟩ | ⟨g, cap, cur, e, h1, h2, h3⟩
 ·exact absurd (List.eq_nil_of_length_eq_zero h0) hne
 ·have hc := fun j x hx => World.ownsRow.cells hr (g := g) (by rw [e]; rfl) j x hx
  cases e
  refine ⟨g, 0, rfl, lt_of_block h2, fun i hi => ?_⟩
  obtain ⟨q1, q2, q3⟩ := proCells_get l i hi
  have r1 := hc _ _ q1
  have r2 := hc _ _ q2
  have r3 := hc _ _ q3
  rw [add_none] at r1 r2 r3
  exact ⟨by simpa using r1, by simpa [Nat.add_assoc] using r2, by simpa [Nat.add_assoc] using r3⟩
theorem LO.at {B : Nat} {w : World} {a : Option Addr} {n c : Nat} {l : List LV} (h : LO B w (.slice a n c) l) : LvRow w a l := by
 refine ⟨fun hne => ?_, fun p hp => (h.each p hp).inrowD⟩
 have hr := h.row
 rcases hr.2 with ⟨e, h0⟩ | ⟨g, cap, cur, e, h1, h2, h3⟩
 ·exact absurd (List.eq_nil_of_length_eq_zero h0) hne
 ·have hc := fun j x hx => World.ownsRow.cells hr (g := g) (by rw [e]; rfl) j x hx
  cases e
  refine ⟨g, 0, rfl, lt_of_block h2, fun i hi => ?_⟩
  obtain ⟨q1, q2⟩ := levCells_get l i hi
  have r1 := hc _ _ q1
  have r2 := hc _ _ q2
  rw [add_none] at r1 r2
  exact ⟨by simpa using r1, by simpa [Nat.add_assoc] using r2⟩
theorem PO.cap {B : Nat} {w : World} {a : Option Addr} {n c : Nat} {l : List PV} (h : PO B w (.slice a n c) l) : l.length <= c := by
 rcases h.row.2 with ⟨e, h0⟩ | ⟨g, cap, cur, e, h1, h2, h3, h4⟩
 ·omega
 ·cases e; omega
theorem getD_core {α β : Type} (f : α -> β) (l : List α) (i : Nat) (d : α) : f (l.getD i d) = (l.map f).getD i (f d) := by
 simp only [List.getD, List.getElem?_map]
 cases l[i]? <;> rfl
theorem core_p {g g' : GV} (h : SameG g g') (i : Nat) : (g'.ps.getD i .none).core = (g.ps.getD i .none).core := by
 rw [getD_core PV.core, getD_core PV.core, h.ps]
theorem core_l {g g' : GV} (h : SameG g g') (i : Nat) : (g'.ls.getD i .none).core = (g.ls.getD i .none).core := by
 rw [getD_core LV.core, getD_core LV.core, h.ls]
theorem any_core {α β : Type} (f : α -> β) (p : β -> Bool) (l l' : List α) (h : l'.map f = l.map f) (i : Nat) : ((l'.take i).any fun q => p (f q)) = ((l.take i).any fun q => p (f q)) := by
 have e : ∀ k : List α, ((k.take i).any fun q => p (f q)) = ((k.map f).take i).any p := fun k => by rw [<- List.map_take, List.any_map]; rfl
 rw [e, e, h]
theorem same_prodU {g g' : GV} (h : SameG g g') (i : Nat) : prodU g' i = prodU g i := by
 have hc := core_p h i
 have c1 : (g'.ps.getD i .none).left = (g.ps.getD i .none).left := congrArg (·.1) hc
 have c2 : (g'.ps.getD i .none).right = (g.ps.getD i .none).right := congrArg (·.2.1) hc
 have c3 : (g'.ps.getD i .none).prec = (g.ps.getD i .none).prec := congrArg (·.2.2) hc
 have hn : inN g' = inN g := by funext x; simp only [inN, h.ns]
 have ht : inT g' = inT g := by funext x; simp only [inT, h.ts]
 have hG : inG g' = inG g := by funext x y; simp only [inG, ht, hn]
 have ha := any_core PV.core (fun q => q.1 == (g.ps.getD i .none).left && q.2.1 == (g.ps.getD i .none).right) g.ps g'.ps h.ps i
 unfold prodU
 rw [c1, c2, c3, hn, ht, hG]
 have ha' : ((g'.ps.take i).any fun q => q.left == (g.ps.getD i .none).left && q.right == (g.ps.getD i .none).right) = ((g.ps.take i).any fun q => q.left == (g.ps.getD i .none).left && q.right == (g.ps.getD i .none).right) := ha
 rw [ha']
theorem same_levelU {g g' : GV} (h : SameG g g') (i : Nat) : levelU g' i = levelU g i := by
 have hc := core_l h i
 have c1 : (g'.ls.getD i .none).assoc = (g.ls.getD i .none).assoc := congrArg (·.1) hc
 have c2 : (g'.ls.getD i .none).terms = (g.ls.getD i .none).terms := congrArg (·.2) hc
 have ht : inT g' = inT g := by funext x; simp only [inT, h.ts]
 have hnm : namedU g'.ls i = namedU g.ls i := by
  have e : ∀ k : List LV, namedU k i = ((k.map LV.core).take i).flatMap (·.2) := fun k => by rw [<- List.map_take, List.flatMap_map]; rfl
  rw [e, e, h.ls]
 unfold levelU
 rw [c1, c2, ht, hnm]
theorem same_check {g g' : GV} (h : SameG g g') : checkG g' (checkF g'.ts g'.ns) = checkG g (checkF g.ts g.ns) := by
 have hp : g'.ps.length = g.ps.length := by simpa using congrArg List.length h.ps
 have hl : g'.ls.length = g.ls.length := by simpa using congrArg List.length h.ls
 have hn : inN g' = inN g := by funext x; simp only [inN, h.ns]
 have e1 : prodU g' = prodU g := funext (same_prodU h)
 have e2 : levelU g' = levelU g := funext (same_levelU h)
 unfold checkG
 rw [h.ts, h.ns, h.start, hp, hl, hn, e1, e2]
theorem DG.at {B : Nat} {w : World} {g g' : GV} (h : DG B w g') (hs : SameG g g') (ok : OkD g) : GAt 1048576 w g' /\ g'.ps.length <= g'.pc := by
 have hp : g'.ps.length = g.ps.length := by simpa using congrArg List.length hs.ps
 have hl : g'.ls.length = g.ls.length := by simpa using congrArg List.length hs.ls
 obtain ⟨a1, c1, e1, r1, _⟩ := h.t.1.row
 obtain ⟨a2, c2, e2, r2, _⟩ := h.n_.1.row
 cases e1
 cases e2
 have o1 := ok.tl
 have o2 := ok.nl
 have o3 := ok.pl
 have o4 := ok.ll
 refine ⟨⟨r1, r2, h.p.at, h.l.at, ?_, ?_, by rw [hs.ts]; omega, by rw [hs.ns]; omega, by omega, by omega, ?_, ?_⟩, h.p.cap⟩
 ·rw [hs.ts]; exact fun s m => Nat.le_trans (ok.ts s m) (by unfold maxLen; omega)
 ·rw [hs.ns]; exact fun s m => Nat.le_trans (ok.ns s m) (by unfold maxLen; omega)
 ·intro p hp'
  have : p.core ∈ g.ps.map PV.core := hs.ps ▸ List.mem_map_of_mem hp'
  obtain ⟨q, hq, e⟩ := List.mem_map.1 this
  have e' : q.right = p.right := congrArg (·.2.1) e
  have := (ok.ps q hq).2.2.2
  rw [<- e']; omega
 ·intro p hp'
  have : p.core ∈ g.ls.map LV.core := hs.ls ▸ List.mem_map_of_mem hp'
  obtain ⟨q, hq, e⟩ := List.mem_map.1 this
  have e' : q.terms = p.terms := congrArg (·.2) e
  have := (ok.ls q hq).2.2
  rw [<- e']; omega
abbrev GC : Type := List ByteArray × List ByteArray × Int × List (Int × List (Int × Int) × Int) × List (Int × List Int)
structure Rd {α : Type} (zs : List Int) (R : Nat -> Int -> α × Nat × Int) (f : α -> List Int) : Prop where
 stuck : ∀ p e, e ≠ 0 -> (R p e).2 = (p, e)
 mono : ∀ p e, p <= zs.length -> p <= (R p e).2.1 /\ (R p e).2.1 <= zs.length
 ok : ∀ p, p <= zs.length -> (R p 0).2.2 = 0 -> zs.take (R p 0).2.1 = zs.take p ++ f (R p 0).1
section
variable {α : Type} {zs : List Int} {R : Nat -> Int -> α × Nat × Int} {f : α -> List Int}
theorem Rd.zero (h : Rd zs R f) {p : Nat} {e : Int} (hz : (R p e).2.2 = 0) : e = 0 := by
 by_cases he : e = 0
 ·exact he
 ·rw [h.stuck p e he] at hz; exact hz
end
structure Rd1 {α : Type} (zs : List Int) (R : Nat -> Int -> α × Nat × Int) (f : α -> List Int) : Prop extends Rd zs R f where
 more : ∀ p, p <= zs.length -> (R p 0).2.2 = 0 -> p < (R p 0).2.1
theorem takeS_stuck (zs : List Int) (p : Nat) (e m : Int) (h : e ≠ 0) : C.takeS zs p e m = (0, p, e) := by rw [C.takeS, if_pos h]
theorem rd_take {zs : List Int} (hb : C.isBytes zs) (m : Int) : Rd1 zs (fun p e => C.takeS zs p e m) (fun n => C.enc 10 n) := by
 refine ⟨⟨fun p e h => by show (C.takeS zs p e m).2 = _; rw [takeS_stuck zs p e m h], fun p e hp => ?_, fun p hp h => ?_⟩, fun p hp h => ?_⟩
 ·obtain ⟨n, q, x, ht⟩ : ∃ n q x, C.takeS zs p e m = (n, q, x) := ⟨_, _, _, rfl⟩
  show p <= (C.takeS zs p e m).2.1 /\ (C.takeS zs p e m).2.1 <= zs.length
  by_cases he : e = 0
  ·subst he
   by_cases hx : x = 0
   ·subst hx
    obtain ⟨_, _, _, h4, h5, _⟩ := C.takeS_ok hb hp ht
    rw [ht]; show p <= q /\ q <= _; omega
   ·obtain ⟨_, h2, _⟩ := C.takeS_err hb hp ht hx
    rw [ht]; show p <= q /\ q <= _; omega
  ·rw [takeS_stuck zs p e m he]; exact ⟨Nat.le_refl _, hp⟩
 ·obtain ⟨n, q, x, ht⟩ : ∃ n q x, C.takeS zs p 0 m = (n, q, x) := ⟨_, _, _, rfl⟩
  have hx : x = 0 := by have : (C.takeS zs p 0 m).2.2 = 0 := h; rw [ht] at this; exact this
  subst hx
  show zs.take (C.takeS zs p 0 m).2.1 = _ ++ C.enc 10 (C.takeS zs p 0 m).1
  rw [ht]; exact (C.takeS_ok hb hp ht).2.2.2.2.2
 ·obtain ⟨n, q, x, ht⟩ : ∃ n q x, C.takeS zs p 0 m = (n, q, x) := ⟨_, _, _, rfl⟩
  have hx : x = 0 := by have : (C.takeS zs p 0 m).2.2 = 0 := h; rw [ht] at this; exact this
  subst hx
  show p < (C.takeS zs p 0 m).2.1
  rw [ht]; exact (C.takeS_ok hb hp ht).2.2.2.1
theorem take_range {zs : List Int} (hb : C.isBytes zs) (m : Int) (hm : 0 <= m) (p : Nat) (hp : p <= zs.length) (e : Int) : 0 <= (C.takeS zs p e m).1 /\ (C.takeS zs p e m).1 <= m := by
 obtain ⟨n, q, x, ht⟩ : ∃ n q x, C.takeS zs p e m = (n, q, x) := ⟨_, _, _, rfl⟩
 rw [ht]
 by_cases he : e = 0
 ·subst he
  by_cases hx : x = 0
  ·subst hx
   obtain ⟨h1, h2, _⟩ := C.takeS_ok hb hp ht
   exact ⟨h1, h2⟩
  ·obtain ⟨h1, _, _⟩ := C.takeS_err hb hp ht hx
   show 0 <= n /\ n <= m; omega
 ·rw [takeS_stuck zs p e m he] at ht
  cases ht
  exact ⟨Int.le_refl _, hm⟩
theorem fold_unfold (n : Int) (h : 0 <= n) : C.foldS (C.unfoldS n) = n := by
 unfold C.foldS C.unfoldS
 by_cases h1 : n % 2 = 1
 ·rw [if_pos h1, if_pos (by omega)]; omega
 ·rw [if_neg h1, if_neg (by omega)]; omega
theorem count_take {zs : List Int} {p : Nat} {m n s : Int} (hc : C.countS zs p 1 m = (n, s, 0)) : C.takeS zs p 0 m = (n, p + s.toNat, 0) := by
 rw [C.countS] at hc
 by_cases h1 : (1 : Int) < 1 ∨ m < 0
 ·rw [if_pos h1] at hc; simp at hc
 rw [if_neg h1] at hc
 by_cases h2 : (C.peekS zs p m).2.2 ≠ 0
 ·rw [if_pos h2] at hc
  simp only [Prod.mk.injEq] at hc
  exact absurd hc.2.2 h2
 rw [if_neg h2] at hc
 by_cases h3 : ((zs.length : Int) - p - (C.peekS zs p m).2.1) / 1 < (C.peekS zs p m).1
 ·rw [if_pos h3] at hc; simp at hc
 rw [if_neg h3] at hc
 simp only [Prod.mk.injEq, and_true] at hc
 rw [C.takeS, if_neg (by simp), if_neg h2, hc.1, hc.2]
section
variable {α : Type} {zs : List Int} {R : Nat -> Int -> α × Nat × Int} {f : α -> List Int}
end
def GV.core (g : GV) : GC := (g.ts, g.ns, g.start, g.ps.map PV.core, g.ls.map LV.core)
end Go.Proofs.YtobhemaikomdaaaGreatDoor
