import Derived.Test.YtndbdliaidbocaaGreatPGCheckCToGCheckD
import Derived.Test.YtndbdliaidbocaaGreatPGOkToSCheckR
import Derived.Test.YtndbdliaidbocaaGreatPBBaseToGInts
import Derived.Test.YtndbdliaidbocaaGreatPFSetToGIn2
import Derived.Deep.QuietTactic
import Derived.BigQuiet
import Derived.RangeFuncNested
import Derived.RangeFuncLeaves
import Derived.Shelf.Abstract
import Derived.WalkKit
import Derived.OwnWalkIn
import Derived.TacticsInMore
import Derived.LoopNIn
import Derived.LoopIn
import Derived.RangeFuncCalls
namespace Go.Proofs.YtndbdliaidbocaaGreat
set_option linter.unusedVariables false
open Go.RowKit
def KB (w : World) (b : Nat) (K : List Int) : Prop := w.heap[b]? = some (.cells (K.map (Value.int .i64 ·)).toArray 3 (0, 0))
theorem KB.lt {w : World} {b : Nat} {K : List Int} (h : KB w b K) : b < w.heap.size := lt_of_block h
theorem KB.cell {w : World} {b : Nat} {K : List Int} (h : KB w b K) {i : Nat} (hi : i < K.length) : w.cell? ⟨b, i, none⟩ = some (.int .i64 (K.getD i 0)) := by
 rw [cellq_any h]
 simp [List.getD, hi]
theorem KB.free {w : World} {b : Nat} {K : List Int} (h : KB w b K) (i : Nat) : w.frozen? ⟨b, i, none⟩ = false := by
 unfold KB at h
 simp [World.frozen?, h]
theorem KB.set {w : World} {b : Nat} {K : List Int} (h : KB w b K) (i : Nat) (v : Int) : KB (w.setCell ⟨b, i, none⟩ (.int .i64 v)) b (K.set i v) := by
 unfold KB
 rw [heap_set h i (.int .i64 v), List.setIfInBounds_toArray, List.map_set]
theorem KB.kept {w w' : World} {b : Nat} {K : List Int} (h : KB w b K) (hb : w'.heap[b]? = w.heap[b]?) : KB w' b K := hb.trans h
theorem KB.later {w w' : World} {b : Nat} {K : List Int} (h : KB w b K) (hb : Below w.heap.size w w') : KB w' b K := h.kept (hb.block _ h.lt)
theorem KB.row {w : World} {b : Nat} {K : List Int} (h : KB w b K) : InRow w (some ⟨b, 0, none⟩) K := by
 intro _
 refine ⟨b, 0, rfl, h.lt, fun i hi => ?_⟩
 have := h.cell hi
 simpa using this
theorem gb_cells {g : GV} {b : Nat} {w' : World} (h : w'.heap[b]? = some (gBox g)) : w'.cell? ⟨b, 0, none⟩ = some (.slice g.ta g.ts.length g.tc) /\ w'.cell? ⟨b, 1, none⟩ = some (.slice g.na g.ns.length g.nc) /\ w'.cell? ⟨b, 2, none⟩ = some (.int .i64 g.start) /\ w'.cell? ⟨b, 3, none⟩ = some (.slice g.pa g.ps.length g.pc) /\ w'.cell? ⟨b, 4, none⟩ = some (.slice g.la g.ls.length g.lc) :=
 ⟨(cellq_any h).trans rfl, (cellq_any h).trans rfl, (cellq_any h).trans rfl, (cellq_any h).trans rfl, (cellq_any h).trans rfl⟩
structure FG (w : World) (g : GV) : Prop where
 p : PrRow w g.pa g.ps
 nl : 1 <= g.ns.length /\ g.ns.length <= 64
 pl : g.ps.length <= 256
 left : ∀ p ∈ g.ps, 0 <= p.left /\ p.left < g.ns.length
 rl : ∀ p ∈ g.ps, p.right.length <= 16
 sym : ∀ p ∈ g.ps, ∀ s ∈ p.right, (s.1 = 1 /\ 0 <= s.2 /\ s.2 < g.ts.length) ∨ (s.1 = 2 /\ 0 <= s.2 /\ s.2 < g.ns.length)
 tl : 1 <= g.ts.length /\ g.ts.length <= 64
theorem FG.later {w w' : World} {g : GV} (h : FG w g) (hb : Below w.heap.size w w') : FG w' g := ⟨h.p.later hb, h.nl, h.pl, h.left, h.rl, h.sym, h.tl⟩
def BB (w : World) (b : Nat) (L : List Bool) : Prop := w.heap[b]? = some (.cells (L.map Value.bool).toArray 4 (0, 0))
theorem BB.lt {w : World} {b : Nat} {L : List Bool} (h : BB w b L) : b < w.heap.size := lt_of_block h
theorem BB.cell {w : World} {b : Nat} {L : List Bool} (h : BB w b L) {i : Nat} (hi : i < L.length) : w.cell? ⟨b, i, none⟩ = some (.bool (L.getD i false)) := by
 rw [cellq_any h]
 simp [List.getD, hi]
theorem BB.free {w : World} {b : Nat} {L : List Bool} (h : BB w b L) (i : Nat) : w.frozen? ⟨b, i, none⟩ = false := by
 unfold BB at h
 simp [World.frozen?, h]
theorem BB.set {w : World} {b : Nat} {L : List Bool} (h : BB w b L) (i : Nat) (v : Bool) : BB (w.setCell ⟨b, i, none⟩ (.bool v)) b (L.set i v) := by
 unfold BB
 rw [heap_set h i (.bool v), List.setIfInBounds_toArray, List.map_set]
theorem BB.kept {w w' : World} {b : Nat} {L : List Bool} (h : BB w b L) (hb : w'.heap[b]? = w.heap[b]?) : BB w' b L := hb.trans h
theorem BB.later {w w' : World} {b : Nat} {L : List Bool} (h : BB w b L) (hb : Below w.heap.size w w') : BB w' b L := h.kept (hb.block _ h.lt)
theorem IL.inrow {w : World} {a : Option Addr} {c : Nat} {l : List Int} (h : IL w (.slice a l.length c) l) : InRow w a l := by
 intro hne
 rcases h.2 with ⟨e, h0⟩ | ⟨g, cap, cur, e, _, hb, hn, _, hs, ht⟩
 ·exact absurd (List.eq_nil_of_length_eq_zero h0) hne
 ·simp only [Value.slice.injEq] at e
  obtain ⟨rfl, _, rfl⟩ := e
  refine ⟨g, 0, rfl, lt_of_block hb, fun i hi => ?_⟩
  rw [cellq_any hb]
  have e2 : (cur.toList.take (l.length * 1))[i]? = (l.map (Value.int .i64 ·))[i]? := by rw [ht]
  rw [List.getElem?_take_of_lt (by omega)] at e2
  simp only [Array.getElem?_toList] at e2
  rw [Nat.zero_add, e2]
  simp [List.getD, hi]
def setCells (F : List BS) : List Value := F.flatMap fun s => [.int .u64 (s.1 : Int), .int .u64 (s.2 : Int)]
def BRow (w : World) (ao : Option Addr) (L : List Bool) : Prop := L ≠ [] -> ∃ b off, ao = some ⟨b, off, none⟩ /\ b < w.heap.size /\ ∀ i, i < L.length -> w.cell? ⟨b, off + i, none⟩ = some (.bool (L.getD i false))
theorem BRow.later {w w' : World} {ao : Option Addr} {L : List Bool} (h : BRow w ao L) (hb : Below w.heap.size w w') : BRow w' ao L := by
 intro hne
 obtain ⟨b, off, e, h1, h2⟩ := h hne
 exact ⟨b, off, e, Nat.lt_of_lt_of_le h1 hb.size, fun i hi => (hb.cell (p := ⟨b, off + i, none⟩) h1).trans (h2 i hi)⟩
theorem BB.row {w : World} {b : Nat} {L : List Bool} (h : BB w b L) : BRow w (some ⟨b, 0, none⟩) L := by
 intro _
 refine ⟨b, 0, rfl, h.lt, fun i hi => ?_⟩
 have := h.cell hi
 simpa using this
abbrev cv (na : Option Addr) (N : List Bool) (nc fb : Nat) (fc : Nat) : Value := .agg #[.slice na N.length nc, .slice (some ⟨fb, 0, none⟩) N.length fc]
open Go.RowKit Go.Shelf
def KpB (n₀ Bs : Nat) (W W' : World) : Prop := Below n₀ W W' /\ W'.heap[Bs]? = W.heap[Bs]?
def CellsAt (W : World) (B : Nat) (C : Array Value) (t : TypeId) : Prop := W.heap[B]? = some (.cells C t (0, 0))
theorem CellsAt.lt {W : World} {B : Nat} {C : Array Value} {t : TypeId} (h : CellsAt W B C t) : B < W.heap.size := lt_of_block h
theorem CellsAt.kept {W W' : World} {row : Option Nat} {B : Nat} {C : Array Value} {t : TypeId} (h : CellsAt W B C t) (hg : W.grownBy W' row) (hne : some B ≠ row) : CellsAt W' B C t := (hg.block B h.lt hne).trans h
theorem CellsAt.alloc {W : World} {B : Nat} {C : Array Value} {t : TypeId} (h : CellsAt W B C t) (o : Obj) : CellsAt (W.alloc o) B C t := ((below_alloc W o).block _ h.lt).trans h
theorem KpB.t {n₀ Bs : Nat} {A B C : World} (h : KpB n₀ Bs A B) (k : KpB n₀ Bs B C) : KpB n₀ Bs A C := ⟨h.1.trans k.1, k.2.trans h.2⟩
theorem KpB.b {n₀ Bs : Nat} {w : World} (hn : n₀ <= w.heap.size) (hB : Bs < w.heap.size) (W : World) (l : Nat) (o o' : Obj) (hl : w.heap.size <= l) (h : W.heap[l]? = some o) (hc : o.isCells = false) (hk : o.isWalk = false) : KpB n₀ Bs W (W.putObj l o') :=
 ⟨belowK_b hn W l o o' hl h hc hk, World.putObj_heap_other (by omega)⟩
end Go.Proofs.YtndbdliaidbocaaGreat
