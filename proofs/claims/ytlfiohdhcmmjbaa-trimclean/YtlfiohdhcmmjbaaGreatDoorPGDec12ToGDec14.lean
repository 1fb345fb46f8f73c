import Derived.Test.YtlfiohdhcmmjbaaGreatDoorPReaderToGDec11
import Derived.Test.YtlfiohdhcmmjbaaGreatDoorPGCheckCToGCheckD
namespace Go.Proofs.YtlfiohdhcmmjbaaGreatDoor
set_option linter.unusedVariables false
set_option maxRecDepth 100000
set_option maxHeartbeats 16000000
open Go.RowKit
theorem proCells_get : ∀ (l : List PV) (i : Nat), i < l.length -> (proCells l)[i * 3]? = some (.int .i64 (l.getD i .none).left) /\ (proCells l)[i * 3 + 1]? = some (.slice (l.getD i .none).ra (l.getD i .none).right.length (l.getD i .none).rc) /\ (proCells l)[i * 3 + 2]? = some (.int .i64 (l.getD i .none).prec)
 | [], i, h => by simp at h
 | q :: r, 0, _ => by simp [proCells]
 | q :: r, i + 1, h => by
  have := proCells_get r i (by simpa using h)
  have e : proCells (q :: r) = .int .i64 q.left :: .slice q.ra q.right.length q.rc :: .int .i64 q.prec :: proCells r := rfl
  rw [e, show (i + 1) * 3 = i * 3 + 1 + 1 + 1 by omega]
  simpa using this
theorem levCells_get : ∀ (l : List LV) (i : Nat), i < l.length -> (levCells l)[i * 2]? = some (.int .i64 (l.getD i .none).assoc) /\ (levCells l)[i * 2 + 1]? = some (.slice (l.getD i .none).ta (l.getD i .none).terms.length (l.getD i .none).tc)
 | [], i, h => by simp at h
 | q :: r, 0, _ => by simp [levCells]
 | q :: r, i + 1, h => by
  have := levCells_get r i (by simpa using h)
  have e : levCells (q :: r) = .int .i64 q.assoc :: .slice q.ta q.terms.length q.tc :: levCells r := rfl
  rw [e, show (i + 1) * 2 = i * 2 + 1 + 1 by omega]
  simpa using this
theorem IL.inrowD {w : World} {a : Option Addr} {n c : Nat} {l : List Int} (h : IL w (.slice a n c) l) : InRow w a l := by
 intro hne
 rcases h.2 with ⟨e, h0⟩ | ⟨g, cap, cur, e, h1, h2, h3⟩
 ·exact absurd (List.eq_nil_of_length_eq_zero h0) hne
 ·have hc := fun j x hx => World.ownsRow.cells h (g := g) (by rw [e]; rfl) j x hx
  cases e
  refine ⟨g, 0, rfl, lt_of_block h2, fun i hi => ?_⟩
  have r1 := hc i (.int .i64 (l.getD i 0)) (by simp [List.getD, hi])
  rw [add_none] at r1
  exact r1
theorem PO.at {B : Nat} {w : World} {a : Option Addr} {n c : Nat} {l : List PV} (h : PO B w (.slice a n c) l) : PrRow w a l := by
 refine ⟨fun hne => ?_, fun p hp => (h.each p hp).row⟩
 have hr := h.row
 rcases hr.2 with ⟨e, h0⟩ | ⟨g, cap, cur, e, h1, h2, h3⟩
 ·exact absurd (List.eq_nil_of_length_eq_zero h0) hne
 ·have hc := fun j x hx => World.ownsRow.cells hr (g := g) (by rw [e]; rfl) j x hx
  cases e
  refine ⟨g, 0, rfl, lt_of_block h2, fun i hi => ?_⟩
  obtain ⟨q1, q2, q3⟩ := proCells_get l i hi
  have r1 := hc _ _ q1
  have r2 := hc _ _ q2
  have r3 := hc _ _ q3
  rw [add_none] at r1 r2 r3
  exact ⟨by simpa using r1, by simpa [Nat.add_assoc] using r2, by simpa [Nat.add_assoc] using r3⟩
theorem LO.at {B : Nat} {w : World} {a : Option Addr} {n c : Nat} {l : List LV} (h : LO B w (.slice a n c) l) : LvRow w a l := by
 refine ⟨fun hne => ?_, fun p hp => (h.each p hp).inrowD⟩
 have hr := h.row
 rcases hr.2 with ⟨e, h0⟩ | ⟨g, cap, cur, e, h1, h2, h3⟩
 ·exact absurd (List.eq_nil_of_length_eq_zero h0) hne
 ·have hc := fun j x hx => World.ownsRow.cells hr (g := g) (by rw [e]; rfl) j x hx
  cases e
  refine ⟨g, 0, rfl, lt_of_block h2, fun i hi => ?_⟩
  obtain ⟨q1, q2⟩ := levCells_get l i hi
  have r1 := hc _ _ q1
  have r2 := hc _ _ q2
  rw [add_none] at r1 r2
  exact ⟨by simpa using r1, by simpa [Nat.add_assoc] using r2⟩
theorem PO.cap {B : Nat} {w : World} {a : Option Addr} {n c : Nat} {l : List PV} (h : PO B w (.slice a n c) l) : l.length <= c := by
 rcases h.row.2 with ⟨e, h0⟩ | ⟨g, cap, cur, e, h1, h2, h3, h4⟩
 ·omega
 ·cases e; omega
theorem getD_core {α β : Type} (f : α -> β) (l : List α) (i : Nat) (d : α) : f (l.getD i d) = (l.map f).getD i (f d) := by
 simp only [List.getD, List.getElem?_map]
 cases l[i]? <;> rfl
theorem DG.at {B : Nat} {w : World} {g g' : GV} (h : DG B w g') (hs : SameG g g') (ok : OkD g) : GAt 1048576 w g' /\ g'.ps.length <= g'.pc := by
 have hp : g'.ps.length = g.ps.length := by simpa using congrArg List.length hs.ps
 have hl : g'.ls.length = g.ls.length := by simpa using congrArg List.length hs.ls
 obtain ⟨a1, c1, e1, r1, _⟩ := h.t.1.row
 obtain ⟨a2, c2, e2, r2, _⟩ := h.n_.1.row
 cases e1
 cases e2
 have o1 := ok.tl
 have o2 := ok.nl
 have o3 := ok.pl
 have o4 := ok.ll
 refine ⟨⟨r1, r2, h.p.at, h.l.at, ?_, ?_, by rw [hs.ts]; omega, by rw [hs.ns]; omega, by omega, by omega, ?_, ?_⟩, h.p.cap⟩
 ·rw [hs.ts]; exact fun s m => Nat.le_trans (ok.ts s m) (by unfold maxLen; omega)
 ·rw [hs.ns]; exact fun s m => Nat.le_trans (ok.ns s m) (by unfold maxLen; omega)
 ·intro p hp'
  have : p.core ∈ g.ps.map PV.core := hs.ps ▸ List.mem_map_of_mem hp'
  obtain ⟨q, hq, e⟩ := List.mem_map.1 this
  have e' : q.right = p.right := congrArg (·.2.1) e
  have := (ok.ps q hq).2.2.2
  rw [<- e']; omega
 ·intro p hp'
  have : p.core ∈ g.ls.map LV.core := hs.ls ▸ List.mem_map_of_mem hp'
  obtain ⟨q, hq, e⟩ := List.mem_map.1 this
  have e' : q.terms = p.terms := congrArg (·.2) e
  have := (ok.ls q hq).2.2
  rw [<- e']; omega
theorem DG.kept {B : Nat} {w w' : World} {g : GV} (h : DG B w g) (hb : ∀ k, B <= k -> k < w.heap.size -> w'.heap[k]? = w.heap[k]?) : DG B w' g := ⟨h.t.kept hb, h.n_.kept hb, h.p.kept hb, h.l.kept hb, h.tn⟩
theorem DG.mono {B B' : Nat} {w : World} {g : GV} (h : DG B w g) (hB : B' <= B) : DG B' w g := ⟨h.t.mono hB, h.n_.mono hB, h.p.mono hB, h.l.mono hB, h.tn⟩
end Go.Proofs.YtlfiohdhcmmjbaaGreatDoor
