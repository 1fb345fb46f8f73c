import Derived.Test.YtlkkllehaabebabPGG0ToGG2
import Derived.Test.YtlkkllehaabebabPGDec9ToGDec11
import Derived.Test.YtlkkllehaabebabPRegX
import Derived.Deep.RegionHeld3
import Derived.Test.YtlkkllehaabebabPGCheckR
namespace Go.Proofs.Ytlkkllehaabebab
set_option linter.unusedVariables false
set_option maxRecDepth 100000
set_option maxHeartbeats 16000000
open Go.RowKit
theorem pro_get : ∀ (l : List PV) (i : Nat), i < l.length -> (proCells l)[i * 3]? = some (.int .i64 (l.getD i .none).left) /\ (proCells l)[i * 3 + 1]? = some (.slice (l.getD i .none).ra (l.getD i .none).right.length (l.getD i .none).rc) /\ (proCells l)[i * 3 + 2]? = some (.int .i64 (l.getD i .none).prec)
 | [], i, h => by simp at h
 | q :: r, 0, _ => by simp [proCells]
 | q :: r, i + 1, h => by
  have := pro_get r i (by simpa using h)
  have e : proCells (q :: r) = .int .i64 q.left :: .slice q.ra q.right.length q.rc :: .int .i64 q.prec :: proCells r := rfl
  rw [e, show (i + 1) * 3 = i * 3 + 1 + 1 + 1 by omega]
  simpa using this
theorem lev_get : ∀ (l : List LV) (i : Nat), i < l.length -> (levCells l)[i * 2]? = some (.int .i64 (l.getD i .none).assoc) /\ (levCells l)[i * 2 + 1]? = some (.slice (l.getD i .none).ta (l.getD i .none).terms.length (l.getD i .none).tc)
 | [], i, h => by simp at h
 | q :: r, 0, _ => by simp [levCells]
 | q :: r, i + 1, h => by
  have := lev_get r i (by simpa using h)
  have e : levCells (q :: r) = .int .i64 q.assoc :: .slice q.ta q.terms.length q.tc :: levCells r := rfl
  rw [e, show (i + 1) * 2 = i * 2 + 1 + 1 by omega]
  simpa using this
structure GX (w : World) (x : GV) : Prop where
 t : ∃ b, x.ta = some ⟨b, 0, none⟩ /\ TB w b x.ts
 n : ∃ b, x.na = some ⟨b, 0, none⟩ /\ TB w b x.ns
 p : PY w (.slice x.pa x.ps.length x.pc) x.ps
 pe : ∀ p ∈ x.ps, ∃ b, p.ra = some ⟨b, 0, none⟩ /\ YB w b p.right
 l : LY w (.slice x.la x.ls.length x.lc) x.ls
 le : ∀ p ∈ x.ls, ∃ b, p.ta = some ⟨b, 0, none⟩ /\ NB w b p.terms
theorem PY.at {w : World} {a : Option Addr} {n c : Nat} {l : List PV} (hr : PY w (.slice a n c) l) (he : ∀ p ∈ l, SymRow w p.ra p.right) : PrRow w a l := by
 refine ⟨fun hne => ?_, he⟩
 rcases hr.2 with ⟨e, h0⟩ | ⟨g, cap, cur, e, h1, h2, h3⟩
 ·exact absurd (List.eq_nil_of_length_eq_zero h0) hne
 ·have hc := fun j x hx => World.ownsRow.cells hr (g := g) (by rw [e]; rfl) j x hx
  cases e
  refine ⟨g, 0, rfl, lt_of_block h2, fun i hi => ?_⟩
  obtain ⟨q1, q2, q3⟩ := pro_get l i hi
  have r1 := hc _ _ q1
  have r2 := hc _ _ q2
  have r3 := hc _ _ q3
  rw [add_none] at r1 r2 r3
  exact ⟨by simpa using r1, by simpa [Nat.add_assoc] using r2, by simpa [Nat.add_assoc] using r3⟩
theorem LY.at {w : World} {a : Option Addr} {n c : Nat} {l : List LV} (hr : LY w (.slice a n c) l) (he : ∀ p ∈ l, InRow w p.ta p.terms) : LvRow w a l := by
 refine ⟨fun hne => ?_, he⟩
 rcases hr.2 with ⟨e, h0⟩ | ⟨g, cap, cur, e, h1, h2, h3⟩
 ·exact absurd (List.eq_nil_of_length_eq_zero h0) hne
 ·have hc := fun j x hx => World.ownsRow.cells hr (g := g) (by rw [e]; rfl) j x hx
  cases e
  refine ⟨g, 0, rfl, lt_of_block h2, fun i hi => ?_⟩
  obtain ⟨q1, q2⟩ := lev_get l i hi
  have r1 := hc _ _ q1
  have r2 := hc _ _ q2
  rw [add_none] at r1 r2
  exact ⟨by simpa using r1, by simpa [Nat.add_assoc] using r2⟩
theorem PY.cap {w : World} {a : Option Addr} {n c : Nat} {l : List PV} (h : PY w (.slice a n c) l) : l.length <= c := by
 rcases h.2 with ⟨e, h0⟩ | ⟨g, cap, cur, e, h1, h2, h3, h4⟩
 ·omega
 ·cases e; omega
theorem GX.at {w : World} {n : Nat} {g x : GV} (h : GX w x) (hs : SameG g x) {w0 : World} (hg : GAt n w0 g) : GAt n w x /\ x.ps.length <= x.pc := by
 have hp : x.ps.length = g.ps.length := by simpa using congrArg List.length hs.ps
 have hl : x.ls.length = g.ls.length := by simpa using congrArg List.length hs.ls
 obtain ⟨tb, te, tt⟩ := h.t
 obtain ⟨nb, ne, nt⟩ := h.n
 refine ⟨⟨te ▸ tt.row, ne ▸ nt.row, h.p.at fun p hp => ?_, h.l.at fun p hp => ?_, ?_, ?_, by rw [hs.ts]; exact hg.tl, by rw [hs.ns]; exact hg.nl, by rw [hp]; exact hg.pl, by rw [hl]; exact hg.ll, ?_, ?_⟩, h.p.cap⟩
 ·obtain ⟨b, e, y⟩ := h.pe p hp; rw [e]; exact y.row
 ·obtain ⟨b, e, y⟩ := h.le p hp; rw [e]; exact y.row
 ·rw [hs.ts]; exact hg.tz
 ·rw [hs.ns]; exact hg.nz
 ·intro p hp'
  have : p.core ∈ g.ps.map PV.core := hs.ps ▸ List.mem_map_of_mem hp'
  obtain ⟨q, hq, e⟩ := List.mem_map.1 this
  have e' : q.right = p.right := congrArg (·.2.1) e
  rw [<- e']; exact hg.rl q hq
 ·intro p hp'
  have : p.core ∈ g.ls.map LV.core := hs.ls ▸ List.mem_map_of_mem hp'
  obtain ⟨q, hq, e⟩ := List.mem_map.1 this
  have e' : q.terms = p.terms := congrArg (·.2) e
  rw [<- e']; exact hg.vl q hq
theorem GX.kept {w w' : World} {x : GV} (h : GX w x) (hk : ∀ (k : Nat) (C : Array Value) (t : TypeId), w.heap[k]? = some (.cells C t (0, 0)) -> t ≠ 26 -> w'.heap[k]? = w.heap[k]?) : GX w' x := by
 refine ⟨?_, ?_, row_kept h.p fun k C _ hb => hk k C _ hb (by decide), fun p hp => ?_, row_kept h.l fun k C _ hb => hk k C _ hb (by decide), fun p hp => ?_⟩
 ·obtain ⟨b, e, zs, z1, z2⟩ := h.t; exact ⟨b, e, zs, (hk _ _ _ z1 (by decide)).trans z1, z2⟩
 ·obtain ⟨b, e, zs, z1, z2⟩ := h.n; exact ⟨b, e, zs, (hk _ _ _ z1 (by decide)).trans z1, z2⟩
 ·obtain ⟨b, e, zs, z1, z2⟩ := h.pe p hp; exact ⟨b, e, zs, (hk _ _ _ z1 (by decide)).trans z1, z2⟩
 ·obtain ⟨b, e, zs, z1, z2⟩ := h.le p hp; exact ⟨b, e, zs, (hk _ _ _ z1 (by decide)).trans z1, z2⟩
theorem blk_later {w w' : World} {b : Nat} {o : Obj} (h : w.heap[b]? = some o) (hb : Below w.heap.size w w') : w'.heap[b]? = some o := (hb.block b (lt_of_block h)).trans h
def Clr (V : Nat -> Value) (q lo hi : Nat) : Prop := q < lo /\ ∀ i k, (V i).ownBlock = some k -> k < lo ∨ hi <= k
theorem Clr.keep {w w' : World} {q lo hi : Nat} {V V' : Nat -> Value} (h : Clr V q lo hi) (hf : HF w w' q V V') (hs : hi <= w.heap.size) : (∀ k, lo <= k -> k < hi -> w'.heap[k]? = w.heap[k]?) /\ Clr V' q lo hi := by
 refine ⟨fun k h1 h2 => hf.block k (by omega) (by have := h.1; omega) (fun i e => by have := h.2 i k e.symm; omega), h.1, fun i k e => ?_⟩
 rcases hf.mv i k e with r | r
 ·exact h.2 i k r
 ·right; omega
end Go.Proofs.Ytlkkllehaabebab
