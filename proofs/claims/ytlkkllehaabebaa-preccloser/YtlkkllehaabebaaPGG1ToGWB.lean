import Derived.Test.YtlkkllehaabebaaPGG0ToGG2
import Derived.Test.YtlkkllehaabebaaPGDec9ToGDec11
import Derived.Test.YtlkkllehaabebaaPRegX
import Derived.Deep.RegionHeld3
import Derived.Test.YtlkkllehaabebaaPGCheckR
namespace Go.Proofs.Ytlkkllehaabebaa
set_option linter.unusedVariables false
set_option maxRecDepth 100000
set_option maxHeartbeats 16000000
open Go.RowKit
theorem pro_get : ∀ (l : List PV) (i : Nat), i < l.length -> (proCells l)[i * 3]? = some (.int .i64 (l.getD i .none).left) /\ (proCells l)[i * 3 + 1]? = some (.slice (l.getD i .none).ra (l.getD i .none).right.length (l.getD i .none).rc) /\ (proCells l)[i * 3 + 2]? = some (.int .i64 (l.getD i .none).prec)
 | [], i, h => by simp at h
 | q :: r, 0, _ => by simp [proCells]
 | q :: r, i + 1, h => by
  have := pro_get r i (by simpa using h)
  have e : proCells (q :: r) = .int .i64 q.left :: .slice q.ra q.right.length q.rc :: .int .i64 q.prec :: proCells r := rfl
  rw [e, show (i + 1) * 3 = i * 3 + 1 + 1 + 1 by omega]
  simpa using this
theorem lev_get : ∀ (l : List LV) (i : Nat), i < l.length -> (levCells l)[i * 2]? = some (.int .i64 (l.getD i .none).assoc) /\ (levCells l)[i * 2 + 1]? = some (.slice (l.getD i .none).ta (l.getD i .none).terms.length (l.getD i .none).tc)
 | [], i, h => by simp at h
 | q :: r, 0, _ => by simp [levCells]
 | q :: r, i + 1, h => by
  have := lev_get r i (by simpa using h)
  have e : levCells (q :: r) = .int .i64 q.assoc :: .slice q.ta q.terms.length q.tc :: levCells r := rfl
  rw [e, show (i + 1) * 2 = i * 2 + 1 + 1 by omega]
  simpa using this
theorem set5 {w : World} {b p : Nat} {o : Obj} (hn : b ≠ p) (h : w.heap[b]? = some o) (i0 i1 i2 i3 i4 : Nat) (v0 v1 v2 v3 v4 : Value) : (((((w.setCell ⟨p, i0, none⟩ v0).setCell ⟨p, i1, none⟩ v1).setCell ⟨p, i2, none⟩ v2).setCell ⟨p, i3, none⟩ v3).setCell ⟨p, i4, none⟩ v4).heap[b]? = some o := by
 rw [Below.heap_setCell _ _ _ _ hn, Below.heap_setCell _ _ _ _ hn, Below.heap_setCell _ _ _ _ hn, Below.heap_setCell _ _ _ _ hn, Below.heap_setCell _ _ _ _ hn]
 exact h
structure GX (w : World) (x : GV) : Prop where
 t : ∃ b, x.ta = some ⟨b, 0, none⟩ /\ TB w b x.ts
 n : ∃ b, x.na = some ⟨b, 0, none⟩ /\ TB w b x.ns
 p : PY w (.slice x.pa x.ps.length x.pc) x.ps
 pe : ∀ p ∈ x.ps, ∃ b, p.ra = some ⟨b, 0, none⟩ /\ YB w b p.right
 l : LY w (.slice x.la x.ls.length x.lc) x.ls
 le : ∀ p ∈ x.ls, ∃ b, p.ta = some ⟨b, 0, none⟩ /\ NB w b p.terms
theorem PY.at {w : World} {a : Option Addr} {n c : Nat} {l : List PV} (hr : PY w (.slice a n c) l) (he : ∀ p ∈ l, SymRow w p.ra p.right) : PrRow w a l := by
 refine ⟨fun hne => ?_, he⟩
 rcases hr.2 with ⟨e, h0⟩ | ⟨g, cap, cur, e, h1, h2, h3⟩
 ·exact absurd (List.eq_nil_of_length_eq_zero h0) hne
 ·have hc := fun j x hx => World.ownsRow.cells hr (g := g) (by rw [e]; rfl) j x hx
  cases e
  refine ⟨g, 0, rfl, lt_of_block h2, fun i hi => ?_⟩
  obtain ⟨q1, q2, q3⟩ := pro_get l i hi
  have r1 := hc _ _ q1
  have r2 := hc _ _ q2
  have r3 := hc _ _ q3
  rw [add_none] at r1 r2 r3
  exact ⟨by simpa using r1, by simpa [Nat.add_assoc] using r2, by simpa [Nat.add_assoc] using r3⟩
theorem LY.at {w : World} {a : Option Addr} {n c : Nat} {l : List LV} (hr : LY w (.slice a n c) l) (he : ∀ p ∈ l, InRow w p.ta p.terms) : LvRow w a l := by
 refine ⟨fun hne => ?_, he⟩
 rcases hr.2 with ⟨e, h0⟩ | ⟨g, cap, cur, e, h1, h2, h3⟩
 ·exact absurd (List.eq_nil_of_length_eq_zero h0) hne
 ·have hc := fun j x hx => World.ownsRow.cells hr (g := g) (by rw [e]; rfl) j x hx
  cases e
  refine ⟨g, 0, rfl, lt_of_block h2, fun i hi => ?_⟩
  obtain ⟨q1, q2⟩ := lev_get l i hi
  have r1 := hc _ _ q1
  have r2 := hc _ _ q2
  rw [add_none] at r1 r2
  exact ⟨by simpa using r1, by simpa [Nat.add_assoc] using r2⟩
theorem PY.cap {w : World} {a : Option Addr} {n c : Nat} {l : List PV} (h : PY w (.slice a n c) l) : l.length <= c := by
 rcases h.2 with ⟨e, h0⟩ | ⟨g, cap, cur, e, h1, h2, h3, h4⟩
 ·omega
 ·cases e; omega
theorem GX.at {w : World} {n : Nat} {g x : GV} (h : GX w x) (hs : SameG g x) {w0 : World} (hg : GAt n w0 g) : GAt n w x /\ x.ps.length <= x.pc := by
 have hp : x.ps.length = g.ps.length := by simpa using congrArg List.length hs.ps
 have hl : x.ls.length = g.ls.length := by simpa using congrArg List.length hs.ls
 obtain ⟨tb, te, tt⟩ := h.t
 obtain ⟨nb, ne, nt⟩ := h.n
 refine ⟨⟨te ▸ tt.row, ne ▸ nt.row, h.p.at fun p hp => ?_, h.l.at fun p hp => ?_, ?_, ?_, by rw [hs.ts]; exact hg.tl, by rw [hs.ns]; exact hg.nl, by rw [hp]; exact hg.pl, by rw [hl]; exact hg.ll, ?_, ?_⟩, h.p.cap⟩
 ·obtain ⟨b, e, y⟩ := h.pe p hp; rw [e]; exact y.row
 ·obtain ⟨b, e, y⟩ := h.le p hp; rw [e]; exact y.row
 ·rw [hs.ts]; exact hg.tz
 ·rw [hs.ns]; exact hg.nz
 ·intro p hp'
  have : p.core ∈ g.ps.map PV.core := hs.ps ▸ List.mem_map_of_mem hp'
  obtain ⟨q, hq, e⟩ := List.mem_map.1 this
  have e' : q.right = p.right := congrArg (·.2.1) e
  rw [<- e']; exact hg.rl q hq
 ·intro p hp'
  have : p.core ∈ g.ls.map LV.core := hs.ls ▸ List.mem_map_of_mem hp'
  obtain ⟨q, hq, e⟩ := List.mem_map.1 this
  have e' : q.terms = p.terms := congrArg (·.2) e
  rw [<- e']; exact hg.vl q hq
theorem GX.later {w w' : World} {x : GV} (h : GX w x) (hb : Below w.heap.size w w') : GX w' x :=
 ⟨by obtain ⟨b, e, y⟩ := h.t; exact ⟨b, e, y.oth (Oth.ofBelow hb)⟩, by obtain ⟨b, e, y⟩ := h.n; exact ⟨b, e, y.oth (Oth.ofBelow hb)⟩, h.p.later hb, fun p hp => by obtain ⟨b, e, y⟩ := h.pe p hp; exact ⟨b, e, y.oth (Oth.ofBelow hb)⟩, h.l.later hb, fun p hp => by obtain ⟨b, e, y⟩ := h.le p hp; exact ⟨b, e, y.oth (Oth.ofBelow hb)⟩⟩
theorem GW.fin {B : Nat} {w0 w : World} {q m1 m2 m4 : Nat} {g : GV} {p t0 n0 : Nat} {P : List PV} {L : List LV} {pa : Option Addr} {pc : Nat} {la : Option Addr} {lc : Nat} {wr : World} (h : GW B w0 w q m1 m2 m4 g p t0 n0 P L pa pc la lc wr) (v0 v1 v2 v3 v4 : Value) :
  GX (((((wr.setCell ⟨w.heap.size + 1, 0, none⟩ v0).setCell ⟨w.heap.size + 1, 1, none⟩ v1).setCell ⟨w.heap.size + 1, 2, none⟩ v2).setCell ⟨w.heap.size + 1, 3, none⟩ v3).setCell ⟨w.heap.size + 1, 4, none⟩ v4) ⟨some ⟨t0, 0, none⟩, g.ts.length + 3, g.ts, some ⟨n0, 0, none⟩, g.ns.length + 3, g.ns, g.start, pa, pc, P, la, lc, L⟩ /\
  HGOut B w0 w (((((wr.setCell ⟨w.heap.size + 1, 0, none⟩ v0).setCell ⟨w.heap.size + 1, 1, none⟩ v1).setCell ⟨w.heap.size + 1, 2, none⟩ v2).setCell ⟨w.heap.size + 1, 3, none⟩ v3).setCell ⟨w.heap.size + 1, 4, none⟩ v4) q m1 m2 m4 := by
 have hb : Below w.heap.size wr (((((wr.setCell ⟨w.heap.size + 1, 0, none⟩ v0).setCell ⟨w.heap.size + 1, 1, none⟩ v1).setCell ⟨w.heap.size + 1, 2, none⟩ v2).setCell ⟨w.heap.size + 1, 3, none⟩ v3).setCell ⟨w.heap.size + 1, 4, none⟩ v4) :=
  (((((Below.refl _ _).setCell (Nat.le_succ _) _).setCell (Nat.le_succ _) _).setCell (Nat.le_succ _) _).setCell (Nat.le_succ _) _).setCell (Nat.le_succ _) _
 have kk : ∀ (k : Nat) (C : Array Value) (t : TypeId), wr.heap[k]? = some (.cells C t (0, 0)) -> t ≠ 26 -> (((((wr.setCell ⟨w.heap.size + 1, 0, none⟩ v0).setCell ⟨w.heap.size + 1, 1, none⟩ v1).setCell ⟨w.heap.size + 1, 2, none⟩ v2).setCell ⟨w.heap.size + 1, 3, none⟩ v3).setCell ⟨w.heap.size + 1, 4, none⟩ v4).heap[k]? = some (.cells C t (0, 0)) := fun k C t hk ht =>
  set5 (fun e => by subst e; rw [h.res] at hk; simp at hk; exact ht hk.2.symm) hk _ _ _ _ _ _ _ _ _ _
 obtain ⟨V, E, hv⟩ := h.hg
 refine ⟨⟨⟨t0, rfl, ?_⟩, ⟨n0, rfl, ?_⟩, ?_, ?_, ?_, ?_⟩, ⟨⟨V, E, hv.kept hb.size (hb.mono h.Bw) fun k C t hk _ _ h3 => (kk k C t hk h3).trans hk.symm⟩, ⟨Nat.le_trans h.sz hb.size, fun b C t hb2 ht => (hb.block b (lt_of_block hb2)).trans (h.ot.blk b C t hb2 ht)⟩, h.bel.trans (hb.mono h.Bw)⟩⟩
 ·obtain ⟨zs, z1, z2⟩ := h.tb; exact ⟨zs, kk _ _ _ z1 (by decide), z2⟩
 ·obtain ⟨zs, z1, z2⟩ := h.nb; exact ⟨zs, kk _ _ _ z1 (by decide), z2⟩
 ·exact row_kept h.py fun k C _ hk => (kk k C _ hk (by decide)).trans hk.symm
 ·intro x hx
  obtain ⟨b, e, zs, z1, z2⟩ := h.pe x hx; exact ⟨b, e, zs, kk _ _ _ z1 (by decide), z2⟩
 ·exact row_kept h.ly fun k C _ hk => (kk k C _ hk (by decide)).trans hk.symm
 ·intro x hx
  obtain ⟨b, e, zs, z1, z2⟩ := h.le x hx; exact ⟨b, e, zs, kk _ _ _ z1 (by decide), z2⟩
theorem GX.oth {w w' : World} {x : GV} (h : GX w x) (ho : Oth w w') : GX w' x :=
 ⟨by obtain ⟨b, e, y⟩ := h.t; exact ⟨b, e, y.oth ho⟩, by obtain ⟨b, e, y⟩ := h.n; exact ⟨b, e, y.oth ho⟩, row_kept h.p fun k C _ hk => ho.blk k C _ hk okT_prod, fun p hp => by obtain ⟨b, e, y⟩ := h.pe p hp; exact ⟨b, e, y.oth ho⟩, row_kept h.l fun k C _ hk => ho.blk k C _ hk okT_lev, fun p hp => by obtain ⟨b, e, y⟩ := h.le p hp; exact ⟨b, e, y.oth ho⟩⟩
theorem GX.kept {w w' : World} {x : GV} (h : GX w x) (hk : ∀ (k : Nat) (C : Array Value) (t : TypeId), w.heap[k]? = some (.cells C t (0, 0)) -> t ≠ 26 -> w'.heap[k]? = w.heap[k]?) : GX w' x := by
 refine ⟨?_, ?_, row_kept h.p fun k C _ hb => hk k C _ hb (by decide), fun p hp => ?_, row_kept h.l fun k C _ hb => hk k C _ hb (by decide), fun p hp => ?_⟩
 ·obtain ⟨b, e, zs, z1, z2⟩ := h.t; exact ⟨b, e, zs, (hk _ _ _ z1 (by decide)).trans z1, z2⟩
 ·obtain ⟨b, e, zs, z1, z2⟩ := h.n; exact ⟨b, e, zs, (hk _ _ _ z1 (by decide)).trans z1, z2⟩
 ·obtain ⟨b, e, zs, z1, z2⟩ := h.pe p hp; exact ⟨b, e, zs, (hk _ _ _ z1 (by decide)).trans z1, z2⟩
 ·obtain ⟨b, e, zs, z1, z2⟩ := h.le p hp; exact ⟨b, e, zs, (hk _ _ _ z1 (by decide)).trans z1, z2⟩
structure TW (g x : GV) (w : World) (V : Nat -> Value) (E : Nat -> List HE) (n1 : Nat) (wr : World) : Prop where
 bel : Below w.heap.size w wr
 box : wr.heap[w.heap.size]? = some (gBox g)
 hg : HG (w.heap.size + 1) (w.alloc (gBox g)) wr (w.heap.size + 1) V E n1 (0 + 2) (0 + g.ps.length)
 same : SameG g x
 gx : GX wr x
theorem blk_later {w w' : World} {b : Nat} {o : Obj} (h : w.heap[b]? = some o) (hb : Below w.heap.size w w') : w'.heap[b]? = some o := (hb.block b (lt_of_block h)).trans h
theorem TW.later {g x : GV} {w wr w' : World} {V : Nat -> Value} {E : Nat -> List HE} {n1 : Nat} (h : TW g x w V E n1 wr) (hb : Below wr.heap.size wr w') : TW g x w V E n1 w' :=
 ⟨h.bel.trans (hb.mono h.bel.size), blk_later h.box hb, h.hg.later hb, h.same, h.gx.later hb⟩
end Go.Proofs.Ytlkkllehaabebaa
