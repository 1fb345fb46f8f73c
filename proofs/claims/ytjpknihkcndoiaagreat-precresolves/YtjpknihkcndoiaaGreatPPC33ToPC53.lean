import Derived.Test.YtjpknihkcndoiaaGreatPPC31ToPC32
import Derived.Test.YtjpknihkcndoiaaGreatPGIntactToPC17
import Derived.Test.YtjpknihkcndoiaaGreatPPC49
import Derived.Test.YtjpknihkcndoiaaGreatPPC41ToPC43
import Derived.Test.YtjpknihkcndoiaaGreatPPC25ToPC26
namespace Go.Proofs.YtjpknihkcndoiaaGreat
set_option linter.unusedVariables false
set_option maxRecDepth 100000
set_option maxHeartbeats 16000000
open Go.RowKit Go.Maps
section
variable {B : Nat} {w0 w w' : World} {q : Nat} {V : Nat -> Value} {E : Nat -> List HE} {n1 n2 n4 : Nat}
theorem HG.keptD (h : HG B w0 w q V E n1 n2 n4) (hs : w.heap.size <= w'.heap.size) (hb : Below B w w') (hk : ∀ (k : Nat) (C : Array Value) (t : TypeId), w.heap[k]? = some (.cells C t (0, 0)) -> t ≠ 58 -> w'.heap[k]? = w.heap[k]?) : HG B w0 w' q V E n1 n2 n4 := by
 have ent : ∀ κ, ∀ e ∈ E κ, e.t ≠ 58 := fun κ e he => by
  by_cases k1 : κ = 1
  ·subst k1; rw [(h.st.int e he).1]; decide
  by_cases k2 : κ = 2
  ·subst k2; rw [(h.st.str e he).1]; decide
  by_cases k4 : κ = 4
  ·subst k4; rw [(h.st.sym e he).1]; decide
  rw [h.st.no κ k1 k2 k4] at he; cases he
 have tyn : ∀ i, tyG i ≠ 58 := fun i => by
  unfold tyG
  split
  ·decide
  ·split
   ·decide
   ·split
    ·decide
    ·split <;> decide
 refine ⟨⟨(hk _ _ _ h.inv.hq (by decide)).trans h.inv.hq, fun i => ?_, h.inv.apart, fun κ e he => (h.inv.at_ κ e he).keptBy fun k C hC => hk k C _ hC (ent κ e he), h.inv.tq, h.inv.te⟩, h.lo, h.q, h.bel.trans hb, Nat.le_trans h.sz hs, h.st, h.l1, h.l2, h.l4⟩
 exact row_kept (h.inv.row i) fun k C _ hC => hk k C _ hC (tyn i)
end
theorem nil_own (P : Nat -> Prop) : ∀ j, (Value.slice none 0 0).ownBlock = some j -> P j := fun j e => by
 have h : (none : Option Nat) = some j := e
 cases h
theorem okT_dec : OkT 58 := by unfold OkT; decide
structure OW (g : GV) (l : List DM) (w : World) (k : Nat) (own : List DM) (V : Nat -> Value) (E : Nat -> List HE) (ov : Value) (wr : World) : Prop where
 hg : HG (w.heap.size + 1) (w.alloc (gBox g)) wr (w.heap.size + 1) V E k 0 0
 gb : wr.heap[w.heap.size]? = some (gBox g)
 bel : Below w.heap.size w wr
 ro : RO 58 6 dCells wr ov own
 oo : ∀ j, ov.ownBlock = some j -> w.heap.size + 1 < j
 ds : own.map DM.d = (l.take k).map DM.d
 nb : ∀ x ∈ own, ∃ b, x.ao = some ⟨b, 0, none⟩ /\ NB wr b x.d.drop
theorem app_cells (x : DM) (w : World) (t : TypeId) {n : Nat} (hn : n = w.heap.size) : ∀ (j : Nat) (u : Value), (dCells x)[j]? = some u -> (w.alloc (.cells #[.int .i64 x.d.look, .int .i64 x.d.kind, .int .i64 x.d.prod, .slice x.ao x.d.drop.length x.c, .bool x.d.sd, .int .i64 x.d.lev] t)).cell? ⟨n, j, none⟩ = some u := fun j u hu => by
 subst hn
 rw [cellq_any (heap_alloc_new _ _)]
 match j with
 | 0 => simpa [dCells] using hu
 | 1 => simpa [dCells] using hu
 | 2 => simpa [dCells] using hu
 | 3 => simpa [dCells] using hu
 | 4 => simpa [dCells] using hu
 | 5 => simpa [dCells] using hu
 | j + 6 => simp [dCells] at hu
theorem OW.mid {g : GV} {l : List DM} {w : World} {k : Nat} {own : List DM} {V : Nat -> Value} {E : Nat -> List HE} {ov : Value} {wr : World} (h : OW g l w k own V E ov wr) {C : Array Value} {w2 : World} (ot : Oth (wr.alloc (.cells C 58)) w2) (b2 : Below (w.heap.size + 1) (wr.alloc (.cells C 58)) w2) (v3 : Value) :
  (∀ (b : Nat) (D : Array Value) (t : TypeId), wr.heap[b]? = some (.cells D t (0, 0)) -> OkT t -> (w2.setCell ⟨wr.heap.size, 3, none⟩ v3).heap[b]? = some (.cells D t (0, 0))) /\ Below w.heap.size w (w2.setCell ⟨wr.heap.size, 3, none⟩ v3) /\ wr.heap.size < (w2.setCell ⟨wr.heap.size, 3, none⟩ v3).heap.size := by
 have hn := h.bel.size
 refine ⟨fun b D t hb ht => ?_, ?_, ?_⟩
 ·have h1 : (wr.alloc (.cells C 58)).heap[b]? = some (.cells D t (0, 0)) := blk_later hb (below_alloc _ _)
  have h2 := (ot.blk b D t h1 ht).trans h1
  exact (setj_ne (by have := lt_of_block hb; omega)).trans h2
 ·exact ((h.bel.trans ((below_alloc _ _).mono hn)).trans (b2.mono (by omega))).setCell (p := ⟨wr.heap.size, 3, none⟩) hn _
 ·have := ot.size
  rw [alZ] at this
  have e : (w2.setCell ⟨wr.heap.size, 3, none⟩ v3).heap.size = w2.heap.size := by simp
  omega
theorem OW.ro4 {g : GV} {l : List DM} {w : World} {k : Nat} {own : List DM} {V : Nat -> Value} {E : Nat -> List HE} {ov : Value} {wr : World} (h : OW g l w k own V E ov wr) {C : Array Value} {w2 : World} (ot : Oth (wr.alloc (.cells C 58)) w2) (b2 : Below (w.heap.size + 1) (wr.alloc (.cells C 58)) w2) (v3 : Value) (o4 : Obj) :
  RO 58 6 dCells ((w2.setCell ⟨wr.heap.size, 3, none⟩ v3).alloc o4) ov own := by
 refine RO.later ?_ (below_alloc _ _)
 rcases h.ro.2 with ⟨e, e0⟩ | ⟨b, cp, cur, e, e1, e2, e3⟩
 ·exact ⟨h.ro.1, .inl ⟨e, e0⟩⟩
 ·exact ⟨h.ro.1, .inr ⟨b, cp, cur, e, e1, (h.mid ot b2 v3).1 b cur _ e2 okT_dec, e3⟩⟩
theorem OW.step {g : GV} {l : List DM} {w : World} {k : Nat} {own : List DM} {V V2 : Nat -> Value} {E E2 : Nat -> List HE} {ov v6 : Value} {wr : World} (h : OW g l w k own V E ov wr) (hk : k < l.length) {C : Array Value} {w2 w6 : World} (h2 : HG (w.heap.size + 1) (w.alloc (gBox g)) w2 (w.heap.size + 1) V2 E2 (k + 1) 0 0) (ot : Oth (wr.alloc (.cells C 58)) w2) (b2 : Below (w.heap.size + 1) (wr.alloc (.cells C 58)) w2) {nbk c : Nat} {d : DV} (hd : l[k].d = d) (n2 : NB w2 nbk d.drop) (v3 : Value) (o4 : Obj)
  (hg : Grew ((w2.setCell ⟨wr.heap.size, 3, none⟩ v3).alloc o4) w6 ov v6) (hr : RO 58 6 dCells w6 v6 (own ++ [(⟨d, some ⟨nbk, 0, none⟩, c⟩ : DM)])) : OW g l w (k + 1) (own ++ [(⟨d, some ⟨nbk, 0, none⟩, c⟩ : DM)]) V2 E2 v6 w6 := by
 obtain ⟨m1, m2, m3⟩ := h.mid ot b2 v3
 have hD : w2.heap[wr.heap.size]? = some (.cells C 58 (0, 0)) := (ot.blk _ _ _ (heap_alloc_new _ _) okT_dec).trans (heap_alloc_new _ _)
 have ro4 := h.ro4 ot b2 v3 o4
 have mono : ∀ (b : Nat) (D : Array Value) (t : TypeId), t ≠ 58 -> ((w2.setCell ⟨wr.heap.size, 3, none⟩ v3).alloc o4).heap[b]? = some (.cells D t (0, 0)) -> w6.heap[b]? = some (.cells D t (0, 0)) := fun b D t ht hb => grew_ne hg hb fun e => by
  obtain ⟨cur, fr, q⟩ := ro4.ty e
  rw [hb] at q
  simp at q
  exact ht q.2.1
 have set_ : ∀ (b : Nat) (D : Array Value) (t : TypeId), t ≠ 58 -> w2.heap[b]? = some (.cells D t (0, 0)) -> ((w2.setCell ⟨wr.heap.size, 3, none⟩ v3).alloc o4).heap[b]? = some (.cells D t (0, 0)) := fun b D t ht hb => blk_later ((setj_ne (fun e => by subst e; rw [hD] at hb; simp at hb; exact ht hb.2.symm)).trans hb) (below_alloc _ _)
 have m4 : Below w.heap.size w ((w2.setCell ⟨wr.heap.size, 3, none⟩ v3).alloc o4) := m2.trans ((below_alloc _ _).mono m2.size)
 have oo := h.oo
 refine ⟨?_, ?_, hg.below m4 (Nat.le_refl _) (fun j hj => by have := oo j hj; omega), hr, fun j hj => ?_, ?_, fun x hx => ?_⟩
 ·have q3 : HG (w.heap.size + 1) (w.alloc (gBox g)) (w2.setCell ⟨wr.heap.size, 3, none⟩ v3) (w.heap.size + 1) V2 E2 (k + 1) 0 0 := h2.keptD (by simp) ((Below.refl _ _).setCell (p := ⟨wr.heap.size, 3, none⟩) (by have := h.hg.sz; exact this) _) (fun b D t hb ht => setj_ne (fun e => by subst e; rw [hD] at hb; simp at hb; exact ht hb.2.symm))
  have q4 := q3.later (below_alloc (w2.setCell ⟨wr.heap.size, 3, none⟩ v3) o4)
  refine q4.keptD hg.grown.size (hg.below (Below.refl _ _) q4.sz (fun j hj => by have := oo j hj; omega)) (fun b D t hb ht => ?_)
  exact (mono b D t ht hb).trans hb.symm
 ·exact mono _ _ _ (by decide) (blk_later (m1 _ _ _ h.gb okT_gram) (below_alloc _ _))
 ·have := hg.own (n := w.heap.size + 2) (by have := m4.size; have := lt_of_block h.hg.inv.hq; have := m3; rw [alZ]; omega) (fun j hj => oo j hj) j hj
  omega
 ·rw [List.map_append, h.ds, List.take_succ_eq_append_getElem hk, List.map_append, <- hd]
  rfl
 ·rcases List.mem_append.1 hx with hx | hx
  ·obtain ⟨b, e1, zs, e2, e3⟩ := h.nb x hx
   exact ⟨b, e1, zs, mono _ _ _ (by decide) (blk_later (m1 _ _ _ e2 okT_int) (below_alloc _ _)), e3⟩
  ·obtain rfl : x = (⟨d, some ⟨nbk, 0, none⟩, c⟩ : DM) := by simpa using hx
   obtain ⟨zs, e2, e3⟩ := n2
   exact ⟨nbk, rfl, zs, mono _ _ _ (by decide) (set_ _ _ _ (by decide) e2), e3⟩
theorem RO.drow {w : World} {a : Option Addr} {n c : Nat} {l : List DM} (h : RO 58 6 dCells w (.slice a n c) l) (hr : ∀ x ∈ l, InRow w x.ao x.d.drop) : DRow w a l := by
 refine ⟨fun hn => ?_, hr⟩
 obtain ⟨b, c', e, _, _⟩ := RO.cell (f := dCells) (k := 6) (fun _ => rfl) h (i := 0) (List.length_pos_iff.2 hn)
 have hb : b < w.heap.size := h.lt b (by rw [e]; rfl)
 have ea : a = some ⟨b, 0, none⟩ := by simp only [Value.slice.injEq] at e; exact e.1
 refine ⟨b, 0, ea, hb, fun i hi => ?_⟩
 obtain ⟨b', c2, e', _, hc'⟩ := RO.cell (f := dCells) (k := 6) (fun _ => rfl) h hi
 have eb : b' = b := by rw [e] at e'; simp only [Value.slice.injEq, Option.some.injEq, Addr.mk.injEq] at e'; exact e'.1.1.symm
 subst eb
 have k0 := hc' 0 (by decide)
 have k1 := hc' 1 (by decide)
 have k2 := hc' 2 (by decide)
 have k3 := hc' 3 (by decide)
 have k4 := hc' 4 (by decide)
 have k5 := hc' 5 (by decide)
 simp only [dCells, List.getElem?_cons_zero, List.getElem?_cons_succ, Nat.add_zero] at k0 k1 k2 k3 k4 k5
 rw [Nat.zero_add]
 exact ⟨k0, k1, k2, k3, k4, k5⟩
structure UW (g x : GV) (l own : List DM) (w : World) (V : Nat -> Value) (E : Nat -> List HE) (oa : Option Addr) (wr : World) : Prop where
 bel : Below w.heap.size w wr
 box : wr.heap[w.heap.size]? = some (gBox g)
 hg : HG (w.heap.size + 1) (w.alloc (gBox g)) wr (w.heap.size + 1) V E (l.length + g.ls.length) (0 + 2) (0 + g.ps.length)
 same : SameG g x
 gx : GX wr x
 dr : DRow wr oa own
theorem UW.later {g x : GV} {l own : List DM} {w : World} {V : Nat -> Value} {E : Nat -> List HE} {oa : Option Addr} {wr w' : World} (h : UW g x l own w V E oa wr) (hb : Below wr.heap.size wr w') : UW g x l own w V E oa w' :=
 ⟨h.bel.trans (hb.mono h.bel.size), blk_later h.box hb, h.hg.later hb, h.same, h.gx.later hb, h.dr.later hb⟩
theorem OW.drow {g : GV} {l : List DM} {w : World} {k : Nat} {own : List DM} {V : Nat -> Value} {E : Nat -> List HE} {oa : Option Addr} {n oc : Nat} {wr w' : World} (h : OW g l w k own V E (.slice oa n oc) wr) (ot : Oth wr w') : DRow w' oa own := by
 have ro : RO 58 6 dCells w' (.slice oa n oc) own := by
  rcases h.ro.2 with ⟨e, e0⟩ | ⟨b, cp, cur, e, e1, e2, e3⟩
  ·exact ⟨h.ro.1, .inl ⟨e, e0⟩⟩
  ·exact ⟨h.ro.1, .inr ⟨b, cp, cur, e, e1, (ot.blk b cur _ e2 okT_dec).trans e2, e3⟩⟩
 refine ro.drow fun x hx => ?_
 obtain ⟨b, e, hn⟩ := h.nb x hx
 rw [e]
 exact (hn.oth ot).row
end Go.Proofs.YtjpknihkcndoiaaGreat
namespace Go.Proofs.YtjpknihkcndoiaaGreat
set_option linter.unusedVariables false
set_option maxRecDepth 100000
set_option maxHeartbeats 16000000
open Go.RowKit Go.Maps
theorem RwO.later {n : Nat} {w w' : World} {a : Option Addr} {l : List Int} (h : RwO n w a l) (hb : Below w.heap.size w w') : RwO n w' a l := ⟨h.1.later hb, h.2⟩
theorem D2.rwo {n : Nat} {w : World} {d : DV} {ao : Option Addr} {c : Nat} (h : D2 n w d ao c) : RwO n w ao d.drop := by
 refine ⟨h.row, fun hn => ?_⟩
 rcases h with ⟨h, _⟩ | ⟨b, cur, h1, h2, _⟩
 ·exact absurd h hn
 ·exact ⟨b, 0, h2, h1⟩
theorem box_b {wr w3 : World} {da : Option Addr} {l : List Int} (b3 : Below (wr.drew.alloc dZero).heap.size (wr.drew.alloc dZero) w3) (hr : RwO (wr.drew.alloc dZero).heap.size w3 da l) (v0 v1 v2 v3 v4 v5 : Value) :
  ((((((w3.setCell ⟨wr.heap.size, 0, none⟩ v0).setCell ⟨wr.heap.size, 1, none⟩ v1).setCell ⟨wr.heap.size, 2, none⟩ v2).setCell ⟨wr.heap.size, 3, none⟩ v3).setCell ⟨wr.heap.size, 4, none⟩ v4).setCell ⟨wr.heap.size, 5, none⟩ v5).heap[wr.heap.size]? = some (.cells #[v0, v1, v2, v3, v4, v5] 58 (0, 0)) /\ Below wr.heap.size wr ((((((w3.setCell ⟨wr.heap.size, 0, none⟩ v0).setCell ⟨wr.heap.size, 1, none⟩ v1).setCell ⟨wr.heap.size, 2, none⟩ v2).setCell ⟨wr.heap.size, 3, none⟩ v3).setCell ⟨wr.heap.size, 4, none⟩ v4).setCell ⟨wr.heap.size, 5, none⟩ v5) /\ RwO wr.heap.size ((((((w3.setCell ⟨wr.heap.size, 0, none⟩ v0).setCell ⟨wr.heap.size, 1, none⟩ v1).setCell ⟨wr.heap.size, 2, none⟩ v2).setCell ⟨wr.heap.size, 3, none⟩ v3).setCell ⟨wr.heap.size, 4, none⟩ v4).setCell ⟨wr.heap.size, 5, none⟩ v5) da l /\ w3.heap[wr.heap.size]? = some (.cells #[.int .i64 0, .int .i64 0, .int .i64 0, .slice none 0 0, .bool false, .int .i64 0] 58 (0, 0)) := by
 have hz : w3.heap[wr.heap.size]? = some (.cells #[.int .i64 0, .int .i64 0, .int .i64 0, .slice none 0 0, .bool false, .int .i64 0] 58 (0, 0)) := blk_later (heap_alloc_new wr.drew dZero) b3
 have hs : (wr.drew.alloc dZero).heap.size = wr.heap.size + 1 := alZ wr.drew dZero
 rw [hs] at hr
 have b0 : Below wr.heap.size wr (wr.drew.alloc dZero) := (Below.refl _ _).drew.trans (below_alloc wr.drew dZero)
 obtain ⟨q1, q2, q3⟩ := six_set hz v0 v1 v2 v3 v4 v5
 refine ⟨q1, q3 _ _ (b0.trans (b3.mono b0.size)) (Nat.le_refl _), ⟨fun hn => ?_, fun hn => ?_⟩, hz⟩
 ·obtain ⟨b, off, e, hl, hc⟩ := hr.1 hn
  obtain ⟨j, o2, e2, hj⟩ := hr.2 hn
  rw [e] at e2
  simp only [Option.some.injEq, Addr.mk.injEq] at e2
  have hb : b ≠ wr.heap.size := by omega
  refine ⟨b, off, e, by simp; exact hl, fun i hi => ?_⟩
  have := hc i hi
  unfold World.cell? at this ⊢
  simp only [q2 b hb]
  exact this
 ·obtain ⟨j, o2, e2, hj⟩ := hr.2 hn
  exact ⟨j, o2, e2, by omega⟩
theorem rResolve_P (g : GV) (q : CV) (w : World) (h : GAt 140737488355328 w g) (ok : OkC g) (hl : q.red.length <= 140737488355328) (hr : InRow w q.ra q.red) : Calls Tryz.prog 14 #[g.val, q.val] w (RrO w (rsF g 0 q)) := by
 unfold rsF
 rw [if_neg (by simp)]
 by_cases hc : cfE g q = 0
 ·rw [if_neg (by simpa using hc)]
  by_cases hn : q.shift = -1 ∨ q.red.getD 0 0 = -1
  ·have := rResolve_none g q w h ok hl hr hc hn
   have e : resU g q.look q.shift q.red = noneD q.look := by
    unfold resU
    rw [if_pos]
    rcases hn with hn | hn
    ·exact .inl hn
    ·obtain ⟨_, _, _, _, _, k6, k7⟩ := cf_ok hc ok
     have hp : 0 < q.red.length := by
      by_cases hs : q.shift = -1
      ·have := k6 hs
       omega
      ·exact (k7 hs).1
     exact .inr (by rw [<- hn]; exact mem_getD hp)
   rw [e]
   exact this
  ·exact rResolve_yes g q w h ok hl hr hc (fun e => hn (.inl e)) (fun e => hn (.inr e))
 ·rw [if_pos (by simpa using hc)]
  exact rResolve_no g q w h hl hr hc
structure RM (g : GV) (l : List CV) (w : World) (k : Nat) (own : List DM) (ov : Value) (wr : World) : Prop where
 gb : wr.heap[w.heap.size]? = some (gBox g)
 bel : Below w.heap.size w wr
 ro : RO 58 6 dCells wr ov own
 oo : ∀ j, ov.ownBlock = some j -> w.heap.size < j
 ds : own.map DM.d = (l.take k).map fun x => resU g x.look x.shift x.red
 rw : ∀ x ∈ own, InRow wr x.ao x.d.drop /\ ∀ j off, x.d.drop ≠ [] -> x.ao = some ⟨j, off, none⟩ -> ov.ownBlock ≠ some j
theorem RM.step {g : GV} {l : List CV} {w : World} {k : Nat} {own : List DM} {ov v6 : Value} {wr wc w6 : World} (h : RM g l w k own ov wr) (hk : k < l.length) {q : CV} (hq : l[k] = q) {d : DV} (hd : resU g q.look q.shift q.red = d) (hb : Below wr.heap.size wr wc) {da : Option Addr} {dc : Nat} (hr : RwO wr.heap.size wc da d.drop) {o4 : Obj} (hg : Grew (wc.alloc o4) w6 ov v6) (ho : RO 58 6 dCells w6 v6 (own ++ [(⟨d, da, dc⟩ : DM)])) : RM g l w (k + 1) (own ++ [(⟨d, da, dc⟩ : DM)]) v6 w6 := by
 have hba : Below wr.heap.size wr (wc.alloc o4) := hb.trans ((below_alloc _ _).mono hb.size)
 have hlt := h.ro.lt
 have hsz := hba.size
 have s1 := h.bel.size
 have k0 := lt_of_block h.gb
 have keep : ∀ (a : Option Addr) (m : List Int), InRow (wc.alloc o4) a m -> (∀ j off, m ≠ [] -> a = some ⟨j, off, none⟩ -> ov.ownBlock ≠ some j) -> InRow w6 a m /\ ∀ j off, m ≠ [] -> a = some ⟨j, off, none⟩ -> v6.ownBlock ≠ some j := fun a m hi hne => by
  refine ⟨fun hm => ?_, fun j off hm e hv => ?_⟩
  ·obtain ⟨b, off, e, hl, hc⟩ := hi hm
   have hbl : w6.heap[b]? = (wc.alloc o4).heap[b]? := hg.grown.block b hl (fun e2 => hne b off hm e e2.symm)
   refine ⟨b, off, e, Nat.lt_of_lt_of_le hl hg.grown.size, fun i hi => ?_⟩
   have := hc i hi
   unfold World.cell? at this ⊢
   simp only [hbl]
   exact this
  ·obtain ⟨b, off', e', hl, hc⟩ := hi hm
   rw [e] at e'
   simp only [Option.some.injEq, Addr.mk.injEq] at e'
   rcases hg.moved with e2 | ⟨x, e2, hx⟩
   ·exact hne j off hm e (by rw [<- e2]; exact hv)
   ·rw [e2] at hv
    simp at hv
    omega
 refine ⟨?_, hg.below (h.bel.trans (hba.mono h.bel.size)) (Nat.le_refl _) (fun j hj => Nat.le_of_lt (h.oo j hj)), ho, fun j hj => ?_, ?_, fun x hx => ?_⟩
 ·rw [hg.grown.block _ (by omega) (fun e => by have := h.oo _ e.symm; omega)]
  exact (hba.block _ (by omega)).trans h.gb
 ·have := hg.own (n := w.heap.size + 1) (by omega) (fun j hj => h.oo j hj) j hj
  omega
 ·rw [List.map_append, h.ds, List.take_succ_eq_append_getElem hk, List.map_append]
  simp only [List.map_cons, List.map_nil]
  rw [hq, hd]
 ·rcases List.mem_append.1 hx with hx | hx
  ·obtain ⟨h1, h2⟩ := h.rw x hx
   exact keep _ _ (h1.later hba) h2
  ·obtain rfl : x = (⟨d, da, dc⟩ : DM) := by simpa using hx
   refine keep _ _ (hr.1.later (below_alloc _ _)) (fun j off hm e hv => ?_)
   obtain ⟨j2, o2, e2, hj2⟩ := hr.2 hm
   simp only at e
   rw [e] at e2
   simp only [Option.some.injEq, Addr.mk.injEq] at e2
   have := hlt j hv
   omega
def RrA (g : GV) (l : List CV) (w : World) (e : Ending) (w' : World) : Prop := Below w.heap.size w w' /\
 ((∃ i, ∃ h : i < l.length, (∀ j (hj : j < i), cfE g (l[j]'(by omega)) = 0) /\ cfE g l[i] ≠ 0 /\ e = .returned (.tuple #[.slice none 0 0, .int .i64 (cfE g l[i]), .int .i64 i])) ∨
  ((∀ x ∈ l, cfE g x = 0) /\ ∃ a c own, e = .returned (.tuple #[.slice a l.length c, .int .i64 0, .int .i64 l.length]) /\ own.map DM.d = (l.map fun x => resU g x.look x.shift x.red) /\ DRow w' a own))
set_option linter.unusedSimpArgs false in
theorem rResolveAll_P (g : GV) (ao : Option Addr) (ac : Nat) (l : List CV) (w : World) (h : GAt 140737488355328 w g) (ok : OkC g) (hl : l.length <= 1048576) (hrl : ∀ x ∈ l, x.red.length <= 140737488355328) (hr : CfRow w ao l) :
  Calls Tryz.prog 11 #[g.val, .slice ao l.length ac] w (RrA g l w) := by
 have M0 : Hid (RM g l w 0 [] (.slice none 0 0) (w.alloc (gBox g))) := ⟨heap_alloc_new _ _, below_alloc _ _, RO.nil _, nil_own _, rfl, fun x hx => absurd hx List.not_mem_nil⟩
 have HR : Hid (∀ w', Below w.heap.size w w' -> CfRow w' ao l) := fun w' hb => hr.later hb
 have RC : Hid (∀ w' x, x ∈ l -> Below w.heap.size w w' -> Calls Tryz.prog 14 #[g.val, x.val] w' (RrO w' (rsF g 0 x))) := fun w' x hx hb => rResolve_P g x w' (h.later hb) ok (hrl x hx) ((hr.later hb).rows x hx)
 clear h ok hr hrl
 go_enter Tryz.func11, Tryz.ntmps11
 go_wp2
 go_loopw [7, 8] (fun y z wr => ∃ (k : Nat) (own : List DM) (oa : Option Addr) (oc : Nat), k <= l.length /\ z = .int .i64 (k : Int) /\ y = .slice oa k oc /\ (∀ j (_ : j < k) (hl : j < l.length), cfE g l[j] = 0) /\ RM g l w k own (.slice oa k oc) wr) (fun _ z _ => l.length - (intOf z).toNat)
 case atStart => exact ⟨0, [], none, 0, Nat.zero_le _, rfl, rfl, fun j hj => absurd hj (Nat.not_lt_zero _), M0.out⟩
 case round =>
  clear M0
  obtain ⟨k, own, oa, oc, hk, rfl, rfl, hno, hM⟩ := hrel
  have HN : Hid (∀ j (_ : j < k) (hl : j < l.length), cfE g l[j] = 0) := hno
  have HM : Hid (RM g l w k own (.slice oa k oc) wr) := hM
  clear hno
  by_cases hlt : k < l.length
  ·have klt : (k : Int) < (l.length : Int) := by omega
   obtain ⟨lb, lo, hao, -, -⟩ := (HR.out wr hM.bel).cells (by intro e; rw [e] at hlt; simp at hlt)
   subst hao
   obtain ⟨q, hq⟩ : ∃ q, l[k] = q := ⟨_, rfl⟩
   have HQ : Hid (l[k] = q /\ q ∈ l) := ⟨hq, hq ▸ List.getElem_mem _⟩
   have HS : Hid (∀ w', Below wr.heap.size wr w' -> (fun w' : World => w'.cell? ⟨w.heap.size, 0, none⟩ = some (.slice g.ta g.ts.length g.tc) /\ w'.cell? ⟨w.heap.size, 1, none⟩ = some (.slice g.na g.ns.length g.nc) /\ w'.cell? ⟨w.heap.size, 2, none⟩ = some (.int .i64 g.start) /\ w'.cell? ⟨w.heap.size, 3, none⟩ = some (.slice g.pa g.ps.length g.pc) /\ w'.cell? ⟨w.heap.size, 4, none⟩ = some (.slice g.la g.ls.length g.lc) /\ w'.cell? ⟨lb, lo + k * 4, none⟩ = some (.int .i64 q.st) /\ w'.cell? ⟨lb, lo + k * 4 + 1, none⟩ = some (.int .i64 q.look) /\ w'.cell? ⟨lb, lo + k * 4 + 2, none⟩ = some (.int .i64 q.shift) /\ w'.cell? ⟨lb, lo + k * 4 + 3, none⟩ = some (.slice q.ra q.red.length q.rc)) w') := fun w' hb => by
    have hbw := HM.out.bel.trans (hb.mono HM.out.bel.size)
    obtain ⟨a0, a1, a2, a3, a4⟩ := gb_cells (blk_later HM.out.gb hb)
    obtain ⟨c0, c1, c2, c3⟩ := (HR.out w' hbw).at rfl hlt HQ.out.1
    exact ⟨a0, a1, a2, a3, a4, c0, c1, c2, c3⟩
   obtain ⟨d, er, hder⟩ : ∃ d er, rsF g 0 q = (d, er) := ⟨_, _, rfl⟩
   have CT : Hid (∀ w', Below wr.heap.size wr w' -> Calls Tryz.prog 14 #[g.val, q.val] w' fun e w'' => ∃ ao c, e = .returned (.tuple #[dval d ao c, .int .i64 er]) /\ RwO w'.heap.size w'' ao d.drop /\ Below w'.heap.size w' w'') := fun w' hb => by
    have := RC.out w' q HQ.out.2 (HM.out.bel.trans (hb.mono HM.out.bel.size))
    rw [hder] at this
    exact this
   have HDE : Hid (rsF g 0 q = (d, er)) := hder
   have HLn : Hid (own.length = k) := by have := congrArg List.length HM.out.ds; rw [List.length_map, List.length_map, List.length_take] at this; show _ = _; omega
   clear hM hq hder
   go_upto_region 5 with fail
   go_cut [9, 10] from 11 to 33 (fun z9 z10 wx => ∃ b da dc, z9 = .pointer (some ⟨b, 0, none⟩) /\ z10 = .int .i64 er /\ wx.heap[b]? = some (.cells #[.int .i64 d.look, .int .i64 d.kind, .int .i64 d.prod, .slice da d.drop.length dc, .bool d.sd, .int .i64 d.lev] 58 (0, 0)) /\ wr.heap.size <= b /\ Below wr.heap.size wr wx /\ RwO wr.heap.size wx da d.drop)
   case first =>
    have BDR : Hid (Below wr.heap.size wr wr.drew) := (Below.refl _ _).drew
    have hs : Hid ((fun w' : World => w'.cell? ⟨w.heap.size, 0, none⟩ = some (.slice g.ta g.ts.length g.tc) /\ w'.cell? ⟨w.heap.size, 1, none⟩ = some (.slice g.na g.ns.length g.nc) /\ w'.cell? ⟨w.heap.size, 2, none⟩ = some (.int .i64 g.start) /\ w'.cell? ⟨w.heap.size, 3, none⟩ = some (.slice g.pa g.ps.length g.pc) /\ w'.cell? ⟨w.heap.size, 4, none⟩ = some (.slice g.la g.ls.length g.lc) /\ w'.cell? ⟨lb, lo + k * 4, none⟩ = some (.int .i64 q.st) /\ w'.cell? ⟨lb, lo + k * 4 + 1, none⟩ = some (.int .i64 q.look) /\ w'.cell? ⟨lb, lo + k * 4 + 2, none⟩ = some (.int .i64 q.shift) /\ w'.cell? ⟨lb, lo + k * 4 + 3, none⟩ = some (.slice q.ra q.red.length q.rc)) wr.drew) := HS.out _ BDR.out
    refine wp_region_x (S := fun _ => (fun w' : World => w'.cell? ⟨w.heap.size, 0, none⟩ = some (.slice g.ta g.ts.length g.tc) /\ w'.cell? ⟨w.heap.size, 1, none⟩ = some (.slice g.na g.ns.length g.nc) /\ w'.cell? ⟨w.heap.size, 2, none⟩ = some (.int .i64 g.start) /\ w'.cell? ⟨w.heap.size, 3, none⟩ = some (.slice g.pa g.ps.length g.pc) /\ w'.cell? ⟨w.heap.size, 4, none⟩ = some (.slice g.la g.ls.length g.lc) /\ w'.cell? ⟨lb, lo + k * 4, none⟩ = some (.int .i64 q.st) /\ w'.cell? ⟨lb, lo + k * 4 + 1, none⟩ = some (.int .i64 q.look) /\ w'.cell? ⟨lb, lo + k * 4 + 2, none⟩ = some (.int .i64 q.shift) /\ w'.cell? ⟨lb, lo + k * 4 + 3, none⟩ = some (.slice q.ra q.red.length q.rc))) (by kernel_rfl) ?_
    refine takeF (i := 0) (v := ?_) rfl (by kernel_rfl) (by decide +kernel) (by decide +kernel) (fun _ _ _ h => h) (Or.inl ⟨by rfl, ?_⟩) hs.out ?_
    rotate_left
    ·(intro w hSw; (try dsimp only at hSw); go_simp; try (with_reducible rfl))
    (try simp only [Act.put, lsA, lsZ, lsN])
    refine takeF (i := 1) (v := ?_) rfl (by kernel_rfl) (by decide +kernel) (by decide +kernel) (fun _ _ _ h => h) (Or.inl ⟨by rfl, ?_⟩) hs.out ?_
    rotate_left
    ·(intro w hSw; (try dsimp only at hSw); go_simp; try (with_reducible rfl))
    (try simp only [Act.put, lsA, lsZ, lsN])
    refine takeF (i := 2) (v := ?_) rfl (by kernel_rfl) (by decide +kernel) (by decide +kernel) (fun _ _ _ h => h) (Or.inl ⟨by rfl, ?_⟩) hs.out ?_
    rotate_left
    ·(intro w hSw; (try dsimp only at hSw); go_simp; try (with_reducible rfl))
    (try simp only [Act.put, lsA, lsZ, lsN])
    refine takeF (i := 3) (v := ?_) rfl (by kernel_rfl) (by decide +kernel) (by decide +kernel) (fun _ _ _ h => h) (Or.inl ⟨by rfl, ?_⟩) hs.out ?_
    rotate_left
    ·(intro w hSw; (try dsimp only at hSw); go_simp; try (with_reducible rfl))
    (try simp only [Act.put, lsA, lsZ, lsN])
    refine takeF (i := 4) (v := ?_) rfl (by kernel_rfl) (by decide +kernel) (by decide +kernel) (fun _ _ _ h => h) (Or.inl ⟨by rfl, ?_⟩) hs.out ?_
    rotate_left
    ·(intro w hSw; (try dsimp only at hSw); go_simp; try (with_reducible rfl))
    (try simp only [Act.put, lsA, lsZ, lsN])
    refine pickA (i := 5) (j := 9) (by decide +kernel) rfl rfl (fun K' hK => ?_) (fun K' hK => ?_)
    ·refine step_callX (by rfl) 14 #[g.val, q.val] _ (by apply run_call2 (enters_of Tryz.func14 (by kernel_rfl) rfl) <;> rfl) (CT.out wr.drew BDR.out) ?_
     rintro e w3 ⟨da, dc, rfl, hrow, b3⟩
     have N3 : Hid (RwO wr.heap.size w3 da d.drop /\ Below wr.heap.size wr.drew w3) := ⟨hrow, b3⟩
     have BW3 : Hid (Below wr.heap.size wr w3) := BDR.out.trans b3
     have hs3 : Hid ((fun w' : World => w'.cell? ⟨w.heap.size, 0, none⟩ = some (.slice g.ta g.ts.length g.tc) /\ w'.cell? ⟨w.heap.size, 1, none⟩ = some (.slice g.na g.ns.length g.nc) /\ w'.cell? ⟨w.heap.size, 2, none⟩ = some (.int .i64 g.start) /\ w'.cell? ⟨w.heap.size, 3, none⟩ = some (.slice g.pa g.ps.length g.pc) /\ w'.cell? ⟨w.heap.size, 4, none⟩ = some (.slice g.la g.ls.length g.lc) /\ w'.cell? ⟨lb, lo + k * 4, none⟩ = some (.int .i64 q.st) /\ w'.cell? ⟨lb, lo + k * 4 + 1, none⟩ = some (.int .i64 q.look) /\ w'.cell? ⟨lb, lo + k * 4 + 2, none⟩ = some (.int .i64 q.shift) /\ w'.cell? ⟨lb, lo + k * 4 + 3, none⟩ = some (.slice q.ra q.red.length q.rc)) w3) := HS.out _ BW3.out
     refine ⟨_, rfl, hK.out _ _ hs3.out ?_⟩
     clear hK K' b3 hrow
     (try simp only [Act.put, lsA, lsZ, lsN])
     refine takeF (i := 6) (v := ?_) rfl (by kernel_rfl) (by decide +kernel) (by decide +kernel) (fun _ _ _ h => h) (Or.inl ⟨by rfl, ?_⟩) hs3.out ?_
     rotate_left
     ·(intro w hSw; (try dsimp only at hSw); go_simp; try (with_reducible rfl))
     (try simp only [Act.put, lsA, lsZ, lsN])
     refine takeF (i := 7) (v := ?_) rfl (by kernel_rfl) (by decide +kernel) (by decide +kernel) (fun _ _ _ h => h) (Or.inl ⟨by rfl, ?_⟩) hs3.out ?_
     rotate_left
     ·(intro w hSw; (try dsimp only at hSw); go_simp; try (with_reducible rfl))
     (try simp only [Act.put, lsA, lsZ, lsN])
     refine takeF (i := 8) (v := ?_) rfl (by kernel_rfl) (by decide +kernel) (by decide +kernel) (fun _ _ _ h => h) (Or.inl ⟨by rfl, ?_⟩) hs3.out ?_
     rotate_left
     ·(intro w hSw; (try dsimp only at hSw); go_simp; try (with_reducible rfl))
     (try simp only [Act.put, lsA, lsZ, lsN])
     refine wpAnyX_one (j := 9) (by decide +kernel) rfl (fun K' hK => ?_)
     go_simp
     have BA4 : Hid (Below wr.heap.size wr (w3.alloc dZero)) := BW3.out.trans ((below_alloc _ _).mono BW3.out.size)
     have hz4 : (w3.alloc dZero).heap[w3.heap.size]? = some (.cells #[.int .i64 0, .int .i64 0, .int .i64 0, .slice none 0 0, .bool false, .int .i64 0] 58 (0, 0)) := heap_alloc_new w3 dZero
     obtain ⟨⟨z0, z1, z2, z3, z4, z5⟩, ⟨f0, f1, f2, f3, f4, f5⟩, hzz⟩ := dz_cells hz4
     clear hz4
     refine hK.out _ _ (HS.out _ BA4.out) ?_
     clear hK K'
     (try simp only [Act.put, lsA, lsZ, lsN])
     refine wpAnyX_one (j := 10) (by decide +kernel) rfl (fun K' hK => ?_)
     go_simp
     have BX : Hid ((w3.alloc (.cells #[.int .i64 d.look, .int .i64 d.kind, .int .i64 d.prod, .slice da d.drop.length dc, .bool d.sd, .int .i64 d.lev] 58)).heap[w3.heap.size]? = some (.cells #[.int .i64 d.look, .int .i64 d.kind, .int .i64 d.prod, .slice da d.drop.length dc, .bool d.sd, .int .i64 d.lev] 58 (0, 0)) /\ wr.heap.size <= w3.heap.size /\ Below wr.heap.size wr (w3.alloc (.cells #[.int .i64 d.look, .int .i64 d.kind, .int .i64 d.prod, .slice da d.drop.length dc, .bool d.sd, .int .i64 d.lev] 58)) /\ RwO wr.heap.size (w3.alloc (.cells #[.int .i64 d.look, .int .i64 d.kind, .int .i64 d.prod, .slice da d.drop.length dc, .bool d.sd, .int .i64 d.lev] 58)) da d.drop) := ⟨heap_alloc_new _ _, BW3.out.size, BW3.out.trans ((below_alloc _ _).mono BW3.out.size), N3.out.1.later (below_alloc _ _)⟩
     refine hK.out _ _ (HS.out _ BX.out.2.2.1) ?_
     clear hK K' z0 z1 z2 z3 z4 z5 f0 f1 f2 f3 f4 f5 hzz
     (try simp only [Act.put, lsA, lsZ, lsN])
     refine wpAnyX_one (j := 11) (by decide +kernel) rfl (fun K' hK => ?_)
     go_simp
     refine hK.out _ _ (HS.out _ BX.out.2.2.1) ?_
     clear hK K'
     (try simp only [Act.put, lsA, lsZ, lsN])
     refine wpAnyX_done (by decide +kernel) ?_
     generalize (w3.alloc (.cells #[.int .i64 d.look, .int .i64 d.kind, .int .i64 d.prod, .slice da d.drop.length dc, .bool d.sd, .int .i64 d.lev] 58)) = W4 at *
     go_wp2_with fail
     go_meet
     case rel => exact ⟨_, da, dc, rfl, rfl, BX.out.1, BX.out.2.1, BX.out.2.2.1, BX.out.2.2.2⟩
    ·go_simp
     have BA4 : Hid (Below wr.heap.size wr (wr.drew.alloc dZero)) := BDR.out.trans (below_alloc wr.drew dZero)
     have hs4 : Hid ((fun w' : World => w'.cell? ⟨w.heap.size, 0, none⟩ = some (.slice g.ta g.ts.length g.tc) /\ w'.cell? ⟨w.heap.size, 1, none⟩ = some (.slice g.na g.ns.length g.nc) /\ w'.cell? ⟨w.heap.size, 2, none⟩ = some (.int .i64 g.start) /\ w'.cell? ⟨w.heap.size, 3, none⟩ = some (.slice g.pa g.ps.length g.pc) /\ w'.cell? ⟨w.heap.size, 4, none⟩ = some (.slice g.la g.ls.length g.lc) /\ w'.cell? ⟨lb, lo + k * 4, none⟩ = some (.int .i64 q.st) /\ w'.cell? ⟨lb, lo + k * 4 + 1, none⟩ = some (.int .i64 q.look) /\ w'.cell? ⟨lb, lo + k * 4 + 2, none⟩ = some (.int .i64 q.shift) /\ w'.cell? ⟨lb, lo + k * 4 + 3, none⟩ = some (.slice q.ra q.red.length q.rc)) (wr.drew.alloc dZero)) := HS.out _ BA4.out
     refine hK.out _ _ hs4.out ?_
     clear hK K'
     (try simp only [Act.put, lsA, lsZ, lsN])
     refine wpAnyX_one (j := 5) (by decide +kernel) rfl (fun K' hK => ?_)
     refine step_callX (by rfl) 14 #[g.val, q.val] _ (by apply run_call2 (enters_of Tryz.func14 (by kernel_rfl) rfl) <;> rfl) (CT.out (wr.drew.alloc dZero) BA4.out) ?_
     rintro e w3 ⟨da, dc, rfl, hrow, b3⟩
     have BW3 : Hid (Below wr.heap.size wr w3) := BA4.out.trans (b3.mono BA4.out.size)
     have BXX : Hid (((((((w3.setCell ⟨wr.heap.size, 0, none⟩ (.int .i64 d.look)).setCell ⟨wr.heap.size, 1, none⟩ (.int .i64 d.kind)).setCell ⟨wr.heap.size, 2, none⟩ (.int .i64 d.prod)).setCell ⟨wr.heap.size, 3, none⟩ (.slice da d.drop.length dc)).setCell ⟨wr.heap.size, 4, none⟩ (.bool d.sd)).setCell ⟨wr.heap.size, 5, none⟩ (.int .i64 d.lev)).heap[wr.heap.size]? = some (.cells #[.int .i64 d.look, .int .i64 d.kind, .int .i64 d.prod, .slice da d.drop.length dc, .bool d.sd, .int .i64 d.lev] 58 (0, 0)) /\ Below wr.heap.size wr ((((((w3.setCell ⟨wr.heap.size, 0, none⟩ (.int .i64 d.look)).setCell ⟨wr.heap.size, 1, none⟩ (.int .i64 d.kind)).setCell ⟨wr.heap.size, 2, none⟩ (.int .i64 d.prod)).setCell ⟨wr.heap.size, 3, none⟩ (.slice da d.drop.length dc)).setCell ⟨wr.heap.size, 4, none⟩ (.bool d.sd)).setCell ⟨wr.heap.size, 5, none⟩ (.int .i64 d.lev)) /\ RwO wr.heap.size ((((((w3.setCell ⟨wr.heap.size, 0, none⟩ (.int .i64 d.look)).setCell ⟨wr.heap.size, 1, none⟩ (.int .i64 d.kind)).setCell ⟨wr.heap.size, 2, none⟩ (.int .i64 d.prod)).setCell ⟨wr.heap.size, 3, none⟩ (.slice da d.drop.length dc)).setCell ⟨wr.heap.size, 4, none⟩ (.bool d.sd)).setCell ⟨wr.heap.size, 5, none⟩ (.int .i64 d.lev)) da d.drop /\ w3.heap[wr.heap.size]? = some (.cells #[.int .i64 0, .int .i64 0, .int .i64 0, .slice none 0 0, .bool false, .int .i64 0] 58 (0, 0))) := box_b b3 hrow (.int .i64 d.look) (.int .i64 d.kind) (.int .i64 d.prod) (.slice da d.drop.length dc) (.bool d.sd) (.int .i64 d.lev)
     have hs5 : Hid ((fun w' : World => w'.cell? ⟨w.heap.size, 0, none⟩ = some (.slice g.ta g.ts.length g.tc) /\ w'.cell? ⟨w.heap.size, 1, none⟩ = some (.slice g.na g.ns.length g.nc) /\ w'.cell? ⟨w.heap.size, 2, none⟩ = some (.int .i64 g.start) /\ w'.cell? ⟨w.heap.size, 3, none⟩ = some (.slice g.pa g.ps.length g.pc) /\ w'.cell? ⟨w.heap.size, 4, none⟩ = some (.slice g.la g.ls.length g.lc) /\ w'.cell? ⟨lb, lo + k * 4, none⟩ = some (.int .i64 q.st) /\ w'.cell? ⟨lb, lo + k * 4 + 1, none⟩ = some (.int .i64 q.look) /\ w'.cell? ⟨lb, lo + k * 4 + 2, none⟩ = some (.int .i64 q.shift) /\ w'.cell? ⟨lb, lo + k * 4 + 3, none⟩ = some (.slice q.ra q.red.length q.rc)) w3) := HS.out _ BW3.out
     refine ⟨_, rfl, hK.out _ _ hs5.out ?_⟩
     clear hK K' b3 hrow
     (try simp only [Act.put, lsA, lsZ, lsN])
     refine takeF (i := 6) (v := ?_) rfl (by kernel_rfl) (by decide +kernel) (by decide +kernel) (fun _ _ _ h => h) (Or.inl ⟨by rfl, ?_⟩) hs5.out ?_
     rotate_left
     ·(intro w hSw; (try dsimp only at hSw); go_simp; try (with_reducible rfl))
     (try simp only [Act.put, lsA, lsZ, lsN])
     refine takeF (i := 7) (v := ?_) rfl (by kernel_rfl) (by decide +kernel) (by decide +kernel) (fun _ _ _ h => h) (Or.inl ⟨by rfl, ?_⟩) hs5.out ?_
     rotate_left
     ·(intro w hSw; (try dsimp only at hSw); go_simp; try (with_reducible rfl))
     (try simp only [Act.put, lsA, lsZ, lsN])
     refine takeF (i := 8) (v := ?_) rfl (by kernel_rfl) (by decide +kernel) (by decide +kernel) (fun _ _ _ h => h) (Or.inl ⟨by rfl, ?_⟩) hs5.out ?_
     rotate_left
     ·(intro w hSw; (try dsimp only at hSw); go_simp; try (with_reducible rfl))
     (try simp only [Act.put, lsA, lsZ, lsN])
     obtain ⟨⟨z0, z1, z2, z3, z4, z5⟩, ⟨f0, f1, f2, f3, f4, f5⟩, hzz⟩ := dz_cells BXX.out.2.2.2
     refine wpAnyX_one (j := 10) (by decide +kernel) rfl (fun K' hK => ?_)
     go_simp
     refine hK.out _ _ (HS.out _ BXX.out.2.1) ?_
     clear hK K' z0 z1 z2 z3 z4 z5 f0 f1 f2 f3 f4 f5 hzz
     (try simp only [Act.put, lsA, lsZ, lsN])
     refine wpAnyX_one (j := 11) (by decide +kernel) rfl (fun K' hK => ?_)
     go_simp
     refine hK.out _ _ (HS.out _ BXX.out.2.1) ?_
     clear hK K'
     (try simp only [Act.put, lsA, lsZ, lsN])
     refine wpAnyX_done (by decide +kernel) ?_
     generalize ((((((w3.setCell ⟨wr.heap.size, 0, none⟩ (.int .i64 d.look)).setCell ⟨wr.heap.size, 1, none⟩ (.int .i64 d.kind)).setCell ⟨wr.heap.size, 2, none⟩ (.int .i64 d.prod)).setCell ⟨wr.heap.size, 3, none⟩ (.slice da d.drop.length dc)).setCell ⟨wr.heap.size, 4, none⟩ (.bool d.sd)).setCell ⟨wr.heap.size, 5, none⟩ (.int .i64 d.lev)) = W4 at *
     go_wp2_with fail
     go_meet
     case rel => exact ⟨_, da, dc, rfl, rfl, BXX.out.1, Nat.le_refl _, BXX.out.2.1, BXX.out.2.2.1⟩
   case rest =>
    obtain ⟨b, da, dc, rfl, rfl, hbx, hlb, hbb, hrw⟩ := hcut
    have HX : Hid (wc.heap[b]? = some (.cells #[.int .i64 d.look, .int .i64 d.kind, .int .i64 d.prod, .slice da d.drop.length dc, .bool d.sd, .int .i64 d.lev] 58 (0, 0)) /\ Below wr.heap.size wr wc /\ RwO wr.heap.size wc da d.drop) := ⟨hbx, hbb, hrw⟩
    clear hbx hlb hbb hrw HS CT
    by_cases hc : cfE g q = 0
    ·have e1 : resU g q.look q.shift q.red = d /\ er = 0 := by
      have := HDE.out
      unfold rsF at this
      rw [if_neg (by simp), if_neg (by simpa using hc)] at this
      simp only [Prod.mk.injEq] at this
      exact ⟨this.1, this.2.symm⟩
     obtain ⟨e1, rfl⟩ := e1
     have HR1 : Hid (resU g q.look q.shift q.red = d) := e1
     have HC : Hid (∀ j (_ : j < k + 1) (hl : j < l.length), cfE g l[j] = 0) := fun j hj h' => (Nat.lt_succ_iff_lt_or_eq.1 hj).elim (fun e => HN.out j e h') (fun e => by subst e; rw [HQ.out.1]; exact hc)
     clear hc e1
     have t0 : ((0 : Int) != 0) = false := by decide
     have e0c : wc.cell? ⟨b, 0, none⟩ = some (.int .i64 d.look) := (cellq_any HX.out.1).trans rfl
     have e1c : wc.cell? ⟨b, 1, none⟩ = some (.int .i64 d.kind) := (cellq_any HX.out.1).trans rfl
     have e2c : wc.cell? ⟨b, 2, none⟩ = some (.int .i64 d.prod) := (cellq_any HX.out.1).trans rfl
     have e3c : wc.cell? ⟨b, 3, none⟩ = some (.slice da d.drop.length dc) := (cellq_any HX.out.1).trans rfl
     have e4c : wc.cell? ⟨b, 4, none⟩ = some (.bool d.sd) := (cellq_any HX.out.1).trans rfl
     have e5c : wc.cell? ⟨b, 5, none⟩ = some (.int .i64 d.lev) := (cellq_any HX.out.1).trans rfl
     go_wp2_with (at_builtin; refine wpList_ro_append rkDec rfl _ _ rfl (.slice oa k oc) own rfl ((HM.out.ro.later HX.out.2.1).later (below_alloc _ _)) wc.heap.size 1 ⟨d, da, dc⟩ rfl (app_cells ⟨d, da, dc⟩ _ _ rfl) (by have := HLn.out; omega) ?_; intro a6 n6 c6 w6 ho6 hg6; have O6 : Hid (RM g l w (k + 1) (own ++ [(⟨d, da, dc⟩ : DM)]) (.slice a6 n6 c6) w6) := HM.out.step hlt HQ.out.1 HR1.out HX.out.2.1 HX.out.2.2 hg6 ho6; clear ho6 hg6 e0c e1c e2c e3c e4c e5c)
     have e8 : n6 = k + 1 := by have := O6.out.ro.vn; rw [List.length_append, HLn.out] at this; exact this
     subst e8
     go_wp2
     go_roundw
     case rel => exact ⟨k + 1, _, _, _, by omega, by go_num, rfl, HC.out, O6.out⟩
     case measure => simp [intOf]; omega
    ·have e1 : er = cfE g q := by
      have := HDE.out
      unfold rsF at this
      rw [if_neg (by simp), if_pos (by simpa using hc)] at this
      simp only [Prod.mk.injEq] at this
      exact this.2.symm
     subst e1
     have t0 : (cfE g q != 0) = true := by simpa using hc
     have HC : Hid (cfE g q ≠ 0) := hc
     have HB : Hid (Below w.heap.size w wc) := HM.out.bel.trans (HX.out.2.1.mono HM.out.bel.size)
     clear hc
     go_wp2
     refine bodyPost_ret (v := .tuple #[.slice none 0 0, .int .i64 (cfE g q), .int .i64 k]) (by simp [results, Tryz.results11, go_sem]) rfl ?_
     exact ⟨HB.out, .inl ⟨k, hlt, fun j hj => HN.out j hj _, by rw [HQ.out.1]; exact HC.out, by rw [HQ.out.1]⟩⟩
  ·obtain rfl : k = l.length := by omega
   have klt : ¬ (l.length : Int) < (l.length : Int) := by omega
   have HA : Hid (∀ x ∈ l, cfE g x = 0) := fun x hx => by
    obtain ⟨j, hj, rfl⟩ := List.getElem_of_mem hx
    exact HN.out j hj hj
   clear hM
   go_wp2
   refine bodyPost_ret (v := .tuple #[.slice oa l.length oc, .int .i64 0, .int .i64 l.length]) (by simp [results, Tryz.results11, go_sem]) rfl ?_
   exact ⟨HM.out.bel, .inr ⟨HA.out, oa, oc, own, rfl, by have := HM.out.ds; rwa [List.take_length] at this, HM.out.ro.drow fun x hx => (HM.out.rw x hx).1⟩⟩
end Go.Proofs.YtjpknihkcndoiaaGreat
namespace Go.Proofs.YtjpknihkcndoiaaGreat
set_option linter.unusedVariables false
set_option maxRecDepth 100000
set_option maxHeartbeats 16000000
open Go.RowKit Go.Maps
section
variable {B : Nat} {w0 w w' : World} {q : Nat} {V : Nat -> Value} {E : Nat -> List HE} {n1 n2 n4 : Nat}
theorem HG.keptC (h : HG B w0 w q V E n1 n2 n4) (hs : w.heap.size <= w'.heap.size) (hb : Below B w w') (hk : ∀ (k : Nat) (C : Array Value) (t : TypeId), w.heap[k]? = some (.cells C t (0, 0)) -> t ≠ 44 -> w'.heap[k]? = w.heap[k]?) : HG B w0 w' q V E n1 n2 n4 := by
 have ent : ∀ κ, ∀ e ∈ E κ, e.t ≠ 44 := fun κ e he => by
  by_cases k1 : κ = 1
  ·subst k1; rw [(h.st.int e he).1]; decide
  by_cases k2 : κ = 2
  ·subst k2; rw [(h.st.str e he).1]; decide
  by_cases k4 : κ = 4
  ·subst k4; rw [(h.st.sym e he).1]; decide
  rw [h.st.no κ k1 k2 k4] at he; cases he
 have tyn : ∀ i, tyG i ≠ 44 := fun i => by
  unfold tyG
  split
  ·decide
  ·split
   ·decide
   ·split
    ·decide
    ·split <;> decide
 refine ⟨⟨(hk _ _ _ h.inv.hq (by decide)).trans h.inv.hq, fun i => ?_, h.inv.apart, fun κ e he => (h.inv.at_ κ e he).keptBy fun k C hC => hk k C _ hC (ent κ e he), h.inv.tq, h.inv.te⟩, h.lo, h.q, h.bel.trans hb, Nat.le_trans h.sz hs, h.st, h.l1, h.l2, h.l4⟩
 exact row_kept (h.inv.row i) fun k C _ hC => hk k C _ hC (tyn i)
end
theorem okT_cf : OkT 44 := by unfold OkT; decide
theorem four_set {w : World} {n : Nat} {a0 a1 a2 a3 : Value} {t : TypeId} (h : w.heap[n]? = some (.cells #[a0, a1, a2, a3] t (0, 0))) (v0 v1 v2 v3 : Value) :
  ((((w.setCell ⟨n, 0, none⟩ v0).setCell ⟨n, 1, none⟩ v1).setCell ⟨n, 2, none⟩ v2).setCell ⟨n, 3, none⟩ v3).heap[n]? = some (.cells #[v0, v1, v2, v3] t (0, 0)) /\ (∀ j, j ≠ n -> ((((w.setCell ⟨n, 0, none⟩ v0).setCell ⟨n, 1, none⟩ v1).setCell ⟨n, 2, none⟩ v2).setCell ⟨n, 3, none⟩ v3).heap[j]? = w.heap[j]?) /\ (∀ m w0, Below m w0 w -> m <= n -> Below m w0 ((((w.setCell ⟨n, 0, none⟩ v0).setCell ⟨n, 1, none⟩ v1).setCell ⟨n, 2, none⟩ v2).setCell ⟨n, 3, none⟩ v3)) := by
 refine ⟨(heap_set (heap_set (heap_set (heap_set h 0 v0) 1 v1) 2 v2) 3 v3).trans rfl, fun j hj => ?_, fun m w0 hb hm => ?_⟩
 ·rw [setj_ne hj, setj_ne hj, setj_ne hj, setj_ne hj]
 ·exact (((hb.setCell (p := ⟨n, 0, none⟩) hm _).setCell (p := ⟨n, 1, none⟩) hm _).setCell (p := ⟨n, 2, none⟩) hm _).setCell (p := ⟨n, 3, none⟩) hm _
theorem zc_cells {w : World} {b : Nat} (h : w.heap[b]? = some (.cells #[.int .i64 0, .int .i64 0, .int .i64 0, .slice none 0 0] 44 (0, 0))) :
  (w.cell? ⟨b, 0, none⟩ = some (.int .i64 0) /\ w.cell? ⟨b, 1, none⟩ = some (.int .i64 0) /\ w.cell? ⟨b, 2, none⟩ = some (.int .i64 0) /\ w.cell? ⟨b, 3, none⟩ = some (.slice none 0 0)) /\
  (w.frozen? ⟨b, 0, none⟩ = false /\ w.frozen? ⟨b, 1, none⟩ = false /\ w.frozen? ⟨b, 2, none⟩ = false /\ w.frozen? ⟨b, 3, none⟩ = false) /\ b < w.heap.size :=
 ⟨⟨(cellq_any h).trans rfl, (cellq_any h).trans rfl, (cellq_any h).trans rfl, (cellq_any h).trans rfl⟩, ⟨frostS h 0, frostS h 1, frostS h 2, frostS h 3⟩, lt_of_block h⟩
def GcO (B : Nat) (w0 : World) (q : CV) (gq n1 n2 n4 : Nat) (w : World) (e : Ending) (w' : World) : Prop :=
 e = .returned (.agg #[.int .i64 q.st, .int .i64 q.look, .int .i64 q.shift, .slice (some ⟨w.heap.size + 1 + 1, 0, none⟩) q.red.length (q.red.length + 3)]) /\ (∃ V' E', HG B w0 w' gq V' E' (n1 + 1) n2 n4) /\ Oth w w' /\ Below B w w' /\ NB w' (w.heap.size + 1 + 1) q.red
theorem gc_end {B : Nat} {w0 w w3 : World} {q : CV} {gq n1 n2 n4 : Nat} {V : Nat -> Value} {E : Nat -> List HE} (hB : B <= w.heap.size) (h3 : HG B w0 w3 gq V E (n1 + 1) n2 n4) (o3 : Oth ((w.alloc (.cells #[.int .i64 q.st, .int .i64 q.look, .int .i64 q.shift, .slice q.ra q.red.length q.rc] 44)).alloc (.cells #[.int .i64 0, .int .i64 0, .int .i64 0, .slice none 0 0] 44)) w3) (b3 : Below B ((w.alloc (.cells #[.int .i64 q.st, .int .i64 q.look, .int .i64 q.shift, .slice q.ra q.red.length q.rc] 44)).alloc (.cells #[.int .i64 0, .int .i64 0, .int .i64 0, .slice none 0 0] 44)) w3) (n3 : NB w3 (w.heap.size + 1 + 1) q.red) (v0 v1 v2 v3 : Value) :
  (∃ V' E', HG B w0 ((((w3.setCell ⟨w.heap.size + 1, 0, none⟩ v0).setCell ⟨w.heap.size + 1, 1, none⟩ v1).setCell ⟨w.heap.size + 1, 2, none⟩ v2).setCell ⟨w.heap.size + 1, 3, none⟩ v3) gq V' E' (n1 + 1) n2 n4) /\ Oth w ((((w3.setCell ⟨w.heap.size + 1, 0, none⟩ v0).setCell ⟨w.heap.size + 1, 1, none⟩ v1).setCell ⟨w.heap.size + 1, 2, none⟩ v2).setCell ⟨w.heap.size + 1, 3, none⟩ v3) /\ Below B w ((((w3.setCell ⟨w.heap.size + 1, 0, none⟩ v0).setCell ⟨w.heap.size + 1, 1, none⟩ v1).setCell ⟨w.heap.size + 1, 2, none⟩ v2).setCell ⟨w.heap.size + 1, 3, none⟩ v3) /\ NB ((((w3.setCell ⟨w.heap.size + 1, 0, none⟩ v0).setCell ⟨w.heap.size + 1, 1, none⟩ v1).setCell ⟨w.heap.size + 1, 2, none⟩ v2).setCell ⟨w.heap.size + 1, 3, none⟩ v3) (w.heap.size + 1 + 1) q.red /\ ((((w3.setCell ⟨w.heap.size + 1, 0, none⟩ v0).setCell ⟨w.heap.size + 1, 1, none⟩ v1).setCell ⟨w.heap.size + 1, 2, none⟩ v2).setCell ⟨w.heap.size + 1, 3, none⟩ v3).heap[w.heap.size + 1]? = some (.cells #[v0, v1, v2, v3] 44 (0, 0)) /\ w3.heap[w.heap.size + 1]? = some (.cells #[.int .i64 0, .int .i64 0, .int .i64 0, .slice none 0 0] 44 (0, 0)) /\ w3.heap[w.heap.size]? = some (.cells #[.int .i64 q.st, .int .i64 q.look, .int .i64 q.shift, .slice q.ra q.red.length q.rc] 44 (0, 0)) := by
 have bz : Below w.heap.size w ((w.alloc (.cells #[.int .i64 q.st, .int .i64 q.look, .int .i64 q.shift, .slice q.ra q.red.length q.rc] 44)).alloc (.cells #[.int .i64 0, .int .i64 0, .int .i64 0, .slice none 0 0] 44)) := (below_alloc w _).trans ((below_alloc _ _).mono (below_alloc w _).size)
 have z1 : ((w.alloc (.cells #[.int .i64 q.st, .int .i64 q.look, .int .i64 q.shift, .slice q.ra q.red.length q.rc] 44)).alloc (.cells #[.int .i64 0, .int .i64 0, .int .i64 0, .slice none 0 0] 44)).heap[w.heap.size + 1]? = some (.cells #[.int .i64 0, .int .i64 0, .int .i64 0, .slice none 0 0] 44 (0, 0)) := by
  have := heap_alloc_new (w.alloc (.cells #[.int .i64 q.st, .int .i64 q.look, .int .i64 q.shift, .slice q.ra q.red.length q.rc] 44)) (.cells #[.int .i64 0, .int .i64 0, .int .i64 0, .slice none 0 0] 44)
  rwa [alZ] at this
 have z0 : ((w.alloc (.cells #[.int .i64 q.st, .int .i64 q.look, .int .i64 q.shift, .slice q.ra q.red.length q.rc] 44)).alloc (.cells #[.int .i64 0, .int .i64 0, .int .i64 0, .slice none 0 0] 44)).heap[w.heap.size]? = some (.cells #[.int .i64 q.st, .int .i64 q.look, .int .i64 q.shift, .slice q.ra q.red.length q.rc] 44 (0, 0)) := blk_later (heap_alloc_new w _) (below_alloc _ _)
 have y1 := (o3.blk _ _ _ z1 okT_cf).trans z1
 have y0 := (o3.blk _ _ _ z0 okT_cf).trans z0
 obtain ⟨q1, q2, q3⟩ := four_set y1 v0 v1 v2 v3
 have hne : ∀ (b : Nat) (C : Array Value) (t : TypeId), w3.heap[b]? = some (.cells C t (0, 0)) -> t ≠ 44 -> ((((w3.setCell ⟨w.heap.size + 1, 0, none⟩ v0).setCell ⟨w.heap.size + 1, 1, none⟩ v1).setCell ⟨w.heap.size + 1, 2, none⟩ v2).setCell ⟨w.heap.size + 1, 3, none⟩ v3).heap[b]? = w3.heap[b]? := fun b C t hb ht => q2 b (fun e => by subst e; rw [y1] at hb; simp at hb; exact ht hb.2.symm)
 refine ⟨⟨V, E, h3.keptC (by simp) (q3 _ _ (Below.refl _ _) (by omega)) hne⟩, ⟨?_, fun b C t hb ht => ?_⟩, q3 _ _ ((bz.mono hB).trans b3) (by omega), ?_, q1, y1, y0⟩
 ·have := o3.size
  have h2 := bz.size
  have h5 := (q3 0 w3 (Below.refl 0 w3) (Nat.zero_le _)).size
  omega
 ·have hl := lt_of_block hb
  have h2 := blk_later hb bz
  rw [q2 b (by omega), o3.blk b C t h2 ht, h2, hb]
 ·obtain ⟨zs, e1, e2⟩ := n3
  exact ⟨zs, (hne _ _ _ e1 (by decide)).trans e1, e2⟩
set_option linter.unusedSimpArgs false in
theorem gconf_P {B : Nat} {w0 w : World} {gq : Nat} {V : Nat -> Value} {E : Nat -> List HE} {n1 n2 n4 : Nat} (h : HG B w0 w gq V E n1 n2 n4) (hE : n1 <= 4900000000000) (q : CV) (hl : q.red.length <= 17592186044000) (hr : InRow w q.ra q.red) :
  Calls Tryz.prog 5 #[.pointer (some ⟨gq, 0, none⟩), q.val] w (GcO B w0 q gq n1 n2 n4 w) := by
 have hB := h.sz
 have bz : Below w.heap.size w ((w.alloc (.cells #[.int .i64 q.st, .int .i64 q.look, .int .i64 q.shift, .slice q.ra q.red.length q.rc] 44)).alloc (.cells #[.int .i64 0, .int .i64 0, .int .i64 0, .slice none 0 0] 44)) := (below_alloc w _).trans ((below_alloc _ _).mono (below_alloc w _).size)
 have hz2 : ((w.alloc (.cells #[.int .i64 q.st, .int .i64 q.look, .int .i64 q.shift, .slice q.ra q.red.length q.rc] 44)).alloc (.cells #[.int .i64 0, .int .i64 0, .int .i64 0, .slice none 0 0] 44)).heap.size = w.heap.size + 1 + 1 := by rw [alZ, alZ]
 have X0 : Hid (((w.alloc (.cells #[.int .i64 q.st, .int .i64 q.look, .int .i64 q.shift, .slice q.ra q.red.length q.rc] 44)).alloc (.cells #[.int .i64 0, .int .i64 0, .int .i64 0, .slice none 0 0] 44)).heap[w.heap.size]? = some (.cells #[.int .i64 q.st, .int .i64 q.look, .int .i64 q.shift, .slice q.ra q.red.length q.rc] 44 (0, 0)) /\ Below w.heap.size w ((w.alloc (.cells #[.int .i64 q.st, .int .i64 q.look, .int .i64 q.shift, .slice q.ra q.red.length q.rc] 44)).alloc (.cells #[.int .i64 0, .int .i64 0, .int .i64 0, .slice none 0 0] 44)).drew) := ⟨blk_later (heap_alloc_new w _) (below_alloc _ _), bz.drew⟩
 have IC : Hid (Calls Tryz.prog 18 #[.pointer (some ⟨gq, 0, none⟩), .slice q.ra q.red.length q.rc] ((w.alloc (.cells #[.int .i64 q.st, .int .i64 q.look, .int .i64 q.shift, .slice q.ra q.red.length q.rc] 44)).alloc (.cells #[.int .i64 0, .int .i64 0, .int .i64 0, .slice none 0 0] 44)).drew fun e w3 => e = .returned (.slice (some ⟨w.heap.size + 1 + 1, 0, none⟩) q.red.length (q.red.length + 3)) /\ (∃ V' E', HG B w0 w3 gq V' E' (n1 + 1) n2 n4) /\ Oth ((w.alloc (.cells #[.int .i64 q.st, .int .i64 q.look, .int .i64 q.shift, .slice q.ra q.red.length q.rc] 44)).alloc (.cells #[.int .i64 0, .int .i64 0, .int .i64 0, .slice none 0 0] 44)) w3 /\ Below B ((w.alloc (.cells #[.int .i64 q.st, .int .i64 q.look, .int .i64 q.shift, .slice q.ra q.red.length q.rc] 44)).alloc (.cells #[.int .i64 0, .int .i64 0, .int .i64 0, .slice none 0 0] 44)) w3 /\ NB w3 (w.heap.size + 1 + 1) q.red) := by
  have := hg_intF (h.later bz.drew) hE q.ra q.rc q.red hl (hr.later bz.drew)
  rw [show ((w.alloc (.cells #[.int .i64 q.st, .int .i64 q.look, .int .i64 q.shift, .slice q.ra q.red.length q.rc] 44)).alloc (.cells #[.int .i64 0, .int .i64 0, .int .i64 0, .slice none 0 0] 44)).drew.heap.size = w.heap.size + 1 + 1 from hz2] at this
  exact this.mono fun e w' ⟨a1, ⟨V', E', a2, _⟩, a3, a4, a5⟩ => ⟨a1, ⟨V', E', a2⟩, ⟨a3.size, a3.blk⟩, ⟨a4.os, a4.tape, a4.output, a4.size, a4.block⟩, a5⟩
 have HS : Hid (∀ w', w'.heap[w.heap.size]? = some (.cells #[.int .i64 q.st, .int .i64 q.look, .int .i64 q.shift, .slice q.ra q.red.length q.rc] 44 (0, 0)) -> (fun w' : World => w'.cell? ⟨w.heap.size, 0, none⟩ = some (.int .i64 q.st) /\ w'.cell? ⟨w.heap.size, 1, none⟩ = some (.int .i64 q.look) /\ w'.cell? ⟨w.heap.size, 2, none⟩ = some (.int .i64 q.shift) /\ w'.cell? ⟨w.heap.size, 3, none⟩ = some (.slice q.ra q.red.length q.rc)) w') := fun w' h2 => by
  obtain ⟨b0, b1, b2, b3⟩ := cb_cells (q := q) h2
  exact ⟨b0, b1, b2, b3⟩
 have GE : Hid (∀ w3 V E, HG B w0 w3 gq V E (n1 + 1) n2 n4 -> Oth ((w.alloc (.cells #[.int .i64 q.st, .int .i64 q.look, .int .i64 q.shift, .slice q.ra q.red.length q.rc] 44)).alloc (.cells #[.int .i64 0, .int .i64 0, .int .i64 0, .slice none 0 0] 44)) w3 -> Below B ((w.alloc (.cells #[.int .i64 q.st, .int .i64 q.look, .int .i64 q.shift, .slice q.ra q.red.length q.rc] 44)).alloc (.cells #[.int .i64 0, .int .i64 0, .int .i64 0, .slice none 0 0] 44)) w3 -> NB w3 (w.heap.size + 1 + 1) q.red -> (∃ V' E', HG B w0 ((((w3.setCell ⟨w.heap.size + 1, 0, none⟩ (.int .i64 q.st)).setCell ⟨w.heap.size + 1, 1, none⟩ (.int .i64 q.look)).setCell ⟨w.heap.size + 1, 2, none⟩ (.int .i64 q.shift)).setCell ⟨w.heap.size + 1, 3, none⟩ (.slice (some ⟨w.heap.size + 1 + 1, 0, none⟩) q.red.length (q.red.length + 3))) gq V' E' (n1 + 1) n2 n4) /\ Oth w ((((w3.setCell ⟨w.heap.size + 1, 0, none⟩ (.int .i64 q.st)).setCell ⟨w.heap.size + 1, 1, none⟩ (.int .i64 q.look)).setCell ⟨w.heap.size + 1, 2, none⟩ (.int .i64 q.shift)).setCell ⟨w.heap.size + 1, 3, none⟩ (.slice (some ⟨w.heap.size + 1 + 1, 0, none⟩) q.red.length (q.red.length + 3))) /\ Below B w ((((w3.setCell ⟨w.heap.size + 1, 0, none⟩ (.int .i64 q.st)).setCell ⟨w.heap.size + 1, 1, none⟩ (.int .i64 q.look)).setCell ⟨w.heap.size + 1, 2, none⟩ (.int .i64 q.shift)).setCell ⟨w.heap.size + 1, 3, none⟩ (.slice (some ⟨w.heap.size + 1 + 1, 0, none⟩) q.red.length (q.red.length + 3))) /\ NB ((((w3.setCell ⟨w.heap.size + 1, 0, none⟩ (.int .i64 q.st)).setCell ⟨w.heap.size + 1, 1, none⟩ (.int .i64 q.look)).setCell ⟨w.heap.size + 1, 2, none⟩ (.int .i64 q.shift)).setCell ⟨w.heap.size + 1, 3, none⟩ (.slice (some ⟨w.heap.size + 1 + 1, 0, none⟩) q.red.length (q.red.length + 3))) (w.heap.size + 1 + 1) q.red /\ ((((w3.setCell ⟨w.heap.size + 1, 0, none⟩ (.int .i64 q.st)).setCell ⟨w.heap.size + 1, 1, none⟩ (.int .i64 q.look)).setCell ⟨w.heap.size + 1, 2, none⟩ (.int .i64 q.shift)).setCell ⟨w.heap.size + 1, 3, none⟩ (.slice (some ⟨w.heap.size + 1 + 1, 0, none⟩) q.red.length (q.red.length + 3))).heap[w.heap.size + 1]? = some (.cells #[.int .i64 q.st, .int .i64 q.look, .int .i64 q.shift, .slice (some ⟨w.heap.size + 1 + 1, 0, none⟩) q.red.length (q.red.length + 3)] 44 (0, 0)) /\ w3.heap[w.heap.size + 1]? = some (.cells #[.int .i64 0, .int .i64 0, .int .i64 0, .slice none 0 0] 44 (0, 0)) /\ w3.heap[w.heap.size]? = some (.cells #[.int .i64 q.st, .int .i64 q.look, .int .i64 q.shift, .slice q.ra q.red.length q.rc] 44 (0, 0))) := fun w3 V E a1 a2 a3 a4 => gc_end hB a1 a2 a3 a4 (.int .i64 q.st) (.int .i64 q.look) (.int .i64 q.shift) (.slice (some ⟨w.heap.size + 1 + 1, 0, none⟩) q.red.length (q.red.length + 3))
 clear h hr hB bz hz2
 go_enter Tryz.func5, Tryz.ntmps5
 go_upto_region 1 with fail
 have hs : Hid ((fun w' : World => w'.cell? ⟨w.heap.size, 0, none⟩ = some (.int .i64 q.st) /\ w'.cell? ⟨w.heap.size, 1, none⟩ = some (.int .i64 q.look) /\ w'.cell? ⟨w.heap.size, 2, none⟩ = some (.int .i64 q.shift) /\ w'.cell? ⟨w.heap.size, 3, none⟩ = some (.slice q.ra q.red.length q.rc)) ((w.alloc (.cells #[.int .i64 q.st, .int .i64 q.look, .int .i64 q.shift, .slice q.ra q.red.length q.rc] 44)).alloc (.cells #[.int .i64 0, .int .i64 0, .int .i64 0, .slice none 0 0] 44)).drew) := HS.out _ X0.out.1
 refine wp_region_x (S := fun _ => (fun w' : World => w'.cell? ⟨w.heap.size, 0, none⟩ = some (.int .i64 q.st) /\ w'.cell? ⟨w.heap.size, 1, none⟩ = some (.int .i64 q.look) /\ w'.cell? ⟨w.heap.size, 2, none⟩ = some (.int .i64 q.shift) /\ w'.cell? ⟨w.heap.size, 3, none⟩ = some (.slice q.ra q.red.length q.rc))) (by kernel_rfl) ?_
 refine takeF (i := 0) (v := ?_) rfl (by kernel_rfl) (by decide +kernel) (by decide +kernel) (fun _ _ _ h => h) (Or.inl ⟨by rfl, ?_⟩) hs.out ?_
 rotate_left
 ·(intro w hSw; (try dsimp only at hSw); go_simp; try (with_reducible rfl))
 (try simp only [Act.put, lsA, lsZ, lsN])
 refine takeF (i := 1) (v := ?_) rfl (by kernel_rfl) (by decide +kernel) (by decide +kernel) (fun _ _ _ h => h) (Or.inl ⟨by rfl, ?_⟩) hs.out ?_
 rotate_left
 ·(intro w hSw; (try dsimp only at hSw); go_simp; try (with_reducible rfl))
 (try simp only [Act.put, lsA, lsZ, lsN])
 refine takeF (i := 2) (v := ?_) rfl (by kernel_rfl) (by decide +kernel) (by decide +kernel) (fun _ _ _ h => h) (Or.inl ⟨by rfl, ?_⟩) hs.out ?_
 rotate_left
 ·(intro w hSw; (try dsimp only at hSw); go_simp; try (with_reducible rfl))
 (try simp only [Act.put, lsA, lsZ, lsN])
 refine takeF (i := 3) (v := ?_) rfl (by kernel_rfl) (by decide +kernel) (by decide +kernel) (fun _ _ _ h => h) (Or.inl ⟨by rfl, ?_⟩) hs.out ?_
 rotate_left
 ·(intro w hSw; (try dsimp only at hSw); go_simp; try (with_reducible rfl))
 (try simp only [Act.put, lsA, lsZ, lsN])
 refine takeF (i := 4) (v := ?_) rfl (by kernel_rfl) (by decide +kernel) (by decide +kernel) (fun _ _ _ h => h) (Or.inl ⟨by rfl, ?_⟩) hs.out ?_
 rotate_left
 ·(intro w hSw; (try dsimp only at hSw); go_simp; try (with_reducible rfl))
 (try simp only [Act.put, lsA, lsZ, lsN])
 refine takeF (i := 5) (v := ?_) rfl (by kernel_rfl) (by decide +kernel) (by decide +kernel) (fun _ _ _ h => h) (Or.inl ⟨by rfl, ?_⟩) hs.out ?_
 rotate_left
 ·(intro w hSw; (try dsimp only at hSw); go_simp; try (with_reducible rfl))
 (try simp only [Act.put, lsA, lsZ, lsN])
 refine takeF (i := 6) (v := ?_) rfl (by kernel_rfl) (by decide +kernel) (by decide +kernel) (fun _ _ _ h => h) (Or.inl ⟨by rfl, ?_⟩) hs.out ?_
 rotate_left
 ·(intro w hSw; (try dsimp only at hSw); go_simp; try (with_reducible rfl))
 (try simp only [Act.put, lsA, lsZ, lsN])
 refine takeF (i := 7) (v := ?_) rfl (by kernel_rfl) (by decide +kernel) (by decide +kernel) (fun _ _ _ h => h) (Or.inl ⟨by rfl, ?_⟩) hs.out ?_
 rotate_left
 ·(intro w hSw; (try dsimp only at hSw); go_simp; try (with_reducible rfl))
 (try simp only [Act.put, lsA, lsZ, lsN])
 refine takeF (i := 8) (v := ?_) rfl (by kernel_rfl) (by decide +kernel) (by decide +kernel) (fun _ _ _ h => h) (Or.inl ⟨by rfl, ?_⟩) hs.out ?_
 rotate_left
 ·(intro w hSw; (try dsimp only at hSw); go_simp; try (with_reducible rfl))
 (try simp only [Act.put, lsA, lsZ, lsN])
 refine wpAnyX_one (j := 9) (by decide +kernel) rfl (fun K' hK => ?_)
 refine step_callX (by rfl) 18 #[.pointer (some ⟨gq, 0, none⟩), .slice q.ra q.red.length q.rc] _ (by apply run_call2 (enters_of Tryz.func18 (by kernel_rfl) rfl) <;> rfl) IC.out ?_
 rintro e w3 ⟨rfl, ⟨V3, E3, h3⟩, o3, b3, n3⟩
 have G3 : Hid _ := GE.out w3 V3 E3 h3 o3 b3 n3
 have hs3 : Hid ((fun w' : World => w'.cell? ⟨w.heap.size, 0, none⟩ = some (.int .i64 q.st) /\ w'.cell? ⟨w.heap.size, 1, none⟩ = some (.int .i64 q.look) /\ w'.cell? ⟨w.heap.size, 2, none⟩ = some (.int .i64 q.shift) /\ w'.cell? ⟨w.heap.size, 3, none⟩ = some (.slice q.ra q.red.length q.rc)) w3) := HS.out _ G3.out.2.2.2.2.2.2
 refine ⟨_, rfl, hK.out _ _ hs3.out ?_⟩
 clear hK K' h3 o3 b3 n3
 (try simp only [Act.put, lsA, lsZ, lsN])
 refine takeF (i := 10) (v := ?_) rfl (by kernel_rfl) (by decide +kernel) (by decide +kernel) (fun _ _ _ h => h) (Or.inl ⟨by rfl, ?_⟩) hs3.out ?_
 rotate_left
 ·(intro w hSw; (try dsimp only at hSw); go_simp; try (with_reducible rfl))
 (try simp only [Act.put, lsA, lsZ, lsN])
 obtain ⟨⟨z0, z1, z2, z3⟩, ⟨f0, f1, f2, f3⟩, hzz⟩ := zc_cells G3.out.2.2.2.2.2.1
 refine wpAnyX_one (j := 11) (by decide +kernel) rfl (fun K' hK => ?_)
 go_simp
 have hs5 : Hid ((fun w' : World => w'.cell? ⟨w.heap.size, 0, none⟩ = some (.int .i64 q.st) /\ w'.cell? ⟨w.heap.size, 1, none⟩ = some (.int .i64 q.look) /\ w'.cell? ⟨w.heap.size, 2, none⟩ = some (.int .i64 q.shift) /\ w'.cell? ⟨w.heap.size, 3, none⟩ = some (.slice q.ra q.red.length q.rc)) ((((w3.setCell ⟨w.heap.size + 1, 0, none⟩ (.int .i64 q.st)).setCell ⟨w.heap.size + 1, 1, none⟩ (.int .i64 q.look)).setCell ⟨w.heap.size + 1, 2, none⟩ (.int .i64 q.shift)).setCell ⟨w.heap.size + 1, 3, none⟩ (.slice (some ⟨w.heap.size + 1 + 1, 0, none⟩) q.red.length (q.red.length + 3)))) := HS.out _ ((four_set G3.out.2.2.2.2.2.1 (.int .i64 q.st) (.int .i64 q.look) (.int .i64 q.shift) (.slice (some ⟨w.heap.size + 1 + 1, 0, none⟩) q.red.length (q.red.length + 3))).2.1 _ (by omega) |>.trans G3.out.2.2.2.2.2.2)
 refine hK.out _ _ hs5.out ?_
 clear hK K' z0 z1 z2 z3 f0 f1 f2 f3 hzz hs5
 (try simp only [Act.put, lsA, lsZ, lsN])
 refine wpAnyX_done (by decide +kernel) ?_
 obtain ⟨g1, g2, g3, g4, g5, -, -⟩ := G3.out
 clear G3 GE IC HS hs hs3 X0
 generalize ((((w3.setCell ⟨w.heap.size + 1, 0, none⟩ (.int .i64 q.st)).setCell ⟨w.heap.size + 1, 1, none⟩ (.int .i64 q.look)).setCell ⟨w.heap.size + 1, 2, none⟩ (.int .i64 q.shift)).setCell ⟨w.heap.size + 1, 3, none⟩ (.slice (some ⟨w.heap.size + 1 + 1, 0, none⟩) q.red.length (q.red.length + 3))) = W4 at *
 have r0 : W4.cell? ⟨w.heap.size + 1, 0, none⟩ = some (.int .i64 q.st) := (cellq_any g5).trans rfl
 have r1 : W4.cell? ⟨w.heap.size + 1, 1, none⟩ = some (.int .i64 q.look) := (cellq_any g5).trans rfl
 have r2 : W4.cell? ⟨w.heap.size + 1, 2, none⟩ = some (.int .i64 q.shift) := (cellq_any g5).trans rfl
 have r3 : W4.cell? ⟨w.heap.size + 1, 3, none⟩ = some (.slice (some ⟨w.heap.size + 1 + 1, 0, none⟩) q.red.length (q.red.length + 3)) := (cellq_any g5).trans rfl
 have GG : Hid ((∃ V' E', HG B w0 W4 gq V' E' (n1 + 1) n2 n4) /\ Oth w W4 /\ Below B w W4 /\ NB W4 (w.heap.size + 1 + 1) q.red) := ⟨g1, g2, g3, g4⟩
 clear g1 g2 g3 g4 g5
 go_wp2
 refine bodyPost_ret (v := .agg #[.int .i64 q.st, .int .i64 q.look, .int .i64 q.shift, .slice (some ⟨w.heap.size + 1 + 1, 0, none⟩) q.red.length (q.red.length + 3)]) (by simp [results, Tryz.results5, go_sem, r0, r1, r2, r3]) rfl ?_
 exact ⟨rfl, GG.out⟩
end Go.Proofs.YtjpknihkcndoiaaGreat
namespace Go.Proofs.YtjpknihkcndoiaaGreat
set_option linter.unusedVariables false
set_option maxRecDepth 100000
set_option maxHeartbeats 16000000
open Go.RowKit Go.Maps
def cfC (x : CV) : List Value := [.int .i64 x.st, .int .i64 x.look, .int .i64 x.shift, .slice x.ra x.red.length x.rc]
theorem rkCf : RK 44 27 4 cfC := by
 refine ⟨Tryz.underlying27, ?_, by decide, fun _ => rfl, fun x u hu => ?_⟩
 ·have h : (Tryz.prog.info? 44).map (fun i => (i.zero, i.size, i.bytes)) = some (some (.agg #[.int .i64 0, .int .i64 0, .int .i64 0, .slice none 0 0]), 4, 48) := by kernel_rfl
  cases e : Tryz.prog.info? 44 with
  | none => rw [e] at h; cases h
  | some i =>
   rw [e] at h
   simp at h
   exact ⟨i, _, rfl, h.1, h.2.1, by rw [h.2.2]; decide, rfl⟩
 ·simp only [cfC, List.mem_cons, List.not_mem_nil, or_false] at hu
  rcases hu with rfl | rfl | rfl | rfl <;> rfl
def cvK (x : CV) : Int × Int × Int × List Int := (x.st, x.look, x.shift, x.red)
theorem cfE_same {g x : GV} (h : SameG g x) {a b : CV} (e : cvK a = cvK b) : cfE x a = cfE g b := by
 unfold cvK at e
 simp only [Prod.mk.injEq] at e
 obtain ⟨-, e1, e2, e3⟩ := e
 unfold cfE rngU cflU
 have ho : (oddU x) = (oddU g) := by
  funext p
  unfold oddU
  rw [same_len h]
 rw [e1, e2, e3, ho, h.ts]
theorem resU_same {g x : GV} (h : SameG g x) {a b : CV} (e : cvK a = cvK b) : resU x a.look a.shift a.red = resU g b.look b.shift b.red := by
 unfold cvK at e
 simp only [Prod.mk.injEq] at e
 obtain ⟨-, e1, e2, e3⟩ := e
 unfold resU
 rw [e1, e2, e3]
 have : (fun p : Int => decU x p.toNat b.look) = fun p : Int => decU g p.toNat b.look := by
  funext p
  exact same_decU h _ _
 rw [this]
theorem rsF_same {g x : GV} (h : SameG g x) {a b : CV} (e : cvK a = cvK b) (er : Int) : rsF x er a = rsF g er b := by
 unfold rsF
 rw [cfE_same h e, resU_same h e]
theorem GX.keptX {w w' : World} {x : GV} (h : GX w x) (hk : ∀ (k : Nat) (C : Array Value) (t : TypeId), w.heap[k]? = some (.cells C t (0, 0)) -> t ≠ 44 -> w'.heap[k]? = w.heap[k]?) : GX w' x := by
 refine ⟨?_, ?_, row_kept h.p fun k C _ hb => hk k C _ hb (by decide), fun p hp => ?_, row_kept h.l fun k C _ hb => hk k C _ hb (by decide), fun p hp => ?_⟩
 ·obtain ⟨b, e, zs, z1, z2⟩ := h.t; exact ⟨b, e, zs, (hk _ _ _ z1 (by decide)).trans z1, z2⟩
 ·obtain ⟨b, e, zs, z1, z2⟩ := h.n; exact ⟨b, e, zs, (hk _ _ _ z1 (by decide)).trans z1, z2⟩
 ·obtain ⟨b, e, zs, z1, z2⟩ := h.pe p hp; exact ⟨b, e, zs, (hk _ _ _ z1 (by decide)).trans z1, z2⟩
 ·obtain ⟨b, e, zs, z1, z2⟩ := h.le p hp; exact ⟨b, e, zs, (hk _ _ _ z1 (by decide)).trans z1, z2⟩
structure CW (g x : GV) (l : List CV) (w : World) (xb k : Nat) (own : List CV) (V : Nat -> Value) (E : Nat -> List HE) (ov : Value) (wr : World) : Prop where
 hg : HG (w.heap.size + 1) (w.alloc (gBox g)) wr (w.heap.size + 1) V E (0 + g.ls.length + k) (0 + 2) (0 + g.ps.length)
 gb : wr.heap[w.heap.size]? = some (gBox g)
 xb : wr.heap[xb]? = some (gBox x)
 bel : Below w.heap.size w wr
 same : SameG g x
 gx : GX wr x
 ro : RO 44 4 cfC wr ov own
 oo : ∀ j, ov.ownBlock = some j -> w.heap.size + 1 < j
 ds : own.map cvK = (l.take k).map cvK
 nb : ∀ y ∈ own, ∃ b, y.ra = some ⟨b, 0, none⟩ /\ NB wr b y.red
theorem cf_cell (x : CV) (w : World) (t : TypeId) {n : Nat} (hn : n = w.heap.size) : ∀ (j : Nat) (u : Value), (cfC x)[j]? = some u -> (w.alloc (.cells #[.int .i64 x.st, .int .i64 x.look, .int .i64 x.shift, .slice x.ra x.red.length x.rc] t)).cell? ⟨n, j, none⟩ = some u := fun j u hu => by
 subst hn
 rw [cellq_any (heap_alloc_new _ _)]
 match j with
 | 0 => simpa [cfC] using hu
 | 1 => simpa [cfC] using hu
 | 2 => simpa [cfC] using hu
 | 3 => simpa [cfC] using hu
 | j + 4 => simp [cfC] at hu
theorem CW.ro4 {g x : GV} {l : List CV} {w : World} {xb k : Nat} {own : List CV} {V : Nat -> Value} {E : Nat -> List HE} {ov : Value} {wr w2 : World} (h : CW g x l w xb k own V E ov wr) (ot : Oth wr w2) : RO 44 4 cfC w2 ov own := by
 rcases h.ro.2 with ⟨e, e0⟩ | ⟨b, cp, cur, e, e1, e2, e3⟩
 ·exact ⟨h.ro.1, .inl ⟨e, e0⟩⟩
 ·exact ⟨h.ro.1, .inr ⟨b, cp, cur, e, e1, (ot.blk b cur _ e2 okT_cf).trans e2, e3⟩⟩
theorem CW.step {g x : GV} {l : List CV} {w : World} {xb k : Nat} {own : List CV} {V V2 : Nat -> Value} {E E2 : Nat -> List HE} {ov v6 : Value} {wr w2 w6 : World} (h : CW g x l w xb k own V E ov wr) (hk : k < l.length) (h2 : HG (w.heap.size + 1) (w.alloc (gBox g)) w2 (w.heap.size + 1) V2 E2 (0 + g.ls.length + k + 1) (0 + 2) (0 + g.ps.length)) (ot : Oth wr w2) (b2 : Below (w.heap.size + 1) wr w2) {nbk : Nat} {y : CV} (hy : cvK l[k] = cvK y) (hya : y.ra = some ⟨nbk, 0, none⟩) (n2 : NB w2 nbk y.red) (o4 : Obj)
  (hg : Grew (w2.alloc o4) w6 ov v6) (hr : RO 44 4 cfC w6 v6 (own ++ [y])) : CW g x l w xb (k + 1) (own ++ [y]) V2 E2 v6 w6 := by
 have ro4 : RO 44 4 cfC (w2.alloc o4) ov own := (h.ro4 ot).later (below_alloc _ _)
 have mono : ∀ (b : Nat) (D : Array Value) (t : TypeId), t ≠ 44 -> (w2.alloc o4).heap[b]? = some (.cells D t (0, 0)) -> w6.heap[b]? = some (.cells D t (0, 0)) := fun b D t ht hb => grew_ne hg hb fun e => by
  obtain ⟨cur, fr, q⟩ := ro4.ty e
  rw [hb] at q
  simp at q
  exact ht q.2.1
 have w2s : Below w.heap.size w w2 := h.bel.trans (b2.mono (by omega))
 have m4 : Below w.heap.size w (w2.alloc o4) := w2s.trans ((below_alloc _ _).mono w2s.size)
 have oo := h.oo
 have hz := ot.size
 have s4 := (below_alloc w2 o4).size
 have kq := lt_of_block h.hg.inv.hq
 have gbO : w2.heap[w.heap.size]? = some (gBox g) := (ot.blk _ _ _ h.gb okT_gram).trans h.gb
 have xbO : w2.heap[xb]? = some (gBox x) := (ot.blk _ _ _ h.xb okT_gram).trans h.xb
 have q4 := h2.later (below_alloc w2 o4)
 refine ⟨?_, mono _ _ _ (by decide) (blk_later gbO (below_alloc _ _)), mono _ _ _ (by decide) (blk_later xbO (below_alloc _ _)), hg.below m4 (Nat.le_refl _) (fun j hj => by have := oo j hj; omega), h.same, ?_, hr, fun j hj => ?_, ?_, fun z hz => ?_⟩
 ·rw [Nat.add_assoc] at q4
  exact q4.keptC hg.grown.size (hg.below (Below.refl _ _) q4.sz (fun j hj => by have := oo j hj; omega)) (fun b D t hb ht => (mono b D t ht hb).trans hb.symm)
 ·exact ((h.gx.oth ot).later (below_alloc w2 o4)).keptX (fun b D t hb ht => (mono b D t ht hb).trans hb.symm)
 ·have := hg.own (n := w.heap.size + 2) (by omega) (fun j hj => oo j hj) j hj
  omega
 ·rw [List.map_append, h.ds, List.take_succ_eq_append_getElem hk, List.map_append]
  simp only [List.map_cons, List.map_nil]
  rw [hy]
 ·rcases List.mem_append.1 hz with hz | hz
  ·obtain ⟨b, e1, zs, e2, e3⟩ := h.nb z hz
   exact ⟨b, e1, zs, mono _ _ _ (by decide) (blk_later ((ot.blk _ _ _ e2 okT_int).trans e2) (below_alloc _ _)), e3⟩
  ·obtain rfl : z = y := by simpa using hz
   obtain ⟨zs, e2, e3⟩ := n2
   exact ⟨nbk, hya, zs, mono _ _ _ (by decide) (blk_later e2 (below_alloc _ _)), e3⟩
theorem RO.cfrow {w : World} {a : Option Addr} {n c : Nat} {l : List CV} (h : RO 44 4 cfC w (.slice a n c) l) (hr : ∀ x ∈ l, InRow w x.ra x.red) : CfRow w a l := by
 refine ⟨fun hn => ?_, hr⟩
 obtain ⟨b, c', e, _, _⟩ := RO.cell (f := cfC) (k := 4) (fun _ => rfl) h (i := 0) (List.length_pos_iff.2 hn)
 have hb : b < w.heap.size := h.lt b (by rw [e]; rfl)
 have ea : a = some ⟨b, 0, none⟩ := by simp only [Value.slice.injEq] at e; exact e.1
 refine ⟨b, 0, ea, hb, fun i hi => ?_⟩
 obtain ⟨b', c2, e', _, hc'⟩ := RO.cell (f := cfC) (k := 4) (fun _ => rfl) h hi
 have eb : b' = b := by rw [e] at e'; simp only [Value.slice.injEq, Option.some.injEq, Addr.mk.injEq] at e'; exact e'.1.1.symm
 subst eb
 have k0 := hc' 0 (by decide)
 have k1 := hc' 1 (by decide)
 have k2 := hc' 2 (by decide)
 have k3 := hc' 3 (by decide)
 simp only [cfC, List.getElem?_cons_zero, List.getElem?_cons_succ, Nat.add_zero] at k0 k1 k2 k3
 rw [Nat.zero_add]
 exact ⟨k0, k1, k2, k3⟩
structure CU (g x : GV) (l own : List CV) (w : World) (xb : Nat) (V : Nat -> Value) (E : Nat -> List HE) (oa : Option Addr) (wr : World) : Prop where
 bel : Below w.heap.size w wr
 gb : wr.heap[w.heap.size]? = some (gBox g)
 xb : wr.heap[xb]? = some (gBox x)
 hg : HG (w.heap.size + 1) (w.alloc (gBox g)) wr (w.heap.size + 1) V E (0 + g.ls.length + l.length) (0 + 2) (0 + g.ps.length)
 same : SameG g x
 gx : GX wr x
 cf : CfRow wr oa own
 kk : own.map cvK = l.map cvK
theorem CU.later {g x : GV} {l own : List CV} {w : World} {xb : Nat} {V : Nat -> Value} {E : Nat -> List HE} {oa : Option Addr} {wr w' : World} (h : CU g x l own w xb V E oa wr) (hb : Below wr.heap.size wr w') : CU g x l own w xb V E oa w' :=
 ⟨h.bel.trans (hb.mono h.bel.size), blk_later h.gb hb, blk_later h.xb hb, h.hg.later hb, h.same, h.gx.later hb, h.cf.later hb, h.kk⟩
theorem CW.fin {g x : GV} {l : List CV} {w : World} {xb : Nat} {own : List CV} {V : Nat -> Value} {E : Nat -> List HE} {oa : Option Addr} {n oc : Nat} {wr : World} (h : CW g x l w xb l.length own V E (.slice oa n oc) wr) : CU g x l own w xb V E oa wr :=
 ⟨h.bel, h.gb, h.xb, h.hg, h.same, h.gx, h.ro.cfrow fun y hy => by
  obtain ⟨b, e, hn⟩ := h.nb y hy
  rw [e]
  exact hn.row, by have := h.ds; rwa [List.take_length] at this⟩
theorem cv_at {l own : List CV} (h : own.map cvK = l.map cvK) {i : Nat} (hi : i < l.length) : ∃ hj : i < own.length, cvK own[i] = cvK l[i] := by
 have e : own.length = l.length := by simpa using congrArg List.length h
 refine ⟨by omega, ?_⟩
 have h1 : (own.map cvK)[i]? = (l.map cvK)[i]? := by rw [h]
 rw [List.getElem?_map, List.getElem?_map, List.getElem?_eq_getElem (by omega), List.getElem?_eq_getElem hi] at h1
 simpa using h1
theorem cv_len {l own : List CV} (h : own.map cvK = l.map cvK) : own.length = l.length := by simpa using congrArg List.length h
theorem cv_red {l own : List CV} (h : own.map cvK = l.map cvK) {n : Nat} (hl : ∀ x ∈ l, x.red.length <= n) : ∀ x ∈ own, x.red.length <= n := fun x hx => by
 have : cvK x ∈ own.map cvK := List.mem_map_of_mem hx
 rw [h] at this
 obtain ⟨y, hy, e⟩ := List.mem_map.1 this
 unfold cvK at e
 simp only [Prod.mk.injEq] at e
 rw [<- e.2.2.2]
 exact hl y hy
theorem cv_res {g x : GV} {l own : List CV} (hs : SameG g x) (h : own.map cvK = l.map cvK) : (own.map fun y => resU x y.look y.shift y.red) = l.map fun y => resU g y.look y.shift y.red := by
 apply List.ext_getElem
 ·simp [cv_len h]
 ·intro i h1 h2
  simp only [List.getElem_map]
  obtain ⟨_, e⟩ := cv_at h (by simpa using h2)
  exact resU_same hs e
theorem RA.drow {W : World} {g : GV} {jb b : Nat} {l : List CV} {ds : List DM} {wr : World} (h : RA W g jb b l.length l ds wr) (hn : ds.length = l.length) : DRow wr (some ⟨b, 0, none⟩) ds /\ ds.map DM.d = l.map fun y => resU g y.look y.shift y.red := by
 obtain ⟨C, hC, hs, hc⟩ := h.bk
 refine ⟨⟨fun _ => ⟨b, 0, rfl, lt_of_block hC, fun i hi => ?_⟩, fun x hx => (h.own x hx).row⟩, ?_⟩
 ·have key : ∀ j, j < 6 -> wr.cell? ⟨b, i * 6 + j, none⟩ = (dCells ds[i])[j]? := fun j hj => (cellq_any hC).trans (hc i hi j hj)
  rw [Nat.zero_add]
  exact ⟨key 0 (by decide), key 1 (by decide), key 2 (by decide), key 3 (by decide), key 4 (by decide), key 5 (by decide)⟩
 ·apply List.ext_getElem
  ·simp [hn]
  ·intro i h1 h2
   simp only [List.getElem_map]
   exact h.va i (by simpa using h1)
end Go.Proofs.YtjpknihkcndoiaaGreat
namespace Go.Proofs.YtjpknihkcndoiaaGreat
set_option linter.unusedVariables false
set_option maxRecDepth 100000
set_option maxHeartbeats 16000000
open Go.RowKit Go.Maps
def raF (g : GV) (l : List CV) : List DV × Int × Int := match (l.map (cfE g)).findIdx? (fun e => decide (e ≠ 0)) with
 | some i => ([], (l.map (cfE g)).getD i 0, (i : Int))
 | none => (l.map (fun y => resU g y.look y.shift y.red), 0, (l.length : Int))
def RZ (F : List DV × Int × Int) (w : World) (e : Ending) (w' : World) : Prop := Below w.heap.size w w' /\ ∃ va vc D, e = .returned (.tuple #[.slice va (List.length D) vc, .int .i64 F.2.1, .int .i64 F.2.2]) /\ D.map DM.d = F.1 /\ DRow w' va D
theorem raF_some {g : GV} {l : List CV} {i : Nat} (h : i < l.length) (h1 : ∀ j (hj : j < i), cfE g (l[j]'(by omega)) = 0) (h2 : cfE g l[i] ≠ 0) : raF g l = ([], cfE g l[i], (i : Int)) := by
 have e : (l.map (cfE g)).findIdx? (fun e => decide (e ≠ 0)) = some i := by
  rw [List.findIdx?_eq_some_iff_getElem]
  refine ⟨by simpa using h, by simpa using h2, fun j hj => ?_⟩
  simpa using h1 j hj
 unfold raF
 rw [e]
 simp [List.getD, h]
theorem raF_none {g : GV} {l : List CV} (h : ∀ x ∈ l, cfE g x = 0) : raF g l = (l.map (fun y => resU g y.look y.shift y.red), 0, (l.length : Int)) := by
 have e : (l.map (cfE g)).findIdx? (fun e => decide (e ≠ 0)) = none := by
  rw [List.findIdx?_eq_none_iff]
  intro x hx
  obtain ⟨y, hy, rfl⟩ := List.mem_map.1 hx
  simpa using h y hy
 unfold raF
 rw [e]
theorem raF_same {g x : GV} {l own : List CV} (hs : SameG g x) (h : own.map cvK = l.map cvK) : raF x own = raF g l := by
 have e : own.map (cfE x) = l.map (cfE g) := by
  apply List.ext_getElem
  ·simp [cv_len h]
  ·intro i h1 h2
   simp only [List.getElem_map]
   obtain ⟨_, e⟩ := cv_at h (by simpa using h2)
   exact cfE_same hs e
 unfold raF
 rw [e, cv_res hs h, cv_len h]
theorem drow_nil (w : World) (a : Option Addr) : DRow w a [] := ⟨fun h => absurd rfl h, fun x hx => absurd hx List.not_mem_nil⟩
theorem RaO.rz {x : GV} {own : List CV} {w : World} {e : Ending} {w' : World} (h : RaO x 0 own w e w') : RZ (raF x own) w e w' := by
 obtain ⟨hb, ⟨h0, _⟩ | ⟨_, i, hi, h1, h2, he⟩ | ⟨_, h1, jb, b, ds, he, hn, hA⟩⟩ := h
 ·exact absurd rfl h0
 ·rw [raF_some hi h1 h2]
  exact ⟨hb, none, 0, [], he, rfl, drow_nil _ _⟩
 ·rw [raF_none h1]
  obtain ⟨d1, d2⟩ := hA.drow hn
  exact ⟨hb, _, own.length, ds, by rw [hn]; exact he, d2, d1⟩
theorem RrA.rz {g : GV} {l : List CV} {w : World} {e : Ending} {w' : World} (h : RrA g l w e w') : RZ (raF g l) w e w' := by
 obtain ⟨hb, ⟨i, hi, h1, h2, he⟩ | ⟨h1, a, c, own, he, hm, hd⟩⟩ := h
 ·rw [raF_some hi h1 h2]
  exact ⟨hb, none, 0, [], he, rfl, drow_nil _ _⟩
 ·rw [raF_none h1]
  have hn : own.length = l.length := by simpa using congrArg List.length hm
  exact ⟨hb, a, c, own, by rw [hn]; exact he, hm, hd⟩
theorem raF_drop {g : GV} {l : List CV} (ok : OkC g) : ∀ d ∈ (raF g l).1, d.drop.length <= 257 := by
 intro d hd
 unfold raF at hd
 split at hd
 ·exact absurd hd List.not_mem_nil
 ·rename_i hn
  rw [List.findIdx?_eq_none_iff] at hn
  obtain ⟨y, hy, rfl⟩ := List.mem_map.1 hd
  exact res_len ok (by simpa using hn _ (List.mem_map_of_mem hy))
set_option linter.unusedSimpArgs false in
theorem resolves_no (g : GV) (ao : Option Addr) (cap : Nat) (l : List CV) (w : World) (h : GAt 140737488355328 w g) (hfi : GFine g) (hl : l.length <= 1048576) (hdd : ∀ x ∈ l, x.red.length <= 1048576) (hr : CfRow w ao l) (er at_ : Int) (hE : checkG g (checkF g.ts g.ns) = (er, at_)) (h0 : er ≠ 0) :
  Calls Tryz.prog 3 #[g.val, .slice ao l.length cap] w fun e w' => e = .returned (.bool true) /\ Below w.heap.size w w' := by
 have X0 : Hid (((w.alloc (gBox g)).alloc gvBoxT).heap[w.heap.size]? = some (gBox g)) := blk_later (heap_alloc_new _ _) (below_alloc _ _)
 have H0 : Hid (HG (w.heap.size + 1) (w.alloc (gBox g)) ((w.alloc (gBox g)).alloc gvBoxT) (w.heap.size + 1) (fun _ => hNil) (fun _ => []) 0 0 0) := by
  have := hg_newT (w.heap.size + 1) (w.alloc (gBox g)) (w.alloc (gBox g)) (Below.refl _ _) (by simp)
  rw [show (w.alloc (gBox g)).heap.size = w.heap.size + 1 by simp] at this
  exact this
 have HB0 : Hid (Below w.heap.size w ((w.alloc (gBox g)).alloc gvBoxT)) := (below_alloc w _).trans ((below_alloc _ _).mono (below_alloc w _).size)
 have HR : Hid (∀ w', Below w.heap.size w w' -> CfRow w' ao l) := fun w' hb => hr.later hb
 have HDD : Hid (∀ x ∈ l, x.red.length <= 1048576) := hdd
 have HFI : Hid (GFine g) := hfi
 have B0 : Hid (∀ wr, Below w.heap.size w wr -> GAt 140737488355328 wr g) := fun wr hb => h.later hb
 have HXA : Hid (∀ x own xb V E oa wr, CU g x l own w xb V E oa wr -> GAt 140737488355328 wr x /\ x.ps.length <= x.pc /\ checkG x (checkF x.ts x.ns) = (er, at_)) := fun x own xb V E oa wr k => ⟨(k.gx.at k.same h).1, (k.gx.at k.same h).2, (same_check k.same).trans hE⟩
 have MY : Hid (∀ wr, Below w.heap.size w wr -> Calls Tryz.prog 7 #[g.val] wr fun e w' => e = .returned (.int .i64 er) /\ Below wr.heap.size wr w') := fun wr hb => by
  have := refmay_G g wr (h.later hb)
  rwa [hE] at this
 have RAP : Hid (∀ x own xb V E oa oc wr, CU g x l own w xb V E oa wr -> Calls Tryz.prog 6 #[x.val, .slice oa l.length oc] wr (RaO x er own wr)) := fun x own xb V E oa oc wr k => by
  have := ResolveAll_P x oa oc own wr (k.gx.at k.same h).1 (k.gx.at k.same h).2 er at_ ((same_check k.same).trans hE) (by rw [cv_len k.kk]; exact hl) (cv_red k.kk (fun y hy => Nat.le_trans (hdd y hy) (by decide))) k.cf
  rwa [cv_len k.kk] at this
 have t1 : (er != 0) = true := by simpa using h0
 have t2 : (er == er) = true := by simp
 have H00 : Hid (er ≠ 0) := h0
 clear h hfi hE h0 hr hdd
 go_enter Tryz.func3, Tryz.ntmps3
 obtain ⟨y0, y1, y2, y3, y4⟩ := gb_cells X0.out
 go_wp2_with (go_at_call 4; refine (hg_gram H0.out (by omega) (by omega) (by omega) g HFI.out (fun wr2 hb => B0.out wr2 (HB0.out.trans (hb.mono (by omega))))).mono ?_)
 rintro e w1 ⟨x, rfl, hs, hx, ho⟩
 obtain ⟨V1, E1, k1⟩ := ho.ex
 have C0 : Hid (CW g x l w w1.heap.size 0 [] V1 E1 (.slice none 0 0) (w1.alloc (gBox x))) := ⟨k1.later (below_alloc _ _), blk_later ((ho.oth.blk _ _ _ X0.out okT_gram).trans X0.out) (below_alloc _ _), heap_alloc_new _ _, (HB0.out.trans (ho.bel.mono (by omega))).trans ((below_alloc _ _).mono (HB0.out.trans (ho.bel.mono (by omega))).size), hs, hx.later (below_alloc _ _), RO.nil _, nil_own _, rfl, fun y hy => absurd hy List.not_mem_nil⟩
 clear hs hx ho k1 y0 y1 y2 y3 y4 X0 H0 HB0
 go_wp2
 generalize w1.alloc (gBox x) = W1 at *
 generalize w1.heap.size = xb at *
 go_loopw [7, 8] (fun y z wr => ∃ (k : Nat) (own : List CV) (V : Nat -> Value) (E : Nat -> List HE) (oa : Option Addr) (oc : Nat), k <= l.length /\ z = .int .i64 (k : Int) /\ y = .slice oa k oc /\ CW g x l w xb k own V E (.slice oa k oc) wr) (fun _ z _ => l.length - (intOf z).toNat)
 case atStart => exact ⟨0, [], _, _, _, _, Nat.zero_le _, rfl, rfl, C0.out⟩
 case round =>
  clear C0
  obtain ⟨k, own, V, E, oa, oc, hk, rfl, rfl, hO⟩ := hrel
  have HO : Hid (CW g x l w xb k own V E (.slice oa k oc) wr) := hO
  by_cases hlt : k < l.length
  ·have klt : (k : Int) < (l.length : Int) := by omega
   obtain ⟨lb, lo, hao, -, -⟩ := (HR.out wr hO.bel).cells (by intro e; rw [e] at hlt; simp at hlt)
   subst hao
   obtain ⟨q, hq⟩ : ∃ q, l[k] = q := ⟨_, rfl⟩
   obtain ⟨c0, c1, c2, c3⟩ := (HR.out wr hO.bel).at rfl hlt hq
   have hqm : q ∈ l := hq ▸ List.getElem_mem _
   have HLn : Hid (own.length = k) := by have := congrArg List.length HO.out.ds; rw [List.length_map, List.length_map, List.length_take] at this; show _ = _; omega
   have GC1 : Hid (Calls Tryz.prog 5 #[.pointer (some ⟨w.heap.size + 1, 0, none⟩), q.val] wr (GcO (w.heap.size + 1) (w.alloc (gBox g)) q (w.heap.size + 1) (0 + g.ls.length + k) (0 + 2) (0 + g.ps.length) wr)) := gconf_P HO.out.hg (by have := HFI.out.ll; omega) q (Nat.le_trans (HDD.out q hqm) (by decide)) ((HR.out wr hO.bel).rows q hqm)
   have HQ : Hid (cvK l[k] = cvK (⟨q.st, q.look, q.shift, some ⟨wr.heap.size + 1 + 1, 0, none⟩, q.red.length + 3, q.red⟩ : CV)) := by show _ = _; rw [hq]; rfl
   clear hq hqm hO
   go_wp2_with (first
    | (go_at_call 5; refine GC1.out.mono ?_; rintro e w2 ⟨rfl, ⟨V2, E2, h2⟩, o2, b2, n2⟩; have S2 : Hid (HG (w.heap.size + 1) (w.alloc (gBox g)) w2 (w.heap.size + 1) V2 E2 (0 + g.ls.length + k + 1) (0 + 2) (0 + g.ps.length) /\ Oth wr w2 /\ Below (w.heap.size + 1) wr w2 /\ NB w2 (wr.heap.size + 1 + 1) q.red) := ⟨h2, o2, b2, n2⟩; clear h2 o2 b2 n2 c0 c1 c2 c3)
    | (at_builtin; refine wpList_ro_append rkCf rfl _ _ rfl (.slice oa k oc) own rfl ((HO.out.ro4 S2.out.2.1).later (below_alloc _ _)) w2.heap.size 1 ⟨q.st, q.look, q.shift, some ⟨wr.heap.size + 1 + 1, 0, none⟩, q.red.length + 3, q.red⟩ rfl (cf_cell _ _ _ rfl) (by have := HLn.out; omega) ?_; intro a6 n6 c6 w6 ho6 hg6; have O6 : Hid (CW g x l w xb (k + 1) (own ++ [(⟨q.st, q.look, q.shift, some ⟨wr.heap.size + 1 + 1, 0, none⟩, q.red.length + 3, q.red⟩ : CV)]) V2 E2 (.slice a6 n6 c6) w6) := HO.out.step hlt S2.out.1 S2.out.2.1 S2.out.2.2.1 HQ.out rfl S2.out.2.2.2 _ hg6 ho6; clear ho6 hg6 S2))
   have e8 : n6 = k + 1 := by have := O6.out.ro.vn; rw [List.length_append, HLn.out] at this; exact this
   subst e8
   go_wp2
   go_roundw
   case rel => exact ⟨k + 1, _, _, _, _, _, by omega, by go_num, rfl, O6.out⟩
   case measure => simp [intOf]; omega
  ·obtain rfl : k = l.length := by omega
   have klt : ¬ (l.length : Int) < (l.length : Int) := by omega
   have U0 : Hid (CU g x l own w xb V E oa wr) := HO.out.fin
   clear hO HO
   obtain ⟨y0, y1, y2, y3, y4⟩ := gb_cells U0.out.xb
   go_wp2_with (first
    | (go_at_call 6; refine (RAP.out _ _ _ _ _ _ _ _ U0.out).mono ?_; rintro e w2 ⟨b2, (⟨-, rfl⟩ | ⟨h0, -⟩ | ⟨h0, -⟩)⟩; (rotate_left; exact absurd h0 H00.out; exact absurd h0 H00.out); have U2 : Hid (CU g x l own w xb V E oa w2) := U0.out.later b2; clear b2 y0 y1 y2 y3 y4; obtain ⟨y0, y1, y2, y3, y4⟩ := gb_cells U2.out.gb)
    | (go_at_call 7; refine (MY.out _ U2.out.bel).mono ?_; rintro e w3 ⟨rfl, b3⟩; have U3 : Hid (CU g x l own w xb V E oa w3) := U2.out.later b3; clear b3 y0 y1 y2 y3 y4)
    | (go_at_call 8; refine (num14_P _ _).mono ?_; rintro e wn ⟨rfl, rfl⟩)
    | (go_at_call 9; refine (gintact _ V tyG E w3 U3.out.hg.inv U3.out.hg.st (by have := U3.out.hg.l1; have := HFI.out.ll; omega) (by have := U3.out.hg.l2; omega) (by have := U3.out.hg.l4; have := HFI.out.pl; omega)).mono ?_; rintro e w4 ⟨rfl, b4⟩; have U4 : Hid (CU g x l own w xb V E oa w4) := U3.out.later b4; clear b4)
    | (go_at_call 10; refine (works_P w4).mono ?_; rintro e w5 ⟨rfl, b5⟩; have U5 : Hid (CU g x l own w xb V E oa w5) := U4.out.later b5; clear b5))
   go_ret
   exact ⟨rfl, U5.out.bel⟩
set_option linter.unusedSimpArgs false in
theorem resolves_yes (g : GV) (ao : Option Addr) (cap : Nat) (l : List CV) (w : World) (h : GAt 140737488355328 w g) (hfi : GFine g) (hl : l.length <= 1048576) (hdd : ∀ x ∈ l, x.red.length <= 1048576) (hr : CfRow w ao l) (at_ : Int) (hE' : checkG g (checkF g.ts g.ns) = (0, at_)) :
  Calls Tryz.prog 3 #[g.val, .slice ao l.length cap] w fun e w' => e = .returned (.bool true) /\ Below w.heap.size w w' := by
 obtain ⟨er, her⟩ : ∃ er : Int, er = 0 := ⟨0, rfl⟩
 have hE : checkG g (checkF g.ts g.ns) = (er, at_) := by rw [her]; exact hE'
 have X0 : Hid (((w.alloc (gBox g)).alloc gvBoxT).heap[w.heap.size]? = some (gBox g)) := blk_later (heap_alloc_new _ _) (below_alloc _ _)
 have H0 : Hid (HG (w.heap.size + 1) (w.alloc (gBox g)) ((w.alloc (gBox g)).alloc gvBoxT) (w.heap.size + 1) (fun _ => hNil) (fun _ => []) 0 0 0) := by
  have := hg_newT (w.heap.size + 1) (w.alloc (gBox g)) (w.alloc (gBox g)) (Below.refl _ _) (by simp)
  rw [show (w.alloc (gBox g)).heap.size = w.heap.size + 1 by simp] at this
  exact this
 have HB0 : Hid (Below w.heap.size w ((w.alloc (gBox g)).alloc gvBoxT)) := (below_alloc w _).trans ((below_alloc _ _).mono (below_alloc w _).size)
 have HR : Hid (∀ w', Below w.heap.size w w' -> CfRow w' ao l) := fun w' hb => hr.later hb
 have HDD : Hid (∀ x ∈ l, x.red.length <= 1048576) := hdd
 have HFI : Hid (GFine g) := hfi
 have B0 : Hid (∀ wr, Below w.heap.size w wr -> GAt 140737488355328 wr g) := fun wr hb => h.later hb
 have HXA : Hid (∀ x own xb V E oa wr, CU g x l own w xb V E oa wr -> GAt 140737488355328 wr x /\ x.ps.length <= x.pc /\ checkG x (checkF x.ts x.ns) = (er, at_)) := fun x own xb V E oa wr k => ⟨(k.gx.at k.same h).1, (k.gx.at k.same h).2, (same_check k.same).trans hE⟩
 have MY : Hid (∀ wr, Below w.heap.size w wr -> Calls Tryz.prog 7 #[g.val] wr fun e w' => e = .returned (.int .i64 er) /\ Below wr.heap.size wr w') := fun wr hb => by
  have := refmay_G g wr (h.later hb)
  rwa [hE] at this
 have RAP : Hid (∀ x own xb V E oa oc wr, CU g x l own w xb V E oa wr -> Calls Tryz.prog 6 #[x.val, .slice oa l.length oc] wr (RaO x er own wr)) := fun x own xb V E oa oc wr k => by
  have := ResolveAll_P x oa oc own wr (k.gx.at k.same h).1 (k.gx.at k.same h).2 er at_ ((same_check k.same).trans hE) (by rw [cv_len k.kk]; exact hl) (cv_red k.kk (fun y hy => Nat.le_trans (hdd y hy) (by decide))) k.cf
  rwa [cv_len k.kk] at this
 have ok : OkC g := OkC.of (by rw [hE'])
 have RAX : Hid (∀ x own xb V E oa oc wr, CU g x l own w xb V E oa wr -> Calls Tryz.prog 6 #[x.val, .slice oa l.length oc] wr (RZ (raF g l) wr)) := fun x own xb V E oa oc wr k => by
  have := RAP.out x own xb V E oa oc wr k
  rw [her] at this
  exact this.mono fun e w' q => by rw [<- raF_same k.same k.kk]; exact q.rz
 have RRX : Hid (∀ wr, Below w.heap.size w wr -> Calls Tryz.prog 11 #[g.val, .slice ao l.length cap] wr (RZ (raF g l) wr)) := fun wr hb => (rResolveAll_P g ao cap l wr (h.later hb) ok hl (fun y hy => Nat.le_trans (hdd y hy) (by decide)) (hr.later hb)).mono fun e w' q => q.rz
 have RP : Hid (∀ x own xb V E oa wr, CU g x l own w xb V E oa wr -> ∀ p q, p ∈ own -> cvK p = cvK q -> ∀ w', Below wr.heap.size wr w' -> Calls Tryz.prog 13 #[x.val, p.val] w' fun e w'' => ∃ ao c, e = .returned (.tuple #[dval (rsF g 0 q).1 ao c, .int .i64 (rsF g 0 q).2]) /\ RwO w'.heap.size w'' ao (rsF g 0 q).1.drop /\ Below w'.heap.size w' w'') := fun x own xb V E oa wr k0 p q hp hpq w' hb => by
  have k := k0.later hb
  have := Resolve_P x p w' (k.gx.at k.same h).1 (k.gx.at k.same h).2 0 at_ ((same_check k.same).trans hE') (Nat.le_trans (cv_red k.kk hdd p hp) (by decide)) (k.cf.rows p hp)
  rw [rsF_same k.same hpq] at this
  exact this.mono fun e w'' ⟨a, c, q1, q2, q3⟩ => ⟨a, c, q1, q2.rwo, q3⟩
 have RQ : Hid (∀ w' q, q ∈ l -> Below w.heap.size w w' -> Calls Tryz.prog 14 #[g.val, q.val] w' (RrO w' (rsF g 0 q))) := fun w' q hq hb => rResolve_P g q w' (h.later hb) ok (Nat.le_trans (hdd q hq) (by decide)) ((hr.later hb).rows q hq)
 have HDR : Hid (∀ d ∈ (raF g l).1, d.drop.length <= 257) := raF_drop ok
 have HDQ : Hid (∀ q ∈ l, (rsF g 0 q).1.drop.length <= 257) := fun q hq => by
  unfold rsF
  rw [if_neg (by simp)]
  by_cases hc : cfE g q = 0
  ·rw [if_neg (by simpa using hc)]
   exact res_len ok hc
  ·rw [if_pos (by simpa using hc)]
   exact Nat.zero_le _
 have HDL : Hid ((raF g l).1.length <= 1048576) := by
  show _ <= _
  unfold raF
  split
  ·exact Nat.zero_le _
  ·simpa using hl
 have t1 : ((0 : Int) != 0) = false := by decide
 subst her
 clear h hfi hE hE' hr hdd RAP ok
 generalize raF g l = F at *
 obtain ⟨Fd, ec, ix⟩ := F
 simp only at HDR HDL
 have t2 : (ec != ec) = false := by simp
 have t3 : (ix != ix) = false := by simp
 go_enter Tryz.func3, Tryz.ntmps3
 obtain ⟨y0, y1, y2, y3, y4⟩ := gb_cells X0.out
 go_wp2_with (go_at_call 4; refine (hg_gram H0.out (by omega) (by omega) (by omega) g HFI.out (fun wr2 hb => B0.out wr2 (HB0.out.trans (hb.mono (by omega))))).mono ?_)
 rintro e w1 ⟨x, rfl, hs, hx, ho⟩
 obtain ⟨V1, E1, k1⟩ := ho.ex
 have C0 : Hid (CW g x l w w1.heap.size 0 [] V1 E1 (.slice none 0 0) (w1.alloc (gBox x))) := ⟨k1.later (below_alloc _ _), blk_later ((ho.oth.blk _ _ _ X0.out okT_gram).trans X0.out) (below_alloc _ _), heap_alloc_new _ _, (HB0.out.trans (ho.bel.mono (by omega))).trans ((below_alloc _ _).mono (HB0.out.trans (ho.bel.mono (by omega))).size), hs, hx.later (below_alloc _ _), RO.nil _, nil_own _, rfl, fun y hy => absurd hy List.not_mem_nil⟩
 clear hs hx ho k1 y0 y1 y2 y3 y4 X0 H0 HB0
 go_wp2
 generalize w1.alloc (gBox x) = W1 at *
 generalize w1.heap.size = xb at *
 go_loopw [7, 8] (fun y z wr => ∃ (k : Nat) (own : List CV) (V : Nat -> Value) (E : Nat -> List HE) (oa : Option Addr) (oc : Nat), k <= l.length /\ z = .int .i64 (k : Int) /\ y = .slice oa k oc /\ CW g x l w xb k own V E (.slice oa k oc) wr) (fun _ z _ => l.length - (intOf z).toNat)
 case atStart => exact ⟨0, [], _, _, _, _, Nat.zero_le _, rfl, rfl, C0.out⟩
 case round =>
  clear C0
  obtain ⟨k, own, V, E, oa, oc, hk, rfl, rfl, hO⟩ := hrel
  have HO : Hid (CW g x l w xb k own V E (.slice oa k oc) wr) := hO
  by_cases hlt : k < l.length
  ·have klt : (k : Int) < (l.length : Int) := by omega
   obtain ⟨lb, lo, hao, -, -⟩ := (HR.out wr hO.bel).cells (by intro e; rw [e] at hlt; simp at hlt)
   subst hao
   obtain ⟨q, hq⟩ : ∃ q, l[k] = q := ⟨_, rfl⟩
   obtain ⟨c0, c1, c2, c3⟩ := (HR.out wr hO.bel).at rfl hlt hq
   have hqm : q ∈ l := hq ▸ List.getElem_mem _
   have HLn : Hid (own.length = k) := by have := congrArg List.length HO.out.ds; rw [List.length_map, List.length_map, List.length_take] at this; show _ = _; omega
   have GC1 : Hid (Calls Tryz.prog 5 #[.pointer (some ⟨w.heap.size + 1, 0, none⟩), q.val] wr (GcO (w.heap.size + 1) (w.alloc (gBox g)) q (w.heap.size + 1) (0 + g.ls.length + k) (0 + 2) (0 + g.ps.length) wr)) := gconf_P HO.out.hg (by have := HFI.out.ll; omega) q (Nat.le_trans (HDD.out q hqm) (by decide)) ((HR.out wr hO.bel).rows q hqm)
   have HQ : Hid (cvK l[k] = cvK (⟨q.st, q.look, q.shift, some ⟨wr.heap.size + 1 + 1, 0, none⟩, q.red.length + 3, q.red⟩ : CV)) := by show _ = _; rw [hq]; rfl
   clear hq hqm hO
   go_wp2_with (first
    | (go_at_call 5; refine GC1.out.mono ?_; rintro e w2 ⟨rfl, ⟨V2, E2, h2⟩, o2, b2, n2⟩; have S2 : Hid (HG (w.heap.size + 1) (w.alloc (gBox g)) w2 (w.heap.size + 1) V2 E2 (0 + g.ls.length + k + 1) (0 + 2) (0 + g.ps.length) /\ Oth wr w2 /\ Below (w.heap.size + 1) wr w2 /\ NB w2 (wr.heap.size + 1 + 1) q.red) := ⟨h2, o2, b2, n2⟩; clear h2 o2 b2 n2 c0 c1 c2 c3)
    | (at_builtin; refine wpList_ro_append rkCf rfl _ _ rfl (.slice oa k oc) own rfl ((HO.out.ro4 S2.out.2.1).later (below_alloc _ _)) w2.heap.size 1 ⟨q.st, q.look, q.shift, some ⟨wr.heap.size + 1 + 1, 0, none⟩, q.red.length + 3, q.red⟩ rfl (cf_cell _ _ _ rfl) (by have := HLn.out; omega) ?_; intro a6 n6 c6 w6 ho6 hg6; have O6 : Hid (CW g x l w xb (k + 1) (own ++ [(⟨q.st, q.look, q.shift, some ⟨wr.heap.size + 1 + 1, 0, none⟩, q.red.length + 3, q.red⟩ : CV)]) V2 E2 (.slice a6 n6 c6) w6) := HO.out.step hlt S2.out.1 S2.out.2.1 S2.out.2.2.1 HQ.out rfl S2.out.2.2.2 _ hg6 ho6; clear ho6 hg6 S2))
   have e8 : n6 = k + 1 := by have := O6.out.ro.vn; rw [List.length_append, HLn.out] at this; exact this
   subst e8
   go_wp2
   go_roundw
   case rel => exact ⟨k + 1, _, _, _, _, _, by omega, by go_num, rfl, O6.out⟩
   case measure => simp [intOf]; omega
  ·obtain rfl : k = l.length := by omega
   have klt : ¬ (l.length : Int) < (l.length : Int) := by omega
   have U0 : Hid (CU g x l own w xb V E oa wr) := HO.out.fin
   clear hO HO
   obtain ⟨y0, y1, y2, y3, y4⟩ := gb_cells U0.out.xb
   go_wp2_with (first
    | (go_at_call 6; refine (RAX.out _ _ _ _ _ _ _ _ U0.out).mono ?_; rintro e w2 ⟨b2, va, vc, D, rfl, hD, hR⟩; have U2 : Hid (CU g x l own w xb V E oa w2 /\ D.map DM.d = Fd /\ DRow w2 va D) := ⟨U0.out.later b2, hD, hR⟩; clear b2 hD hR y0 y1 y2 y3 y4; obtain ⟨y0, y1, y2, y3, y4⟩ := gb_cells U2.out.1.gb)
    | (go_at_call 7; refine (MY.out _ U2.out.1.bel).mono ?_; rintro e w3 ⟨rfl, b3⟩; have U3 : Hid (CU g x l own w xb V E oa w3 /\ DRow w3 va D) := ⟨U2.out.1.later b3, U2.out.2.2.later b3⟩; clear b3 y0 y1 y2 y3 y4; obtain ⟨y0, y1, y2, y3, y4⟩ := gb_cells U3.out.1.gb)
    | (go_at_call 11; refine (RRX.out _ U3.out.1.bel).mono ?_; rintro e w4 ⟨b4, vb, vd, D2, rfl, hD, hR⟩; have U4 : Hid (CU g x l own w xb V E oa w4 /\ DRow w4 va D /\ D2.map DM.d = Fd /\ DRow w4 vb D2) := ⟨U3.out.1.later b4, U3.out.2.later b4, hD, hR⟩; clear b4 hD hR y0 y1 y2 y3 y4)
    | (go_at_call 12; refine (all_P va vb vc vd D D2 w4 (by have h1 := congrArg List.length U2.out.2.1; rw [List.length_map] at h1; have h2 := HDL.out; omega) (U2.out.2.1.trans U4.out.2.2.1.symm) (fun y hy => Nat.le_trans (HDR.out y.d (by rw [<- U2.out.2.1]; exact List.mem_map_of_mem hy)) (by decide)) U4.out.2.1 U4.out.2.2.2).mono ?_; rintro e w5 ⟨rfl, b5⟩; have U5 : Hid (CU g x l own w xb V E oa w5) := U4.out.1.later b5; clear b5)
    | (go_at_call 8; refine (num14_P _ _).mono ?_; rintro e wn ⟨rfl, rfl⟩))
   clear U0 U2 U3 U4 RAX RRX MY
   go_loopw [16] (fun z wr => ∃ (i : Nat), i <= l.length /\ z = .int .i64 (i : Int) /\ CU g x l own w xb V E oa wr) (fun z _ => l.length - (intOf z).toNat)
   case atStart => exact ⟨0, Nat.zero_le _, rfl, U5.out⟩
   case round =>
    clear U5
    obtain ⟨i, hi, rfl, hU⟩ := hrel
    have HU : Hid (CU g x l own w xb V E oa wr) := hU
    by_cases hil : i < l.length
    ·have ilt : (i : Int) < (l.length : Int) := by omega
     obtain ⟨hio, hcv⟩ := cv_at hU.kk hil
     obtain ⟨ob, oo, hoa, -, -⟩ := hU.cf.cells (by intro e; rw [e] at hio; simp at hio)
     obtain ⟨lb, lo, hao, -, -⟩ := (HR.out wr hU.bel).cells (by intro e; rw [e] at hil; simp at hil)
     subst hoa
     subst hao
     obtain ⟨p, hp⟩ : ∃ p, own[i] = p := ⟨_, rfl⟩
     obtain ⟨q, hq⟩ : ∃ q, l[i] = q := ⟨_, rfl⟩
     rw [hp, hq] at hcv
     have HP : Hid (own[i] = p /\ p ∈ own) := ⟨hp, hp ▸ List.getElem_mem _⟩
     have HQ : Hid (l[i] = q /\ q ∈ l) := ⟨hq, hq ▸ List.getElem_mem _⟩
     have HCV : Hid (cvK p = cvK q) := hcv
     obtain ⟨d, er, hder⟩ : ∃ d er, rsF g 0 q = (d, er) := ⟨_, _, rfl⟩
     have HDE : Hid (rsF g 0 q = (d, er)) := hder
     have HDN : Hid (d.drop.length <= 140737488355328) := by
      have := HDQ.out q HQ.out.2
      rw [hder] at this
      exact Nat.le_trans this (by decide)
     have HS : Hid (∀ w', Below wr.heap.size wr w' -> (fun w' : World => w'.cell? ⟨xb, 0, none⟩ = some (.slice x.ta x.ts.length x.tc) /\ w'.cell? ⟨xb, 1, none⟩ = some (.slice x.na x.ns.length x.nc) /\ w'.cell? ⟨xb, 2, none⟩ = some (.int .i64 x.start) /\ w'.cell? ⟨xb, 3, none⟩ = some (.slice x.pa x.ps.length x.pc) /\ w'.cell? ⟨xb, 4, none⟩ = some (.slice x.la x.ls.length x.lc) /\ w'.cell? ⟨ob, oo + i * 4, none⟩ = some (.int .i64 p.st) /\ w'.cell? ⟨ob, oo + i * 4 + 1, none⟩ = some (.int .i64 p.look) /\ w'.cell? ⟨ob, oo + i * 4 + 2, none⟩ = some (.int .i64 p.shift) /\ w'.cell? ⟨ob, oo + i * 4 + 3, none⟩ = some (.slice p.ra p.red.length p.rc)) w') := fun w' hb => by
      have k := HU.out.later hb
      obtain ⟨a0, a1, a2, a3, a4⟩ := gb_cells k.xb
      obtain ⟨c0, c1, c2, c3⟩ := k.cf.at rfl hio HP.out.1
      exact ⟨a0, a1, a2, a3, a4, c0, c1, c2, c3⟩
     have CT : Hid (∀ w', Below wr.heap.size wr w' -> Calls Tryz.prog 13 #[x.val, p.val] w' fun e w'' => ∃ ao c, e = .returned (.tuple #[dval d ao c, .int .i64 er]) /\ RwO w'.heap.size w'' ao d.drop /\ Below w'.heap.size w' w'') := fun w' hb => by
      have := RP.out x own xb V E _ wr HU.out p q HP.out.2 HCV.out w' hb
      rw [hder] at this
      exact this
     clear hU hp hq hcv hder
     go_upto_region 18 with fail
     go_cut [17, 18] from 89 to 122 (fun z17 z18 wx => ∃ b da dc, z17 = .pointer (some ⟨b, 0, none⟩) /\ z18 = .int .i64 er /\ wx.heap[b]? = some (.cells #[.int .i64 d.look, .int .i64 d.kind, .int .i64 d.prod, .slice da d.drop.length dc, .bool d.sd, .int .i64 d.lev] 58 (0, 0)) /\ wr.heap.size <= b /\ Below wr.heap.size wr wx /\ RwO wr.heap.size wx da d.drop)
     case first =>
      have BDR : Hid (Below wr.heap.size wr wr.drew) := (Below.refl _ _).drew
      have hs : Hid ((fun w' : World => w'.cell? ⟨xb, 0, none⟩ = some (.slice x.ta x.ts.length x.tc) /\ w'.cell? ⟨xb, 1, none⟩ = some (.slice x.na x.ns.length x.nc) /\ w'.cell? ⟨xb, 2, none⟩ = some (.int .i64 x.start) /\ w'.cell? ⟨xb, 3, none⟩ = some (.slice x.pa x.ps.length x.pc) /\ w'.cell? ⟨xb, 4, none⟩ = some (.slice x.la x.ls.length x.lc) /\ w'.cell? ⟨ob, oo + i * 4, none⟩ = some (.int .i64 p.st) /\ w'.cell? ⟨ob, oo + i * 4 + 1, none⟩ = some (.int .i64 p.look) /\ w'.cell? ⟨ob, oo + i * 4 + 2, none⟩ = some (.int .i64 p.shift) /\ w'.cell? ⟨ob, oo + i * 4 + 3, none⟩ = some (.slice p.ra p.red.length p.rc)) wr.drew) := HS.out _ BDR.out
      refine wp_region_x (S := fun _ => (fun w' : World => w'.cell? ⟨xb, 0, none⟩ = some (.slice x.ta x.ts.length x.tc) /\ w'.cell? ⟨xb, 1, none⟩ = some (.slice x.na x.ns.length x.nc) /\ w'.cell? ⟨xb, 2, none⟩ = some (.int .i64 x.start) /\ w'.cell? ⟨xb, 3, none⟩ = some (.slice x.pa x.ps.length x.pc) /\ w'.cell? ⟨xb, 4, none⟩ = some (.slice x.la x.ls.length x.lc) /\ w'.cell? ⟨ob, oo + i * 4, none⟩ = some (.int .i64 p.st) /\ w'.cell? ⟨ob, oo + i * 4 + 1, none⟩ = some (.int .i64 p.look) /\ w'.cell? ⟨ob, oo + i * 4 + 2, none⟩ = some (.int .i64 p.shift) /\ w'.cell? ⟨ob, oo + i * 4 + 3, none⟩ = some (.slice p.ra p.red.length p.rc))) (by kernel_rfl) ?_
      refine takeF (i := 0) (v := ?_) rfl (by kernel_rfl) (by decide +kernel) (by decide +kernel) (fun _ _ _ h => h) (Or.inl ⟨by rfl, ?_⟩) hs.out ?_
      rotate_left
      ·(intro w hSw; (try dsimp only at hSw); go_simp; try (with_reducible rfl))
      (try simp only [Act.put, lsA, lsZ, lsN])
      refine takeF (i := 1) (v := ?_) rfl (by kernel_rfl) (by decide +kernel) (by decide +kernel) (fun _ _ _ h => h) (Or.inl ⟨by rfl, ?_⟩) hs.out ?_
      rotate_left
      ·(intro w hSw; (try dsimp only at hSw); go_simp; try (with_reducible rfl))
      (try simp only [Act.put, lsA, lsZ, lsN])
      refine takeF (i := 2) (v := ?_) rfl (by kernel_rfl) (by decide +kernel) (by decide +kernel) (fun _ _ _ h => h) (Or.inl ⟨by rfl, ?_⟩) hs.out ?_
      rotate_left
      ·(intro w hSw; (try dsimp only at hSw); go_simp; try (with_reducible rfl))
      (try simp only [Act.put, lsA, lsZ, lsN])
      refine takeF (i := 3) (v := ?_) rfl (by kernel_rfl) (by decide +kernel) (by decide +kernel) (fun _ _ _ h => h) (Or.inl ⟨by rfl, ?_⟩) hs.out ?_
      rotate_left
      ·(intro w hSw; (try dsimp only at hSw); go_simp; try (with_reducible rfl))
      (try simp only [Act.put, lsA, lsZ, lsN])
      refine takeF (i := 4) (v := ?_) rfl (by kernel_rfl) (by decide +kernel) (by decide +kernel) (fun _ _ _ h => h) (Or.inl ⟨by rfl, ?_⟩) hs.out ?_
      rotate_left
      ·(intro w hSw; (try dsimp only at hSw); go_simp; try (with_reducible rfl))
      (try simp only [Act.put, lsA, lsZ, lsN])
      refine pickA (i := 5) (j := 9) (by decide +kernel) rfl rfl (fun K' hK => ?_) (fun K' hK => ?_)
      ·refine step_callX (by rfl) 13 #[x.val, p.val] _ (by apply run_call2 (enters_of Tryz.func13 (by kernel_rfl) rfl) <;> rfl) (CT.out wr.drew BDR.out) ?_
       rintro e w3 ⟨da, dc, rfl, hrow, b3⟩
       have N3 : Hid (RwO wr.heap.size w3 da d.drop /\ Below wr.heap.size wr.drew w3) := ⟨hrow, b3⟩
       have BW3 : Hid (Below wr.heap.size wr w3) := BDR.out.trans b3
       have hs3 : Hid ((fun w' : World => w'.cell? ⟨xb, 0, none⟩ = some (.slice x.ta x.ts.length x.tc) /\ w'.cell? ⟨xb, 1, none⟩ = some (.slice x.na x.ns.length x.nc) /\ w'.cell? ⟨xb, 2, none⟩ = some (.int .i64 x.start) /\ w'.cell? ⟨xb, 3, none⟩ = some (.slice x.pa x.ps.length x.pc) /\ w'.cell? ⟨xb, 4, none⟩ = some (.slice x.la x.ls.length x.lc) /\ w'.cell? ⟨ob, oo + i * 4, none⟩ = some (.int .i64 p.st) /\ w'.cell? ⟨ob, oo + i * 4 + 1, none⟩ = some (.int .i64 p.look) /\ w'.cell? ⟨ob, oo + i * 4 + 2, none⟩ = some (.int .i64 p.shift) /\ w'.cell? ⟨ob, oo + i * 4 + 3, none⟩ = some (.slice p.ra p.red.length p.rc)) w3) := HS.out _ BW3.out
       refine ⟨_, rfl, hK.out _ _ hs3.out ?_⟩
       clear hK K' b3 hrow
       (try simp only [Act.put, lsA, lsZ, lsN])
       refine takeF (i := 6) (v := ?_) rfl (by kernel_rfl) (by decide +kernel) (by decide +kernel) (fun _ _ _ h => h) (Or.inl ⟨by rfl, ?_⟩) hs3.out ?_
       rotate_left
       ·(intro w hSw; (try dsimp only at hSw); go_simp; try (with_reducible rfl))
       (try simp only [Act.put, lsA, lsZ, lsN])
       refine takeF (i := 7) (v := ?_) rfl (by kernel_rfl) (by decide +kernel) (by decide +kernel) (fun _ _ _ h => h) (Or.inl ⟨by rfl, ?_⟩) hs3.out ?_
       rotate_left
       ·(intro w hSw; (try dsimp only at hSw); go_simp; try (with_reducible rfl))
       (try simp only [Act.put, lsA, lsZ, lsN])
       refine takeF (i := 8) (v := ?_) rfl (by kernel_rfl) (by decide +kernel) (by decide +kernel) (fun _ _ _ h => h) (Or.inl ⟨by rfl, ?_⟩) hs3.out ?_
       rotate_left
       ·(intro w hSw; (try dsimp only at hSw); go_simp; try (with_reducible rfl))
       (try simp only [Act.put, lsA, lsZ, lsN])
       refine wpAnyX_one (j := 9) (by decide +kernel) rfl (fun K' hK => ?_)
       go_simp
       have BA4 : Hid (Below wr.heap.size wr (w3.alloc dZero)) := BW3.out.trans ((below_alloc _ _).mono BW3.out.size)
       have hz4 : (w3.alloc dZero).heap[w3.heap.size]? = some (.cells #[.int .i64 0, .int .i64 0, .int .i64 0, .slice none 0 0, .bool false, .int .i64 0] 58 (0, 0)) := heap_alloc_new w3 dZero
       obtain ⟨⟨z0, z1, z2, z3, z4, z5⟩, ⟨f0, f1, f2, f3, f4, f5⟩, hzz⟩ := dz_cells hz4
       clear hz4
       refine hK.out _ _ (HS.out _ BA4.out) ?_
       clear hK K'
       (try simp only [Act.put, lsA, lsZ, lsN])
       refine wpAnyX_one (j := 10) (by decide +kernel) rfl (fun K' hK => ?_)
       go_simp
       have BX : Hid ((w3.alloc (.cells #[.int .i64 d.look, .int .i64 d.kind, .int .i64 d.prod, .slice da d.drop.length dc, .bool d.sd, .int .i64 d.lev] 58)).heap[w3.heap.size]? = some (.cells #[.int .i64 d.look, .int .i64 d.kind, .int .i64 d.prod, .slice da d.drop.length dc, .bool d.sd, .int .i64 d.lev] 58 (0, 0)) /\ wr.heap.size <= w3.heap.size /\ Below wr.heap.size wr (w3.alloc (.cells #[.int .i64 d.look, .int .i64 d.kind, .int .i64 d.prod, .slice da d.drop.length dc, .bool d.sd, .int .i64 d.lev] 58)) /\ RwO wr.heap.size (w3.alloc (.cells #[.int .i64 d.look, .int .i64 d.kind, .int .i64 d.prod, .slice da d.drop.length dc, .bool d.sd, .int .i64 d.lev] 58)) da d.drop) := ⟨heap_alloc_new _ _, BW3.out.size, BW3.out.trans ((below_alloc _ _).mono BW3.out.size), N3.out.1.later (below_alloc _ _)⟩
       refine hK.out _ _ (HS.out _ BX.out.2.2.1) ?_
       clear hK K' z0 z1 z2 z3 z4 z5 f0 f1 f2 f3 f4 f5 hzz
       (try simp only [Act.put, lsA, lsZ, lsN])
       refine wpAnyX_one (j := 11) (by decide +kernel) rfl (fun K' hK => ?_)
       go_simp
       refine hK.out _ _ (HS.out _ BX.out.2.2.1) ?_
       clear hK K'
       (try simp only [Act.put, lsA, lsZ, lsN])
       refine wpAnyX_done (by decide +kernel) ?_
       generalize (w3.alloc (.cells #[.int .i64 d.look, .int .i64 d.kind, .int .i64 d.prod, .slice da d.drop.length dc, .bool d.sd, .int .i64 d.lev] 58)) = W4 at *
       go_wp2_with fail
       go_meet
       case rel => exact ⟨_, da, dc, rfl, rfl, BX.out.1, BX.out.2.1, BX.out.2.2.1, BX.out.2.2.2⟩
      ·go_simp
       have BA4 : Hid (Below wr.heap.size wr (wr.drew.alloc dZero)) := BDR.out.trans (below_alloc wr.drew dZero)
       have hs4 : Hid ((fun w' : World => w'.cell? ⟨xb, 0, none⟩ = some (.slice x.ta x.ts.length x.tc) /\ w'.cell? ⟨xb, 1, none⟩ = some (.slice x.na x.ns.length x.nc) /\ w'.cell? ⟨xb, 2, none⟩ = some (.int .i64 x.start) /\ w'.cell? ⟨xb, 3, none⟩ = some (.slice x.pa x.ps.length x.pc) /\ w'.cell? ⟨xb, 4, none⟩ = some (.slice x.la x.ls.length x.lc) /\ w'.cell? ⟨ob, oo + i * 4, none⟩ = some (.int .i64 p.st) /\ w'.cell? ⟨ob, oo + i * 4 + 1, none⟩ = some (.int .i64 p.look) /\ w'.cell? ⟨ob, oo + i * 4 + 2, none⟩ = some (.int .i64 p.shift) /\ w'.cell? ⟨ob, oo + i * 4 + 3, none⟩ = some (.slice p.ra p.red.length p.rc)) (wr.drew.alloc dZero)) := HS.out _ BA4.out
       refine hK.out _ _ hs4.out ?_
       clear hK K'
       (try simp only [Act.put, lsA, lsZ, lsN])
       refine wpAnyX_one (j := 5) (by decide +kernel) rfl (fun K' hK => ?_)
       refine step_callX (by rfl) 13 #[x.val, p.val] _ (by apply run_call2 (enters_of Tryz.func13 (by kernel_rfl) rfl) <;> rfl) (CT.out (wr.drew.alloc dZero) BA4.out) ?_
       rintro e w3 ⟨da, dc, rfl, hrow, b3⟩
       have BW3 : Hid (Below wr.heap.size wr w3) := BA4.out.trans (b3.mono BA4.out.size)
       have BXX : Hid (((((((w3.setCell ⟨wr.heap.size, 0, none⟩ (.int .i64 d.look)).setCell ⟨wr.heap.size, 1, none⟩ (.int .i64 d.kind)).setCell ⟨wr.heap.size, 2, none⟩ (.int .i64 d.prod)).setCell ⟨wr.heap.size, 3, none⟩ (.slice da d.drop.length dc)).setCell ⟨wr.heap.size, 4, none⟩ (.bool d.sd)).setCell ⟨wr.heap.size, 5, none⟩ (.int .i64 d.lev)).heap[wr.heap.size]? = some (.cells #[.int .i64 d.look, .int .i64 d.kind, .int .i64 d.prod, .slice da d.drop.length dc, .bool d.sd, .int .i64 d.lev] 58 (0, 0)) /\ Below wr.heap.size wr ((((((w3.setCell ⟨wr.heap.size, 0, none⟩ (.int .i64 d.look)).setCell ⟨wr.heap.size, 1, none⟩ (.int .i64 d.kind)).setCell ⟨wr.heap.size, 2, none⟩ (.int .i64 d.prod)).setCell ⟨wr.heap.size, 3, none⟩ (.slice da d.drop.length dc)).setCell ⟨wr.heap.size, 4, none⟩ (.bool d.sd)).setCell ⟨wr.heap.size, 5, none⟩ (.int .i64 d.lev)) /\ RwO wr.heap.size ((((((w3.setCell ⟨wr.heap.size, 0, none⟩ (.int .i64 d.look)).setCell ⟨wr.heap.size, 1, none⟩ (.int .i64 d.kind)).setCell ⟨wr.heap.size, 2, none⟩ (.int .i64 d.prod)).setCell ⟨wr.heap.size, 3, none⟩ (.slice da d.drop.length dc)).setCell ⟨wr.heap.size, 4, none⟩ (.bool d.sd)).setCell ⟨wr.heap.size, 5, none⟩ (.int .i64 d.lev)) da d.drop /\ w3.heap[wr.heap.size]? = some (.cells #[.int .i64 0, .int .i64 0, .int .i64 0, .slice none 0 0, .bool false, .int .i64 0] 58 (0, 0))) := box_b b3 hrow (.int .i64 d.look) (.int .i64 d.kind) (.int .i64 d.prod) (.slice da d.drop.length dc) (.bool d.sd) (.int .i64 d.lev)
       have hs5 : Hid ((fun w' : World => w'.cell? ⟨xb, 0, none⟩ = some (.slice x.ta x.ts.length x.tc) /\ w'.cell? ⟨xb, 1, none⟩ = some (.slice x.na x.ns.length x.nc) /\ w'.cell? ⟨xb, 2, none⟩ = some (.int .i64 x.start) /\ w'.cell? ⟨xb, 3, none⟩ = some (.slice x.pa x.ps.length x.pc) /\ w'.cell? ⟨xb, 4, none⟩ = some (.slice x.la x.ls.length x.lc) /\ w'.cell? ⟨ob, oo + i * 4, none⟩ = some (.int .i64 p.st) /\ w'.cell? ⟨ob, oo + i * 4 + 1, none⟩ = some (.int .i64 p.look) /\ w'.cell? ⟨ob, oo + i * 4 + 2, none⟩ = some (.int .i64 p.shift) /\ w'.cell? ⟨ob, oo + i * 4 + 3, none⟩ = some (.slice p.ra p.red.length p.rc)) w3) := HS.out _ BW3.out
       refine ⟨_, rfl, hK.out _ _ hs5.out ?_⟩
       clear hK K' b3 hrow
       (try simp only [Act.put, lsA, lsZ, lsN])
       refine takeF (i := 6) (v := ?_) rfl (by kernel_rfl) (by decide +kernel) (by decide +kernel) (fun _ _ _ h => h) (Or.inl ⟨by rfl, ?_⟩) hs5.out ?_
       rotate_left
       ·(intro w hSw; (try dsimp only at hSw); go_simp; try (with_reducible rfl))
       (try simp only [Act.put, lsA, lsZ, lsN])
       refine takeF (i := 7) (v := ?_) rfl (by kernel_rfl) (by decide +kernel) (by decide +kernel) (fun _ _ _ h => h) (Or.inl ⟨by rfl, ?_⟩) hs5.out ?_
       rotate_left
       ·(intro w hSw; (try dsimp only at hSw); go_simp; try (with_reducible rfl))
       (try simp only [Act.put, lsA, lsZ, lsN])
       refine takeF (i := 8) (v := ?_) rfl (by kernel_rfl) (by decide +kernel) (by decide +kernel) (fun _ _ _ h => h) (Or.inl ⟨by rfl, ?_⟩) hs5.out ?_
       rotate_left
       ·(intro w hSw; (try dsimp only at hSw); go_simp; try (with_reducible rfl))
       (try simp only [Act.put, lsA, lsZ, lsN])
       obtain ⟨⟨z0, z1, z2, z3, z4, z5⟩, ⟨f0, f1, f2, f3, f4, f5⟩, hzz⟩ := dz_cells BXX.out.2.2.2
       refine wpAnyX_one (j := 10) (by decide +kernel) rfl (fun K' hK => ?_)
       go_simp
       refine hK.out _ _ (HS.out _ BXX.out.2.1) ?_
       clear hK K' z0 z1 z2 z3 z4 z5 f0 f1 f2 f3 f4 f5 hzz
       (try simp only [Act.put, lsA, lsZ, lsN])
       refine wpAnyX_one (j := 11) (by decide +kernel) rfl (fun K' hK => ?_)
       go_simp
       refine hK.out _ _ (HS.out _ BXX.out.2.1) ?_
       clear hK K'
       (try simp only [Act.put, lsA, lsZ, lsN])
       refine wpAnyX_done (by decide +kernel) ?_
       generalize ((((((w3.setCell ⟨wr.heap.size, 0, none⟩ (.int .i64 d.look)).setCell ⟨wr.heap.size, 1, none⟩ (.int .i64 d.kind)).setCell ⟨wr.heap.size, 2, none⟩ (.int .i64 d.prod)).setCell ⟨wr.heap.size, 3, none⟩ (.slice da d.drop.length dc)).setCell ⟨wr.heap.size, 4, none⟩ (.bool d.sd)).setCell ⟨wr.heap.size, 5, none⟩ (.int .i64 d.lev)) = W4 at *
       go_wp2_with fail
       go_meet
       case rel => exact ⟨_, da, dc, rfl, rfl, BXX.out.1, Nat.le_refl _, BXX.out.2.1, BXX.out.2.2.1⟩
     case rest =>
      obtain ⟨b1, da1, dc1, rfl, rfl, hbx1, hlb1, hbb1, hrw1⟩ := hcut
      have UC : Hid (CU g x l own w xb V E (some ⟨ob, oo, none⟩) wc) := HU.out.later hbb1
      have HX1 : Hid (wc.heap[b1]? = some (.cells #[.int .i64 d.look, .int .i64 d.kind, .int .i64 d.prod, .slice da1 d.drop.length dc1, .bool d.sd, .int .i64 d.lev] 58 (0, 0)) /\ InRow wc da1 d.drop) := ⟨hbx1, hrw1.1⟩
      clear hbx1 hlb1 hbb1 hrw1 HS CT HU
      obtain ⟨wz, rfl⟩ : ∃ wz : World, wz = wr := ⟨_, rfl⟩
      obtain ⟨wr, rfl⟩ : ∃ wq : World, wq = wc := ⟨_, rfl⟩
      have HS : Hid (∀ w', Below wr.heap.size wr w' -> (fun w' : World => w'.cell? ⟨w.heap.size, 0, none⟩ = some (.slice g.ta g.ts.length g.tc) /\ w'.cell? ⟨w.heap.size, 1, none⟩ = some (.slice g.na g.ns.length g.nc) /\ w'.cell? ⟨w.heap.size, 2, none⟩ = some (.int .i64 g.start) /\ w'.cell? ⟨w.heap.size, 3, none⟩ = some (.slice g.pa g.ps.length g.pc) /\ w'.cell? ⟨w.heap.size, 4, none⟩ = some (.slice g.la g.ls.length g.lc) /\ w'.cell? ⟨lb, lo + i * 4, none⟩ = some (.int .i64 q.st) /\ w'.cell? ⟨lb, lo + i * 4 + 1, none⟩ = some (.int .i64 q.look) /\ w'.cell? ⟨lb, lo + i * 4 + 2, none⟩ = some (.int .i64 q.shift) /\ w'.cell? ⟨lb, lo + i * 4 + 3, none⟩ = some (.slice q.ra q.red.length q.rc)) w') := fun w' hb => by
       have k := UC.out.later hb
       obtain ⟨a0, a1, a2, a3, a4⟩ := gb_cells k.gb
       obtain ⟨c0, c1, c2, c3⟩ := (HR.out w' k.bel).at rfl hil HQ.out.1
       exact ⟨a0, a1, a2, a3, a4, c0, c1, c2, c3⟩
      have CT : Hid (∀ w', Below wr.heap.size wr w' -> Calls Tryz.prog 14 #[g.val, q.val] w' fun e w'' => ∃ ao c, e = .returned (.tuple #[dval d ao c, .int .i64 er]) /\ RwO w'.heap.size w'' ao d.drop /\ Below w'.heap.size w' w'') := fun w' hb => by
       have := RQ.out w' q HQ.out.2 (UC.out.later hb).bel
       rw [HDE.out] at this
       exact this
      go_upto_region 19 with fail
      go_cut [19, 20] from 89 to 122 (fun z19 z20 wx => ∃ b da dc, z19 = .pointer (some ⟨b, 0, none⟩) /\ z20 = .int .i64 er /\ wx.heap[b]? = some (.cells #[.int .i64 d.look, .int .i64 d.kind, .int .i64 d.prod, .slice da d.drop.length dc, .bool d.sd, .int .i64 d.lev] 58 (0, 0)) /\ wr.heap.size <= b /\ Below wr.heap.size wr wx /\ RwO wr.heap.size wx da d.drop)
      case first =>
       have BDR : Hid (Below wr.heap.size wr wr.drew) := (Below.refl _ _).drew
       have hs : Hid ((fun w' : World => w'.cell? ⟨w.heap.size, 0, none⟩ = some (.slice g.ta g.ts.length g.tc) /\ w'.cell? ⟨w.heap.size, 1, none⟩ = some (.slice g.na g.ns.length g.nc) /\ w'.cell? ⟨w.heap.size, 2, none⟩ = some (.int .i64 g.start) /\ w'.cell? ⟨w.heap.size, 3, none⟩ = some (.slice g.pa g.ps.length g.pc) /\ w'.cell? ⟨w.heap.size, 4, none⟩ = some (.slice g.la g.ls.length g.lc) /\ w'.cell? ⟨lb, lo + i * 4, none⟩ = some (.int .i64 q.st) /\ w'.cell? ⟨lb, lo + i * 4 + 1, none⟩ = some (.int .i64 q.look) /\ w'.cell? ⟨lb, lo + i * 4 + 2, none⟩ = some (.int .i64 q.shift) /\ w'.cell? ⟨lb, lo + i * 4 + 3, none⟩ = some (.slice q.ra q.red.length q.rc)) wr.drew) := HS.out _ BDR.out
       refine wp_region_x (S := fun _ => (fun w' : World => w'.cell? ⟨w.heap.size, 0, none⟩ = some (.slice g.ta g.ts.length g.tc) /\ w'.cell? ⟨w.heap.size, 1, none⟩ = some (.slice g.na g.ns.length g.nc) /\ w'.cell? ⟨w.heap.size, 2, none⟩ = some (.int .i64 g.start) /\ w'.cell? ⟨w.heap.size, 3, none⟩ = some (.slice g.pa g.ps.length g.pc) /\ w'.cell? ⟨w.heap.size, 4, none⟩ = some (.slice g.la g.ls.length g.lc) /\ w'.cell? ⟨lb, lo + i * 4, none⟩ = some (.int .i64 q.st) /\ w'.cell? ⟨lb, lo + i * 4 + 1, none⟩ = some (.int .i64 q.look) /\ w'.cell? ⟨lb, lo + i * 4 + 2, none⟩ = some (.int .i64 q.shift) /\ w'.cell? ⟨lb, lo + i * 4 + 3, none⟩ = some (.slice q.ra q.red.length q.rc))) (by kernel_rfl) ?_
       refine takeF (i := 0) (v := ?_) rfl (by kernel_rfl) (by decide +kernel) (by decide +kernel) (fun _ _ _ h => h) (Or.inl ⟨by rfl, ?_⟩) hs.out ?_
       rotate_left
       ·(intro w hSw; (try dsimp only at hSw); go_simp; try (with_reducible rfl))
       (try simp only [Act.put, lsA, lsZ, lsN])
       refine takeF (i := 1) (v := ?_) rfl (by kernel_rfl) (by decide +kernel) (by decide +kernel) (fun _ _ _ h => h) (Or.inl ⟨by rfl, ?_⟩) hs.out ?_
       rotate_left
       ·(intro w hSw; (try dsimp only at hSw); go_simp; try (with_reducible rfl))
       (try simp only [Act.put, lsA, lsZ, lsN])
       refine takeF (i := 2) (v := ?_) rfl (by kernel_rfl) (by decide +kernel) (by decide +kernel) (fun _ _ _ h => h) (Or.inl ⟨by rfl, ?_⟩) hs.out ?_
       rotate_left
       ·(intro w hSw; (try dsimp only at hSw); go_simp; try (with_reducible rfl))
       (try simp only [Act.put, lsA, lsZ, lsN])
       refine takeF (i := 3) (v := ?_) rfl (by kernel_rfl) (by decide +kernel) (by decide +kernel) (fun _ _ _ h => h) (Or.inl ⟨by rfl, ?_⟩) hs.out ?_
       rotate_left
       ·(intro w hSw; (try dsimp only at hSw); go_simp; try (with_reducible rfl))
       (try simp only [Act.put, lsA, lsZ, lsN])
       refine takeF (i := 4) (v := ?_) rfl (by kernel_rfl) (by decide +kernel) (by decide +kernel) (fun _ _ _ h => h) (Or.inl ⟨by rfl, ?_⟩) hs.out ?_
       rotate_left
       ·(intro w hSw; (try dsimp only at hSw); go_simp; try (with_reducible rfl))
       (try simp only [Act.put, lsA, lsZ, lsN])
       refine pickA (i := 5) (j := 9) (by decide +kernel) rfl rfl (fun K' hK => ?_) (fun K' hK => ?_)
       ·refine step_callX (by rfl) 14 #[g.val, q.val] _ (by apply run_call2 (enters_of Tryz.func14 (by kernel_rfl) rfl) <;> rfl) (CT.out wr.drew BDR.out) ?_
        rintro e w3 ⟨da, dc, rfl, hrow, b3⟩
        have N3 : Hid (RwO wr.heap.size w3 da d.drop /\ Below wr.heap.size wr.drew w3) := ⟨hrow, b3⟩
        have BW3 : Hid (Below wr.heap.size wr w3) := BDR.out.trans b3
        have hs3 : Hid ((fun w' : World => w'.cell? ⟨w.heap.size, 0, none⟩ = some (.slice g.ta g.ts.length g.tc) /\ w'.cell? ⟨w.heap.size, 1, none⟩ = some (.slice g.na g.ns.length g.nc) /\ w'.cell? ⟨w.heap.size, 2, none⟩ = some (.int .i64 g.start) /\ w'.cell? ⟨w.heap.size, 3, none⟩ = some (.slice g.pa g.ps.length g.pc) /\ w'.cell? ⟨w.heap.size, 4, none⟩ = some (.slice g.la g.ls.length g.lc) /\ w'.cell? ⟨lb, lo + i * 4, none⟩ = some (.int .i64 q.st) /\ w'.cell? ⟨lb, lo + i * 4 + 1, none⟩ = some (.int .i64 q.look) /\ w'.cell? ⟨lb, lo + i * 4 + 2, none⟩ = some (.int .i64 q.shift) /\ w'.cell? ⟨lb, lo + i * 4 + 3, none⟩ = some (.slice q.ra q.red.length q.rc)) w3) := HS.out _ BW3.out
        refine ⟨_, rfl, hK.out _ _ hs3.out ?_⟩
        clear hK K' b3 hrow
        (try simp only [Act.put, lsA, lsZ, lsN])
        refine takeF (i := 6) (v := ?_) rfl (by kernel_rfl) (by decide +kernel) (by decide +kernel) (fun _ _ _ h => h) (Or.inl ⟨by rfl, ?_⟩) hs3.out ?_
        rotate_left
        ·(intro w hSw; (try dsimp only at hSw); go_simp; try (with_reducible rfl))
        (try simp only [Act.put, lsA, lsZ, lsN])
        refine takeF (i := 7) (v := ?_) rfl (by kernel_rfl) (by decide +kernel) (by decide +kernel) (fun _ _ _ h => h) (Or.inl ⟨by rfl, ?_⟩) hs3.out ?_
        rotate_left
        ·(intro w hSw; (try dsimp only at hSw); go_simp; try (with_reducible rfl))
        (try simp only [Act.put, lsA, lsZ, lsN])
        refine takeF (i := 8) (v := ?_) rfl (by kernel_rfl) (by decide +kernel) (by decide +kernel) (fun _ _ _ h => h) (Or.inl ⟨by rfl, ?_⟩) hs3.out ?_
        rotate_left
        ·(intro w hSw; (try dsimp only at hSw); go_simp; try (with_reducible rfl))
        (try simp only [Act.put, lsA, lsZ, lsN])
        refine wpAnyX_one (j := 9) (by decide +kernel) rfl (fun K' hK => ?_)
        go_simp
        have BA4 : Hid (Below wr.heap.size wr (w3.alloc dZero)) := BW3.out.trans ((below_alloc _ _).mono BW3.out.size)
        have hz4 : (w3.alloc dZero).heap[w3.heap.size]? = some (.cells #[.int .i64 0, .int .i64 0, .int .i64 0, .slice none 0 0, .bool false, .int .i64 0] 58 (0, 0)) := heap_alloc_new w3 dZero
        obtain ⟨⟨z0, z1, z2, z3, z4, z5⟩, ⟨f0, f1, f2, f3, f4, f5⟩, hzz⟩ := dz_cells hz4
        clear hz4
        refine hK.out _ _ (HS.out _ BA4.out) ?_
        clear hK K'
        (try simp only [Act.put, lsA, lsZ, lsN])
        refine wpAnyX_one (j := 10) (by decide +kernel) rfl (fun K' hK => ?_)
        go_simp
        have BX : Hid ((w3.alloc (.cells #[.int .i64 d.look, .int .i64 d.kind, .int .i64 d.prod, .slice da d.drop.length dc, .bool d.sd, .int .i64 d.lev] 58)).heap[w3.heap.size]? = some (.cells #[.int .i64 d.look, .int .i64 d.kind, .int .i64 d.prod, .slice da d.drop.length dc, .bool d.sd, .int .i64 d.lev] 58 (0, 0)) /\ wr.heap.size <= w3.heap.size /\ Below wr.heap.size wr (w3.alloc (.cells #[.int .i64 d.look, .int .i64 d.kind, .int .i64 d.prod, .slice da d.drop.length dc, .bool d.sd, .int .i64 d.lev] 58)) /\ RwO wr.heap.size (w3.alloc (.cells #[.int .i64 d.look, .int .i64 d.kind, .int .i64 d.prod, .slice da d.drop.length dc, .bool d.sd, .int .i64 d.lev] 58)) da d.drop) := ⟨heap_alloc_new _ _, BW3.out.size, BW3.out.trans ((below_alloc _ _).mono BW3.out.size), N3.out.1.later (below_alloc _ _)⟩
        refine hK.out _ _ (HS.out _ BX.out.2.2.1) ?_
        clear hK K' z0 z1 z2 z3 z4 z5 f0 f1 f2 f3 f4 f5 hzz
        (try simp only [Act.put, lsA, lsZ, lsN])
        refine wpAnyX_one (j := 11) (by decide +kernel) rfl (fun K' hK => ?_)
        go_simp
        refine hK.out _ _ (HS.out _ BX.out.2.2.1) ?_
        clear hK K'
        (try simp only [Act.put, lsA, lsZ, lsN])
        refine wpAnyX_done (by decide +kernel) ?_
        generalize (w3.alloc (.cells #[.int .i64 d.look, .int .i64 d.kind, .int .i64 d.prod, .slice da d.drop.length dc, .bool d.sd, .int .i64 d.lev] 58)) = W4 at *
        go_wp2_with fail
        go_meet
        case rel => exact ⟨_, da, dc, rfl, rfl, BX.out.1, BX.out.2.1, BX.out.2.2.1, BX.out.2.2.2⟩
       ·go_simp
        have BA4 : Hid (Below wr.heap.size wr (wr.drew.alloc dZero)) := BDR.out.trans (below_alloc wr.drew dZero)
        have hs4 : Hid ((fun w' : World => w'.cell? ⟨w.heap.size, 0, none⟩ = some (.slice g.ta g.ts.length g.tc) /\ w'.cell? ⟨w.heap.size, 1, none⟩ = some (.slice g.na g.ns.length g.nc) /\ w'.cell? ⟨w.heap.size, 2, none⟩ = some (.int .i64 g.start) /\ w'.cell? ⟨w.heap.size, 3, none⟩ = some (.slice g.pa g.ps.length g.pc) /\ w'.cell? ⟨w.heap.size, 4, none⟩ = some (.slice g.la g.ls.length g.lc) /\ w'.cell? ⟨lb, lo + i * 4, none⟩ = some (.int .i64 q.st) /\ w'.cell? ⟨lb, lo + i * 4 + 1, none⟩ = some (.int .i64 q.look) /\ w'.cell? ⟨lb, lo + i * 4 + 2, none⟩ = some (.int .i64 q.shift) /\ w'.cell? ⟨lb, lo + i * 4 + 3, none⟩ = some (.slice q.ra q.red.length q.rc)) (wr.drew.alloc dZero)) := HS.out _ BA4.out
        refine hK.out _ _ hs4.out ?_
        clear hK K'
        (try simp only [Act.put, lsA, lsZ, lsN])
        refine wpAnyX_one (j := 5) (by decide +kernel) rfl (fun K' hK => ?_)
        refine step_callX (by rfl) 14 #[g.val, q.val] _ (by apply run_call2 (enters_of Tryz.func14 (by kernel_rfl) rfl) <;> rfl) (CT.out (wr.drew.alloc dZero) BA4.out) ?_
        rintro e w3 ⟨da, dc, rfl, hrow, b3⟩
        have BW3 : Hid (Below wr.heap.size wr w3) := BA4.out.trans (b3.mono BA4.out.size)
        have BXX : Hid (((((((w3.setCell ⟨wr.heap.size, 0, none⟩ (.int .i64 d.look)).setCell ⟨wr.heap.size, 1, none⟩ (.int .i64 d.kind)).setCell ⟨wr.heap.size, 2, none⟩ (.int .i64 d.prod)).setCell ⟨wr.heap.size, 3, none⟩ (.slice da d.drop.length dc)).setCell ⟨wr.heap.size, 4, none⟩ (.bool d.sd)).setCell ⟨wr.heap.size, 5, none⟩ (.int .i64 d.lev)).heap[wr.heap.size]? = some (.cells #[.int .i64 d.look, .int .i64 d.kind, .int .i64 d.prod, .slice da d.drop.length dc, .bool d.sd, .int .i64 d.lev] 58 (0, 0)) /\ Below wr.heap.size wr ((((((w3.setCell ⟨wr.heap.size, 0, none⟩ (.int .i64 d.look)).setCell ⟨wr.heap.size, 1, none⟩ (.int .i64 d.kind)).setCell ⟨wr.heap.size, 2, none⟩ (.int .i64 d.prod)).setCell ⟨wr.heap.size, 3, none⟩ (.slice da d.drop.length dc)).setCell ⟨wr.heap.size, 4, none⟩ (.bool d.sd)).setCell ⟨wr.heap.size, 5, none⟩ (.int .i64 d.lev)) /\ RwO wr.heap.size ((((((w3.setCell ⟨wr.heap.size, 0, none⟩ (.int .i64 d.look)).setCell ⟨wr.heap.size, 1, none⟩ (.int .i64 d.kind)).setCell ⟨wr.heap.size, 2, none⟩ (.int .i64 d.prod)).setCell ⟨wr.heap.size, 3, none⟩ (.slice da d.drop.length dc)).setCell ⟨wr.heap.size, 4, none⟩ (.bool d.sd)).setCell ⟨wr.heap.size, 5, none⟩ (.int .i64 d.lev)) da d.drop /\ w3.heap[wr.heap.size]? = some (.cells #[.int .i64 0, .int .i64 0, .int .i64 0, .slice none 0 0, .bool false, .int .i64 0] 58 (0, 0))) := box_b b3 hrow (.int .i64 d.look) (.int .i64 d.kind) (.int .i64 d.prod) (.slice da d.drop.length dc) (.bool d.sd) (.int .i64 d.lev)
        have hs5 : Hid ((fun w' : World => w'.cell? ⟨w.heap.size, 0, none⟩ = some (.slice g.ta g.ts.length g.tc) /\ w'.cell? ⟨w.heap.size, 1, none⟩ = some (.slice g.na g.ns.length g.nc) /\ w'.cell? ⟨w.heap.size, 2, none⟩ = some (.int .i64 g.start) /\ w'.cell? ⟨w.heap.size, 3, none⟩ = some (.slice g.pa g.ps.length g.pc) /\ w'.cell? ⟨w.heap.size, 4, none⟩ = some (.slice g.la g.ls.length g.lc) /\ w'.cell? ⟨lb, lo + i * 4, none⟩ = some (.int .i64 q.st) /\ w'.cell? ⟨lb, lo + i * 4 + 1, none⟩ = some (.int .i64 q.look) /\ w'.cell? ⟨lb, lo + i * 4 + 2, none⟩ = some (.int .i64 q.shift) /\ w'.cell? ⟨lb, lo + i * 4 + 3, none⟩ = some (.slice q.ra q.red.length q.rc)) w3) := HS.out _ BW3.out
        refine ⟨_, rfl, hK.out _ _ hs5.out ?_⟩
        clear hK K' b3 hrow
        (try simp only [Act.put, lsA, lsZ, lsN])
        refine takeF (i := 6) (v := ?_) rfl (by kernel_rfl) (by decide +kernel) (by decide +kernel) (fun _ _ _ h => h) (Or.inl ⟨by rfl, ?_⟩) hs5.out ?_
        rotate_left
        ·(intro w hSw; (try dsimp only at hSw); go_simp; try (with_reducible rfl))
        (try simp only [Act.put, lsA, lsZ, lsN])
        refine takeF (i := 7) (v := ?_) rfl (by kernel_rfl) (by decide +kernel) (by decide +kernel) (fun _ _ _ h => h) (Or.inl ⟨by rfl, ?_⟩) hs5.out ?_
        rotate_left
        ·(intro w hSw; (try dsimp only at hSw); go_simp; try (with_reducible rfl))
        (try simp only [Act.put, lsA, lsZ, lsN])
        refine takeF (i := 8) (v := ?_) rfl (by kernel_rfl) (by decide +kernel) (by decide +kernel) (fun _ _ _ h => h) (Or.inl ⟨by rfl, ?_⟩) hs5.out ?_
        rotate_left
        ·(intro w hSw; (try dsimp only at hSw); go_simp; try (with_reducible rfl))
        (try simp only [Act.put, lsA, lsZ, lsN])
        obtain ⟨⟨z0, z1, z2, z3, z4, z5⟩, ⟨f0, f1, f2, f3, f4, f5⟩, hzz⟩ := dz_cells BXX.out.2.2.2
        refine wpAnyX_one (j := 10) (by decide +kernel) rfl (fun K' hK => ?_)
        go_simp
        refine hK.out _ _ (HS.out _ BXX.out.2.1) ?_
        clear hK K' z0 z1 z2 z3 z4 z5 f0 f1 f2 f3 f4 f5 hzz
        (try simp only [Act.put, lsA, lsZ, lsN])
        refine wpAnyX_one (j := 11) (by decide +kernel) rfl (fun K' hK => ?_)
        go_simp
        refine hK.out _ _ (HS.out _ BXX.out.2.1) ?_
        clear hK K'
        (try simp only [Act.put, lsA, lsZ, lsN])
        refine wpAnyX_done (by decide +kernel) ?_
        generalize ((((((w3.setCell ⟨wr.heap.size, 0, none⟩ (.int .i64 d.look)).setCell ⟨wr.heap.size, 1, none⟩ (.int .i64 d.kind)).setCell ⟨wr.heap.size, 2, none⟩ (.int .i64 d.prod)).setCell ⟨wr.heap.size, 3, none⟩ (.slice da d.drop.length dc)).setCell ⟨wr.heap.size, 4, none⟩ (.bool d.sd)).setCell ⟨wr.heap.size, 5, none⟩ (.int .i64 d.lev)) = W4 at *
        go_wp2_with fail
        go_meet
        case rel => exact ⟨_, da, dc, rfl, rfl, BXX.out.1, Nat.le_refl _, BXX.out.2.1, BXX.out.2.2.1⟩
      case rest =>
       obtain ⟨b2, da2, dc2, rfl, rfl, hbx2, hlb2, hbb2, hrw2⟩ := hcut
       have UD : Hid (CU g x l own w xb V E (some ⟨ob, oo, none⟩) wc) := UC.out.later hbb2
       have hx1 := blk_later HX1.out.1 hbb2
       have SP : Hid (Calls Tryz.prog 15 #[dval d da1 dc1, dval d da2 dc2] wc fun e w' => e = .returned (.bool true) /\ Below wc.heap.size wc w') := same_P d da1 da2 dc1 dc2 wc HDN.out (HX1.out.2.later hbb2) hrw2.1
       have e0c : wc.cell? ⟨b1, 0, none⟩ = some (.int .i64 d.look) := (cellq_any hx1).trans rfl
       have e1c : wc.cell? ⟨b1, 1, none⟩ = some (.int .i64 d.kind) := (cellq_any hx1).trans rfl
       have e2c : wc.cell? ⟨b1, 2, none⟩ = some (.int .i64 d.prod) := (cellq_any hx1).trans rfl
       have e3c : wc.cell? ⟨b1, 3, none⟩ = some (.slice da1 d.drop.length dc1) := (cellq_any hx1).trans rfl
       have e4c : wc.cell? ⟨b1, 4, none⟩ = some (.bool d.sd) := (cellq_any hx1).trans rfl
       have e5c : wc.cell? ⟨b1, 5, none⟩ = some (.int .i64 d.lev) := (cellq_any hx1).trans rfl
       have i0c : wc.cell? ⟨b2, 0, none⟩ = some (.int .i64 d.look) := (cellq_any hbx2).trans rfl
       have i1c : wc.cell? ⟨b2, 1, none⟩ = some (.int .i64 d.kind) := (cellq_any hbx2).trans rfl
       have i2c : wc.cell? ⟨b2, 2, none⟩ = some (.int .i64 d.prod) := (cellq_any hbx2).trans rfl
       have i3c : wc.cell? ⟨b2, 3, none⟩ = some (.slice da2 d.drop.length dc2) := (cellq_any hbx2).trans rfl
       have i4c : wc.cell? ⟨b2, 4, none⟩ = some (.bool d.sd) := (cellq_any hbx2).trans rfl
       have i5c : wc.cell? ⟨b2, 5, none⟩ = some (.int .i64 d.lev) := (cellq_any hbx2).trans rfl
       have t4 : (er != er) = false := by simp
       clear hbx2 hlb2 hbb2 hrw2 hx1 HS CT UC HX1
       go_wp2_with (first
        | (go_at_call 15; refine SP.out.mono ?_; rintro e w6 ⟨rfl, b6⟩; have U6 : Hid (CU g x l own w xb V E (some ⟨ob, oo, none⟩) w6) := UD.out.later b6; clear b6 e0c e1c e2c e3c e4c e5c i0c i1c i2c i3c i4c i5c)
        | (go_at_call 8; refine (num14_P _ _).mono ?_; rintro e wn ⟨rfl, rfl⟩))
       go_roundw
       case rel => exact ⟨i + 1, by omega, by go_num, U6.out⟩
       case measure => simp [intOf]; omega
    ·obtain rfl : i = l.length := by omega
     have ilt : ¬ (l.length : Int) < (l.length : Int) := by omega
     clear hU
     go_wp2_with (first
      | (go_at_call 9; refine (gintact _ V tyG E wr HU.out.hg.inv HU.out.hg.st (by have := HU.out.hg.l1; have := HFI.out.ll; omega) (by have := HU.out.hg.l2; omega) (by have := HU.out.hg.l4; have := HFI.out.pl; omega)).mono ?_; rintro e w4 ⟨rfl, b4⟩; have U4 : Hid (CU g x l own w xb V E oa w4) := HU.out.later b4; clear b4)
      | (go_at_call 10; refine (works_P w4).mono ?_; rintro e w5 ⟨rfl, b5⟩; have U5 : Hid (CU g x l own w xb V E oa w5) := U4.out.later b5; clear b5))
     go_ret
     exact ⟨rfl, U5.out.bel⟩
theorem resolves_walk (g : GV) (ao : Option Addr) (cap : Nat) (l : List CV) (w : World) (h : GAt 140737488355328 w g) (hfi : GFine g) (hl : l.length <= 1048576) (hdd : ∀ x ∈ l, x.red.length <= 1048576) (hr : CfRow w ao l) :
  Calls Tryz.prog 3 #[g.val, .slice ao l.length cap] w fun e w' => e = .returned (.bool true) /\ Below w.heap.size w w' := by
 by_cases h0 : (checkG g (checkF g.ts g.ns)).1 = 0
 ·exact resolves_yes g ao cap l w h hfi hl hdd hr (checkG g (checkF g.ts g.ns)).2 (by rw [<- h0])
 ·exact resolves_no g ao cap l w h hfi hl hdd hr _ _ rfl h0
end Go.Proofs.YtjpknihkcndoiaaGreat
