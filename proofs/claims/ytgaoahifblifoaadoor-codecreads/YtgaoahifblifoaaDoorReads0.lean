import Derived.Test.YtgaoahifblifoaaDoorRMore2
import Derived.Test.YtgaoahifblifoaaDoorRefR4
import Derived.Test.YtgaoahifblifoaaDoorFrames
import Derived.Deep.RegionHeld3
namespace Go.Proofs.YtgaoahifblifoaaDoor
set_option linter.unusedVariables false
open Go.RowKit

/-- Both readers, over the same bytes, at the same place, with the same first error. -/
structure Pair2 (w : World) (r q : Nat) (ro : Option Addr) (N rc : Nat) (qo : Option Addr) (qc : Nat) (xs : List Int) (p1 p2 : Nat) (e1 e2 : Int) : Prop where
  R : RInv w r ro N rc xs p1 e1
  Q : QInv w q qo qc xs p2 e2
  qcap : xs.length ≤ qc
theorem Pair2.ne {w : World} {r q : Nat} {ro : Option Addr} {N rc : Nat} {qo : Option Addr} {qc : Nat} {xs : List Int} {p1 p2 : Nat} {e1 e2 : Int} (h : Pair2 w r q ro N rc qo qc xs p1 p2 e1 e2) : r ≠ q := by
  intro e
  have := h.R.hr
  rw [e, h.Q.hq] at this
  simp at this
theorem Pair2.later {w w' : World} {r q : Nat} {ro : Option Addr} {N rc : Nat} {qo : Option Addr} {qc : Nat} {xs : List Int} {p1 p2 : Nat} {e1 e2 : Int} (h : Pair2 w r q ro N rc qo qc xs p1 p2 e1 e2) (hb : Below w.heap.size w w') : Pair2 w' r q ro N rc qo qc xs p1 p2 e1 e2 := ⟨h.R.later hb, h.Q.later hb, h.qcap⟩
/-- The bytes of one do not lie in the block of the other. -/
theorem QInv.keptR {w w' : World} {r q : Nat} {ro : Option Addr} {N rc : Nat} {qo : Option Addr} {qc : Nat} {xs : List Int} {p1 p2 : Nat} {e1 e2 : Int} (h : Pair2 w r q ro N rc qo qc xs p1 p2 e1 e2) (ho : ROnly w w' r) : QInv w' q qo qc xs p2 e2 := by
  refine ⟨(ho.block q (lt_of_block h.Q.hq) h.ne.symm).trans h.Q.hq, ?_, h.Q.pos_, h.Q.lim, h.Q.far⟩
  refine ⟨h.Q.row.1, fun hn => ?_⟩
  obtain ⟨b, off, hb, hc⟩ := h.Q.row.2 hn
  refine ⟨b, off, hb, fun i hi => ?_⟩
  have h1 := hc i hi
  have hbr : b ≠ r := by
    intro e
    have h0 := hc 0 (by cases xs with | nil => exact absurd rfl hn | cons => simp)
    rw [e] at h0
    simp only [World.cell?, h.R.hr] at h0
    have : off < 4 := by
      have := (Array.getElem?_eq_some_iff.1 h0).1
      simpa using this
    match off, this, h0 with
    | 0, _, h0 => simp at h0
    | 1, _, h0 => simp at h0
    | 2, _, h0 => simp at h0
    | 3, _, h0 => simp at h0
  have hlt := World.block_lt_of_cell? w _ h1
  rw [← h1]
  exact World.cell?_of_block (w := w) (ho.block b hlt hbr)
theorem RInv.keptQ {w w' : World} {r q : Nat} {ro : Option Addr} {N rc : Nat} {qo : Option Addr} {qc : Nat} {xs : List Int} {p1 p2 : Nat} {e1 e2 : Int} (h : Pair2 w r q ro N rc qo qc xs p1 p2 e1 e2) (ho : ROnly w w' q) : RInv w' r ro N rc xs p1 e1 := by
  refine ⟨(ho.block r h.R.lt h.ne).trans h.R.hr, h.R.len, ?_, h.R.nil, h.R.cap, h.R.pos, h.R.lim, h.R.shape⟩
  refine ⟨h.R.row.1, fun hn => ?_⟩
  obtain ⟨b, off, hb, hc⟩ := h.R.row.2 hn
  refine ⟨b, off, hb, fun i hi => ?_⟩
  have h1 := hc i hi
  have hbq : b ≠ q := by
    intro e
    have h0 := hc 0 (by cases xs with | nil => exact absurd rfl hn | cons => simp)
    rw [e] at h0
    simp only [World.cell?, h.Q.hq] at h0
    have : off < 4 := by
      have := (Array.getElem?_eq_some_iff.1 h0).1
      simpa using this
    match off, this, h0 with
    | 0, _, h0 => simp at h0
    | 1, _, h0 => simp at h0
    | 2, _, h0 => simp at h0
    | 3, _, h0 => simp at h0
  have hlt := World.block_lt_of_cell? w _ h1
  rw [← h1]
  exact World.cell?_of_block (w := w) (ho.block b hlt hbq)
/-- In the midst: the readers, the box of the order, what has turned since w0. -/
structure Mid2 (B : Nat) (w0 w : World) (r q z : Nat) (ro : Option Addr) (N rc : Nat) (qo : Option Addr) (qc : Nat) (xs : List Int) (p1 p2 : Nat) (e1 e2 : Int) (wh mo le co : Int) : Prop where
  P : Pair2 w r q ro N rc qo qc xs p1 p2 e1 e2
  box : w.heap[z]? = some (.cells #[.int .i64 wh, .int .i64 mo, .int .i64 le, .int .i64 co] 68 (0, 0))
  be : Below B w0 w
  lo : B ≤ r ∧ B ≤ q ∧ B ≤ w.heap.size
section
variable {B : Nat} {w0 w w' : World} {r q z : Nat} {ro : Option Addr} {N rc : Nat} {qo : Option Addr} {qc : Nat} {xs : List Int} {p1 p2 p1' p2' : Nat} {e1 e2 e1' e2' : Int} {wh mo le co : Int}
theorem Mid2.cells (h : Mid2 B w0 w r q z ro N rc qo qc xs p1 p2 e1 e2 wh mo le co) : w.cell? ⟨z, 0, none⟩ = some (.int .i64 wh) ∧ w.cell? ⟨z, 1, none⟩ = some (.int .i64 mo) ∧ w.cell? ⟨z, 2, none⟩ = some (.int .i64 le) ∧ w.cell? ⟨z, 3, none⟩ = some (.int .i64 co) ∧ z < w.heap.size := by
  have b := h.box
  exact ⟨by simp [World.cell?, b], by simp [World.cell?, b], by simp [World.cell?, b], by simp [World.cell?, b], lt_of_block b⟩
theorem Mid2.zr (h : Mid2 B w0 w r q z ro N rc qo qc xs p1 p2 e1 e2 wh mo le co) : z ≠ r := by intro e; have := h.box; rw [e, h.P.R.hr] at this; simp at this
theorem Mid2.zq (h : Mid2 B w0 w r q z ro N rc qo qc xs p1 p2 e1 e2 wh mo le co) : z ≠ q := by intro e; have := h.box; rw [e, h.P.Q.hq] at this; simp at this
theorem Mid2.stepR (h : Mid2 B w0 w r q z ro N rc qo qc xs p1 p2 e1 e2 wh mo le co) (hr : RInv w' r ro N rc xs p1' e1') (ho : ROnly w w' r) : Mid2 B w0 w' r q z ro N rc qo qc xs p1' p2 e1' e2 wh mo le co :=
  ⟨⟨hr, QInv.keptR h.P ho, h.P.qcap⟩, (ho.block z (lt_of_block h.box) h.zr).trans h.box, h.be.trans (ho.below h.lo.1 h.lo.2.2), ⟨h.lo.1, h.lo.2.1, Nat.le_trans h.lo.2.2 ho.size⟩⟩
theorem Mid2.stepQ (h : Mid2 B w0 w r q z ro N rc qo qc xs p1 p2 e1 e2 wh mo le co) (hr : QInv w' q qo qc xs p2' e2') (ho : ROnly w w' q) : Mid2 B w0 w' r q z ro N rc qo qc xs p1 p2' e1 e2' wh mo le co :=
  ⟨⟨RInv.keptQ h.P ho, hr, h.P.qcap⟩, (ho.block z (lt_of_block h.box) h.zq).trans h.box, h.be.trans (ho.below h.lo.2.1 h.lo.2.2), ⟨h.lo.1, h.lo.2.1, Nat.le_trans h.lo.2.2 ho.size⟩⟩
theorem Mid2.later (h : Mid2 B w0 w r q z ro N rc qo qc xs p1 p2 e1 e2 wh mo le co) (hb : Below w.heap.size w w') : Mid2 B w0 w' r q z ro N rc qo qc xs p1 p2 e1 e2 wh mo le co :=
  ⟨h.P.later hb, (hb.block z (lt_of_block h.box)).trans h.box, h.be.trans (hb.mono h.lo.2.2), ⟨h.lo.1, h.lo.2.1, Nat.le_trans h.lo.2.2 hb.size⟩⟩
end
end Go.Proofs.YtgaoahifblifoaaDoor
