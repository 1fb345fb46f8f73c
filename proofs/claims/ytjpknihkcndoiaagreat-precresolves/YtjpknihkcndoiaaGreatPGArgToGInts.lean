import Derived.Test.YtjpknihkcndoiaaGreatPBBaseToGRow
import Derived.Test.YtjpknihkcndoiaaGreatRows
import Derived.ProofKit
import Derived.OpenShut
import Derived.ShutString
import Derived.ChangeOld
import Derived.Below
import Derived.SizedLaws
import Derived.Deep.Slices
import Derived.Lib.SmallJoins
namespace Go.Proofs.YtjpknihkcndoiaaGreat
set_option linter.unusedVariables false
set_option maxRecDepth 100000
set_option maxHeartbeats 16000000
open Go.ChangeShapes Go.WideShapes Go.ChangeAt Go.RowKit
theorem gown : ownKnob Tryz.prog.godebug = none := by kernel_rfl
theorem glaid : laidOutB Tryz.prog = true := by kernel_rfl
theorem gcellsInt : Tryz.prog.cellsOf 3 = 1 := by kernel_rfl
theorem gcellsKind : Tryz.prog.cellsOf 107 = 1 := by kernel_rfl
theorem gcellsAssoc : Tryz.prog.cellsOf 71 = 1 := by kernel_rfl
theorem gcellsSym : Tryz.prog.cellsOf 109 = 2 := by kernel_rfl
theorem gcellsStr : Tryz.prog.cellsOf 9 = 1 := by kernel_rfl
theorem gcellsStrs : Tryz.prog.cellsOf 22 = 1 := by kernel_rfl
theorem gcellsInts : Tryz.prog.cellsOf 42 = 1 := by kernel_rfl
theorem gcellsSyms : Tryz.prog.cellsOf 67 = 1 := by kernel_rfl
theorem gcellsProd : Tryz.prog.cellsOf 69 = 3 := by kernel_rfl
theorem gcellsProds : Tryz.prog.cellsOf 23 = 1 := by kernel_rfl
theorem gcellsLevel : Tryz.prog.cellsOf 73 = 2 := by kernel_rfl
theorem gcellsLevels : Tryz.prog.cellsOf 24 = 1 := by kernel_rfl
theorem gcellsGram : Tryz.prog.cellsOf 26 = 5 := by kernel_rfl
def LD {H : Type} (n : Nat) (d : DataW H) : Prop := (d = .nil /\ n = 0) ∨ ∃ el sp, d = .slice el sp /\ el.length = n
section
variable {H : Type} {enc : TypeId × Value -> H} {W : World}
theorem otext {fuel : Nat} {cs : List Value} {x : DataW H × List MemPlace} (hf : DataW.trod enc Tryz.prog W 0 (fun _ => true) true fuel 22 cs = some x) :
  ∃ (a : Option Addr) (cap : Nat) (l : List ByteArray), cs = [.slice a l.length cap] /\ (∀ s ∈ l, s.size <= maxLen) /\ StrRow W a l /\ l.length <= cap /\ ((x.1 = .nil /\ l = []) ∨ ∃ sp, x.1 = .slice (l.map fun s => .lit (.string s.data.toList)) sp) := by
 rcases Go.Deep.open_slice Tryz.underlying22 hf with ⟨hcs, hx⟩ | ⟨a, len, cap, m, n, D, Pl, hcs, _, hl, _, hm, hx, hel⟩
 ·exact ⟨none, 0, [], hcs, (fun o ho => by cases ho), fun h => absurd rfl h, Nat.le_refl _, .inl ⟨by rw [hx], rfl⟩⟩
 ·have hm' : m = cap := by simpa using hm
  have each : ∀ i, i < m -> ∃ s : ByteArray, W.cell? (a.add (i * 1)) = some (.string s) /\ s.size <= maxLen /\ D i = .lit (.string s.data.toList) := by
   intro i hi
   obtain ⟨cs', h1, h2⟩ := hel i hi
   rw [gcellsStr] at h1
   obtain ⟨hl1, _, hcell⟩ := World.cells?_some h1
   obtain ⟨s, hs, hx2, hsz⟩ := DataW.trod_string Tryz.underlying9 h2
   subst hs
   have e0 := hcell 0 (by omega)
   rw [Go.Deep.add_add] at e0
   simp only [Prod.mk.injEq] at hx2
   exact ⟨s, by simpa using e0, hsz, hx2.1⟩
  obtain ⟨f, hfs⟩ : ∃ f : Nat -> ByteArray, ∀ i, i < m -> W.cell? (a.add (i * 1)) = some (.string (f i)) /\ (f i).size <= maxLen /\ D i = .lit (.string (f i).data.toList) :=
   ⟨fun i => if h : i < m then Classical.choose (each i h) else ByteArray.empty, fun i h => by simp only [dif_pos h]; exact Classical.choose_spec (each i h)⟩
  have hpl : ((List.range len).map f).length = len := by simp
  have hgd : ∀ i, i < len -> ((List.range len).map f).getD i ByteArray.empty = f i := fun i hi => by simp [List.getD, hi]
  refine ⟨some a, cap, (List.range len).map f, by rw [hpl]; exact hcs, fun o ho => ?_, fun hne => ?_, by rw [hpl]; exact hl, .inr ⟨(List.range (m - len)).map fun j => D (len + j), ?_⟩⟩
  ·obtain ⟨i, hi, rfl⟩ := List.mem_map.1 ho
   exact (hfs i (by have := List.mem_range.1 hi; omega)).2.1
  ·obtain ⟨b, off, spot⟩ := a
   have h0 : 0 < len := by
    rcases Nat.eq_zero_or_pos len with e | e
    ·subst e; simp at hne
    ·exact e
   have hc0 := (hfs 0 (by omega)).1
   have hspot : spot = none := by simpa [Addr.add] using World.cell?_spot hc0
   subst hspot
   refine ⟨b, off, rfl, ?_, fun i hi => ?_⟩
   ·have := World.block_lt_of_cell? W _ hc0
    rw [add_none] at this
    exact this
   ·rw [hpl] at hi
    rw [hgd i hi]
    have e0 := (hfs i (by omega)).1
    rw [add_none, Nat.mul_one] at e0
    exact e0
  ·rw [hx, List.map_map]
   show DataW.slice _ _ = DataW.slice _ _
   congr 1
   apply List.map_congr_left
   intro i hi
   exact (hfs i (by have := List.mem_range.1 hi; omega)).2.2
theorem onums {fuel : Nat} {cs : List Value} {x : DataW H × List MemPlace} (hf : DataW.trod enc Tryz.prog W 0 (fun _ => true) true fuel 42 cs = some x) :
  ∃ (a : Option Addr) (cap : Nat) (l : List Int), cs = [.slice a l.length cap] /\ InRow W a l /\ l.length <= cap /\ LD l.length x.1 /\ ∀ z ∈ l, -9223372036854775808 <= z /\ z <= 9223372036854775807 := by
 rcases Go.Deep.open_slice Tryz.underlying42 hf with ⟨hcs, hx⟩ | ⟨a, len, cap, m, n, D, Pl, hcs, _, hl, _, hm, hx, hel⟩
 ·exact ⟨none, 0, [], hcs, fun h => absurd rfl h, Nat.le_refl _, .inl ⟨by rw [hx], rfl⟩, (fun o ho => by cases ho)⟩
 ·have hm' : m = cap := by simpa using hm
  have each : ∀ i, i < m -> ∃ s : Int, W.cell? (a.add (i * 1)) = some (.int .i64 s) /\ (-9223372036854775808 <= s /\ s <= 9223372036854775807) := by
   intro i hi
   obtain ⟨cs', h1, h2⟩ := hel i hi
   rw [gcellsInt] at h1
   obtain ⟨hl1, _, hcell⟩ := World.cells?_some h1
   obtain ⟨s, hs, _, hsz⟩ := DataW.trod_int Tryz.underlying3 h2
   subst hs
   have e0 := hcell 0 (by omega)
   rw [Go.Deep.add_add] at e0
   exact ⟨s, by simpa using e0, bounds_i64 hsz⟩
  obtain ⟨f, hfs⟩ : ∃ f : Nat -> Int, ∀ i, i < m -> W.cell? (a.add (i * 1)) = some (.int .i64 (f i)) /\ (-9223372036854775808 <= f i /\ f i <= 9223372036854775807) :=
   ⟨fun i => if h : i < m then Classical.choose (each i h) else 0, fun i h => by simp only [dif_pos h]; exact Classical.choose_spec (each i h)⟩
  have hpl : ((List.range len).map f).length = len := by simp
  have hgd : ∀ i, i < len -> ((List.range len).map f).getD i 0 = f i := fun i hi => by simp [List.getD, hi]
  refine ⟨some a, cap, (List.range len).map f, by rw [hpl]; exact hcs, fun hne => ?_, by rw [hpl]; exact hl, .inr ⟨_, _, by rw [hx], by simp⟩, fun z hz => ?_⟩
  ·obtain ⟨b, off, spot⟩ := a
   have h0 : 0 < len := by
    rcases Nat.eq_zero_or_pos len with e | e
    ·subst e; simp at hne
    ·exact e
   have hc0 := (hfs 0 (by omega)).1
   have hspot : spot = none := by simpa [Addr.add] using World.cell?_spot hc0
   subst hspot
   refine ⟨b, off, rfl, ?_, fun i hi => ?_⟩
   ·have := World.block_lt_of_cell? W _ hc0
    rw [add_none] at this
    exact this
   ·rw [hpl] at hi
    rw [hgd i hi]
    have e0 := (hfs i (by omega)).1
    rw [add_none, Nat.mul_one] at e0
    exact e0
  ·obtain ⟨i, hi, rfl⟩ := List.mem_map.1 hz
   exact (hfs i (by have := List.mem_range.1 hi; omega)).2
theorem osymc {fuel : Nat} {cs : List Value} {x : DataW H × List MemPlace} (h : DataW.trod enc Tryz.prog W 0 (fun _ => true) true fuel 109 cs = some x) : ∃ q : Int × Int, cs = [.int .i64 q.1, .int .i64 q.2] := by
 obtain ⟨xs, n, _, hx, hl, hlen, hf⟩ := DataW.trod_struct Tryz.underlying109 h
 rw [gcellsSym] at hl
 match xs, hlen, cs, hl with
 | [y0, y1], _, [e0, e1], _ =>
  have g0 := hf 0 _ rfl
  have g1 := hf 1 _ rfl
  simp [gcellsInt, gcellsKind] at g0 g1
  obtain ⟨a, ha, _, _⟩ := DataW.trod_int Tryz.underlying107 g0
  obtain ⟨b, hb, _, _⟩ := DataW.trod_int Tryz.underlying3 g1
  simp only [List.cons.injEq, and_true] at ha hb
  subst ha; subst hb
  exact ⟨(a, b), rfl⟩
theorem osymsC {fuel : Nat} {cs : List Value} {x : DataW H × List MemPlace} (hf : DataW.trod enc Tryz.prog W 0 (fun _ => true) true fuel 67 cs = some x) :
  ∃ (a : Option Addr) (cap : Nat) (l : List (Int × Int)), cs = [.slice a l.length cap] /\ SymRow W a l /\ LD l.length x.1 /\ l.length <= cap := by
 rcases Go.Deep.open_slice Tryz.underlying67 hf with ⟨hcs, hx⟩ | ⟨a, len, cap, m, n, D, Pl, hcs, _, hl, _, hm, hx, hel⟩
 ·exact ⟨none, 0, [], hcs, fun h => absurd rfl h, .inl ⟨by rw [hx], rfl⟩, Nat.le_refl _⟩
 ·have hm' : m = cap := by simpa using hm
  have each : ∀ i, i < m -> ∃ q : Int × Int, W.cell? (a.add (i * 2)) = some (.int .i64 q.1) /\ W.cell? (a.add (i * 2 + 1)) = some (.int .i64 q.2) := by
   intro i hi
   obtain ⟨cs', h1, h2⟩ := hel i hi
   rw [gcellsSym] at h1
   obtain ⟨hl1, _, hcell⟩ := World.cells?_some h1
   obtain ⟨q, hs⟩ := osymc h2
   subst hs
   have e0 := hcell 0 (by omega)
   have e1 := hcell 1 (by omega)
   rw [Go.Deep.add_add] at e0 e1
   exact ⟨q, by simpa using e0, by simpa using e1⟩
  obtain ⟨f, hfs⟩ : ∃ f : Nat -> Int × Int, ∀ i, i < m -> W.cell? (a.add (i * 2)) = some (.int .i64 (f i).1) /\ W.cell? (a.add (i * 2 + 1)) = some (.int .i64 (f i).2) :=
   ⟨fun i => if h : i < m then Classical.choose (each i h) else (0, 0), fun i h => by simp only [dif_pos h]; exact Classical.choose_spec (each i h)⟩
  have hpl : ((List.range len).map f).length = len := by simp
  have hgd : ∀ i, i < len -> ((List.range len).map f).getD i (0, 0) = f i := fun i hi => by simp [List.getD, hi]
  refine ⟨some a, cap, (List.range len).map f, by rw [hpl]; exact hcs, fun hne => ?_, .inr ⟨_, _, by rw [hx], by simp⟩, by rw [hpl]; exact hl⟩
  obtain ⟨b, off, spot⟩ := a
  have h0 : 0 < len := by
   rcases Nat.eq_zero_or_pos len with e | e
   ·subst e; simp at hne
   ·exact e
  have hc0 := (hfs 0 (by omega)).1
  have hspot : spot = none := by simpa [Addr.add] using World.cell?_spot hc0
  subst hspot
  refine ⟨b, off, rfl, ?_, fun i hi => ?_⟩
  ·have := World.block_lt_of_cell? W _ hc0
   rw [add_none] at this
   exact this
  ·rw [hpl] at hi
   rw [hgd i hi]
   obtain ⟨e0, e1⟩ := hfs i (by omega)
   rw [add_none] at e0 e1
   exact ⟨e0, by rw [Nat.add_assoc]; exact e1⟩
def PD (p : PV) (d : DataW H) : Prop := ∃ r, d = .agg [.lit (.int .i64 p.left), r, .lit (.int .i64 p.prec)] /\ LD p.right.length r /\ p.right.length <= p.rc
def VD (p : LV) (d : DataW H) : Prop := ∃ r, d = .agg [.lit (.int .i64 p.assoc), r] /\ LD p.terms.length r
theorem oprod {fuel : Nat} {cs : List Value} {x : DataW H × List MemPlace} (h : DataW.trod enc Tryz.prog W 0 (fun _ => true) true fuel 69 cs = some x) :
  ∃ p : PV, cs = [.int .i64 p.left, .slice p.ra p.right.length p.rc, .int .i64 p.prec] /\ SymRow W p.ra p.right /\ PD p x.1 := by
 obtain ⟨xs, n, _, hx, hl, hlen, hf⟩ := DataW.trod_struct Tryz.underlying69 h
 rw [gcellsProd] at hl
 match xs, hlen, cs, hl with
 | [y0, y1, y2], _, [e0, e1, e2], _ =>
  have g0 := hf 0 _ rfl
  have g1 := hf 1 _ rfl
  have g2 := hf 2 _ rfl
  simp [gcellsInt, gcellsSyms] at g0 g1 g2
  obtain ⟨a, ha, hda, _⟩ := DataW.trod_int Tryz.underlying3 g0
  obtain ⟨ra, rc, r, hr, hrow, hld, hcp⟩ := osymsC g1
  obtain ⟨b, hb, hdb, _⟩ := DataW.trod_int Tryz.underlying3 g2
  simp only [List.cons.injEq, and_true] at ha hb hr
  subst ha; subst hb; subst hr; subst hda; subst hdb
  exact ⟨⟨a, ra, rc, r, b⟩, rfl, hrow, y1.1, by rw [hx]; rfl, hld, hcp⟩
theorem olevel {fuel : Nat} {cs : List Value} {x : DataW H × List MemPlace} (h : DataW.trod enc Tryz.prog W 0 (fun _ => true) true fuel 73 cs = some x) :
  ∃ p : LV, cs = [.int .i64 p.assoc, .slice p.ta p.terms.length p.tc] /\ InRow W p.ta p.terms /\ VD p x.1 := by
 obtain ⟨xs, n, _, hx, hl, hlen, hf⟩ := DataW.trod_struct Tryz.underlying73 h
 rw [gcellsLevel] at hl
 match xs, hlen, cs, hl with
 | [y0, y1], _, [e0, e1], _ =>
  have g0 := hf 0 _ rfl
  have g1 := hf 1 _ rfl
  simp [gcellsAssoc, gcellsInts] at g0 g1
  obtain ⟨a, ha, hda, _⟩ := DataW.trod_int Tryz.underlying71 g0
  obtain ⟨ra, rc, r, hr, hrow, _, hld, _⟩ := onums g1
  simp only [List.cons.injEq, and_true] at ha hr
  subst ha; subst hr; subst hda
  exact ⟨⟨a, ra, rc, r⟩, rfl, hrow, y1.1, by rw [hx]; rfl, hld⟩
theorem oprods {fuel : Nat} {cs : List Value} {x : DataW H × List MemPlace} (hf : DataW.trod enc Tryz.prog W 0 (fun _ => true) true fuel 23 cs = some x) :
  ∃ (a : Option Addr) (cap : Nat) (l : List PV), cs = [.slice a l.length cap] /\ PrRow W a l /\ l.length <= cap /\ ((x.1 = .nil /\ l = []) ∨ ∃ el sp, x.1 = .slice el sp /\ el.length = l.length /\ ∀ i, i < l.length -> PD (l.getD i .none) (el.getD i .nil)) := by
 rcases Go.Deep.open_slice Tryz.underlying23 hf with ⟨hcs, hx⟩ | ⟨a, len, cap, m, n, D, Pl, hcs, _, hl, _, hm, hx, hel⟩
 ·exact ⟨none, 0, [], hcs, ⟨fun h => absurd rfl h, fun p hp => by cases hp⟩, Nat.le_refl _, .inl ⟨by rw [hx], rfl⟩⟩
 ·have hm' : m = cap := by simpa using hm
  have each : ∀ i, i < m -> ∃ p : PV, (W.cell? (a.add (i * 3)) = some (.int .i64 p.left) /\ W.cell? (a.add (i * 3 + 1)) = some (.slice p.ra p.right.length p.rc) /\ W.cell? (a.add (i * 3 + 2)) = some (.int .i64 p.prec)) /\ SymRow W p.ra p.right /\ PD p (D i) := by
   intro i hi
   obtain ⟨cs', h1, h2⟩ := hel i hi
   rw [gcellsProd] at h1
   obtain ⟨hl1, _, hcell⟩ := World.cells?_some h1
   obtain ⟨q, hs, hr, hd⟩ := oprod h2
   subst hs
   have e0 := hcell 0 (by omega)
   have e1 := hcell 1 (by omega)
   have e2 := hcell 2 (by omega)
   rw [Go.Deep.add_add] at e0 e1 e2
   exact ⟨q, ⟨by simpa using e0, by simpa using e1, by simpa using e2⟩, hr, hd⟩
  obtain ⟨f, hfs⟩ : ∃ f : Nat -> PV, ∀ i, i < m -> (W.cell? (a.add (i * 3)) = some (.int .i64 (f i).left) /\ W.cell? (a.add (i * 3 + 1)) = some (.slice (f i).ra (f i).right.length (f i).rc) /\ W.cell? (a.add (i * 3 + 2)) = some (.int .i64 (f i).prec)) /\ SymRow W (f i).ra (f i).right /\ PD (f i) (D i) :=
   ⟨fun i => if h : i < m then Classical.choose (each i h) else .none, fun i h => by simp only [dif_pos h]; exact Classical.choose_spec (each i h)⟩
  have hpl : ((List.range len).map f).length = len := by simp
  have hgd : ∀ i, i < len -> ((List.range len).map f).getD i .none = f i := fun i hi => by simp [List.getD, hi]
  refine ⟨some a, cap, (List.range len).map f, by rw [hpl]; exact hcs, ⟨fun hne => ?_, fun p hp => ?_⟩, by rw [hpl]; exact hl, .inr ⟨_, _, by rw [hx], by simp, fun i hi => ?_⟩⟩
  ·obtain ⟨b, off, spot⟩ := a
   have h0 : 0 < len := by
    rcases Nat.eq_zero_or_pos len with e | e
    ·subst e; simp at hne
    ·exact e
   have hc0 := (hfs 0 (by omega)).1.1
   have hspot : spot = none := by simpa [Addr.add] using World.cell?_spot hc0
   subst hspot
   refine ⟨b, off, rfl, ?_, fun i hi => ?_⟩
   ·have := World.block_lt_of_cell? W _ hc0
    rw [add_none] at this
    exact this
   ·rw [hpl] at hi
    rw [hgd i hi]
    obtain ⟨e0, e1, e2⟩ := (hfs i (by omega)).1
    rw [add_none] at e0 e1 e2
    exact ⟨e0, by rw [Nat.add_assoc]; exact e1, by rw [Nat.add_assoc]; exact e2⟩
  ·obtain ⟨i, hi, rfl⟩ := List.mem_map.1 hp
   exact (hfs i (by have := List.mem_range.1 hi; omega)).2.1
  ·rw [hpl] at hi
   have := (hfs i (by omega)).2.2
   rw [hgd i hi]
   have e : ((List.range len).map D).getD i DataW.nil = D i := by simp [List.getD, hi]
   rw [e]
   exact this
theorem olevels {fuel : Nat} {cs : List Value} {x : DataW H × List MemPlace} (hf : DataW.trod enc Tryz.prog W 0 (fun _ => true) true fuel 24 cs = some x) :
  ∃ (a : Option Addr) (cap : Nat) (l : List LV), cs = [.slice a l.length cap] /\ LvRow W a l /\ ((x.1 = .nil /\ l = []) ∨ ∃ el sp, x.1 = .slice el sp /\ el.length = l.length /\ ∀ i, i < l.length -> VD (l.getD i .none) (el.getD i .nil)) := by
 rcases Go.Deep.open_slice Tryz.underlying24 hf with ⟨hcs, hx⟩ | ⟨a, len, cap, m, n, D, Pl, hcs, _, hl, _, hm, hx, hel⟩
 ·exact ⟨none, 0, [], hcs, ⟨fun h => absurd rfl h, fun p hp => by cases hp⟩, .inl ⟨by rw [hx], rfl⟩⟩
 ·have hm' : m = cap := by simpa using hm
  have each : ∀ i, i < m -> ∃ p : LV, (W.cell? (a.add (i * 2)) = some (.int .i64 p.assoc) /\ W.cell? (a.add (i * 2 + 1)) = some (.slice p.ta p.terms.length p.tc)) /\ InRow W p.ta p.terms /\ VD p (D i) := by
   intro i hi
   obtain ⟨cs', h1, h2⟩ := hel i hi
   rw [gcellsLevel] at h1
   obtain ⟨hl1, _, hcell⟩ := World.cells?_some h1
   obtain ⟨q, hs, hr, hd⟩ := olevel h2
   subst hs
   have e0 := hcell 0 (by omega)
   have e1 := hcell 1 (by omega)
   rw [Go.Deep.add_add] at e0 e1
   exact ⟨q, ⟨by simpa using e0, by simpa using e1⟩, hr, hd⟩
  obtain ⟨f, hfs⟩ : ∃ f : Nat -> LV, ∀ i, i < m -> (W.cell? (a.add (i * 2)) = some (.int .i64 (f i).assoc) /\ W.cell? (a.add (i * 2 + 1)) = some (.slice (f i).ta (f i).terms.length (f i).tc)) /\ InRow W (f i).ta (f i).terms /\ VD (f i) (D i) :=
   ⟨fun i => if h : i < m then Classical.choose (each i h) else .none, fun i h => by simp only [dif_pos h]; exact Classical.choose_spec (each i h)⟩
  have hpl : ((List.range len).map f).length = len := by simp
  have hgd : ∀ i, i < len -> ((List.range len).map f).getD i .none = f i := fun i hi => by simp [List.getD, hi]
  refine ⟨some a, cap, (List.range len).map f, by rw [hpl]; exact hcs, ⟨fun hne => ?_, fun p hp => ?_⟩, .inr ⟨_, _, by rw [hx], by simp, fun i hi => ?_⟩⟩
  ·obtain ⟨b, off, spot⟩ := a
   have h0 : 0 < len := by
    rcases Nat.eq_zero_or_pos len with e | e
    ·subst e; simp at hne
    ·exact e
   have hc0 := (hfs 0 (by omega)).1.1
   have hspot : spot = none := by simpa [Addr.add] using World.cell?_spot hc0
   subst hspot
   refine ⟨b, off, rfl, ?_, fun i hi => ?_⟩
   ·have := World.block_lt_of_cell? W _ hc0
    rw [add_none] at this
    exact this
   ·rw [hpl] at hi
    rw [hgd i hi]
    obtain ⟨e0, e1⟩ := (hfs i (by omega)).1
    rw [add_none] at e0 e1
    exact ⟨e0, by rw [Nat.add_assoc]; exact e1⟩
  ·obtain ⟨i, hi, rfl⟩ := List.mem_map.1 hp
   exact (hfs i (by have := List.mem_range.1 hi; omega)).2.1
  ·rw [hpl] at hi
   have := (hfs i (by omega)).2.2
   rw [hgd i hi]
   have e : ((List.range len).map D).getD i DataW.nil = D i := by simp [List.getD, hi]
   rw [e]
   exact this
structure GD (g : GV) (d : DataW H) : Prop where
 all : ∃ dt dn dp dl, d = .agg [dt, dn, .lit (.int .i64 g.start), dp, dl] /\
  ((dt = .nil /\ g.ts = []) ∨ ∃ sp, dt = .slice (g.ts.map fun s => .lit (.string s.data.toList)) sp) /\
  ((dn = .nil /\ g.ns = []) ∨ ∃ sp, dn = .slice (g.ns.map fun s => .lit (.string s.data.toList)) sp) /\
  ((dp = .nil /\ g.ps = []) ∨ ∃ el sp, dp = .slice el sp /\ el.length = g.ps.length /\ ∀ i, i < g.ps.length -> PD (g.ps.getD i .none) (el.getD i .nil)) /\
  ((dl = .nil /\ g.ls = []) ∨ ∃ el sp, dl = .slice el sp /\ el.length = g.ls.length /\ ∀ i, i < g.ls.length -> VD (g.ls.getD i .none) (el.getD i .nil))
theorem open_gram {base : Nat} {v : Value} {d : DataW H} {p : List MemPlace} (hv : Value.okWide Tryz.prog W .any base 26 v)
  (h : DataW.Trod enc Tryz.prog W 0 (fun _ => true) true 26 v d p) :
  ∃ g : GV, v = g.val /\ (StrRow W g.ta g.ts /\ StrRow W g.na g.ns /\ PrRow W g.pa g.ps /\ LvRow W g.la g.ls /\ (∀ s ∈ g.ts, s.size <= maxLen) /\ (∀ s ∈ g.ns, s.size <= maxLen) /\ g.ps.length <= g.pc) /\ GD g d /\ (-9223372036854775808 <= g.start /\ g.start <= 9223372036854775807) := by
 obtain ⟨cs, rfl, hsz⟩ := okWide_struct Tryz.underlying26 hv
 obtain ⟨fuel, h⟩ := h
 obtain ⟨xs, n, _, hx, hl, hlen, hf⟩ := DataW.trod_struct Tryz.underlying26 h
 simp only [Value.cells] at hl hf
 rw [gcellsGram] at hl
 obtain ⟨cs⟩ := cs
 simp only at hl hf
 match xs, hlen, cs, hl with
 | [y0, y1, y2, y3, y4], _, [e0, e1, e2, e3, e4], _ =>
  have g0 := hf 0 _ rfl
  have g1 := hf 1 _ rfl
  have g2 := hf 2 _ rfl
  have g3 := hf 3 _ rfl
  have g4 := hf 4 _ rfl
  simp [gcellsInt, gcellsStrs, gcellsProds, gcellsLevels] at g0 g1 g2 g3 g4
  obtain ⟨ta, tc, ts, ht, htz, htr, _, htd⟩ := otext g0
  obtain ⟨na, nc, ns, hn, hnz, hnr, _, hnd⟩ := otext g1
  obtain ⟨st, hs, hsd, hsw⟩ := DataW.trod_int Tryz.underlying3 g2
  obtain ⟨pa, pc, ps, hp, hpr, hpc, hpd⟩ := oprods g3
  obtain ⟨la, lc, ls, hl2, hlr, hld⟩ := olevels g4
  simp only [List.cons.injEq, and_true] at ht hn hs hp hl2
  subst ht; subst hn; subst hs; subst hp; subst hl2; subst hsd
  simp only [Prod.mk.injEq] at hx
  exact ⟨⟨ta, tc, ts, na, nc, ns, st, pa, pc, ps, la, lc, ls⟩, rfl, ⟨htr, hnr, hpr, hlr, htz, hnz, hpc⟩, ⟨y0.1, y1.1, y3.1, y4.1, hx.1, htd, hnd, hpd, hld⟩, bounds_i64 hsw⟩
end
end Go.Proofs.YtjpknihkcndoiaaGreat
namespace Go.Proofs.YtjpknihkcndoiaaGreat
set_option linter.unusedVariables false
set_option maxRecDepth 100000
set_option maxHeartbeats 16000000
open Go.ChangeShapes Go.WideShapes Go.ChangeAt Go.RowKit
section
variable {H : Type}
theorem getD_in {α : Type} {l : List α} {d : α} {j : Nat} (h : j < l.length) : l.getD j d ∈ l := by
 have e : l.getD j d = l[j] := by simp [List.getD, h]
 rw [e]; exact List.getElem_mem h
theorem in_getD {α : Type} {l : List α} {d x : α} (h : x ∈ l) : ∃ i, i < l.length /\ x = l.getD i d := by
 obtain ⟨i, hi, rfl⟩ := List.getElem_of_mem h
 exact ⟨i, hi, by simp [List.getD, hi]⟩
end
end Go.Proofs.YtjpknihkcndoiaaGreat
namespace Go.Proofs.YtjpknihkcndoiaaGreat
set_option linter.unusedVariables false
set_option maxRecDepth 100000
set_option maxHeartbeats 16000000
open Go.ChangeShapes Go.WideShapes Go.ChangeAt Go.RowKit
end Go.Proofs.YtjpknihkcndoiaaGreat
