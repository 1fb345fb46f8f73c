import Derived.Test.YtccednepbkjajaaPBBaseToGRow
import Derived.Test.YtccednepbkjajaaRows
import Derived.ProofKit
import Derived.OpenShut
import Derived.ShutString
import Derived.ChangeOld
import Derived.Below
import Derived.SizedLaws
import Derived.Deep.Slices
import Derived.Lib.SmallJoins
namespace Go.Proofs.Ytccednepbkjajaa
set_option linter.unusedVariables false
open Go.RowKit
abbrev gBox (g : GV) : Obj := .cells #[.slice g.ta g.ts.length g.tc, .slice g.na g.ns.length g.nc, .int .i64 g.start, .slice g.pa g.ps.length g.pc, .slice g.la g.ls.length g.lc] 26
def inT (g : GV) (n : Int) : Bool := decide (0 <= n /\ n < g.ts.length)
def inN (g : GV) (n : Int) : Bool := decide (0 <= n /\ n < g.ns.length)
def inG (g : GV) (k n : Int) : Bool := if k = 1 then inT g n else if k = 2 then inN g n else false
set_option maxRecDepth 100000 in
set_option maxHeartbeats 2000000 in
theorem isterm_any (g : GV) (n : Int) (w : World) (hl : g.ts.length <= 140737488355328) : Calls Try.prog 71 #[g.val, .int .i64 n] w fun e w' => e = .returned (.bool (inT g n)) /\ Below w.heap.size w w' := by
 have fin := below_alloc w (gBox g)
 by_cases h0 : 0 <= n
 ·by_cases h1 : n < g.ts.length
  ·have E : Hid (inT g n = true) := by show _ = _; simp [inT, h0, h1]
   go_enter Try.func71, Try.ntmps71
   go_wp2
   go_ret
   exact ⟨by rw [E.out]; rfl, fin⟩
  ·have E : Hid (inT g n = false) := by show _ = _; simp [inT, h1]
   go_enter Try.func71, Try.ntmps71
   go_wp2
   go_ret
   exact ⟨by rw [E.out]; rfl, fin⟩
 ·have E : Hid (inT g n = false) := by show _ = _; simp [inT, h0]
  go_enter Try.func71, Try.ntmps71
  go_wp2
  go_ret
  exact ⟨by rw [E.out]; rfl, fin⟩
set_option maxRecDepth 100000 in
set_option maxHeartbeats 2000000 in
theorem isnon_any (g : GV) (n : Int) (w : World) (hl : g.ns.length <= 140737488355328) : Calls Try.prog 58 #[g.val, .int .i64 n] w fun e w' => e = .returned (.bool (inN g n)) /\ Below w.heap.size w w' := by
 have fin := below_alloc w (gBox g)
 by_cases h0 : 0 <= n
 ·by_cases h1 : n < g.ns.length
  ·have E : Hid (inN g n = true) := by show _ = _; simp [inN, h0, h1]
   go_enter Try.func58, Try.ntmps58
   go_wp2
   go_ret
   exact ⟨by rw [E.out]; rfl, fin⟩
  ·have E : Hid (inN g n = false) := by show _ = _; simp [inN, h1]
   go_enter Try.func58, Try.ntmps58
   go_wp2
   go_ret
   exact ⟨by rw [E.out]; rfl, fin⟩
 ·have E : Hid (inN g n = false) := by show _ = _; simp [inN, h0]
  go_enter Try.func58, Try.ntmps58
  go_wp2
  go_ret
  exact ⟨by rw [E.out]; rfl, fin⟩
abbrev syBox (k n : Int) : Obj := .cells #[.int .i64 k, .int .i64 n] 47
theorem two_box (w : World) (g : GV) (k n : Int) : Below w.heap.size w ((w.alloc (gBox g)).alloc (syBox k n)) := (below_alloc w _).alloc (below_alloc w _).size _
set_option maxRecDepth 100000 in
set_option maxHeartbeats 2000000 in
theorem in_g (g : GV) (k n : Int) (w : World) (h1 : g.ts.length <= 140737488355328) (h2 : g.ns.length <= 140737488355328) : Calls Try.prog 54 #[g.val, .agg #[.int .i64 k, .int .i64 n]] w fun e w' => e = .returned (.bool (inG g k n)) /\ Below w.heap.size w w' := by
 have fin := two_box w g k n
 by_cases k1 : k = 1
 ·subst k1
  have E : Hid (inG g 1 n = inT g n) := rfl
  go_enter Try.func54, Try.ntmps54
  go_wp2_with (first
   | (go_at_call 71; refine (isterm_any g n _ h1).mono ?_; rintro e w1 ⟨rfl, b1⟩; have B1 := fin.trans (b1.mono fin.size); clear b1))
  go_ret
  exact ⟨by rw [E.out]; rfl, B1⟩
 by_cases k2 : k = 2
 ·subst k2
  have E : Hid (inG g 2 n = inN g n) := rfl
  go_enter Try.func54, Try.ntmps54
  go_wp2_with (first
   | (go_at_call 58; refine (isnon_any g n _ h2).mono ?_; rintro e w1 ⟨rfl, b1⟩; have B1 := fin.trans (b1.mono fin.size); clear b1))
  go_ret
  exact ⟨by rw [E.out]; rfl, B1⟩
 have q1 : (k == 1) = false := by simp [k1]
 have q2 : (k == 2) = false := by simp [k2]
 have E : Hid (inG g k n = false) := by show _ = _; unfold inG; rw [if_neg k1, if_neg k2]
 go_enter Try.func54, Try.ntmps54
 go_wp2
 go_ret
 exact ⟨by rw [E.out]; rfl, fin⟩
open Go.ChangeShapes Go.WideShapes Go.ChangeAt Go.RowKit
theorem gown : ownKnob Try.prog.godebug = none := by kernel_rfl
theorem glaid : laidOutB Try.prog = true := by kernel_rfl
theorem gcellsInt : Try.prog.cellsOf 3 = 1 := by kernel_rfl
theorem gcellsKind : Try.prog.cellsOf 45 = 1 := by kernel_rfl
theorem gcellsAssoc : Try.prog.cellsOf 97 = 1 := by kernel_rfl
theorem gcellsSym : Try.prog.cellsOf 47 = 2 := by kernel_rfl
theorem gcellsStr : Try.prog.cellsOf 9 = 1 := by kernel_rfl
theorem gcellsStrs : Try.prog.cellsOf 22 = 1 := by kernel_rfl
theorem gcellsInts : Try.prog.cellsOf 36 = 1 := by kernel_rfl
theorem gcellsSyms : Try.prog.cellsOf 50 = 1 := by kernel_rfl
theorem gcellsProd : Try.prog.cellsOf 52 = 3 := by kernel_rfl
theorem gcellsProds : Try.prog.cellsOf 23 = 1 := by kernel_rfl
theorem gcellsLevel : Try.prog.cellsOf 99 = 2 := by kernel_rfl
theorem gcellsLevels : Try.prog.cellsOf 24 = 1 := by kernel_rfl
theorem gcellsGram : Try.prog.cellsOf 26 = 5 := by kernel_rfl
def LD {H : Type} (n : Nat) (d : DataW H) : Prop := (d = .nil /\ n = 0) ∨ ∃ el sp, d = .slice el sp /\ el.length = n
section
variable {H : Type} {enc : TypeId × Value -> H} {W : World}
set_option maxRecDepth 100000 in
theorem otext {fuel : Nat} {cs : List Value} {x : DataW H × List MemPlace} (hf : DataW.trod enc Try.prog W 0 (fun _ => true) true fuel 22 cs = some x) :
  ∃ (a : Option Addr) (cap : Nat) (l : List ByteArray), cs = [.slice a l.length cap] /\ (∀ s ∈ l, s.size <= maxLen) /\ StrRow W a l /\ l.length <= cap /\ ((x.1 = .nil /\ l = []) ∨ ∃ sp, x.1 = .slice (l.map fun s => .lit (.string s.data.toList)) sp) := by
 rcases Go.Deep.open_slice Try.underlying22 hf with ⟨hcs, hx⟩ | ⟨a, len, cap, m, n, D, Pl, hcs, _, hl, _, hm, hx, hel⟩
 ·exact ⟨none, 0, [], hcs, (fun o ho => by cases ho), fun h => absurd rfl h, Nat.le_refl _, .inl ⟨by rw [hx], rfl⟩⟩
 ·have hm' : m = cap := by simpa using hm
  have each : ∀ i, i < m -> ∃ s : ByteArray, W.cell? (a.add (i * 1)) = some (.string s) /\ s.size <= maxLen /\ D i = .lit (.string s.data.toList) := by
   intro i hi
   obtain ⟨cs', h1, h2⟩ := hel i hi
   rw [gcellsStr] at h1
   obtain ⟨hl1, _, hcell⟩ := World.cells?_some h1
   obtain ⟨s, hs, hx2, hsz⟩ := DataW.trod_string Try.underlying9 h2
   subst hs
   have e0 := hcell 0 (by omega)
   rw [Go.Deep.add_add] at e0
   simp only [Prod.mk.injEq] at hx2
   exact ⟨s, by simpa using e0, hsz, hx2.1⟩
  obtain ⟨f, hfs⟩ : ∃ f : Nat -> ByteArray, ∀ i, i < m -> W.cell? (a.add (i * 1)) = some (.string (f i)) /\ (f i).size <= maxLen /\ D i = .lit (.string (f i).data.toList) :=
   ⟨fun i => if h : i < m then Classical.choose (each i h) else ByteArray.empty, fun i h => by simp only [dif_pos h]; exact Classical.choose_spec (each i h)⟩
  have hpl : ((List.range len).map f).length = len := by simp
  have hgd : ∀ i, i < len -> ((List.range len).map f).getD i ByteArray.empty = f i := fun i hi => by simp [List.getD, hi]
  refine ⟨some a, cap, (List.range len).map f, by rw [hpl]; exact hcs, fun o ho => ?_, fun hne => ?_, by rw [hpl]; exact hl, .inr ⟨(List.range (m - len)).map fun j => D (len + j), ?_⟩⟩
  ·obtain ⟨i, hi, rfl⟩ := List.mem_map.1 ho
   exact (hfs i (by have := List.mem_range.1 hi; omega)).2.1
  ·obtain ⟨b, off, spot⟩ := a
   have h0 : 0 < len := by
    rcases Nat.eq_zero_or_pos len with e | e
    ·subst e; simp at hne
    ·exact e
   have hc0 := (hfs 0 (by omega)).1
   have hspot : spot = none := by simpa [Addr.add] using World.cell?_spot hc0
   subst hspot
   refine ⟨b, off, rfl, ?_, fun i hi => ?_⟩
   ·have := World.block_lt_of_cell? W _ hc0
    rw [add_none] at this
    exact this
   ·rw [hpl] at hi
    rw [hgd i hi]
    have e0 := (hfs i (by omega)).1
    rw [add_none, Nat.mul_one] at e0
    exact e0
  ·rw [hx, List.map_map]
   show DataW.slice _ _ = DataW.slice _ _
   congr 1
   apply List.map_congr_left
   intro i hi
   exact (hfs i (by have := List.mem_range.1 hi; omega)).2.2
set_option maxRecDepth 100000 in
theorem onums {fuel : Nat} {cs : List Value} {x : DataW H × List MemPlace} (hf : DataW.trod enc Try.prog W 0 (fun _ => true) true fuel 36 cs = some x) :
  ∃ (a : Option Addr) (cap : Nat) (l : List Int), cs = [.slice a l.length cap] /\ InRow W a l /\ l.length <= cap /\ LD l.length x.1 /\ ∀ z ∈ l, -9223372036854775808 <= z /\ z <= 9223372036854775807 := by
 rcases Go.Deep.open_slice Try.underlying36 hf with ⟨hcs, hx⟩ | ⟨a, len, cap, m, n, D, Pl, hcs, _, hl, _, hm, hx, hel⟩
 ·exact ⟨none, 0, [], hcs, fun h => absurd rfl h, Nat.le_refl _, .inl ⟨by rw [hx], rfl⟩, (fun o ho => by cases ho)⟩
 ·have hm' : m = cap := by simpa using hm
  have each : ∀ i, i < m -> ∃ s : Int, W.cell? (a.add (i * 1)) = some (.int .i64 s) /\ (-9223372036854775808 <= s /\ s <= 9223372036854775807) := by
   intro i hi
   obtain ⟨cs', h1, h2⟩ := hel i hi
   rw [gcellsInt] at h1
   obtain ⟨hl1, _, hcell⟩ := World.cells?_some h1
   obtain ⟨s, hs, _, hsz⟩ := DataW.trod_int Try.underlying3 h2
   subst hs
   have e0 := hcell 0 (by omega)
   rw [Go.Deep.add_add] at e0
   exact ⟨s, by simpa using e0, bounds_i64 hsz⟩
  obtain ⟨f, hfs⟩ : ∃ f : Nat -> Int, ∀ i, i < m -> W.cell? (a.add (i * 1)) = some (.int .i64 (f i)) /\ (-9223372036854775808 <= f i /\ f i <= 9223372036854775807) :=
   ⟨fun i => if h : i < m then Classical.choose (each i h) else 0, fun i h => by simp only [dif_pos h]; exact Classical.choose_spec (each i h)⟩
  have hpl : ((List.range len).map f).length = len := by simp
  have hgd : ∀ i, i < len -> ((List.range len).map f).getD i 0 = f i := fun i hi => by simp [List.getD, hi]
  refine ⟨some a, cap, (List.range len).map f, by rw [hpl]; exact hcs, fun hne => ?_, by rw [hpl]; exact hl, .inr ⟨_, _, by rw [hx], by simp⟩, fun z hz => ?_⟩
  ·obtain ⟨b, off, spot⟩ := a
   have h0 : 0 < len := by
    rcases Nat.eq_zero_or_pos len with e | e
    ·subst e; simp at hne
    ·exact e
   have hc0 := (hfs 0 (by omega)).1
   have hspot : spot = none := by simpa [Addr.add] using World.cell?_spot hc0
   subst hspot
   refine ⟨b, off, rfl, ?_, fun i hi => ?_⟩
   ·have := World.block_lt_of_cell? W _ hc0
    rw [add_none] at this
    exact this
   ·rw [hpl] at hi
    rw [hgd i hi]
    have e0 := (hfs i (by omega)).1
    rw [add_none, Nat.mul_one] at e0
    exact e0
  ·obtain ⟨i, hi, rfl⟩ := List.mem_map.1 hz
   exact (hfs i (by have := List.mem_range.1 hi; omega)).2
set_option maxRecDepth 100000 in
theorem osymc {fuel : Nat} {cs : List Value} {x : DataW H × List MemPlace} (h : DataW.trod enc Try.prog W 0 (fun _ => true) true fuel 47 cs = some x) : ∃ q : Int × Int, cs = [.int .i64 q.1, .int .i64 q.2] := by
 obtain ⟨xs, n, _, hx, hl, hlen, hf⟩ := DataW.trod_struct Try.underlying47 h
 rw [gcellsSym] at hl
 match xs, hlen, cs, hl with
 | [y0, y1], _, [e0, e1], _ =>
  have g0 := hf 0 _ rfl
  have g1 := hf 1 _ rfl
  simp [gcellsInt, gcellsKind] at g0 g1
  obtain ⟨a, ha, _, _⟩ := DataW.trod_int Try.underlying45 g0
  obtain ⟨b, hb, _, _⟩ := DataW.trod_int Try.underlying3 g1
  simp only [List.cons.injEq, and_true] at ha hb
  subst ha; subst hb
  exact ⟨(a, b), rfl⟩
set_option maxRecDepth 100000 in
theorem osymsC {fuel : Nat} {cs : List Value} {x : DataW H × List MemPlace} (hf : DataW.trod enc Try.prog W 0 (fun _ => true) true fuel 50 cs = some x) :
  ∃ (a : Option Addr) (cap : Nat) (l : List (Int × Int)), cs = [.slice a l.length cap] /\ SymRow W a l /\ LD l.length x.1 /\ l.length <= cap := by
 rcases Go.Deep.open_slice Try.underlying50 hf with ⟨hcs, hx⟩ | ⟨a, len, cap, m, n, D, Pl, hcs, _, hl, _, hm, hx, hel⟩
 ·exact ⟨none, 0, [], hcs, fun h => absurd rfl h, .inl ⟨by rw [hx], rfl⟩, Nat.le_refl _⟩
 ·have hm' : m = cap := by simpa using hm
  have each : ∀ i, i < m -> ∃ q : Int × Int, W.cell? (a.add (i * 2)) = some (.int .i64 q.1) /\ W.cell? (a.add (i * 2 + 1)) = some (.int .i64 q.2) := by
   intro i hi
   obtain ⟨cs', h1, h2⟩ := hel i hi
   rw [gcellsSym] at h1
   obtain ⟨hl1, _, hcell⟩ := World.cells?_some h1
   obtain ⟨q, hs⟩ := osymc h2
   subst hs
   have e0 := hcell 0 (by omega)
   have e1 := hcell 1 (by omega)
   rw [Go.Deep.add_add] at e0 e1
   exact ⟨q, by simpa using e0, by simpa using e1⟩
  obtain ⟨f, hfs⟩ : ∃ f : Nat -> Int × Int, ∀ i, i < m -> W.cell? (a.add (i * 2)) = some (.int .i64 (f i).1) /\ W.cell? (a.add (i * 2 + 1)) = some (.int .i64 (f i).2) :=
   ⟨fun i => if h : i < m then Classical.choose (each i h) else (0, 0), fun i h => by simp only [dif_pos h]; exact Classical.choose_spec (each i h)⟩
  have hpl : ((List.range len).map f).length = len := by simp
  have hgd : ∀ i, i < len -> ((List.range len).map f).getD i (0, 0) = f i := fun i hi => by simp [List.getD, hi]
  refine ⟨some a, cap, (List.range len).map f, by rw [hpl]; exact hcs, fun hne => ?_, .inr ⟨_, _, by rw [hx], by simp⟩, by rw [hpl]; exact hl⟩
  obtain ⟨b, off, spot⟩ := a
  have h0 : 0 < len := by
   rcases Nat.eq_zero_or_pos len with e | e
   ·subst e; simp at hne
   ·exact e
  have hc0 := (hfs 0 (by omega)).1
  have hspot : spot = none := by simpa [Addr.add] using World.cell?_spot hc0
  subst hspot
  refine ⟨b, off, rfl, ?_, fun i hi => ?_⟩
  ·have := World.block_lt_of_cell? W _ hc0
   rw [add_none] at this
   exact this
  ·rw [hpl] at hi
   rw [hgd i hi]
   obtain ⟨e0, e1⟩ := hfs i (by omega)
   rw [add_none] at e0 e1
   exact ⟨e0, by rw [Nat.add_assoc]; exact e1⟩
def PD (p : PV) (d : DataW H) : Prop := ∃ r, d = .agg [.lit (.int .i64 p.left), r, .lit (.int .i64 p.prec)] /\ LD p.right.length r /\ p.right.length <= p.rc
def VD (p : LV) (d : DataW H) : Prop := ∃ r, d = .agg [.lit (.int .i64 p.assoc), r] /\ LD p.terms.length r
set_option maxRecDepth 100000 in
theorem oprod {fuel : Nat} {cs : List Value} {x : DataW H × List MemPlace} (h : DataW.trod enc Try.prog W 0 (fun _ => true) true fuel 52 cs = some x) :
  ∃ p : PV, cs = [.int .i64 p.left, .slice p.ra p.right.length p.rc, .int .i64 p.prec] /\ SymRow W p.ra p.right /\ PD p x.1 := by
 obtain ⟨xs, n, _, hx, hl, hlen, hf⟩ := DataW.trod_struct Try.underlying52 h
 rw [gcellsProd] at hl
 match xs, hlen, cs, hl with
 | [y0, y1, y2], _, [e0, e1, e2], _ =>
  have g0 := hf 0 _ rfl
  have g1 := hf 1 _ rfl
  have g2 := hf 2 _ rfl
  simp [gcellsInt, gcellsSyms] at g0 g1 g2
  obtain ⟨a, ha, hda, _⟩ := DataW.trod_int Try.underlying3 g0
  obtain ⟨ra, rc, r, hr, hrow, hld, hcp⟩ := osymsC g1
  obtain ⟨b, hb, hdb, _⟩ := DataW.trod_int Try.underlying3 g2
  simp only [List.cons.injEq, and_true] at ha hb hr
  subst ha; subst hb; subst hr; subst hda; subst hdb
  exact ⟨⟨a, ra, rc, r, b⟩, rfl, hrow, y1.1, by rw [hx]; rfl, hld, hcp⟩
set_option maxRecDepth 100000 in
theorem olevel {fuel : Nat} {cs : List Value} {x : DataW H × List MemPlace} (h : DataW.trod enc Try.prog W 0 (fun _ => true) true fuel 99 cs = some x) :
  ∃ p : LV, cs = [.int .i64 p.assoc, .slice p.ta p.terms.length p.tc] /\ InRow W p.ta p.terms /\ VD p x.1 := by
 obtain ⟨xs, n, _, hx, hl, hlen, hf⟩ := DataW.trod_struct Try.underlying99 h
 rw [gcellsLevel] at hl
 match xs, hlen, cs, hl with
 | [y0, y1], _, [e0, e1], _ =>
  have g0 := hf 0 _ rfl
  have g1 := hf 1 _ rfl
  simp [gcellsAssoc, gcellsInts] at g0 g1
  obtain ⟨a, ha, hda, _⟩ := DataW.trod_int Try.underlying97 g0
  obtain ⟨ra, rc, r, hr, hrow, _, hld, _⟩ := onums g1
  simp only [List.cons.injEq, and_true] at ha hr
  subst ha; subst hr; subst hda
  exact ⟨⟨a, ra, rc, r⟩, rfl, hrow, y1.1, by rw [hx]; rfl, hld⟩
set_option maxRecDepth 100000 in
theorem oprods {fuel : Nat} {cs : List Value} {x : DataW H × List MemPlace} (hf : DataW.trod enc Try.prog W 0 (fun _ => true) true fuel 23 cs = some x) :
  ∃ (a : Option Addr) (cap : Nat) (l : List PV), cs = [.slice a l.length cap] /\ PrRow W a l /\ l.length <= cap /\ ((x.1 = .nil /\ l = []) ∨ ∃ el sp, x.1 = .slice el sp /\ el.length = l.length /\ ∀ i, i < l.length -> PD (l.getD i .none) (el.getD i .nil)) := by
 rcases Go.Deep.open_slice Try.underlying23 hf with ⟨hcs, hx⟩ | ⟨a, len, cap, m, n, D, Pl, hcs, _, hl, _, hm, hx, hel⟩
 ·exact ⟨none, 0, [], hcs, ⟨fun h => absurd rfl h, fun p hp => by cases hp⟩, Nat.le_refl _, .inl ⟨by rw [hx], rfl⟩⟩
 ·have hm' : m = cap := by simpa using hm
  have each : ∀ i, i < m -> ∃ p : PV, (W.cell? (a.add (i * 3)) = some (.int .i64 p.left) /\ W.cell? (a.add (i * 3 + 1)) = some (.slice p.ra p.right.length p.rc) /\ W.cell? (a.add (i * 3 + 2)) = some (.int .i64 p.prec)) /\ SymRow W p.ra p.right /\ PD p (D i) := by
   intro i hi
   obtain ⟨cs', h1, h2⟩ := hel i hi
   rw [gcellsProd] at h1
   obtain ⟨hl1, _, hcell⟩ := World.cells?_some h1
   obtain ⟨q, hs, hr, hd⟩ := oprod h2
   subst hs
   have e0 := hcell 0 (by omega)
   have e1 := hcell 1 (by omega)
   have e2 := hcell 2 (by omega)
   rw [Go.Deep.add_add] at e0 e1 e2
   exact ⟨q, ⟨by simpa using e0, by simpa using e1, by simpa using e2⟩, hr, hd⟩
  obtain ⟨f, hfs⟩ : ∃ f : Nat -> PV, ∀ i, i < m -> (W.cell? (a.add (i * 3)) = some (.int .i64 (f i).left) /\ W.cell? (a.add (i * 3 + 1)) = some (.slice (f i).ra (f i).right.length (f i).rc) /\ W.cell? (a.add (i * 3 + 2)) = some (.int .i64 (f i).prec)) /\ SymRow W (f i).ra (f i).right /\ PD (f i) (D i) :=
   ⟨fun i => if h : i < m then Classical.choose (each i h) else .none, fun i h => by simp only [dif_pos h]; exact Classical.choose_spec (each i h)⟩
  have hpl : ((List.range len).map f).length = len := by simp
  have hgd : ∀ i, i < len -> ((List.range len).map f).getD i .none = f i := fun i hi => by simp [List.getD, hi]
  refine ⟨some a, cap, (List.range len).map f, by rw [hpl]; exact hcs, ⟨fun hne => ?_, fun p hp => ?_⟩, by rw [hpl]; exact hl, .inr ⟨_, _, by rw [hx], by simp, fun i hi => ?_⟩⟩
  ·obtain ⟨b, off, spot⟩ := a
   have h0 : 0 < len := by
    rcases Nat.eq_zero_or_pos len with e | e
    ·subst e; simp at hne
    ·exact e
   have hc0 := (hfs 0 (by omega)).1.1
   have hspot : spot = none := by simpa [Addr.add] using World.cell?_spot hc0
   subst hspot
   refine ⟨b, off, rfl, ?_, fun i hi => ?_⟩
   ·have := World.block_lt_of_cell? W _ hc0
    rw [add_none] at this
    exact this
   ·rw [hpl] at hi
    rw [hgd i hi]
    obtain ⟨e0, e1, e2⟩ := (hfs i (by omega)).1
    rw [add_none] at e0 e1 e2
    exact ⟨e0, by rw [Nat.add_assoc]; exact e1, by rw [Nat.add_assoc]; exact e2⟩
  ·obtain ⟨i, hi, rfl⟩ := List.mem_map.1 hp
   exact (hfs i (by have := List.mem_range.1 hi; omega)).2.1
  ·rw [hpl] at hi
   have := (hfs i (by omega)).2.2
   rw [hgd i hi]
   have e : ((List.range len).map D).getD i DataW.nil = D i := by simp [List.getD, hi]
   rw [e]
   exact this
set_option maxRecDepth 100000 in
theorem olevels {fuel : Nat} {cs : List Value} {x : DataW H × List MemPlace} (hf : DataW.trod enc Try.prog W 0 (fun _ => true) true fuel 24 cs = some x) :
  ∃ (a : Option Addr) (cap : Nat) (l : List LV), cs = [.slice a l.length cap] /\ LvRow W a l /\ ((x.1 = .nil /\ l = []) ∨ ∃ el sp, x.1 = .slice el sp /\ el.length = l.length /\ ∀ i, i < l.length -> VD (l.getD i .none) (el.getD i .nil)) := by
 rcases Go.Deep.open_slice Try.underlying24 hf with ⟨hcs, hx⟩ | ⟨a, len, cap, m, n, D, Pl, hcs, _, hl, _, hm, hx, hel⟩
 ·exact ⟨none, 0, [], hcs, ⟨fun h => absurd rfl h, fun p hp => by cases hp⟩, .inl ⟨by rw [hx], rfl⟩⟩
 ·have hm' : m = cap := by simpa using hm
  have each : ∀ i, i < m -> ∃ p : LV, (W.cell? (a.add (i * 2)) = some (.int .i64 p.assoc) /\ W.cell? (a.add (i * 2 + 1)) = some (.slice p.ta p.terms.length p.tc)) /\ InRow W p.ta p.terms /\ VD p (D i) := by
   intro i hi
   obtain ⟨cs', h1, h2⟩ := hel i hi
   rw [gcellsLevel] at h1
   obtain ⟨hl1, _, hcell⟩ := World.cells?_some h1
   obtain ⟨q, hs, hr, hd⟩ := olevel h2
   subst hs
   have e0 := hcell 0 (by omega)
   have e1 := hcell 1 (by omega)
   rw [Go.Deep.add_add] at e0 e1
   exact ⟨q, ⟨by simpa using e0, by simpa using e1⟩, hr, hd⟩
  obtain ⟨f, hfs⟩ : ∃ f : Nat -> LV, ∀ i, i < m -> (W.cell? (a.add (i * 2)) = some (.int .i64 (f i).assoc) /\ W.cell? (a.add (i * 2 + 1)) = some (.slice (f i).ta (f i).terms.length (f i).tc)) /\ InRow W (f i).ta (f i).terms /\ VD (f i) (D i) :=
   ⟨fun i => if h : i < m then Classical.choose (each i h) else .none, fun i h => by simp only [dif_pos h]; exact Classical.choose_spec (each i h)⟩
  have hpl : ((List.range len).map f).length = len := by simp
  have hgd : ∀ i, i < len -> ((List.range len).map f).getD i .none = f i := fun i hi => by simp [List.getD, hi]
  refine ⟨some a, cap, (List.range len).map f, by rw [hpl]; exact hcs, ⟨fun hne => ?_, fun p hp => ?_⟩, .inr ⟨_, _, by rw [hx], by simp, fun i hi => ?_⟩⟩
  ·obtain ⟨b, off, spot⟩ := a
   have h0 : 0 < len := by
    rcases Nat.eq_zero_or_pos len with e | e
    ·subst e; simp at hne
    ·exact e
   have hc0 := (hfs 0 (by omega)).1.1
   have hspot : spot = none := by simpa [Addr.add] using World.cell?_spot hc0
   subst hspot
   refine ⟨b, off, rfl, ?_, fun i hi => ?_⟩
   ·have := World.block_lt_of_cell? W _ hc0
    rw [add_none] at this
    exact this
   ·rw [hpl] at hi
    rw [hgd i hi]
    obtain ⟨e0, e1⟩ := (hfs i (by omega)).1
    rw [add_none] at e0 e1
    exact ⟨e0, by rw [Nat.add_assoc]; exact e1⟩
  ·obtain ⟨i, hi, rfl⟩ := List.mem_map.1 hp
   exact (hfs i (by have := List.mem_range.1 hi; omega)).2.1
  ·rw [hpl] at hi
   have := (hfs i (by omega)).2.2
   rw [hgd i hi]
   have e : ((List.range len).map D).getD i DataW.nil = D i := by simp [List.getD, hi]
   rw [e]
   exact this
structure GD (g : GV) (d : DataW H) : Prop where
 all : ∃ dt dn dp dl, d = .agg [dt, dn, .lit (.int .i64 g.start), dp, dl] /\
  ((dt = .nil /\ g.ts = []) ∨ ∃ sp, dt = .slice (g.ts.map fun s => .lit (.string s.data.toList)) sp) /\
  ((dn = .nil /\ g.ns = []) ∨ ∃ sp, dn = .slice (g.ns.map fun s => .lit (.string s.data.toList)) sp) /\
  ((dp = .nil /\ g.ps = []) ∨ ∃ el sp, dp = .slice el sp /\ el.length = g.ps.length /\ ∀ i, i < g.ps.length -> PD (g.ps.getD i .none) (el.getD i .nil)) /\
  ((dl = .nil /\ g.ls = []) ∨ ∃ el sp, dl = .slice el sp /\ el.length = g.ls.length /\ ∀ i, i < g.ls.length -> VD (g.ls.getD i .none) (el.getD i .nil))
set_option maxRecDepth 100000 in
theorem open_gram {base : Nat} {v : Value} {d : DataW H} {p : List MemPlace} (hv : Value.okWide Try.prog W .any base 26 v)
  (h : DataW.Trod enc Try.prog W 0 (fun _ => true) true 26 v d p) :
  ∃ g : GV, v = g.val /\ (StrRow W g.ta g.ts /\ StrRow W g.na g.ns /\ PrRow W g.pa g.ps /\ LvRow W g.la g.ls /\ (∀ s ∈ g.ts, s.size <= maxLen) /\ (∀ s ∈ g.ns, s.size <= maxLen) /\ g.ps.length <= g.pc) /\ GD g d /\ (-9223372036854775808 <= g.start /\ g.start <= 9223372036854775807) := by
 obtain ⟨cs, rfl, hsz⟩ := okWide_struct Try.underlying26 hv
 obtain ⟨fuel, h⟩ := h
 obtain ⟨xs, n, _, hx, hl, hlen, hf⟩ := DataW.trod_struct Try.underlying26 h
 simp only [Value.cells] at hl hf
 rw [gcellsGram] at hl
 obtain ⟨cs⟩ := cs
 simp only at hl hf
 match xs, hlen, cs, hl with
 | [y0, y1, y2, y3, y4], _, [e0, e1, e2, e3, e4], _ =>
  have g0 := hf 0 _ rfl
  have g1 := hf 1 _ rfl
  have g2 := hf 2 _ rfl
  have g3 := hf 3 _ rfl
  have g4 := hf 4 _ rfl
  simp [gcellsInt, gcellsStrs, gcellsProds, gcellsLevels] at g0 g1 g2 g3 g4
  obtain ⟨ta, tc, ts, ht, htz, htr, _, htd⟩ := otext g0
  obtain ⟨na, nc, ns, hn, hnz, hnr, _, hnd⟩ := otext g1
  obtain ⟨st, hs, hsd, hsw⟩ := DataW.trod_int Try.underlying3 g2
  obtain ⟨pa, pc, ps, hp, hpr, hpc, hpd⟩ := oprods g3
  obtain ⟨la, lc, ls, hl2, hlr, hld⟩ := olevels g4
  simp only [List.cons.injEq, and_true] at ht hn hs hp hl2
  subst ht; subst hn; subst hs; subst hp; subst hl2; subst hsd
  simp only [Prod.mk.injEq] at hx
  exact ⟨⟨ta, tc, ts, na, nc, ns, st, pa, pc, ps, la, lc, ls⟩, rfl, ⟨htr, hnr, hpr, hlr, htz, hnz, hpc⟩, ⟨y0.1, y1.1, y3.1, y4.1, hx.1, htd, hnd, hpd, hld⟩, bounds_i64 hsw⟩
end
section
variable {H : Type}
theorem getD_in {α : Type} {l : List α} {d : α} {j : Nat} (h : j < l.length) : l.getD j d ∈ l := by
 have e : l.getD j d = l[j] := by simp [List.getD, h]
 rw [e]; exact List.getElem_mem h
theorem in_getD {α : Type} {l : List α} {d x : α} (h : x ∈ l) : ∃ i, i < l.length /\ x = l.getD i d := by
 obtain ⟨i, hi, rfl⟩ := List.getElem_of_mem h
 exact ⟨i, hi, by simp [List.getD, hi]⟩
end
theorem gbulk_pos {H : Type} (d : DataW H) : 1 <= Rows.uptoBulk d := by
 cases d with
 | lit x => cases x <;> simp [Rows.uptoBulk]
 | nil => simp [Rows.uptoBulk]
 | ptr d => simp [Rows.uptoBulk]
 | slice a b => simp [Rows.uptoBulk]
 | agg a => simp [Rows.uptoBulk]
 | iface a d => simp [Rows.uptoBulk]
 | map a => simp [Rows.uptoBulk]
 | held a => simp [Rows.uptoBulk]
theorem gbulk_len {H : Type} : ∀ ds : List (DataW H), ds.length <= Rows.uptoBulkAll ds
 | [] => by simp
 | d :: r => by
  have := gbulk_len r
  have := gbulk_pos d
  simp only [Rows.uptoBulkAll, List.length_cons]
  omega
theorem gbulk_mem {H : Type} : ∀ {ds : List (DataW H)} {d : DataW H}, d ∈ ds -> Rows.uptoBulk d <= Rows.uptoBulkAll ds
 | [], _, h => by cases h
 | a :: r, d, h => by
  simp only [Rows.uptoBulkAll]
  rcases List.mem_cons.1 h with rfl | h
  ·omega
  ·have := gbulk_mem h
   omega
theorem gbulk_el {H : Type} {el sp : List (DataW H)} {N : Nat} (h : Rows.uptoBulk (.slice el sp) <= N) : el.length <= N /\ ∀ d ∈ el, Rows.uptoBulk d <= N := by
 simp only [Rows.uptoBulk] at h
 have h1 := gbulk_len el
 exact ⟨by omega, fun d hd => by have := gbulk_mem hd; omega⟩
theorem ld_bulk {H : Type} {n N : Nat} {d : DataW H} (h : LD n d) (hb : Rows.uptoBulk d <= N) : n <= N := by
 rcases h with ⟨_, rfl⟩ | ⟨el, sp, rfl, rfl⟩
 ·exact Nat.zero_le _
 ·exact (gbulk_el hb).1
theorem agg_bulk {H : Type} {l : List (DataW H)} {d : DataW H} {N : Nat} (h : Rows.uptoBulk (.agg l) <= N) (hd : d ∈ l) : Rows.uptoBulk d <= N := by
 simp only [Rows.uptoBulk] at h
 have := gbulk_mem hd
 omega
theorem gram_bulk {H : Type} {W : World} {N : Nat} {d : DataW H} {g : GV} (hb : Rows.uptoBulk d <= N) (h : GD g d)
  (hr : StrRow W g.ta g.ts /\ StrRow W g.na g.ns /\ PrRow W g.pa g.ps /\ LvRow W g.la g.ls /\ (∀ s ∈ g.ts, s.size <= maxLen) /\ (∀ s ∈ g.ns, s.size <= maxLen) /\ g.ps.length <= g.pc) : GAt N W g := by
 obtain ⟨dt, dn, dp, dl, rfl, a1, a2, a3, a4⟩ := h.all
 have w0 : Rows.uptoBulk dt <= N := agg_bulk hb (by simp)
 have w1 : Rows.uptoBulk dn <= N := agg_bulk hb (by simp)
 have w3 : Rows.uptoBulk dp <= N := agg_bulk hb (by simp)
 have w4 : Rows.uptoBulk dl <= N := agg_bulk hb (by simp)
 obtain ⟨r1, r2, r3, r4, r5, r6, _⟩ := hr
 refine ⟨r1, r2, r3, r4, r5, r6, ?_, ?_, ?_, ?_, ?_, ?_⟩
 ·rcases a1 with ⟨_, e⟩ | ⟨sp, rfl⟩
  ·rw [e]; simp
  ·simpa using (gbulk_el w0).1
 ·rcases a2 with ⟨_, e⟩ | ⟨sp, rfl⟩
  ·rw [e]; simp
  ·simpa using (gbulk_el w1).1
 ·rcases a3 with ⟨_, e⟩ | ⟨el, sp, rfl, e, _⟩
  ·rw [e]; simp
  ·rw [<- e]; exact (gbulk_el w3).1
 ·rcases a4 with ⟨_, e⟩ | ⟨el, sp, rfl, e, _⟩
  ·rw [e]; simp
  ·rw [<- e]; exact (gbulk_el w4).1
 ·intro p hp
  rcases a3 with ⟨_, e⟩ | ⟨el, sp, rfl, e, hE⟩
  ·rw [e] at hp; cases hp
  ·obtain ⟨i, hi, rfl⟩ := in_getD (d := PV.none) hp
   obtain ⟨r, hr, hl, _⟩ := hE i hi
   have hm : el.getD i .nil ∈ el := getD_in (by omega)
   have hx := (gbulk_el w3).2 _ hm
   rw [hr] at hx
   exact ld_bulk hl (agg_bulk hx (by simp))
 ·intro p hp
  rcases a4 with ⟨_, e⟩ | ⟨el, sp, rfl, e, hE⟩
  ·rw [e] at hp; cases hp
  ·obtain ⟨i, hi, rfl⟩ := in_getD (d := LV.none) hp
   obtain ⟨r, hr, hl⟩ := hE i hi
   have hm : el.getD i .nil ∈ el := getD_in (by omega)
   have hx := (gbulk_el w4).2 _ hm
   rw [hr] at hx
   exact ld_bulk hl (agg_bulk hx (by simp))
end Go.Proofs.Ytccednepbkjajaa
