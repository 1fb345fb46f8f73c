import Derived.Test.YtcgghlaifmlpiaaGreatDoorBBaseToGRow
import Derived.Test.YtcgghlaifmlpiaaGreatDoorRows
import Derived.ProofKit
import Derived.OpenShut
import Derived.ShutString
import Derived.ChangeOld
import Derived.Below
import Derived.SizedLaws
import Derived.Deep.Slices
import Derived.Lib.SmallJoins
namespace Go.Proofs.YtcgghlaifmlpiaaGreatDoor
set_option linter.unusedVariables false
open Go.ChangeShapes Go.WideShapes Go.ChangeAt Go.RowKit

theorem gown : ownKnob Tryz.prog.godebug = none := by kernel_rfl
theorem glaid : laidOutB Tryz.prog = true := by kernel_rfl
theorem gcellsInt : Tryz.prog.cellsOf 3 = 1 := by kernel_rfl
theorem gcellsKind : Tryz.prog.cellsOf 133 = 1 := by kernel_rfl
theorem gcellsAssoc : Tryz.prog.cellsOf 163 = 1 := by kernel_rfl
theorem gcellsSym : Tryz.prog.cellsOf 135 = 2 := by kernel_rfl
theorem gcellsStr : Tryz.prog.cellsOf 9 = 1 := by kernel_rfl
theorem gcellsStrs : Tryz.prog.cellsOf 98 = 1 := by kernel_rfl
theorem gcellsInts : Tryz.prog.cellsOf 46 = 1 := by kernel_rfl
theorem gcellsSyms : Tryz.prog.cellsOf 101 = 1 := by kernel_rfl
theorem gcellsProd : Tryz.prog.cellsOf 161 = 3 := by kernel_rfl
theorem gcellsProds : Tryz.prog.cellsOf 159 = 1 := by kernel_rfl
theorem gcellsLevel : Tryz.prog.cellsOf 165 = 2 := by kernel_rfl
theorem gcellsLevels : Tryz.prog.cellsOf 162 = 1 := by kernel_rfl
/-- A list and its datum: as long as it. -/
def LD {H : Type} (n : Nat) (d : DataW H) : Prop := (d = .nil ∧ n = 0) ∨ ∃ el sp, d = .slice el sp ∧ el.length = n
section
variable {H : Type} {enc : TypeId × Value → H} {W : World}
set_option maxRecDepth 100000 in
theorem otext {fuel : Nat} {cs : List Value} {x : DataW H × List MemPlace} (hf : DataW.trod enc Tryz.prog W 0 (fun _ => true) true fuel 98 cs = some x) :
    ∃ (a : Option Addr) (cap : Nat) (l : List ByteArray), cs = [.slice a l.length cap] ∧ (∀ s ∈ l, s.size ≤ maxLen) ∧ StrRow W a l ∧ l.length ≤ cap ∧ ((x.1 = .nil ∧ l = []) ∨ ∃ sp, x.1 = .slice (l.map fun s => .lit (.string s.data.toList)) sp) := by
  rcases Go.Deep.open_slice Tryz.underlying98 hf with ⟨hcs, hx⟩ | ⟨a, len, cap, m, n, D, Pl, hcs, _, hl, _, hm, hx, hel⟩
  · exact ⟨none, 0, [], hcs, (fun o ho => by cases ho), fun h => absurd rfl h, Nat.le_refl _, .inl ⟨by rw [hx], rfl⟩⟩
  · have hm' : m = cap := by simpa using hm
    have each : ∀ i, i < m → ∃ s : ByteArray, W.cell? (a.add (i * 1)) = some (.string s) ∧ s.size ≤ maxLen ∧ D i = .lit (.string s.data.toList) := by
      intro i hi
      obtain ⟨cs', h1, h2⟩ := hel i hi
      rw [gcellsStr] at h1
      obtain ⟨hl1, _, hcell⟩ := World.cells?_some h1
      obtain ⟨s, hs, hx2, hsz⟩ := DataW.trod_string Tryz.underlying9 h2
      subst hs
      have e0 := hcell 0 (by omega)
      rw [Go.Deep.add_add] at e0
      simp only [Prod.mk.injEq] at hx2
      exact ⟨s, by simpa using e0, hsz, hx2.1⟩
    obtain ⟨f, hfs⟩ : ∃ f : Nat → ByteArray, ∀ i, i < m → W.cell? (a.add (i * 1)) = some (.string (f i)) ∧ (f i).size ≤ maxLen ∧ D i = .lit (.string (f i).data.toList) :=
      ⟨fun i => if h : i < m then Classical.choose (each i h) else ByteArray.empty, fun i h => by simp only [dif_pos h]; exact Classical.choose_spec (each i h)⟩
    have hpl : ((List.range len).map f).length = len := by simp
    have hgd : ∀ i, i < len → ((List.range len).map f).getD i ByteArray.empty = f i := fun i hi => by simp [List.getD, hi]
    refine ⟨some a, cap, (List.range len).map f, by rw [hpl]; exact hcs, fun o ho => ?_, fun hne => ?_, by rw [hpl]; exact hl, .inr ⟨(List.range (m - len)).map fun j => D (len + j), ?_⟩⟩
    · obtain ⟨i, hi, rfl⟩ := List.mem_map.1 ho
      exact (hfs i (by have := List.mem_range.1 hi; omega)).2.1
    · obtain ⟨b, off, spot⟩ := a
      have h0 : 0 < len := by
        rcases Nat.eq_zero_or_pos len with e | e
        · subst e; simp at hne
        · exact e
      have hc0 := (hfs 0 (by omega)).1
      have hspot : spot = none := by simpa [Addr.add] using World.cell?_spot hc0
      subst hspot
      refine ⟨b, off, rfl, ?_, fun i hi => ?_⟩
      · have := World.block_lt_of_cell? W _ hc0
        rw [add_none] at this
        exact this
      · rw [hpl] at hi
        rw [hgd i hi]
        have e0 := (hfs i (by omega)).1
        rw [add_none, Nat.mul_one] at e0
        exact e0
    · rw [hx, List.map_map]
      show DataW.slice _ _ = DataW.slice _ _
      congr 1
      apply List.map_congr_left
      intro i hi
      exact (hfs i (by have := List.mem_range.1 hi; omega)).2.2
set_option maxRecDepth 100000 in
theorem onums {fuel : Nat} {cs : List Value} {x : DataW H × List MemPlace} (hf : DataW.trod enc Tryz.prog W 0 (fun _ => true) true fuel 46 cs = some x) :
    ∃ (a : Option Addr) (cap : Nat) (l : List Int), cs = [.slice a l.length cap] ∧ InRow W a l ∧ l.length ≤ cap ∧ LD l.length x.1 ∧ ∀ z ∈ l, -9223372036854775808 ≤ z ∧ z ≤ 9223372036854775807 := by
  rcases Go.Deep.open_slice Tryz.underlying46 hf with ⟨hcs, hx⟩ | ⟨a, len, cap, m, n, D, Pl, hcs, _, hl, _, hm, hx, hel⟩
  · exact ⟨none, 0, [], hcs, fun h => absurd rfl h, Nat.le_refl _, .inl ⟨by rw [hx], rfl⟩, (fun o ho => by cases ho)⟩
  · have hm' : m = cap := by simpa using hm
    have each : ∀ i, i < m → ∃ s : Int, W.cell? (a.add (i * 1)) = some (.int .i64 s) ∧ (-9223372036854775808 ≤ s ∧ s ≤ 9223372036854775807) := by
      intro i hi
      obtain ⟨cs', h1, h2⟩ := hel i hi
      rw [gcellsInt] at h1
      obtain ⟨hl1, _, hcell⟩ := World.cells?_some h1
      obtain ⟨s, hs, _, hsz⟩ := DataW.trod_int Tryz.underlying3 h2
      subst hs
      have e0 := hcell 0 (by omega)
      rw [Go.Deep.add_add] at e0
      exact ⟨s, by simpa using e0, bounds_i64 hsz⟩
    obtain ⟨f, hfs⟩ : ∃ f : Nat → Int, ∀ i, i < m → W.cell? (a.add (i * 1)) = some (.int .i64 (f i)) ∧ (-9223372036854775808 ≤ f i ∧ f i ≤ 9223372036854775807) :=
      ⟨fun i => if h : i < m then Classical.choose (each i h) else 0, fun i h => by simp only [dif_pos h]; exact Classical.choose_spec (each i h)⟩
    have hpl : ((List.range len).map f).length = len := by simp
    have hgd : ∀ i, i < len → ((List.range len).map f).getD i 0 = f i := fun i hi => by simp [List.getD, hi]
    refine ⟨some a, cap, (List.range len).map f, by rw [hpl]; exact hcs, fun hne => ?_, by rw [hpl]; exact hl, .inr ⟨_, _, by rw [hx], by simp⟩, fun z hz => ?_⟩
    · obtain ⟨b, off, spot⟩ := a
      have h0 : 0 < len := by
        rcases Nat.eq_zero_or_pos len with e | e
        · subst e; simp at hne
        · exact e
      have hc0 := (hfs 0 (by omega)).1
      have hspot : spot = none := by simpa [Addr.add] using World.cell?_spot hc0
      subst hspot
      refine ⟨b, off, rfl, ?_, fun i hi => ?_⟩
      · have := World.block_lt_of_cell? W _ hc0
        rw [add_none] at this
        exact this
      · rw [hpl] at hi
        rw [hgd i hi]
        have e0 := (hfs i (by omega)).1
        rw [add_none, Nat.mul_one] at e0
        exact e0
    · obtain ⟨i, hi, rfl⟩ := List.mem_map.1 hz
      exact (hfs i (by have := List.mem_range.1 hi; omega)).2
set_option maxRecDepth 100000 in
theorem osymc {fuel : Nat} {cs : List Value} {x : DataW H × List MemPlace} (h : DataW.trod enc Tryz.prog W 0 (fun _ => true) true fuel 135 cs = some x) : ∃ q : Int × Int, cs = [.int .i64 q.1, .int .i64 q.2] := by
  obtain ⟨xs, n, _, hx, hl, hlen, hf⟩ := DataW.trod_struct Tryz.underlying135 h
  rw [gcellsSym] at hl
  match xs, hlen, cs, hl with
  | [y0, y1], _, [e0, e1], _ =>
    have g0 := hf 0 _ rfl
    have g1 := hf 1 _ rfl
    simp [gcellsInt, gcellsKind] at g0 g1
    obtain ⟨a, ha, _, _⟩ := DataW.trod_int Tryz.underlying133 g0
    obtain ⟨b, hb, _, _⟩ := DataW.trod_int Tryz.underlying3 g1
    simp only [List.cons.injEq, and_true] at ha hb
    subst ha; subst hb
    exact ⟨(a, b), rfl⟩
set_option maxRecDepth 100000 in
theorem osymsC {fuel : Nat} {cs : List Value} {x : DataW H × List MemPlace} (hf : DataW.trod enc Tryz.prog W 0 (fun _ => true) true fuel 101 cs = some x) :
    ∃ (a : Option Addr) (cap : Nat) (l : List (Int × Int)), cs = [.slice a l.length cap] ∧ SymRow W a l ∧ LD l.length x.1 ∧ l.length ≤ cap := by
  rcases Go.Deep.open_slice Tryz.underlying101 hf with ⟨hcs, hx⟩ | ⟨a, len, cap, m, n, D, Pl, hcs, _, hl, _, hm, hx, hel⟩
  · exact ⟨none, 0, [], hcs, fun h => absurd rfl h, .inl ⟨by rw [hx], rfl⟩, Nat.le_refl _⟩
  · have hm' : m = cap := by simpa using hm
    have each : ∀ i, i < m → ∃ q : Int × Int, W.cell? (a.add (i * 2)) = some (.int .i64 q.1) ∧ W.cell? (a.add (i * 2 + 1)) = some (.int .i64 q.2) := by
      intro i hi
      obtain ⟨cs', h1, h2⟩ := hel i hi
      rw [gcellsSym] at h1
      obtain ⟨hl1, _, hcell⟩ := World.cells?_some h1
      obtain ⟨q, hs⟩ := osymc h2
      subst hs
      have e0 := hcell 0 (by omega)
      have e1 := hcell 1 (by omega)
      rw [Go.Deep.add_add] at e0 e1
      exact ⟨q, by simpa using e0, by simpa using e1⟩
    obtain ⟨f, hfs⟩ : ∃ f : Nat → Int × Int, ∀ i, i < m → W.cell? (a.add (i * 2)) = some (.int .i64 (f i).1) ∧ W.cell? (a.add (i * 2 + 1)) = some (.int .i64 (f i).2) :=
      ⟨fun i => if h : i < m then Classical.choose (each i h) else (0, 0), fun i h => by simp only [dif_pos h]; exact Classical.choose_spec (each i h)⟩
    have hpl : ((List.range len).map f).length = len := by simp
    have hgd : ∀ i, i < len → ((List.range len).map f).getD i (0, 0) = f i := fun i hi => by simp [List.getD, hi]
    refine ⟨some a, cap, (List.range len).map f, by rw [hpl]; exact hcs, fun hne => ?_, .inr ⟨_, _, by rw [hx], by simp⟩, by rw [hpl]; exact hl⟩
    obtain ⟨b, off, spot⟩ := a
    have h0 : 0 < len := by
      rcases Nat.eq_zero_or_pos len with e | e
      · subst e; simp at hne
      · exact e
    have hc0 := (hfs 0 (by omega)).1
    have hspot : spot = none := by simpa [Addr.add] using World.cell?_spot hc0
    subst hspot
    refine ⟨b, off, rfl, ?_, fun i hi => ?_⟩
    · have := World.block_lt_of_cell? W _ hc0
      rw [add_none] at this
      exact this
    · rw [hpl] at hi
      rw [hgd i hi]
      obtain ⟨e0, e1⟩ := hfs i (by omega)
      rw [add_none] at e0 e1
      exact ⟨e0, by rw [Nat.add_assoc]; exact e1⟩
theorem osyms {fuel : Nat} {cs : List Value} {x : DataW H × List MemPlace} (hf : DataW.trod enc Tryz.prog W 0 (fun _ => true) true fuel 101 cs = some x) :
    ∃ (a : Option Addr) (cap : Nat) (l : List (Int × Int)), cs = [.slice a l.length cap] ∧ SymRow W a l ∧ LD l.length x.1 := by
  obtain ⟨a, cap, l, h1, h2, h3, _⟩ := osymsC hf
  exact ⟨a, cap, l, h1, h2, h3⟩
/-- A production's datum, a level's. -/
def PD (p : PV) (d : DataW H) : Prop := ∃ r, d = .agg [.lit (.int .i64 p.left), r, .lit (.int .i64 p.prec)] ∧ LD p.right.length r ∧ p.right.length ≤ p.rc
def VD (p : LV) (d : DataW H) : Prop := ∃ r, d = .agg [.lit (.int .i64 p.assoc), r] ∧ LD p.terms.length r
set_option maxRecDepth 100000 in
theorem oprod {fuel : Nat} {cs : List Value} {x : DataW H × List MemPlace} (h : DataW.trod enc Tryz.prog W 0 (fun _ => true) true fuel 161 cs = some x) :
    ∃ p : PV, cs = [.int .i64 p.left, .slice p.ra p.right.length p.rc, .int .i64 p.prec] ∧ SymRow W p.ra p.right ∧ PD p x.1 := by
  obtain ⟨xs, n, _, hx, hl, hlen, hf⟩ := DataW.trod_struct Tryz.underlying161 h
  rw [gcellsProd] at hl
  match xs, hlen, cs, hl with
  | [y0, y1, y2], _, [e0, e1, e2], _ =>
    have g0 := hf 0 _ rfl
    have g1 := hf 1 _ rfl
    have g2 := hf 2 _ rfl
    simp [gcellsInt, gcellsSyms] at g0 g1 g2
    obtain ⟨a, ha, hda, _⟩ := DataW.trod_int Tryz.underlying3 g0
    obtain ⟨ra, rc, r, hr, hrow, hld, hcp⟩ := osymsC g1
    obtain ⟨b, hb, hdb, _⟩ := DataW.trod_int Tryz.underlying3 g2
    simp only [List.cons.injEq, and_true] at ha hb hr
    subst ha; subst hb; subst hr; subst hda; subst hdb
    exact ⟨⟨a, ra, rc, r, b⟩, rfl, hrow, y1.1, by rw [hx]; rfl, hld, hcp⟩
set_option maxRecDepth 100000 in
theorem olevel {fuel : Nat} {cs : List Value} {x : DataW H × List MemPlace} (h : DataW.trod enc Tryz.prog W 0 (fun _ => true) true fuel 165 cs = some x) :
    ∃ p : LV, cs = [.int .i64 p.assoc, .slice p.ta p.terms.length p.tc] ∧ InRow W p.ta p.terms ∧ VD p x.1 := by
  obtain ⟨xs, n, _, hx, hl, hlen, hf⟩ := DataW.trod_struct Tryz.underlying165 h
  rw [gcellsLevel] at hl
  match xs, hlen, cs, hl with
  | [y0, y1], _, [e0, e1], _ =>
    have g0 := hf 0 _ rfl
    have g1 := hf 1 _ rfl
    simp [gcellsAssoc, gcellsInts] at g0 g1
    obtain ⟨a, ha, hda, _⟩ := DataW.trod_int Tryz.underlying163 g0
    obtain ⟨ra, rc, r, hr, hrow, _, hld, _⟩ := onums g1
    simp only [List.cons.injEq, and_true] at ha hr
    subst ha; subst hr; subst hda
    exact ⟨⟨a, ra, rc, r⟩, rfl, hrow, y1.1, by rw [hx]; rfl, hld⟩
set_option maxRecDepth 100000 in
theorem oprods {fuel : Nat} {cs : List Value} {x : DataW H × List MemPlace} (hf : DataW.trod enc Tryz.prog W 0 (fun _ => true) true fuel 159 cs = some x) :
    ∃ (a : Option Addr) (cap : Nat) (l : List PV), cs = [.slice a l.length cap] ∧ PrRow W a l ∧ l.length ≤ cap ∧ ((x.1 = .nil ∧ l = []) ∨ ∃ el sp, x.1 = .slice el sp ∧ el.length = l.length ∧ ∀ i, i < l.length → PD (l.getD i .none) (el.getD i .nil)) := by
  rcases Go.Deep.open_slice Tryz.underlying159 hf with ⟨hcs, hx⟩ | ⟨a, len, cap, m, n, D, Pl, hcs, _, hl, _, hm, hx, hel⟩
  · exact ⟨none, 0, [], hcs, ⟨fun h => absurd rfl h, fun p hp => by cases hp⟩, Nat.le_refl _, .inl ⟨by rw [hx], rfl⟩⟩
  · have hm' : m = cap := by simpa using hm
    have each : ∀ i, i < m → ∃ p : PV, (W.cell? (a.add (i * 3)) = some (.int .i64 p.left) ∧ W.cell? (a.add (i * 3 + 1)) = some (.slice p.ra p.right.length p.rc) ∧ W.cell? (a.add (i * 3 + 2)) = some (.int .i64 p.prec)) ∧ SymRow W p.ra p.right ∧ PD p (D i) := by
      intro i hi
      obtain ⟨cs', h1, h2⟩ := hel i hi
      rw [gcellsProd] at h1
      obtain ⟨hl1, _, hcell⟩ := World.cells?_some h1
      obtain ⟨q, hs, hr, hd⟩ := oprod h2
      subst hs
      have e0 := hcell 0 (by omega)
      have e1 := hcell 1 (by omega)
      have e2 := hcell 2 (by omega)
      rw [Go.Deep.add_add] at e0 e1 e2
      exact ⟨q, ⟨by simpa using e0, by simpa using e1, by simpa using e2⟩, hr, hd⟩
    obtain ⟨f, hfs⟩ : ∃ f : Nat → PV, ∀ i, i < m → (W.cell? (a.add (i * 3)) = some (.int .i64 (f i).left) ∧ W.cell? (a.add (i * 3 + 1)) = some (.slice (f i).ra (f i).right.length (f i).rc) ∧ W.cell? (a.add (i * 3 + 2)) = some (.int .i64 (f i).prec)) ∧ SymRow W (f i).ra (f i).right ∧ PD (f i) (D i) :=
      ⟨fun i => if h : i < m then Classical.choose (each i h) else .none, fun i h => by simp only [dif_pos h]; exact Classical.choose_spec (each i h)⟩
    have hpl : ((List.range len).map f).length = len := by simp
    have hgd : ∀ i, i < len → ((List.range len).map f).getD i .none = f i := fun i hi => by simp [List.getD, hi]
    refine ⟨some a, cap, (List.range len).map f, by rw [hpl]; exact hcs, ⟨fun hne => ?_, fun p hp => ?_⟩, by rw [hpl]; exact hl, .inr ⟨_, _, by rw [hx], by simp, fun i hi => ?_⟩⟩
    · obtain ⟨b, off, spot⟩ := a
      have h0 : 0 < len := by
        rcases Nat.eq_zero_or_pos len with e | e
        · subst e; simp at hne
        · exact e
      have hc0 := (hfs 0 (by omega)).1.1
      have hspot : spot = none := by simpa [Addr.add] using World.cell?_spot hc0
      subst hspot
      refine ⟨b, off, rfl, ?_, fun i hi => ?_⟩
      · have := World.block_lt_of_cell? W _ hc0
        rw [add_none] at this
        exact this
      · rw [hpl] at hi
        rw [hgd i hi]
        obtain ⟨e0, e1, e2⟩ := (hfs i (by omega)).1
        rw [add_none] at e0 e1 e2
        exact ⟨e0, by rw [Nat.add_assoc]; exact e1, by rw [Nat.add_assoc]; exact e2⟩
    · obtain ⟨i, hi, rfl⟩ := List.mem_map.1 hp
      exact (hfs i (by have := List.mem_range.1 hi; omega)).2.1
    · rw [hpl] at hi
      have := (hfs i (by omega)).2.2
      rw [hgd i hi]
      have e : ((List.range len).map D).getD i DataW.nil = D i := by simp [List.getD, hi]
      rw [e]
      exact this
set_option maxRecDepth 100000 in
theorem olevels {fuel : Nat} {cs : List Value} {x : DataW H × List MemPlace} (hf : DataW.trod enc Tryz.prog W 0 (fun _ => true) true fuel 162 cs = some x) :
    ∃ (a : Option Addr) (cap : Nat) (l : List LV), cs = [.slice a l.length cap] ∧ LvRow W a l ∧ ((x.1 = .nil ∧ l = []) ∨ ∃ el sp, x.1 = .slice el sp ∧ el.length = l.length ∧ ∀ i, i < l.length → VD (l.getD i .none) (el.getD i .nil)) := by
  rcases Go.Deep.open_slice Tryz.underlying162 hf with ⟨hcs, hx⟩ | ⟨a, len, cap, m, n, D, Pl, hcs, _, hl, _, hm, hx, hel⟩
  · exact ⟨none, 0, [], hcs, ⟨fun h => absurd rfl h, fun p hp => by cases hp⟩, .inl ⟨by rw [hx], rfl⟩⟩
  · have hm' : m = cap := by simpa using hm
    have each : ∀ i, i < m → ∃ p : LV, (W.cell? (a.add (i * 2)) = some (.int .i64 p.assoc) ∧ W.cell? (a.add (i * 2 + 1)) = some (.slice p.ta p.terms.length p.tc)) ∧ InRow W p.ta p.terms ∧ VD p (D i) := by
      intro i hi
      obtain ⟨cs', h1, h2⟩ := hel i hi
      rw [gcellsLevel] at h1
      obtain ⟨hl1, _, hcell⟩ := World.cells?_some h1
      obtain ⟨q, hs, hr, hd⟩ := olevel h2
      subst hs
      have e0 := hcell 0 (by omega)
      have e1 := hcell 1 (by omega)
      rw [Go.Deep.add_add] at e0 e1
      exact ⟨q, ⟨by simpa using e0, by simpa using e1⟩, hr, hd⟩
    obtain ⟨f, hfs⟩ : ∃ f : Nat → LV, ∀ i, i < m → (W.cell? (a.add (i * 2)) = some (.int .i64 (f i).assoc) ∧ W.cell? (a.add (i * 2 + 1)) = some (.slice (f i).ta (f i).terms.length (f i).tc)) ∧ InRow W (f i).ta (f i).terms ∧ VD (f i) (D i) :=
      ⟨fun i => if h : i < m then Classical.choose (each i h) else .none, fun i h => by simp only [dif_pos h]; exact Classical.choose_spec (each i h)⟩
    have hpl : ((List.range len).map f).length = len := by simp
    have hgd : ∀ i, i < len → ((List.range len).map f).getD i .none = f i := fun i hi => by simp [List.getD, hi]
    refine ⟨some a, cap, (List.range len).map f, by rw [hpl]; exact hcs, ⟨fun hne => ?_, fun p hp => ?_⟩, .inr ⟨_, _, by rw [hx], by simp, fun i hi => ?_⟩⟩
    · obtain ⟨b, off, spot⟩ := a
      have h0 : 0 < len := by
        rcases Nat.eq_zero_or_pos len with e | e
        · subst e; simp at hne
        · exact e
      have hc0 := (hfs 0 (by omega)).1.1
      have hspot : spot = none := by simpa [Addr.add] using World.cell?_spot hc0
      subst hspot
      refine ⟨b, off, rfl, ?_, fun i hi => ?_⟩
      · have := World.block_lt_of_cell? W _ hc0
        rw [add_none] at this
        exact this
      · rw [hpl] at hi
        rw [hgd i hi]
        obtain ⟨e0, e1⟩ := (hfs i (by omega)).1
        rw [add_none] at e0 e1
        exact ⟨e0, by rw [Nat.add_assoc]; exact e1⟩
    · obtain ⟨i, hi, rfl⟩ := List.mem_map.1 hp
      exact (hfs i (by have := List.mem_range.1 hi; omega)).2.1
    · rw [hpl] at hi
      have := (hfs i (by omega)).2.2
      rw [hgd i hi]
      have e : ((List.range len).map D).getD i DataW.nil = D i := by simp [List.getD, hi]
      rw [e]
      exact this
/-- A grammar and its datum. -/
structure GD (g : GV) (d : DataW H) : Prop where
  all : ∃ dt dn dp dl, d = .agg [dt, dn, .lit (.int .i64 g.start), dp, dl] ∧
    ((dt = .nil ∧ g.ts = []) ∨ ∃ sp, dt = .slice (g.ts.map fun s => .lit (.string s.data.toList)) sp) ∧
    ((dn = .nil ∧ g.ns = []) ∨ ∃ sp, dn = .slice (g.ns.map fun s => .lit (.string s.data.toList)) sp) ∧
    ((dp = .nil ∧ g.ps = []) ∨ ∃ el sp, dp = .slice el sp ∧ el.length = g.ps.length ∧ ∀ i, i < g.ps.length → PD (g.ps.getD i .none) (el.getD i .nil)) ∧
    ((dl = .nil ∧ g.ls = []) ∨ ∃ el sp, dl = .slice el sp ∧ el.length = g.ls.length ∧ ∀ i, i < g.ls.length → VD (g.ls.getD i .none) (el.getD i .nil))
end
end Go.Proofs.YtcgghlaifmlpiaaGreatDoor
namespace Go.Proofs.YtcgghlaifmlpiaaGreatDoor
set_option linter.unusedVariables false
open Go.ChangeShapes Go.WideShapes Go.ChangeAt Go.RowKit

section
variable {H : Type}
theorem weightsAll_mem {P : Program} {e : TypeId} : ∀ {l : List (DataW H)} {d : DataW H}, d ∈ l → ∀ n ∈ d.weights P e, n ∈ DataW.weightsAll P e l
  | [], _, h, _, _ => by cases h
  | a :: r, d, h, n, hn => by
    simp only [DataW.weightsAll, List.mem_append]
    rcases List.mem_cons.1 h with rfl | h
    · exact .inl hn
    · exact .inr (weightsAll_mem h n hn)
theorem slice_weight {P : Program} {t e : TypeId} {el sp : List (DataW H)} (hu : P.underlying t = some (.slice e)) (hb : 1 ≤ P.bytesOf e) (hw : ∀ k ∈ (DataW.slice el sp).weights P t, k ≤ reachBytes) :
    el.length ≤ 140737488355328 ∧ ∀ d ∈ el, ∀ k ∈ d.weights P e, k ≤ reachBytes := by
  have h1 := hw ((el.length + sp.length) * P.bytesOf e) (by simp [DataW.weights, hu])
  have h2 : el.length * 1 ≤ (el.length + sp.length) * P.bytesOf e := Nat.mul_le_mul (Nat.le_add_right _ _) hb
  refine ⟨by unfold reachBytes at h1; omega, fun d hd k hk => hw k ?_⟩
  simp only [DataW.weights, hu, List.mem_cons, List.mem_append]
  exact .inr (.inl (weightsAll_mem hd k hk))
theorem ld_weight {P : Program} {t e : TypeId} {n : Nat} {d : DataW H} (hu : P.underlying t = some (.slice e)) (hb : 1 ≤ P.bytesOf e) (h : LD n d) (hw : ∀ k ∈ d.weights P t, k ≤ reachBytes) : n ≤ 140737488355328 := by
  rcases h with ⟨rfl, rfl⟩ | ⟨el, sp, rfl, rfl⟩
  · omega
  · exact (slice_weight hu hb hw).1
theorem getD_in {α : Type} {l : List α} {d : α} {j : Nat} (h : j < l.length) : l.getD j d ∈ l := by
  have e : l.getD j d = l[j] := by simp [List.getD, h]
  rw [e]; exact List.getElem_mem h
theorem in_getD {α : Type} {l : List α} {d x : α} (h : x ∈ l) : ∃ i, i < l.length ∧ x = l.getD i d := by
  obtain ⟨i, hi, rfl⟩ := List.getElem_of_mem h
  exact ⟨i, hi, by simp [List.getD, hi]⟩
/-- The right sides lie within their capacities. -/
theorem gram_caps {d : DataW H} {g : GV} (h : GD g d) : ∀ p ∈ g.ps, p.right.length ≤ p.rc := by
  obtain ⟨dt, dn, dp, dl, rfl, a1, a2, a3, a4⟩ := h.all
  intro p hp
  rcases a3 with ⟨_, e⟩ | ⟨el, sp, rfl, e, hE⟩
  · rw [e] at hp; cases hp
  · obtain ⟨i, hi, rfl⟩ := in_getD (d := PV.none) hp
    obtain ⟨r, hr, hl, hc⟩ := hE i hi
    exact hc
/-- The same, by the sizes of elements. -/
theorem slice_weight2 {P : Program} {t e : TypeId} {el sp : List (DataW H)} {b : Nat} (hu : P.underlying t = some (.slice e)) (hb : P.bytesOf e = b) (hw : ∀ k ∈ (DataW.slice el sp).weights P t, k ≤ reachBytes) : el.length * b ≤ 140737488351232 := by
  have h1 := hw ((el.length + sp.length) * P.bytesOf e) (by simp [DataW.weights, hu])
  rw [hb] at h1
  have h2 : el.length * b ≤ (el.length + sp.length) * b := Nat.mul_le_mul_right _ (Nat.le_add_right _ _)
  unfold reachBytes at h1
  omega
theorem ld_weight2 {P : Program} {t e : TypeId} {n b : Nat} {d : DataW H} (hu : P.underlying t = some (.slice e)) (hb : P.bytesOf e = b) (h : LD n d) (hw : ∀ k ∈ d.weights P t, k ≤ reachBytes) : n * b ≤ 140737488351232 := by
  rcases h with ⟨rfl, rfl⟩ | ⟨el, sp, rfl, rfl⟩
  · simp
  · exact slice_weight2 hu hb hw
end
end Go.Proofs.YtcgghlaifmlpiaaGreatDoor
namespace Go.Proofs.YtcgghlaifmlpiaaGreatDoor
set_option linter.unusedVariables false
open Go.ChangeShapes Go.WideShapes Go.ChangeAt Go.RowKit

set_option maxRecDepth 100000 in
theorem open_intsg {H : Type} {enc : TypeId × Value → H} {W : World} {base : Nat} {v : Value} {d : DataW H} {p : List MemPlace} (hv : Value.okWide Tryz.prog W .any base 46 v)
    (h : DataW.Trod enc Tryz.prog W 0 (fun _ => true) true 46 v d p) :
    ∃ (a : Option Addr) (cap : Nat) (l : List Int), v = .slice a l.length cap ∧ InRow W a l ∧ l.length ≤ cap ∧ LD l.length d ∧ ∀ z ∈ l, -9223372036854775808 ≤ z ∧ z ≤ 9223372036854775807 := by
  obtain ⟨a0, len0, cap0, rfl⟩ := okWide_slice Tryz.underlying46 hv
  obtain ⟨fuel, hf⟩ := h
  obtain ⟨a, cap, l, hcs, h1, h2, h3, h4⟩ := onums hf
  simp only [Value.cells, List.cons.injEq, and_true] at hcs
  exact ⟨a, cap, l, hcs, h1, h2, h3, h4⟩
set_option maxRecDepth 100000 in
theorem ints_reachg {H : Type} {ts : List TypeId} {ds : List (DataW H)} (hs : (DataW.weightsEach Tryz.prog ts ds).all (· ≤ reachBytes) = true) {j : Nat} {d : DataW H} {n : Nat} (ht : ts[j]? = some 46) (hd : ds[j]? = some d) (h : LD n d) : n ≤ 140737488355328 := by
  refine ld_weight Tryz.underlying46 (by decide +kernel) h fun k hk => ?_
  have := List.all_eq_true.1 hs k (DataW.weights_mem_each ht hd k hk)
  simpa using this
set_option maxRecDepth 100000 in
theorem ints_fineg {H : Type} {ts : List TypeId} {ds : List (DataW H)} (hs : (DataW.weightsEach Tryz.prog ts ds).all (· ≤ reachBytes) = true) {j : Nat} {d : DataW H} {n : Nat} (ht : ts[j]? = some 46) (hd : ds[j]? = some d) (h : LD n d) : n ≤ 17592186044000 := by
  have := ld_weight2 (b := 8) Tryz.underlying46 (by decide +kernel) h fun k hk => by
    have := List.all_eq_true.1 hs k (DataW.weights_mem_each ht hd k hk)
    simpa using this
  omega
end Go.Proofs.YtcgghlaifmlpiaaGreatDoor
