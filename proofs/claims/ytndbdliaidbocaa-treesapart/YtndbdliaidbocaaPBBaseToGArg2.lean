import Derived.Test.YtndbdliaidbocaaChecked
import Derived.WalkKit
import Derived.PlainAid
import Derived.Maps.AppendAt
import Derived.Maps.OwnSet
import Derived.Deep.RegionLaw
import Derived.Deep.QuietTactic
import Derived.BigQuiet
import Derived.OwnWalk
import Derived.StringKeys
import Derived.Handy
import Derived.Test.YtndbdliaidbocaaRows
import Derived.ProofKit
import Derived.OpenShut
import Derived.ShutString
import Derived.ChangeOld
import Derived.Below
import Derived.SizedLaws
import Derived.Deep.Slices
import Derived.Lib.SmallJoins
namespace Go.Proofs.Ytndbdliaidbocaa
set_option linter.unusedVariables false
open Go.RowKit Go.Maps
def GS (w : World) (v : Value) (ss : List ByteArray) : Prop := w.ownsRow 0 9 1 v ss.length (ss.map Value.string)
theorem GS.kept {w w' : World} {v : Value} {ss : List ByteArray} (h : GS w v ss) (hb : ∀ k, v.ownBlock = some k -> w'.heap[k]? = w.heap[k]?) : GS w' v ss := by
 refine ⟨h.1, ?_⟩
 rcases h.2 with q | ⟨g, cap, cur, rfl, h1, h2, h3⟩
 ·exact .inl q
 ·exact .inr ⟨g, cap, cur, rfl, h1, (hb g rfl).trans h2, h3⟩
theorem GS.lt {w : World} {v : Value} {ss : List ByteArray} (h : GS w v ss) : ∀ k, v.ownBlock = some k -> k < w.heap.size := fun k hk => (World.ownsRow.lt h k hk).2
theorem GS.later {w w' : World} {v : Value} {ss : List ByteArray} (h : GS w v ss) (hb : Below w.heap.size w w') : GS w' v ss := h.kept fun k hk => hb.block k (h.lt k hk)
theorem GS.ne {w : World} {v : Value} {ss : List ByteArray} (h : GS w v ss) {b : Nat} {C : Array Value} {t : TypeId} {fz : Nat × Nat} (hb : w.heap[b]? = some (.cells C t fz)) (ht : t ≠ 9) : some b ≠ v.ownBlock := by
 intro e
 rcases h.2 with ⟨rfl, _⟩ | ⟨g, cap, cur, rfl, _, hg, _⟩
 ·simp [Value.ownBlock] at e
 ·simp [Value.ownBlock] at e
  subst e
  rw [hb] at hg; simp at hg; exact ht hg.2.1
theorem GS.nil (w : World) : GS w (.slice none 0 0) [] := World.ownsRow_nil w 0 9 1
theorem add_none (b off j : Nat) : (⟨b, off, none⟩ : Addr).add j = ⟨b, off + j, none⟩ := by
 unfold Addr.add
 by_cases h : j = 0 <;> simp [h]
structure Grew (w w' : World) (v v' : Value) : Prop where
 grown : w.grownBy w' v.ownBlock
 moved : v'.ownBlock = v.ownBlock ∨ ∃ k, v'.ownBlock = some k /\ w.heap.size <= k
def keyL (s : ByteArray) : Lit := .string s.data.toList
theorem keyL_inj {s t : ByteArray} (h : keyL s = keyL t) : s = t := by
 unfold keyL at h
 simp at h
 exact ByteArray.ext h
theorem keyL_is (s : ByteArray) : WideAt.IsKeyLit (keyL s) := by unfold keyL WideAt.IsKeyLit; trivial
theorem law : Keyed Try.prog 9 := string_keyed Try.underlying9
theorem keyOf_name {s : ByteArray} (hs : s.size <= maxLen) : keyOf Try.prog 9 (.string s) = some (keyL s) := Go.WideMaps.keyOf_string_mk Try.underlying9 hs
theorem below_drewN {B : Nat} {w w' : World} (h : Below B w w') (n : Nat) : Below B w (w'.drewN n) := by
 induction n with
 | zero => exact h
 | succ n ih => exact ih.drew
theorem below_alloc (w : World) (o : Obj) : Below w.heap.size w (w.alloc o) := (Below.refl _ _).alloc (Nat.le_refl _) _
theorem cellq_any {w : World} {q i : Nat} {C : Array Value} {t : TypeId} {fz : Nat × Nat} (h : w.heap[q]? = some (.cells C t fz)) : w.cell? ⟨q, i, none⟩ = C[i]? := by simp [World.cell?, h]
theorem wp_world {P : Program} {c : Code} {Q : Exit -> Act -> World -> Prop} {a : Act} {w : World} (I : World -> Prop) (h : I w) (k : ∀ w', I w' -> Code.wp P c Q a w') : Code.wp P c Q a w := k w h
open Go.RowKit
structure Ext (w0 : World) where
 w : World
 h : Below w0.heap.size w0 w
theorem Ext.cell {w0 : World} (x : Ext w0) {a : Addr} (ha : a.block < w0.heap.size) : x.w.cell? a = w0.cell? a := x.h.cell ha
def StrRow (w : World) (ao : Option Addr) (ss : List ByteArray) : Prop := ss ≠ [] -> ∃ b off, ao = some ⟨b, off, none⟩ /\ b < w.heap.size /\ ∀ i, i < ss.length -> w.cell? ⟨b, off + i, none⟩ = some (.string (ss.getD i ByteArray.empty))
theorem StrRow.later {w w' : World} {ao : Option Addr} {ss : List ByteArray} (h : StrRow w ao ss) (hb : Below w.heap.size w w') : StrRow w' ao ss := fun hn => by
 obtain ⟨b, off, rfl, hl, hc⟩ := h hn
 exact ⟨b, off, rfl, Nat.lt_of_lt_of_le hl hb.size, fun i hi => (hb.cell (p := ⟨b, off + i, none⟩) hl).trans (hc i hi)⟩
theorem GS.row {w : World} {v : Value} {ss : List ByteArray} (h : GS w v ss) : ∃ a c, v = .slice a ss.length c /\ StrRow w a ss /\ (a = none -> c = 0) /\ ss.length <= c := by
 rcases h.2 with ⟨rfl, h0⟩ | ⟨g, cap, cur, rfl, hb, hg, hle, hm, hs, ht⟩
 ·have : ss = [] := List.eq_nil_of_length_eq_zero h0
  subst this
  exact ⟨none, 0, rfl, fun hn => absurd rfl hn, fun _ => rfl, Nat.le_refl _⟩
 ·refine ⟨_, cap, rfl, fun hn => ⟨g, 0, rfl, lt_of_block hg, fun i hi => ?_⟩, (fun h => by cases h), hle⟩
  have := World.ownsRow.cells h (g := g) rfl i (.string (ss.getD i ByteArray.empty)) (by simp [List.getD, hi])
  rwa [add_none] at this
def SymRow (w : World) (ao : Option Addr) (l : List (Int × Int)) : Prop := l ≠ [] -> ∃ b off, ao = some ⟨b, off, none⟩ /\ b < w.heap.size /\ ∀ i, i < l.length ->
 w.cell? ⟨b, off + i * 2, none⟩ = some (.int .i64 (l.getD i (0, 0)).1) /\ w.cell? ⟨b, off + i * 2 + 1, none⟩ = some (.int .i64 (l.getD i (0, 0)).2)
theorem SymRow.later {B : Nat} {w w' : World} {ao : Option Addr} {l : List (Int × Int)} (h : SymRow w ao l) (hB : w.heap.size <= B) (hb : Below B w w') : SymRow w' ao l := by
 intro hne
 obtain ⟨b, off, rfl, hl, hc⟩ := h hne
 refine ⟨b, off, rfl, Nat.lt_of_lt_of_le hl hb.size, fun i hi => ?_⟩
 have e : ∀ j, w'.cell? ⟨b, j, none⟩ = w.cell? ⟨b, j, none⟩ := fun j => hb.cell (p := ⟨b, j, none⟩) (by show b < B; omega)
 rw [e, e]
 exact hc i hi
def symCells (l : List (Int × Int)) : List Value := l.flatMap fun q => [.int .i64 q.1, .int .i64 q.2]
theorem symCells_len (l : List (Int × Int)) : (symCells l).length = l.length * 2 := by
 induction l with
 | nil => rfl
 | cons q r ih => simp [symCells] at ih ⊢; omega
theorem symCells_get : ∀ (l : List (Int × Int)) (i : Nat), i < l.length -> (symCells l)[i * 2]? = some (.int .i64 (l.getD i (0, 0)).1) /\ (symCells l)[i * 2 + 1]? = some (.int .i64 (l.getD i (0, 0)).2)
 | [], i, h => by simp at h
 | q :: r, 0, _ => by simp [symCells]
 | q :: r, i + 1, h => by
  have := symCells_get r i (by simpa using h)
  have e : symCells (q :: r) = .int .i64 q.1 :: .int .i64 q.2 :: symCells r := rfl
  rw [e, show (i + 1) * 2 = i * 2 + 1 + 1 by omega]
  simpa using this
def SY (w : World) (v : Value) (l : List (Int × Int)) : Prop := w.ownsRow 0 49 2 v l.length (symCells l)
theorem infoSym : (Try.prog.info? 49).map (fun i => (i.zero, i.size, i.bytes)) = some (some (.agg #[.int .i64 0, .int .i64 0]), 2, 16) := by kernel_rfl
theorem infoSym_parts : ∃ i, Try.prog.info? 49 = some i /\ i.zero = some (.agg #[.int .i64 0, .int .i64 0]) /\ i.size = 2 /\ i.bytes = 16 := by
 have h := infoSym
 cases e : Try.prog.info? 49 with
 | none => rw [e] at h; cases h
 | some i => rw [e] at h; simp at h; exact ⟨i, rfl, h⟩
theorem SY.nil (w : World) : SY w (.slice none 0 0) [] := World.ownsRow_nil w 0 49 2
theorem SY.kept {w w' : World} {v : Value} {l : List (Int × Int)} (h : SY w v l) (hb : ∀ k, v.ownBlock = some k -> w'.heap[k]? = w.heap[k]?) : SY w' v l := by
 refine ⟨h.1, ?_⟩
 rcases h.2 with q | ⟨g, cap, cur, rfl, h1, h2, h3⟩
 ·exact .inl q
 ·exact .inr ⟨g, cap, cur, rfl, h1, (hb g rfl).trans h2, h3⟩
theorem SY.lt {w : World} {v : Value} {l : List (Int × Int)} (h : SY w v l) : ∀ k, v.ownBlock = some k -> k < w.heap.size := fun k hk => (World.ownsRow.lt h k hk).2
theorem SY.later {w w' : World} {v : Value} {l : List (Int × Int)} (h : SY w v l) (hb : Below w.heap.size w w') : SY w' v l := h.kept fun k hk => hb.block k (h.lt k hk)
theorem SY.row {w : World} {a : Option Addr} {n c : Nat} {l : List (Int × Int)} (h : SY w (.slice a n c) l) : SymRow w a l := by
 intro hne
 rcases h.2 with ⟨e, h0⟩ | ⟨g, cap, cur, e, h1, h2, h3⟩
 ·exact absurd (List.eq_nil_of_length_eq_zero h0) hne
 ·have hc := fun j x hx => World.ownsRow.cells h (g := g) (by rw [e]; rfl) j x hx
  cases e
  refine ⟨g, 0, rfl, lt_of_block h2, fun i hi => ?_⟩
  obtain ⟨q1, q2⟩ := symCells_get l i hi
  have r1 := hc _ _ q1
  have r2 := hc _ _ q2
  rw [add_none] at r1 r2
  exact ⟨r1, r2⟩
def InRow (w : World) (ao : Option Addr) (l : List Int) : Prop := l ≠ [] -> ∃ b off, ao = some ⟨b, off, none⟩ /\ b < w.heap.size /\ ∀ i, i < l.length -> w.cell? ⟨b, off + i, none⟩ = some (.int .i64 (l.getD i 0))
theorem InRow.later {w w' : World} {ao : Option Addr} {l : List Int} (h : InRow w ao l) (hb : Below w.heap.size w w') : InRow w' ao l := by
 intro hne
 obtain ⟨b, off, rfl, hl, hc⟩ := h hne
 have e : ∀ j, w'.cell? ⟨b, j, none⟩ = w.cell? ⟨b, j, none⟩ := fun j => hb.cell (p := ⟨b, j, none⟩) hl
 refine ⟨b, off, rfl, Nat.lt_of_lt_of_le hl hb.size, fun i hi => ?_⟩
 rw [e]
 exact hc i hi
structure PV where
 left : Int
 ra : Option Addr
 rc : Nat
 right : List (Int × Int)
 prec : Int
def PV.none : PV := ⟨0, Option.none, 0, [], 0⟩
structure LV where
 assoc : Int
 ta : Option Addr
 tc : Nat
 terms : List Int
def LV.none : LV := ⟨0, Option.none, 0, []⟩
structure PrRow (w : World) (ao : Option Addr) (l : List PV) : Prop where
 cells : l ≠ [] -> ∃ b off, ao = some ⟨b, off, none⟩ /\ b < w.heap.size /\ ∀ i, i < l.length ->
  w.cell? ⟨b, off + i * 3, none⟩ = some (.int .i64 (l.getD i .none).left) /\ w.cell? ⟨b, off + i * 3 + 1, none⟩ = some (.slice (l.getD i .none).ra (l.getD i .none).right.length (l.getD i .none).rc) /\ w.cell? ⟨b, off + i * 3 + 2, none⟩ = some (.int .i64 (l.getD i .none).prec)
 rows : ∀ p ∈ l, SymRow w p.ra p.right
structure LvRow (w : World) (ao : Option Addr) (l : List LV) : Prop where
 cells : l ≠ [] -> ∃ b off, ao = some ⟨b, off, none⟩ /\ b < w.heap.size /\ ∀ i, i < l.length ->
  w.cell? ⟨b, off + i * 2, none⟩ = some (.int .i64 (l.getD i .none).assoc) /\ w.cell? ⟨b, off + i * 2 + 1, none⟩ = some (.slice (l.getD i .none).ta (l.getD i .none).terms.length (l.getD i .none).tc)
 rows : ∀ p ∈ l, InRow w p.ta p.terms
theorem PrRow.later {w w' : World} {ao : Option Addr} {l : List PV} (h : PrRow w ao l) (hb : Below w.heap.size w w') : PrRow w' ao l := by
 refine ⟨fun hne => ?_, fun p hp => (h.rows p hp).later (Nat.le_refl _) hb⟩
 obtain ⟨b, off, rfl, hl, hc⟩ := h.cells hne
 have e : ∀ j, w'.cell? ⟨b, j, none⟩ = w.cell? ⟨b, j, none⟩ := fun j => hb.cell (p := ⟨b, j, none⟩) hl
 refine ⟨b, off, rfl, Nat.lt_of_lt_of_le hl hb.size, fun i hi => ?_⟩
 rw [e, e, e]
 exact hc i hi
theorem LvRow.later {w w' : World} {ao : Option Addr} {l : List LV} (h : LvRow w ao l) (hb : Below w.heap.size w w') : LvRow w' ao l := by
 refine ⟨fun hne => ?_, fun p hp => (h.rows p hp).later hb⟩
 obtain ⟨b, off, rfl, hl, hc⟩ := h.cells hne
 have e : ∀ j, w'.cell? ⟨b, j, none⟩ = w.cell? ⟨b, j, none⟩ := fun j => hb.cell (p := ⟨b, j, none⟩) hl
 refine ⟨b, off, rfl, Nat.lt_of_lt_of_le hl hb.size, fun i hi => ?_⟩
 rw [e, e]
 exact hc i hi
structure GV where
 ta : Option Addr
 tc : Nat
 ts : List ByteArray
 na : Option Addr
 nc : Nat
 ns : List ByteArray
 start : Int
 pa : Option Addr
 pc : Nat
 ps : List PV
 la : Option Addr
 lc : Nat
 ls : List LV
abbrev GV.val (g : GV) : Value := .agg #[.slice g.ta g.ts.length g.tc, .slice g.na g.ns.length g.nc, .int .i64 g.start, .slice g.pa g.ps.length g.pc, .slice g.la g.ls.length g.lc]
structure GAt (n : Nat) (w : World) (g : GV) : Prop where
 t : StrRow w g.ta g.ts
 n_ : StrRow w g.na g.ns
 p : PrRow w g.pa g.ps
 l : LvRow w g.la g.ls
 tz : ∀ s ∈ g.ts, s.size <= maxLen
 nz : ∀ s ∈ g.ns, s.size <= maxLen
 tl : g.ts.length <= n
 nl : g.ns.length <= n
 pl : g.ps.length <= n
 ll : g.ls.length <= n
 rl : ∀ p ∈ g.ps, p.right.length <= n
 vl : ∀ p ∈ g.ls, p.terms.length <= n
theorem GAt.later {n : Nat} {w w' : World} {g : GV} (h : GAt n w g) (hb : Below w.heap.size w w') : GAt n w' g :=
 ⟨h.t.later hb, h.n_.later hb, h.p.later hb, h.l.later hb, h.tz, h.nz, h.tl, h.nl, h.pl, h.ll, h.rl, h.vl⟩
theorem GAt.mono {n m : Nat} {w : World} {g : GV} (h : GAt n w g) (hn : n <= m) : GAt m w g :=
 ⟨h.t, h.n_, h.p, h.l, h.tz, h.nz, Nat.le_trans h.tl hn, Nat.le_trans h.nl hn, Nat.le_trans h.pl hn, Nat.le_trans h.ll hn, fun p hp => Nat.le_trans (h.rl p hp) hn, fun p hp => Nat.le_trans (h.vl p hp) hn⟩
def IL (w : World) (v : Value) (l : List Int) : Prop := w.ownsRow 0 3 1 v l.length (l.map (.int .i64 ·))
theorem IL.nil (w : World) : IL w (.slice none 0 0) [] := World.ownsRow_nil w 0 3 1
theorem IL.kept {w w' : World} {v : Value} {l : List Int} (h : IL w v l) (hb : ∀ k, v.ownBlock = some k -> w'.heap[k]? = w.heap[k]?) : IL w' v l := by
 refine ⟨h.1, ?_⟩
 rcases h.2 with q | ⟨g, cap, cur, rfl, h1, h2, h3⟩
 ·exact .inl q
 ·exact .inr ⟨g, cap, cur, rfl, h1, (hb g rfl).trans h2, h3⟩
theorem IL.lt {w : World} {v : Value} {l : List Int} (h : IL w v l) : ∀ k, v.ownBlock = some k -> k < w.heap.size := fun k hk => (World.ownsRow.lt h k hk).2
theorem IL.later {w w' : World} {v : Value} {l : List Int} (h : IL w v l) (hb : Below w.heap.size w w') : IL w' v l := h.kept fun k hk => hb.block k (h.lt k hk)
open Go.ChangeShapes Go.WideShapes Go.ChangeAt Go.RowKit
theorem gown : ownKnob Try.prog.godebug = none := by kernel_rfl
theorem glaid : laidOutB Try.prog = true := by kernel_rfl
theorem gcellsInt : Try.prog.cellsOf 3 = 1 := by kernel_rfl
theorem gcellsKind : Try.prog.cellsOf 47 = 1 := by kernel_rfl
theorem gcellsAssoc : Try.prog.cellsOf 84 = 1 := by kernel_rfl
theorem gcellsSym : Try.prog.cellsOf 49 = 2 := by kernel_rfl
theorem gcellsStr : Try.prog.cellsOf 9 = 1 := by kernel_rfl
theorem gcellsStrs : Try.prog.cellsOf 22 = 1 := by kernel_rfl
theorem gcellsInts : Try.prog.cellsOf 85 = 1 := by kernel_rfl
theorem gcellsSyms : Try.prog.cellsOf 50 = 1 := by kernel_rfl
theorem gcellsProd : Try.prog.cellsOf 52 = 3 := by kernel_rfl
theorem gcellsProds : Try.prog.cellsOf 23 = 1 := by kernel_rfl
theorem gcellsLevel : Try.prog.cellsOf 87 = 2 := by kernel_rfl
theorem gcellsLevels : Try.prog.cellsOf 24 = 1 := by kernel_rfl
theorem gcellsGram : Try.prog.cellsOf 26 = 5 := by kernel_rfl
def LD {H : Type} (n : Nat) (d : DataW H) : Prop := (d = .nil /\ n = 0) ∨ ∃ el sp, d = .slice el sp /\ el.length = n
section
variable {H : Type} {enc : TypeId × Value -> H} {W : World}
set_option maxRecDepth 100000 in
theorem otext {fuel : Nat} {cs : List Value} {x : DataW H × List MemPlace} (hf : DataW.trod enc Try.prog W 0 (fun _ => true) true fuel 22 cs = some x) :
  ∃ (a : Option Addr) (cap : Nat) (l : List ByteArray), cs = [.slice a l.length cap] /\ (∀ s ∈ l, s.size <= maxLen) /\ StrRow W a l /\ l.length <= cap /\ ((x.1 = .nil /\ l = []) ∨ ∃ sp, x.1 = .slice (l.map fun s => .lit (.string s.data.toList)) sp) := by
 rcases Go.Deep.open_slice Try.underlying22 hf with ⟨hcs, hx⟩ | ⟨a, len, cap, m, n, D, Pl, hcs, _, hl, _, hm, hx, hel⟩
 ·exact ⟨none, 0, [], hcs, (fun o ho => by cases ho), fun h => absurd rfl h, Nat.le_refl _, .inl ⟨by rw [hx], rfl⟩⟩
 ·have hm' : m = cap := by simpa using hm
  have each : ∀ i, i < m -> ∃ s : ByteArray, W.cell? (a.add (i * 1)) = some (.string s) /\ s.size <= maxLen /\ D i = .lit (.string s.data.toList) := by
   intro i hi
   obtain ⟨cs', h1, h2⟩ := hel i hi
   rw [gcellsStr] at h1
   obtain ⟨hl1, _, hcell⟩ := World.cells?_some h1
   obtain ⟨s, hs, hx2, hsz⟩ := DataW.trod_string Try.underlying9 h2
   subst hs
   have e0 := hcell 0 (by omega)
   rw [Go.Deep.add_add] at e0
   simp only [Prod.mk.injEq] at hx2
   exact ⟨s, by simpa using e0, hsz, hx2.1⟩
  obtain ⟨f, hfs⟩ : ∃ f : Nat -> ByteArray, ∀ i, i < m -> W.cell? (a.add (i * 1)) = some (.string (f i)) /\ (f i).size <= maxLen /\ D i = .lit (.string (f i).data.toList) :=
   ⟨fun i => if h : i < m then Classical.choose (each i h) else ByteArray.empty, fun i h => by simp only [dif_pos h]; exact Classical.choose_spec (each i h)⟩
  have hpl : ((List.range len).map f).length = len := by simp
  have hgd : ∀ i, i < len -> ((List.range len).map f).getD i ByteArray.empty = f i := fun i hi => by simp [List.getD, hi]
  refine ⟨some a, cap, (List.range len).map f, by rw [hpl]; exact hcs, fun o ho => ?_, fun hne => ?_, by rw [hpl]; exact hl, .inr ⟨(List.range (m - len)).map fun j => D (len + j), ?_⟩⟩
  ·obtain ⟨i, hi, rfl⟩ := List.mem_map.1 ho
   exact (hfs i (by have := List.mem_range.1 hi; omega)).2.1
  ·obtain ⟨b, off, spot⟩ := a
   have h0 : 0 < len := by
    rcases Nat.eq_zero_or_pos len with e | e
    ·subst e; simp at hne
    ·exact e
   have hc0 := (hfs 0 (by omega)).1
   have hspot : spot = none := by simpa [Addr.add] using World.cell?_spot hc0
   subst hspot
   refine ⟨b, off, rfl, ?_, fun i hi => ?_⟩
   ·have := World.block_lt_of_cell? W _ hc0
    rw [add_none] at this
    exact this
   ·rw [hpl] at hi
    rw [hgd i hi]
    have e0 := (hfs i (by omega)).1
    rw [add_none, Nat.mul_one] at e0
    exact e0
  ·rw [hx, List.map_map]
   show DataW.slice _ _ = DataW.slice _ _
   congr 1
   apply List.map_congr_left
   intro i hi
   exact (hfs i (by have := List.mem_range.1 hi; omega)).2.2
set_option maxRecDepth 100000 in
theorem onums {fuel : Nat} {cs : List Value} {x : DataW H × List MemPlace} (hf : DataW.trod enc Try.prog W 0 (fun _ => true) true fuel 85 cs = some x) :
  ∃ (a : Option Addr) (cap : Nat) (l : List Int), cs = [.slice a l.length cap] /\ InRow W a l /\ l.length <= cap /\ LD l.length x.1 /\ ∀ z ∈ l, -9223372036854775808 <= z /\ z <= 9223372036854775807 := by
 rcases Go.Deep.open_slice Try.underlying85 hf with ⟨hcs, hx⟩ | ⟨a, len, cap, m, n, D, Pl, hcs, _, hl, _, hm, hx, hel⟩
 ·exact ⟨none, 0, [], hcs, fun h => absurd rfl h, Nat.le_refl _, .inl ⟨by rw [hx], rfl⟩, (fun o ho => by cases ho)⟩
 ·have hm' : m = cap := by simpa using hm
  have each : ∀ i, i < m -> ∃ s : Int, W.cell? (a.add (i * 1)) = some (.int .i64 s) /\ (-9223372036854775808 <= s /\ s <= 9223372036854775807) := by
   intro i hi
   obtain ⟨cs', h1, h2⟩ := hel i hi
   rw [gcellsInt] at h1
   obtain ⟨hl1, _, hcell⟩ := World.cells?_some h1
   obtain ⟨s, hs, _, hsz⟩ := DataW.trod_int Try.underlying3 h2
   subst hs
   have e0 := hcell 0 (by omega)
   rw [Go.Deep.add_add] at e0
   exact ⟨s, by simpa using e0, bounds_i64 hsz⟩
  obtain ⟨f, hfs⟩ : ∃ f : Nat -> Int, ∀ i, i < m -> W.cell? (a.add (i * 1)) = some (.int .i64 (f i)) /\ (-9223372036854775808 <= f i /\ f i <= 9223372036854775807) :=
   ⟨fun i => if h : i < m then Classical.choose (each i h) else 0, fun i h => by simp only [dif_pos h]; exact Classical.choose_spec (each i h)⟩
  have hpl : ((List.range len).map f).length = len := by simp
  have hgd : ∀ i, i < len -> ((List.range len).map f).getD i 0 = f i := fun i hi => by simp [List.getD, hi]
  refine ⟨some a, cap, (List.range len).map f, by rw [hpl]; exact hcs, fun hne => ?_, by rw [hpl]; exact hl, .inr ⟨_, _, by rw [hx], by simp⟩, fun z hz => ?_⟩
  ·obtain ⟨b, off, spot⟩ := a
   have h0 : 0 < len := by
    rcases Nat.eq_zero_or_pos len with e | e
    ·subst e; simp at hne
    ·exact e
   have hc0 := (hfs 0 (by omega)).1
   have hspot : spot = none := by simpa [Addr.add] using World.cell?_spot hc0
   subst hspot
   refine ⟨b, off, rfl, ?_, fun i hi => ?_⟩
   ·have := World.block_lt_of_cell? W _ hc0
    rw [add_none] at this
    exact this
   ·rw [hpl] at hi
    rw [hgd i hi]
    have e0 := (hfs i (by omega)).1
    rw [add_none, Nat.mul_one] at e0
    exact e0
  ·obtain ⟨i, hi, rfl⟩ := List.mem_map.1 hz
   exact (hfs i (by have := List.mem_range.1 hi; omega)).2
set_option maxRecDepth 100000 in
theorem osymc {fuel : Nat} {cs : List Value} {x : DataW H × List MemPlace} (h : DataW.trod enc Try.prog W 0 (fun _ => true) true fuel 49 cs = some x) : ∃ q : Int × Int, cs = [.int .i64 q.1, .int .i64 q.2] := by
 obtain ⟨xs, n, _, hx, hl, hlen, hf⟩ := DataW.trod_struct Try.underlying49 h
 rw [gcellsSym] at hl
 match xs, hlen, cs, hl with
 | [y0, y1], _, [e0, e1], _ =>
  have g0 := hf 0 _ rfl
  have g1 := hf 1 _ rfl
  simp [gcellsInt, gcellsKind] at g0 g1
  obtain ⟨a, ha, _, _⟩ := DataW.trod_int Try.underlying47 g0
  obtain ⟨b, hb, _, _⟩ := DataW.trod_int Try.underlying3 g1
  simp only [List.cons.injEq, and_true] at ha hb
  subst ha; subst hb
  exact ⟨(a, b), rfl⟩
set_option maxRecDepth 100000 in
theorem osymsC {fuel : Nat} {cs : List Value} {x : DataW H × List MemPlace} (hf : DataW.trod enc Try.prog W 0 (fun _ => true) true fuel 50 cs = some x) :
  ∃ (a : Option Addr) (cap : Nat) (l : List (Int × Int)), cs = [.slice a l.length cap] /\ SymRow W a l /\ LD l.length x.1 /\ l.length <= cap := by
 rcases Go.Deep.open_slice Try.underlying50 hf with ⟨hcs, hx⟩ | ⟨a, len, cap, m, n, D, Pl, hcs, _, hl, _, hm, hx, hel⟩
 ·exact ⟨none, 0, [], hcs, fun h => absurd rfl h, .inl ⟨by rw [hx], rfl⟩, Nat.le_refl _⟩
 ·have hm' : m = cap := by simpa using hm
  have each : ∀ i, i < m -> ∃ q : Int × Int, W.cell? (a.add (i * 2)) = some (.int .i64 q.1) /\ W.cell? (a.add (i * 2 + 1)) = some (.int .i64 q.2) := by
   intro i hi
   obtain ⟨cs', h1, h2⟩ := hel i hi
   rw [gcellsSym] at h1
   obtain ⟨hl1, _, hcell⟩ := World.cells?_some h1
   obtain ⟨q, hs⟩ := osymc h2
   subst hs
   have e0 := hcell 0 (by omega)
   have e1 := hcell 1 (by omega)
   rw [Go.Deep.add_add] at e0 e1
   exact ⟨q, by simpa using e0, by simpa using e1⟩
  obtain ⟨f, hfs⟩ : ∃ f : Nat -> Int × Int, ∀ i, i < m -> W.cell? (a.add (i * 2)) = some (.int .i64 (f i).1) /\ W.cell? (a.add (i * 2 + 1)) = some (.int .i64 (f i).2) :=
   ⟨fun i => if h : i < m then Classical.choose (each i h) else (0, 0), fun i h => by simp only [dif_pos h]; exact Classical.choose_spec (each i h)⟩
  have hpl : ((List.range len).map f).length = len := by simp
  have hgd : ∀ i, i < len -> ((List.range len).map f).getD i (0, 0) = f i := fun i hi => by simp [List.getD, hi]
  refine ⟨some a, cap, (List.range len).map f, by rw [hpl]; exact hcs, fun hne => ?_, .inr ⟨_, _, by rw [hx], by simp⟩, by rw [hpl]; exact hl⟩
  obtain ⟨b, off, spot⟩ := a
  have h0 : 0 < len := by
   rcases Nat.eq_zero_or_pos len with e | e
   ·subst e; simp at hne
   ·exact e
  have hc0 := (hfs 0 (by omega)).1
  have hspot : spot = none := by simpa [Addr.add] using World.cell?_spot hc0
  subst hspot
  refine ⟨b, off, rfl, ?_, fun i hi => ?_⟩
  ·have := World.block_lt_of_cell? W _ hc0
   rw [add_none] at this
   exact this
  ·rw [hpl] at hi
   rw [hgd i hi]
   obtain ⟨e0, e1⟩ := hfs i (by omega)
   rw [add_none] at e0 e1
   exact ⟨e0, by rw [Nat.add_assoc]; exact e1⟩
def PD (p : PV) (d : DataW H) : Prop := ∃ r, d = .agg [.lit (.int .i64 p.left), r, .lit (.int .i64 p.prec)] /\ LD p.right.length r /\ p.right.length <= p.rc
def VD (p : LV) (d : DataW H) : Prop := ∃ r, d = .agg [.lit (.int .i64 p.assoc), r] /\ LD p.terms.length r
set_option maxRecDepth 100000 in
theorem oprod {fuel : Nat} {cs : List Value} {x : DataW H × List MemPlace} (h : DataW.trod enc Try.prog W 0 (fun _ => true) true fuel 52 cs = some x) :
  ∃ p : PV, cs = [.int .i64 p.left, .slice p.ra p.right.length p.rc, .int .i64 p.prec] /\ SymRow W p.ra p.right /\ PD p x.1 := by
 obtain ⟨xs, n, _, hx, hl, hlen, hf⟩ := DataW.trod_struct Try.underlying52 h
 rw [gcellsProd] at hl
 match xs, hlen, cs, hl with
 | [y0, y1, y2], _, [e0, e1, e2], _ =>
  have g0 := hf 0 _ rfl
  have g1 := hf 1 _ rfl
  have g2 := hf 2 _ rfl
  simp [gcellsInt, gcellsSyms] at g0 g1 g2
  obtain ⟨a, ha, hda, _⟩ := DataW.trod_int Try.underlying3 g0
  obtain ⟨ra, rc, r, hr, hrow, hld, hcp⟩ := osymsC g1
  obtain ⟨b, hb, hdb, _⟩ := DataW.trod_int Try.underlying3 g2
  simp only [List.cons.injEq, and_true] at ha hb hr
  subst ha; subst hb; subst hr; subst hda; subst hdb
  exact ⟨⟨a, ra, rc, r, b⟩, rfl, hrow, y1.1, by rw [hx]; rfl, hld, hcp⟩
set_option maxRecDepth 100000 in
theorem olevel {fuel : Nat} {cs : List Value} {x : DataW H × List MemPlace} (h : DataW.trod enc Try.prog W 0 (fun _ => true) true fuel 87 cs = some x) :
  ∃ p : LV, cs = [.int .i64 p.assoc, .slice p.ta p.terms.length p.tc] /\ InRow W p.ta p.terms /\ VD p x.1 := by
 obtain ⟨xs, n, _, hx, hl, hlen, hf⟩ := DataW.trod_struct Try.underlying87 h
 rw [gcellsLevel] at hl
 match xs, hlen, cs, hl with
 | [y0, y1], _, [e0, e1], _ =>
  have g0 := hf 0 _ rfl
  have g1 := hf 1 _ rfl
  simp [gcellsAssoc, gcellsInts] at g0 g1
  obtain ⟨a, ha, hda, _⟩ := DataW.trod_int Try.underlying84 g0
  obtain ⟨ra, rc, r, hr, hrow, _, hld, _⟩ := onums g1
  simp only [List.cons.injEq, and_true] at ha hr
  subst ha; subst hr; subst hda
  exact ⟨⟨a, ra, rc, r⟩, rfl, hrow, y1.1, by rw [hx]; rfl, hld⟩
set_option maxRecDepth 100000 in
theorem oprods {fuel : Nat} {cs : List Value} {x : DataW H × List MemPlace} (hf : DataW.trod enc Try.prog W 0 (fun _ => true) true fuel 23 cs = some x) :
  ∃ (a : Option Addr) (cap : Nat) (l : List PV), cs = [.slice a l.length cap] /\ PrRow W a l /\ l.length <= cap /\ ((x.1 = .nil /\ l = []) ∨ ∃ el sp, x.1 = .slice el sp /\ el.length = l.length /\ ∀ i, i < l.length -> PD (l.getD i .none) (el.getD i .nil)) := by
 rcases Go.Deep.open_slice Try.underlying23 hf with ⟨hcs, hx⟩ | ⟨a, len, cap, m, n, D, Pl, hcs, _, hl, _, hm, hx, hel⟩
 ·exact ⟨none, 0, [], hcs, ⟨fun h => absurd rfl h, fun p hp => by cases hp⟩, Nat.le_refl _, .inl ⟨by rw [hx], rfl⟩⟩
 ·have hm' : m = cap := by simpa using hm
  have each : ∀ i, i < m -> ∃ p : PV, (W.cell? (a.add (i * 3)) = some (.int .i64 p.left) /\ W.cell? (a.add (i * 3 + 1)) = some (.slice p.ra p.right.length p.rc) /\ W.cell? (a.add (i * 3 + 2)) = some (.int .i64 p.prec)) /\ SymRow W p.ra p.right /\ PD p (D i) := by
   intro i hi
   obtain ⟨cs', h1, h2⟩ := hel i hi
   rw [gcellsProd] at h1
   obtain ⟨hl1, _, hcell⟩ := World.cells?_some h1
   obtain ⟨q, hs, hr, hd⟩ := oprod h2
   subst hs
   have e0 := hcell 0 (by omega)
   have e1 := hcell 1 (by omega)
   have e2 := hcell 2 (by omega)
   rw [Go.Deep.add_add] at e0 e1 e2
   exact ⟨q, ⟨by simpa using e0, by simpa using e1, by simpa using e2⟩, hr, hd⟩
  obtain ⟨f, hfs⟩ : ∃ f : Nat -> PV, ∀ i, i < m -> (W.cell? (a.add (i * 3)) = some (.int .i64 (f i).left) /\ W.cell? (a.add (i * 3 + 1)) = some (.slice (f i).ra (f i).right.length (f i).rc) /\ W.cell? (a.add (i * 3 + 2)) = some (.int .i64 (f i).prec)) /\ SymRow W (f i).ra (f i).right /\ PD (f i) (D i) :=
   ⟨fun i => if h : i < m then Classical.choose (each i h) else .none, fun i h => by simp only [dif_pos h]; exact Classical.choose_spec (each i h)⟩
  have hpl : ((List.range len).map f).length = len := by simp
  have hgd : ∀ i, i < len -> ((List.range len).map f).getD i .none = f i := fun i hi => by simp [List.getD, hi]
  refine ⟨some a, cap, (List.range len).map f, by rw [hpl]; exact hcs, ⟨fun hne => ?_, fun p hp => ?_⟩, by rw [hpl]; exact hl, .inr ⟨_, _, by rw [hx], by simp, fun i hi => ?_⟩⟩
  ·obtain ⟨b, off, spot⟩ := a
   have h0 : 0 < len := by
    rcases Nat.eq_zero_or_pos len with e | e
    ·subst e; simp at hne
    ·exact e
   have hc0 := (hfs 0 (by omega)).1.1
   have hspot : spot = none := by simpa [Addr.add] using World.cell?_spot hc0
   subst hspot
   refine ⟨b, off, rfl, ?_, fun i hi => ?_⟩
   ·have := World.block_lt_of_cell? W _ hc0
    rw [add_none] at this
    exact this
   ·rw [hpl] at hi
    rw [hgd i hi]
    obtain ⟨e0, e1, e2⟩ := (hfs i (by omega)).1
    rw [add_none] at e0 e1 e2
    exact ⟨e0, by rw [Nat.add_assoc]; exact e1, by rw [Nat.add_assoc]; exact e2⟩
  ·obtain ⟨i, hi, rfl⟩ := List.mem_map.1 hp
   exact (hfs i (by have := List.mem_range.1 hi; omega)).2.1
  ·rw [hpl] at hi
   have := (hfs i (by omega)).2.2
   rw [hgd i hi]
   have e : ((List.range len).map D).getD i DataW.nil = D i := by simp [List.getD, hi]
   rw [e]
   exact this
set_option maxRecDepth 100000 in
theorem olevels {fuel : Nat} {cs : List Value} {x : DataW H × List MemPlace} (hf : DataW.trod enc Try.prog W 0 (fun _ => true) true fuel 24 cs = some x) :
  ∃ (a : Option Addr) (cap : Nat) (l : List LV), cs = [.slice a l.length cap] /\ LvRow W a l /\ ((x.1 = .nil /\ l = []) ∨ ∃ el sp, x.1 = .slice el sp /\ el.length = l.length /\ ∀ i, i < l.length -> VD (l.getD i .none) (el.getD i .nil)) := by
 rcases Go.Deep.open_slice Try.underlying24 hf with ⟨hcs, hx⟩ | ⟨a, len, cap, m, n, D, Pl, hcs, _, hl, _, hm, hx, hel⟩
 ·exact ⟨none, 0, [], hcs, ⟨fun h => absurd rfl h, fun p hp => by cases hp⟩, .inl ⟨by rw [hx], rfl⟩⟩
 ·have hm' : m = cap := by simpa using hm
  have each : ∀ i, i < m -> ∃ p : LV, (W.cell? (a.add (i * 2)) = some (.int .i64 p.assoc) /\ W.cell? (a.add (i * 2 + 1)) = some (.slice p.ta p.terms.length p.tc)) /\ InRow W p.ta p.terms /\ VD p (D i) := by
   intro i hi
   obtain ⟨cs', h1, h2⟩ := hel i hi
   rw [gcellsLevel] at h1
   obtain ⟨hl1, _, hcell⟩ := World.cells?_some h1
   obtain ⟨q, hs, hr, hd⟩ := olevel h2
   subst hs
   have e0 := hcell 0 (by omega)
   have e1 := hcell 1 (by omega)
   rw [Go.Deep.add_add] at e0 e1
   exact ⟨q, ⟨by simpa using e0, by simpa using e1⟩, hr, hd⟩
  obtain ⟨f, hfs⟩ : ∃ f : Nat -> LV, ∀ i, i < m -> (W.cell? (a.add (i * 2)) = some (.int .i64 (f i).assoc) /\ W.cell? (a.add (i * 2 + 1)) = some (.slice (f i).ta (f i).terms.length (f i).tc)) /\ InRow W (f i).ta (f i).terms /\ VD (f i) (D i) :=
   ⟨fun i => if h : i < m then Classical.choose (each i h) else .none, fun i h => by simp only [dif_pos h]; exact Classical.choose_spec (each i h)⟩
  have hpl : ((List.range len).map f).length = len := by simp
  have hgd : ∀ i, i < len -> ((List.range len).map f).getD i .none = f i := fun i hi => by simp [List.getD, hi]
  refine ⟨some a, cap, (List.range len).map f, by rw [hpl]; exact hcs, ⟨fun hne => ?_, fun p hp => ?_⟩, .inr ⟨_, _, by rw [hx], by simp, fun i hi => ?_⟩⟩
  ·obtain ⟨b, off, spot⟩ := a
   have h0 : 0 < len := by
    rcases Nat.eq_zero_or_pos len with e | e
    ·subst e; simp at hne
    ·exact e
   have hc0 := (hfs 0 (by omega)).1.1
   have hspot : spot = none := by simpa [Addr.add] using World.cell?_spot hc0
   subst hspot
   refine ⟨b, off, rfl, ?_, fun i hi => ?_⟩
   ·have := World.block_lt_of_cell? W _ hc0
    rw [add_none] at this
    exact this
   ·rw [hpl] at hi
    rw [hgd i hi]
    obtain ⟨e0, e1⟩ := (hfs i (by omega)).1
    rw [add_none] at e0 e1
    exact ⟨e0, by rw [Nat.add_assoc]; exact e1⟩
  ·obtain ⟨i, hi, rfl⟩ := List.mem_map.1 hp
   exact (hfs i (by have := List.mem_range.1 hi; omega)).2.1
  ·rw [hpl] at hi
   have := (hfs i (by omega)).2.2
   rw [hgd i hi]
   have e : ((List.range len).map D).getD i DataW.nil = D i := by simp [List.getD, hi]
   rw [e]
   exact this
structure GD (g : GV) (d : DataW H) : Prop where
 all : ∃ dt dn dp dl, d = .agg [dt, dn, .lit (.int .i64 g.start), dp, dl] /\
  ((dt = .nil /\ g.ts = []) ∨ ∃ sp, dt = .slice (g.ts.map fun s => .lit (.string s.data.toList)) sp) /\
  ((dn = .nil /\ g.ns = []) ∨ ∃ sp, dn = .slice (g.ns.map fun s => .lit (.string s.data.toList)) sp) /\
  ((dp = .nil /\ g.ps = []) ∨ ∃ el sp, dp = .slice el sp /\ el.length = g.ps.length /\ ∀ i, i < g.ps.length -> PD (g.ps.getD i .none) (el.getD i .nil)) /\
  ((dl = .nil /\ g.ls = []) ∨ ∃ el sp, dl = .slice el sp /\ el.length = g.ls.length /\ ∀ i, i < g.ls.length -> VD (g.ls.getD i .none) (el.getD i .nil))
set_option maxRecDepth 100000 in
theorem open_gram {base : Nat} {v : Value} {d : DataW H} {p : List MemPlace} (hv : Value.okWide Try.prog W .any base 26 v)
  (h : DataW.Trod enc Try.prog W 0 (fun _ => true) true 26 v d p) :
  ∃ g : GV, v = g.val /\ (StrRow W g.ta g.ts /\ StrRow W g.na g.ns /\ PrRow W g.pa g.ps /\ LvRow W g.la g.ls /\ (∀ s ∈ g.ts, s.size <= maxLen) /\ (∀ s ∈ g.ns, s.size <= maxLen) /\ g.ps.length <= g.pc) /\ GD g d /\ (-9223372036854775808 <= g.start /\ g.start <= 9223372036854775807) := by
 obtain ⟨cs, rfl, hsz⟩ := okWide_struct Try.underlying26 hv
 obtain ⟨fuel, h⟩ := h
 obtain ⟨xs, n, _, hx, hl, hlen, hf⟩ := DataW.trod_struct Try.underlying26 h
 simp only [Value.cells] at hl hf
 rw [gcellsGram] at hl
 obtain ⟨cs⟩ := cs
 simp only at hl hf
 match xs, hlen, cs, hl with
 | [y0, y1, y2, y3, y4], _, [e0, e1, e2, e3, e4], _ =>
  have g0 := hf 0 _ rfl
  have g1 := hf 1 _ rfl
  have g2 := hf 2 _ rfl
  have g3 := hf 3 _ rfl
  have g4 := hf 4 _ rfl
  simp [gcellsInt, gcellsStrs, gcellsProds, gcellsLevels] at g0 g1 g2 g3 g4
  obtain ⟨ta, tc, ts, ht, htz, htr, _, htd⟩ := otext g0
  obtain ⟨na, nc, ns, hn, hnz, hnr, _, hnd⟩ := otext g1
  obtain ⟨st, hs, hsd, hsw⟩ := DataW.trod_int Try.underlying3 g2
  obtain ⟨pa, pc, ps, hp, hpr, hpc, hpd⟩ := oprods g3
  obtain ⟨la, lc, ls, hl2, hlr, hld⟩ := olevels g4
  simp only [List.cons.injEq, and_true] at ht hn hs hp hl2
  subst ht; subst hn; subst hs; subst hp; subst hl2; subst hsd
  simp only [Prod.mk.injEq] at hx
  exact ⟨⟨ta, tc, ts, na, nc, ns, st, pa, pc, ps, la, lc, ls⟩, rfl, ⟨htr, hnr, hpr, hlr, htz, hnz, hpc⟩, ⟨y0.1, y1.1, y3.1, y4.1, hx.1, htd, hnd, hpd, hld⟩, bounds_i64 hsw⟩
end
section
variable {H : Type}
theorem getD_in {α : Type} {l : List α} {d : α} {j : Nat} (h : j < l.length) : l.getD j d ∈ l := by
 have e : l.getD j d = l[j] := by simp [List.getD, h]
 rw [e]; exact List.getElem_mem h
theorem in_getD {α : Type} {l : List α} {d x : α} (h : x ∈ l) : ∃ i, i < l.length /\ x = l.getD i d := by
 obtain ⟨i, hi, rfl⟩ := List.getElem_of_mem h
 exact ⟨i, hi, by simp [List.getD, hi]⟩
end
end Go.Proofs.Ytndbdliaidbocaa
