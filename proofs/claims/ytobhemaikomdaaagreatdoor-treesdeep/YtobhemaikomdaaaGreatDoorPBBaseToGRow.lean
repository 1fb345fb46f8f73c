import Derived.Test.YtobhemaikomdaaaGreatDoorChecked
import Derived.WalkKit
import Derived.PlainAid
import Derived.Maps.AppendAt
import Derived.Maps.OwnSet
import Derived.Deep.RegionLaw
import Derived.Deep.QuietTactic
import Derived.BigQuiet
import Derived.OwnWalk
import Derived.StringKeys
import Derived.Handy
namespace Go.Proofs.YtobhemaikomdaaaGreatDoor
set_option linter.unusedVariables false
open Go.RowKit Go.Maps
def GS (w : World) (v : Value) (ss : List ByteArray) : Prop := w.ownsRow 0 9 1 v ss.length (ss.map Value.string)
theorem GS.kept {w w' : World} {v : Value} {ss : List ByteArray} (h : GS w v ss) (hb : ∀ k, v.ownBlock = some k -> w'.heap[k]? = w.heap[k]?) : GS w' v ss := by
 refine ⟨h.1, ?_⟩
 rcases h.2 with q | ⟨g, cap, cur, rfl, h1, h2, h3⟩
 ·exact .inl q
 ·exact .inr ⟨g, cap, cur, rfl, h1, (hb g rfl).trans h2, h3⟩
theorem GS.lt {w : World} {v : Value} {ss : List ByteArray} (h : GS w v ss) : ∀ k, v.ownBlock = some k -> k < w.heap.size := fun k hk => (World.ownsRow.lt h k hk).2
theorem GS.later {w w' : World} {v : Value} {ss : List ByteArray} (h : GS w v ss) (hb : Below w.heap.size w w') : GS w' v ss := h.kept fun k hk => hb.block k (h.lt k hk)
theorem GS.ne {w : World} {v : Value} {ss : List ByteArray} (h : GS w v ss) {b : Nat} {C : Array Value} {t : TypeId} {fz : Nat × Nat} (hb : w.heap[b]? = some (.cells C t fz)) (ht : t ≠ 9) : some b ≠ v.ownBlock := by
 intro e
 rcases h.2 with ⟨rfl, _⟩ | ⟨g, cap, cur, rfl, _, hg, _⟩
 ·simp [Value.ownBlock] at e
 ·simp [Value.ownBlock] at e
  subst e
  rw [hb] at hg; simp at hg; exact ht hg.2.1
theorem GS.nil (w : World) : GS w (.slice none 0 0) [] := World.ownsRow_nil w 0 9 1
theorem add_none (b off j : Nat) : (⟨b, off, none⟩ : Addr).add j = ⟨b, off + j, none⟩ := by
 unfold Addr.add
 by_cases h : j = 0 <;> simp [h]
structure Grew (w w' : World) (v v' : Value) : Prop where
 grown : w.grownBy w' v.ownBlock
 moved : v'.ownBlock = v.ownBlock ∨ ∃ k, v'.ownBlock = some k /\ w.heap.size <= k
def keyL (s : ByteArray) : Lit := .string s.data.toList
theorem keyL_inj {s t : ByteArray} (h : keyL s = keyL t) : s = t := by
 unfold keyL at h
 simp at h
 exact ByteArray.ext h
theorem keyL_is (s : ByteArray) : WideAt.IsKeyLit (keyL s) := by unfold keyL WideAt.IsKeyLit; trivial
theorem law : Keyed Tryz.prog 9 := string_keyed Tryz.underlying9
theorem keyOf_name {s : ByteArray} (hs : s.size <= maxLen) : keyOf Tryz.prog 9 (.string s) = some (keyL s) := Go.WideMaps.keyOf_string_mk Tryz.underlying9 hs
theorem below_drewN {B : Nat} {w w' : World} (h : Below B w w') (n : Nat) : Below B w (w'.drewN n) := by
 induction n with
 | zero => exact h
 | succ n ih => exact ih.drew
theorem below_alloc (w : World) (o : Obj) : Below w.heap.size w (w.alloc o) := (Below.refl _ _).alloc (Nat.le_refl _) _
theorem heap_set {w : World} {b : Nat} {C : Array Value} {t : TypeId} (h : w.heap[b]? = some (.cells C t (0, 0))) (o : Nat) (u : Value) : (w.setCell ⟨b, o, none⟩ u).heap[b]? = some (.cells (C.setIfInBounds o u) t (0, 0)) := by
 have hlt := lt_of_block h
 have h' : w.heap[b] = .cells C t (0, 0) := by simpa [Array.getElem?_eq_getElem hlt] using h
 show (w.heap.modify b _)[b]? = _
 rw [Array.getElem?_eq_getElem (by simpa using hlt), Array.getElem_modify_self, h']
 rfl
theorem cellq_any {w : World} {q i : Nat} {C : Array Value} {t : TypeId} {fz : Nat × Nat} (h : w.heap[q]? = some (.cells C t fz)) : w.cell? ⟨q, i, none⟩ = C[i]? := by simp [World.cell?, h]
theorem wp_world {P : Program} {c : Code} {Q : Exit -> Act -> World -> Prop} {a : Act} {w : World} (I : World -> Prop) (h : I w) (k : ∀ w', I w' -> Code.wp P c Q a w') : Code.wp P c Q a w := k w h
open Go.RowKit
structure Ext (w0 : World) where
 w : World
 h : Below w0.heap.size w0 w
theorem Ext.cell {w0 : World} (x : Ext w0) {a : Addr} (ha : a.block < w0.heap.size) : x.w.cell? a = w0.cell? a := x.h.cell ha
def StrRow (w : World) (ao : Option Addr) (ss : List ByteArray) : Prop := ss ≠ [] -> ∃ b off, ao = some ⟨b, off, none⟩ /\ b < w.heap.size /\ ∀ i, i < ss.length -> w.cell? ⟨b, off + i, none⟩ = some (.string (ss.getD i ByteArray.empty))
theorem StrRow.later {w w' : World} {ao : Option Addr} {ss : List ByteArray} (h : StrRow w ao ss) (hb : Below w.heap.size w w') : StrRow w' ao ss := fun hn => by
 obtain ⟨b, off, rfl, hl, hc⟩ := h hn
 exact ⟨b, off, rfl, Nat.lt_of_lt_of_le hl hb.size, fun i hi => (hb.cell (p := ⟨b, off + i, none⟩) hl).trans (hc i hi)⟩
theorem GS.row {w : World} {v : Value} {ss : List ByteArray} (h : GS w v ss) : ∃ a c, v = .slice a ss.length c /\ StrRow w a ss /\ (a = none -> c = 0) /\ ss.length <= c := by
 rcases h.2 with ⟨rfl, h0⟩ | ⟨g, cap, cur, rfl, hb, hg, hle, hm, hs, ht⟩
 ·have : ss = [] := List.eq_nil_of_length_eq_zero h0
  subst this
  exact ⟨none, 0, rfl, fun hn => absurd rfl hn, fun _ => rfl, Nat.le_refl _⟩
 ·refine ⟨_, cap, rfl, fun hn => ⟨g, 0, rfl, lt_of_block hg, fun i hi => ?_⟩, (fun h => by cases h), hle⟩
  have := World.ownsRow.cells h (g := g) rfl i (.string (ss.getD i ByteArray.empty)) (by simp [List.getD, hi])
  rwa [add_none] at this
def SymRow (w : World) (ao : Option Addr) (l : List (Int × Int)) : Prop := l ≠ [] -> ∃ b off, ao = some ⟨b, off, none⟩ /\ b < w.heap.size /\ ∀ i, i < l.length ->
 w.cell? ⟨b, off + i * 2, none⟩ = some (.int .i64 (l.getD i (0, 0)).1) /\ w.cell? ⟨b, off + i * 2 + 1, none⟩ = some (.int .i64 (l.getD i (0, 0)).2)
theorem SymRow.later {B : Nat} {w w' : World} {ao : Option Addr} {l : List (Int × Int)} (h : SymRow w ao l) (hB : w.heap.size <= B) (hb : Below B w w') : SymRow w' ao l := by
 intro hne
 obtain ⟨b, off, rfl, hl, hc⟩ := h hne
 refine ⟨b, off, rfl, Nat.lt_of_lt_of_le hl hb.size, fun i hi => ?_⟩
 have e : ∀ j, w'.cell? ⟨b, j, none⟩ = w.cell? ⟨b, j, none⟩ := fun j => hb.cell (p := ⟨b, j, none⟩) (by show b < B; omega)
 rw [e, e]
 exact hc i hi
def symCells (l : List (Int × Int)) : List Value := l.flatMap fun q => [.int .i64 q.1, .int .i64 q.2]
theorem symCells_len (l : List (Int × Int)) : (symCells l).length = l.length * 2 := by
 induction l with
 | nil => rfl
 | cons q r ih => simp [symCells] at ih ⊢; omega
theorem symCells_get : ∀ (l : List (Int × Int)) (i : Nat), i < l.length -> (symCells l)[i * 2]? = some (.int .i64 (l.getD i (0, 0)).1) /\ (symCells l)[i * 2 + 1]? = some (.int .i64 (l.getD i (0, 0)).2)
 | [], i, h => by simp at h
 | q :: r, 0, _ => by simp [symCells]
 | q :: r, i + 1, h => by
  have := symCells_get r i (by simpa using h)
  have e : symCells (q :: r) = .int .i64 q.1 :: .int .i64 q.2 :: symCells r := rfl
  rw [e, show (i + 1) * 2 = i * 2 + 1 + 1 by omega]
  simpa using this
def SY (w : World) (v : Value) (l : List (Int × Int)) : Prop := w.ownsRow 0 58 2 v l.length (symCells l)
theorem infoSym : (Tryz.prog.info? 58).map (fun i => (i.zero, i.size, i.bytes)) = some (some (.agg #[.int .i64 0, .int .i64 0]), 2, 16) := by kernel_rfl
theorem infoSym_parts : ∃ i, Tryz.prog.info? 58 = some i /\ i.zero = some (.agg #[.int .i64 0, .int .i64 0]) /\ i.size = 2 /\ i.bytes = 16 := by
 have h := infoSym
 cases e : Tryz.prog.info? 58 with
 | none => rw [e] at h; cases h
 | some i => rw [e] at h; simp at h; exact ⟨i, rfl, h⟩
theorem SY.nil (w : World) : SY w (.slice none 0 0) [] := World.ownsRow_nil w 0 58 2
theorem SY.kept {w w' : World} {v : Value} {l : List (Int × Int)} (h : SY w v l) (hb : ∀ k, v.ownBlock = some k -> w'.heap[k]? = w.heap[k]?) : SY w' v l := by
 refine ⟨h.1, ?_⟩
 rcases h.2 with q | ⟨g, cap, cur, rfl, h1, h2, h3⟩
 ·exact .inl q
 ·exact .inr ⟨g, cap, cur, rfl, h1, (hb g rfl).trans h2, h3⟩
theorem SY.lt {w : World} {v : Value} {l : List (Int × Int)} (h : SY w v l) : ∀ k, v.ownBlock = some k -> k < w.heap.size := fun k hk => (World.ownsRow.lt h k hk).2
theorem SY.later {w w' : World} {v : Value} {l : List (Int × Int)} (h : SY w v l) (hb : Below w.heap.size w w') : SY w' v l := h.kept fun k hk => hb.block k (h.lt k hk)
theorem SY.row {w : World} {a : Option Addr} {n c : Nat} {l : List (Int × Int)} (h : SY w (.slice a n c) l) : SymRow w a l := by
 intro hne
 rcases h.2 with ⟨e, h0⟩ | ⟨g, cap, cur, e, h1, h2, h3⟩
 ·exact absurd (List.eq_nil_of_length_eq_zero h0) hne
 ·have hc := fun j x hx => World.ownsRow.cells h (g := g) (by rw [e]; rfl) j x hx
  cases e
  refine ⟨g, 0, rfl, lt_of_block h2, fun i hi => ?_⟩
  obtain ⟨q1, q2⟩ := symCells_get l i hi
  have r1 := hc _ _ q1
  have r2 := hc _ _ q2
  rw [add_none] at r1 r2
  exact ⟨r1, r2⟩
def InRow (w : World) (ao : Option Addr) (l : List Int) : Prop := l ≠ [] -> ∃ b off, ao = some ⟨b, off, none⟩ /\ b < w.heap.size /\ ∀ i, i < l.length -> w.cell? ⟨b, off + i, none⟩ = some (.int .i64 (l.getD i 0))
theorem InRow.later {w w' : World} {ao : Option Addr} {l : List Int} (h : InRow w ao l) (hb : Below w.heap.size w w') : InRow w' ao l := by
 intro hne
 obtain ⟨b, off, rfl, hl, hc⟩ := h hne
 have e : ∀ j, w'.cell? ⟨b, j, none⟩ = w.cell? ⟨b, j, none⟩ := fun j => hb.cell (p := ⟨b, j, none⟩) hl
 refine ⟨b, off, rfl, Nat.lt_of_lt_of_le hl hb.size, fun i hi => ?_⟩
 rw [e]
 exact hc i hi
structure PV where
 left : Int
 ra : Option Addr
 rc : Nat
 right : List (Int × Int)
 prec : Int
def PV.none : PV := ⟨0, Option.none, 0, [], 0⟩
structure LV where
 assoc : Int
 ta : Option Addr
 tc : Nat
 terms : List Int
def LV.none : LV := ⟨0, Option.none, 0, []⟩
structure PrRow (w : World) (ao : Option Addr) (l : List PV) : Prop where
 cells : l ≠ [] -> ∃ b off, ao = some ⟨b, off, none⟩ /\ b < w.heap.size /\ ∀ i, i < l.length ->
  w.cell? ⟨b, off + i * 3, none⟩ = some (.int .i64 (l.getD i .none).left) /\ w.cell? ⟨b, off + i * 3 + 1, none⟩ = some (.slice (l.getD i .none).ra (l.getD i .none).right.length (l.getD i .none).rc) /\ w.cell? ⟨b, off + i * 3 + 2, none⟩ = some (.int .i64 (l.getD i .none).prec)
 rows : ∀ p ∈ l, SymRow w p.ra p.right
structure LvRow (w : World) (ao : Option Addr) (l : List LV) : Prop where
 cells : l ≠ [] -> ∃ b off, ao = some ⟨b, off, none⟩ /\ b < w.heap.size /\ ∀ i, i < l.length ->
  w.cell? ⟨b, off + i * 2, none⟩ = some (.int .i64 (l.getD i .none).assoc) /\ w.cell? ⟨b, off + i * 2 + 1, none⟩ = some (.slice (l.getD i .none).ta (l.getD i .none).terms.length (l.getD i .none).tc)
 rows : ∀ p ∈ l, InRow w p.ta p.terms
theorem PrRow.later {w w' : World} {ao : Option Addr} {l : List PV} (h : PrRow w ao l) (hb : Below w.heap.size w w') : PrRow w' ao l := by
 refine ⟨fun hne => ?_, fun p hp => (h.rows p hp).later (Nat.le_refl _) hb⟩
 obtain ⟨b, off, rfl, hl, hc⟩ := h.cells hne
 have e : ∀ j, w'.cell? ⟨b, j, none⟩ = w.cell? ⟨b, j, none⟩ := fun j => hb.cell (p := ⟨b, j, none⟩) hl
 refine ⟨b, off, rfl, Nat.lt_of_lt_of_le hl hb.size, fun i hi => ?_⟩
 rw [e, e, e]
 exact hc i hi
theorem LvRow.later {w w' : World} {ao : Option Addr} {l : List LV} (h : LvRow w ao l) (hb : Below w.heap.size w w') : LvRow w' ao l := by
 refine ⟨fun hne => ?_, fun p hp => (h.rows p hp).later hb⟩
 obtain ⟨b, off, rfl, hl, hc⟩ := h.cells hne
 have e : ∀ j, w'.cell? ⟨b, j, none⟩ = w.cell? ⟨b, j, none⟩ := fun j => hb.cell (p := ⟨b, j, none⟩) hl
 refine ⟨b, off, rfl, Nat.lt_of_lt_of_le hl hb.size, fun i hi => ?_⟩
 rw [e, e]
 exact hc i hi
structure GV where
 ta : Option Addr
 tc : Nat
 ts : List ByteArray
 na : Option Addr
 nc : Nat
 ns : List ByteArray
 start : Int
 pa : Option Addr
 pc : Nat
 ps : List PV
 la : Option Addr
 lc : Nat
 ls : List LV
abbrev GV.val (g : GV) : Value := .agg #[.slice g.ta g.ts.length g.tc, .slice g.na g.ns.length g.nc, .int .i64 g.start, .slice g.pa g.ps.length g.pc, .slice g.la g.ls.length g.lc]
structure GAt (n : Nat) (w : World) (g : GV) : Prop where
 t : StrRow w g.ta g.ts
 n_ : StrRow w g.na g.ns
 p : PrRow w g.pa g.ps
 l : LvRow w g.la g.ls
 tz : ∀ s ∈ g.ts, s.size <= maxLen
 nz : ∀ s ∈ g.ns, s.size <= maxLen
 tl : g.ts.length <= n
 nl : g.ns.length <= n
 pl : g.ps.length <= n
 ll : g.ls.length <= n
 rl : ∀ p ∈ g.ps, p.right.length <= n
 vl : ∀ p ∈ g.ls, p.terms.length <= n
theorem GAt.later {n : Nat} {w w' : World} {g : GV} (h : GAt n w g) (hb : Below w.heap.size w w') : GAt n w' g :=
 ⟨h.t.later hb, h.n_.later hb, h.p.later hb, h.l.later hb, h.tz, h.nz, h.tl, h.nl, h.pl, h.ll, h.rl, h.vl⟩
theorem GAt.mono {n m : Nat} {w : World} {g : GV} (h : GAt n w g) (hn : n <= m) : GAt m w g :=
 ⟨h.t, h.n_, h.p, h.l, h.tz, h.nz, Nat.le_trans h.tl hn, Nat.le_trans h.nl hn, Nat.le_trans h.pl hn, Nat.le_trans h.ll hn, fun p hp => Nat.le_trans (h.rl p hp) hn, fun p hp => Nat.le_trans (h.vl p hp) hn⟩
def IL (w : World) (v : Value) (l : List Int) : Prop := w.ownsRow 0 3 1 v l.length (l.map (.int .i64 ·))
theorem IL.nil (w : World) : IL w (.slice none 0 0) [] := World.ownsRow_nil w 0 3 1
theorem IL.kept {w w' : World} {v : Value} {l : List Int} (h : IL w v l) (hb : ∀ k, v.ownBlock = some k -> w'.heap[k]? = w.heap[k]?) : IL w' v l := by
 refine ⟨h.1, ?_⟩
 rcases h.2 with q | ⟨g, cap, cur, rfl, h1, h2, h3⟩
 ·exact .inl q
 ·exact .inr ⟨g, cap, cur, rfl, h1, (hb g rfl).trans h2, h3⟩
theorem IL.lt {w : World} {v : Value} {l : List Int} (h : IL w v l) : ∀ k, v.ownBlock = some k -> k < w.heap.size := fun k hk => (World.ownsRow.lt h k hk).2
theorem IL.later {w w' : World} {v : Value} {l : List Int} (h : IL w v l) (hb : Below w.heap.size w w') : IL w' v l := h.kept fun k hk => hb.block k (h.lt k hk)
end Go.Proofs.YtobhemaikomdaaaGreatDoor
