import Derived.Test.YtcgghlaifmlpiaaGreatDoorChecked
import Derived.WalkKit
import Derived.PlainAid
import Derived.Maps.AppendAt
import Derived.Maps.OwnSet
import Derived.Deep.RegionLaw
import Derived.Deep.QuietTactic
import Derived.BigQuiet
import Derived.OwnWalk
import Derived.StringKeys
import Derived.Handy
namespace Go.Proofs.YtcgghlaifmlpiaaGreatDoor
set_option linter.unusedVariables false
open Go.RowKit Go.Maps

/-- A list of names that its holder alone writes. -/
def GS (w : World) (v : Value) (ss : List ByteArray) : Prop := w.ownsRow 0 9 1 v ss.length (ss.map Value.string)
theorem infoStr : (Tryz.prog.info? 9).map (fun i => (i.zero, i.size, i.bytes)) = some (some (.string ⟨#[]⟩), 1, 16) := by kernel_rfl
theorem infoStr_parts : ∃ i, Tryz.prog.info? 9 = some i ∧ i.zero = some (.string ⟨#[]⟩) ∧ i.size = 1 ∧ i.bytes = 16 := by
  have h := infoStr
  cases e : Tryz.prog.info? 9 with
  | none => rw [e] at h; cases h
  | some i => rw [e] at h; simp at h; exact ⟨i, rfl, h⟩
theorem GS.kept {w w' : World} {v : Value} {ss : List ByteArray} (h : GS w v ss) (hb : ∀ k, v.ownBlock = some k → w'.heap[k]? = w.heap[k]?) : GS w' v ss := by
  refine ⟨h.1, ?_⟩
  rcases h.2 with q | ⟨g, cap, cur, rfl, h1, h2, h3⟩
  · exact .inl q
  · exact .inr ⟨g, cap, cur, rfl, h1, (hb g rfl).trans h2, h3⟩
theorem GS.lt {w : World} {v : Value} {ss : List ByteArray} (h : GS w v ss) : ∀ k, v.ownBlock = some k → k < w.heap.size := fun k hk => (World.ownsRow.lt h k hk).2
theorem GS.later {w w' : World} {v : Value} {ss : List ByteArray} (h : GS w v ss) (hb : Below w.heap.size w w') : GS w' v ss := h.kept fun k hk => hb.block k (h.lt k hk)
theorem GS.ne {w : World} {v : Value} {ss : List ByteArray} (h : GS w v ss) {b : Nat} {C : Array Value} {t : TypeId} {fz : Nat × Nat} (hb : w.heap[b]? = some (.cells C t fz)) (ht : t ≠ 9) : some b ≠ v.ownBlock := by
  intro e
  rcases h.2 with ⟨rfl, _⟩ | ⟨g, cap, cur, rfl, _, hg, _⟩
  · simp [Value.ownBlock] at e
  · simp [Value.ownBlock] at e
    subst e
    rw [hb] at hg; simp at hg; exact ht hg.2.1
theorem GS.neMap {w : World} {v : Value} {ss : List ByteArray} (h : GS w v ss) {b : Nat} {es : Array MapEntry} {c : Nat} (hb : w.heap[b]? = some (.map es c)) : some b ≠ v.ownBlock := by
  intro e
  rcases h.2 with ⟨rfl, _⟩ | ⟨g, cap, cur, rfl, _, hg, _⟩
  · simp [Value.ownBlock] at e
  · simp [Value.ownBlock] at e
    subst e
    rw [hb] at hg; simp at hg
theorem GS.nil (w : World) : GS w (.slice none 0 0) [] := World.ownsRow_nil w 0 9 1
theorem gs_len {w : World} {v : Value} {ss : List ByteArray} (h : GS w v ss) : ∃ a c, v = .slice a ss.length c := by
  rcases h.2 with ⟨rfl, h0⟩ | ⟨g, cap, cur, rfl, _⟩
  · exact ⟨none, 0, by rw [h0]⟩
  · exact ⟨_, _, rfl⟩
theorem add_none (b off j : Nat) : (⟨b, off, none⟩ : Addr).add j = ⟨b, off + j, none⟩ := by
  unfold Addr.add
  by_cases h : j = 0 <;> simp [h]
theorem gs_at {w : World} {v : Value} {ss : List ByteArray} (h : GS w v ss) (i : Nat) (hi : i < ss.length) : ∃ g c, v = .slice (some ⟨g, 0, none⟩) ss.length c ∧ w.cell? ⟨g, i, none⟩ = some (.string (ss.getD i ByteArray.empty)) := by
  rcases h.2 with ⟨rfl, h0⟩ | ⟨g, cap, cur, rfl, hb, hg, hle, hm, hs, ht⟩
  · omega
  · refine ⟨g, cap, rfl, ?_⟩
    have := World.ownsRow.cells h (g := g) rfl i (.string (ss.getD i ByteArray.empty)) (by simp [List.getD, hi])
    rwa [add_none, Nat.zero_add] at this
/-- What an append leaves: of the old blocks the value's own alone may have turned; the new value lies in that block, or in a new one. -/
structure Grew (w w' : World) (v v' : Value) : Prop where
  grown : w.grownBy w' v.ownBlock
  moved : v'.ownBlock = v.ownBlock ∨ ∃ k, v'.ownBlock = some k ∧ w.heap.size ≤ k
/-- One more name behind it: what has turned, and where the new list lies. -/
theorem wpList_gs_append_w {ops : Array Oper} {rest : List Oper} {o : Oper} {a : Act} {Q : Exit → Act → World → Prop} {w : World} (hgd : o.guard = none) (s x : Operand)
    (ho : o.op = .call { callee := .builtin .append, args := #[s, x], argTypes := #[98, 98] })
    (v : Value) (ss : List ByteArray) (hs : a.eval s = v) (h : GS w v ss) (b c : Nat) (y : ByteArray) (hx : a.eval x = .slice (some ⟨b, 0, none⟩) 1 c) (hy : w.cell? ⟨b, 0, none⟩ = some (.string y)) (hlen : ss.length ≤ 100000000)
    (hK : ∀ a' n' c' w', GS w' (.slice a' n' c') (ss ++ [y]) → Grew w w' v (.slice a' n' c') → wpList Tryz.prog ops Q rest (a.put o.dst (.slice a' n' c')) w') : wpList Tryz.prog ops Q (o :: rest) a w := by
  obtain ⟨i0, hi, hz0, hz1, hz2⟩ := infoStr_parts
  refine wpList_append_own_at w hgd s x 98 ho 0 9 i0 (.string ⟨#[]⟩) 1 16 Tryz.underlying98 hi hz0 hz1 hz2 rfl (by decide) v ss.length (ss.map Value.string) hs h ⟨b, 0, none⟩ 1 c [.string y] hx (by simp) ?_ ?_ (by unfold maxLen; omega) (by omega) (Nat.zero_le _) ?_
  · intro j u hu
    match j with
    | 0 => simp at hu; subst hu; rw [add_none]; exact hy
    | j + 1 => simp at hu
  · intro u hu; simp at hu; subst hu; rfl
  · intro v' w' h2 h3 _ h5
    have h6 : GS w' v' (ss ++ [y]) := by unfold GS; simpa using h2
    obtain ⟨a', c', rfl⟩ := gs_len h6
    exact hK _ _ _ w' h6 ⟨h3, h5.imp id fun e => ⟨_, e, Nat.le_refl _⟩⟩
theorem wpList_gs_append {ops : Array Oper} {rest : List Oper} {o : Oper} {a : Act} {Q : Exit → Act → World → Prop} {w : World} (hgd : o.guard = none) (s x : Operand)
    (ho : o.op = .call { callee := .builtin .append, args := #[s, x], argTypes := #[98, 98] })
    (v : Value) (ss : List ByteArray) (hs : a.eval s = v) (h : GS w v ss) (b c : Nat) (y : ByteArray) (hx : a.eval x = .slice (some ⟨b, 0, none⟩) 1 c) (hy : w.cell? ⟨b, 0, none⟩ = some (.string y)) (hlen : ss.length ≤ 1000000)
    (hK : ∀ a' n' c' w', GS w' (.slice a' n' c') (ss ++ [y]) → Grew w w' v (.slice a' n' c') → wpList Tryz.prog ops Q rest (a.put o.dst (.slice a' n' c')) w') : wpList Tryz.prog ops Q (o :: rest) a w := wpList_gs_append_w hgd s x ho v ss hs h b c y hx hy (Nat.le_trans hlen (by omega)) hK

/-- The key of a name. -/
def keyL (s : ByteArray) : Lit := .string s.data.toList
theorem keyL_inj {s t : ByteArray} (h : keyL s = keyL t) : s = t := by
  unfold keyL at h
  simp at h
  exact ByteArray.ext h
theorem keyL_is (s : ByteArray) : WideAt.IsKeyLit (keyL s) := by unfold keyL WideAt.IsKeyLit; trivial
theorem law : Keyed Tryz.prog 9 := string_keyed Tryz.underlying9
theorem keyOf_name {s : ByteArray} (hs : s.size ≤ maxLen) : keyOf Tryz.prog 9 (.string s) = some (keyL s) := Go.WideMaps.keyOf_string_mk Tryz.underlying9 hs
theorem below_drewN {B : Nat} {w w' : World} (h : Below B w w') (n : Nat) : Below B w (w'.drewN n) := by
  induction n with
  | zero => exact h
  | succ n ih => exact ih.drew
theorem drewN_heap (w : World) (n : Nat) : (w.drewN n).heap = w.heap ∧ (w.drewN n).os = w.os ∧ (w.drewN n).tape = w.tape ∧ (w.drewN n).output = w.output := by
  induction n with
  | zero => exact ⟨rfl, rfl, rfl, rfl⟩
  | succ n ih => exact ih
theorem below_ofDrewN {B n : Nat} {w w' : World} (h : Below B (w.drewN n) w') : Below B w w' := by
  obtain ⟨e1, e2, e3, e4⟩ := drewN_heap w n
  exact ⟨h.os.trans e2, h.tape.trans e3, h.output.trans e4, by rw [← e1]; exact h.size, fun k hk => (h.block k hk).trans (by rw [e1])⟩
theorem below_alloc (w : World) (o : Obj) : Below w.heap.size w (w.alloc o) := (Below.refl _ _).alloc (Nat.le_refl _) _
theorem heap_set {w : World} {b : Nat} {C : Array Value} {t : TypeId} (h : w.heap[b]? = some (.cells C t (0, 0))) (o : Nat) (u : Value) : (w.setCell ⟨b, o, none⟩ u).heap[b]? = some (.cells (C.setIfInBounds o u) t (0, 0)) := by
  have hlt := lt_of_block h
  have h' : w.heap[b] = .cells C t (0, 0) := by simpa [Array.getElem?_eq_getElem hlt] using h
  show (w.heap.modify b _)[b]? = _
  rw [Array.getElem?_eq_getElem (by simpa using hlt), Array.getElem_modify_self, h']
  rfl
theorem cellq_any {w : World} {q i : Nat} {C : Array Value} {t : TypeId} {fz : Nat × Nat} (h : w.heap[q]? = some (.cells C t fz)) : w.cell? ⟨q, i, none⟩ = C[i]? := by simp [World.cell?, h]
/-- The rest of a walk, in whatever world of which this much is known. -/
theorem wp_world {P : Program} {c : Code} {Q : Exit → Act → World → Prop} {a : Act} {w : World} (I : World → Prop) (h : I w) (k : ∀ w', I w' → Code.wp P c Q a w') : Code.wp P c Q a w := k w h
/-- The place of a name in a list. -/
def placeS (l : List ByteArray) (s : ByteArray) : Option Nat := l.findIdx? fun t => decide (t = s)
theorem placeS_nil (s : ByteArray) : placeS [] s = none := rfl
theorem placeS_snoc (l : List ByteArray) (s t : ByteArray) : placeS (l ++ [s]) t = match placeS l t with | some i => some i | none => if s = t then some l.length else none := by
  unfold placeS
  rw [List.findIdx?_append]
  cases h : List.findIdx? (fun x => decide (x = t)) l with
  | some i => rfl
  | none => by_cases e : s = t <;> simp [List.findIdx?_cons, e]
end Go.Proofs.YtcgghlaifmlpiaaGreatDoor
namespace Go.Proofs.YtcgghlaifmlpiaaGreatDoor
set_option linter.unusedVariables false
open Go.RowKit

/-- A world that has grown out of w0: of what was there nothing has turned. -/
structure Ext (w0 : World) where
  w : World
  h : Below w0.heap.size w0 w
theorem extNonempty (w0 : World) : Nonempty (Ext w0) := ⟨⟨w0, Below.refl _ _⟩⟩
theorem Ext.cell {w0 : World} (x : Ext w0) {a : Addr} (ha : a.block < w0.heap.size) : x.w.cell? a = w0.cell? a := x.h.cell ha
/-- A region that draws, whose operations read what was there, and whose callees leave what was there. -/
theorem wp_region_ext {P : Program} {id : Nat} {Q : Exit → Act → World → Prop} {a : Act} {w : World} {l : List Oper} (hm : P.follows .mixedOrders = true) (hB : Region.lexB .any l.toArray = true)
    (h : Nonempty (Ext w) → wpQuiet P l.toArray (fun w' => ∃ x : Ext w, w' = x.w) (fun a' => ∀ w', (∃ x : Ext w, w' = x.w) → Q .normal a' w') l a) : (Code.region id l.toArray true).wp P Q a w :=
  wp_region_quiet (C := fun w' => ∃ x : Ext w, w' = x.w) hm hB ⟨⟨_, (Below.refl _ _).drew⟩, rfl⟩ (by simpa using h (extNonempty w))
theorem Calls.ext_of {P : Program} {f : FuncId} {args : Array Value} {w0 : World} {x : Ext w0} {v : Value} (h : Calls P f args x.w fun e w' => e = .returned v ∧ Below x.w.heap.size x.w w') : Calls P f args x.w fun e w'' => e = .returned v ∧ ∃ y : Ext w0, w'' = y.w :=
  h.mono fun _ w' ⟨he, hb⟩ => ⟨he, ⟨w', x.h.trans (hb.mono x.h.size)⟩, rfl⟩
theorem Calls.ext_of_same {P : Program} {f : FuncId} {args : Array Value} {w0 : World} {x : Ext w0} {v : Value} (h : Calls P f args x.w fun e w' => e = .returned v ∧ x.w = w') : Calls P f args x.w fun e w'' => e = .returned v ∧ ∃ y : Ext w0, w'' = y.w :=
  h.mono fun _ _ ⟨he, hb⟩ => ⟨he, x, hb.symm⟩
end Go.Proofs.YtcgghlaifmlpiaaGreatDoor
namespace Go.Proofs.YtcgghlaifmlpiaaGreatDoor
set_option linter.unusedVariables false
open Go.RowKit

/-- A slice of texts that can be read in w. -/
def StrRow (w : World) (ao : Option Addr) (ss : List ByteArray) : Prop := ss ≠ [] → ∃ b off, ao = some ⟨b, off, none⟩ ∧ b < w.heap.size ∧ ∀ i, i < ss.length → w.cell? ⟨b, off + i, none⟩ = some (.string (ss.getD i ByteArray.empty))
theorem StrRow.later {w w' : World} {ao : Option Addr} {ss : List ByteArray} (h : StrRow w ao ss) (hb : Below w.heap.size w w') : StrRow w' ao ss := fun hn => by
  obtain ⟨b, off, rfl, hl, hc⟩ := h hn
  exact ⟨b, off, rfl, Nat.lt_of_lt_of_le hl hb.size, fun i hi => (hb.cell (p := ⟨b, off + i, none⟩) hl).trans (hc i hi)⟩
theorem GS.row {w : World} {v : Value} {ss : List ByteArray} (h : GS w v ss) : ∃ a c, v = .slice a ss.length c ∧ StrRow w a ss ∧ (a = none → c = 0) ∧ ss.length ≤ c := by
  rcases h.2 with ⟨rfl, h0⟩ | ⟨g, cap, cur, rfl, hb, hg, hle, hm, hs, ht⟩
  · have : ss = [] := List.eq_nil_of_length_eq_zero h0
    subst this
    exact ⟨none, 0, rfl, fun hn => absurd rfl hn, fun _ => rfl, Nat.le_refl _⟩
  · refine ⟨_, cap, rfl, fun hn => ⟨g, 0, rfl, lt_of_block hg, fun i hi => ?_⟩, (fun h => by cases h), hle⟩
    have := World.ownsRow.cells h (g := g) rfl i (.string (ss.getD i ByteArray.empty)) (by simp [List.getD, hi])
    rwa [add_none] at this
/-- The place of a name as the document's in tells it. -/
def inS (ss : List ByteArray) (s : ByteArray) : Int := match placeS ss s with | some i => (i : Int) | none => -1
theorem findIdx?_at {α : Type} (p : α → Bool) : ∀ (l : List α) (k : Nat) (h : k < l.length), (∀ j (hj : j < k), p (l[j]'(by omega)) = false) → p l[k] = true → l.findIdx? p = some k
  | [], k, h, _, _ => by simp at h
  | x :: l, 0, _, _, hk => by simp [List.findIdx?_cons, show p x = true from hk]
  | x :: l, k + 1, h, hn, hk => by
    have h0 : p x = false := hn 0 (by omega)
    have := findIdx?_at p l k (by simp at h; omega) (fun j hj => hn (j + 1) (by omega)) hk
    simp [List.findIdx?_cons, h0, this]
theorem placeS_at {ss : List ByteArray} {s : ByteArray} {k : Nat} (hk : k < ss.length) (hn : ∀ j, j < k → ss.getD j ByteArray.empty ≠ s) (h : ss.getD k ByteArray.empty = s) : placeS ss s = some k := by
  refine findIdx?_at _ ss k hk (fun j hj => ?_) ?_
  · have := hn j hj
    simp [List.getD, show j < ss.length by omega] at this
    simp [this]
  · simp [List.getD, hk] at h
    simp [h]
theorem placeS_none {ss : List ByteArray} {s : ByteArray} (hn : ∀ j, j < ss.length → ss.getD j ByteArray.empty ≠ s) : placeS ss s = none := by
  unfold placeS
  rw [List.findIdx?_eq_none_iff]
  intro x hx
  obtain ⟨j, hj, rfl⟩ := List.getElem_of_mem hx
  have := hn j hj
  simp [List.getD, hj] at this
  simp [this]
end Go.Proofs.YtcgghlaifmlpiaaGreatDoor
namespace Go.Proofs.YtcgghlaifmlpiaaGreatDoor
set_option linter.unusedVariables false
open Go.RowKit Go.Maps

/-- Symbols that can be read in w. -/
def SymRow (w : World) (ao : Option Addr) (l : List (Int × Int)) : Prop := l ≠ [] → ∃ b off, ao = some ⟨b, off, none⟩ ∧ b < w.heap.size ∧ ∀ i, i < l.length →
  w.cell? ⟨b, off + i * 2, none⟩ = some (.int .i64 (l.getD i (0, 0)).1) ∧ w.cell? ⟨b, off + i * 2 + 1, none⟩ = some (.int .i64 (l.getD i (0, 0)).2)
theorem SymRow.later {B : Nat} {w w' : World} {ao : Option Addr} {l : List (Int × Int)} (h : SymRow w ao l) (hB : w.heap.size ≤ B) (hb : Below B w w') : SymRow w' ao l := by
  intro hne
  obtain ⟨b, off, rfl, hl, hc⟩ := h hne
  refine ⟨b, off, rfl, Nat.lt_of_lt_of_le hl hb.size, fun i hi => ?_⟩
  have e : ∀ j, w'.cell? ⟨b, j, none⟩ = w.cell? ⟨b, j, none⟩ := fun j => hb.cell (p := ⟨b, j, none⟩) (by show b < B; omega)
  rw [e, e]
  exact hc i hi
def symCells (l : List (Int × Int)) : List Value := l.flatMap fun q => [.int .i64 q.1, .int .i64 q.2]
theorem symCells_len (l : List (Int × Int)) : (symCells l).length = l.length * 2 := by
  induction l with
  | nil => rfl
  | cons q r ih => simp [symCells] at ih ⊢; omega
theorem symCells_get : ∀ (l : List (Int × Int)) (i : Nat), i < l.length → (symCells l)[i * 2]? = some (.int .i64 (l.getD i (0, 0)).1) ∧ (symCells l)[i * 2 + 1]? = some (.int .i64 (l.getD i (0, 0)).2)
  | [], i, h => by simp at h
  | q :: r, 0, _ => by simp [symCells]
  | q :: r, i + 1, h => by
    have := symCells_get r i (by simpa using h)
    have e : symCells (q :: r) = .int .i64 q.1 :: .int .i64 q.2 :: symCells r := rfl
    rw [e, show (i + 1) * 2 = i * 2 + 1 + 1 by omega]
    simpa using this
/-- A list of symbols that is one's own. -/
def SY (w : World) (v : Value) (l : List (Int × Int)) : Prop := w.ownsRow 0 135 2 v l.length (symCells l)
theorem infoSym : (Tryz.prog.info? 135).map (fun i => (i.zero, i.size, i.bytes)) = some (some (.agg #[.int .i64 0, .int .i64 0]), 2, 16) := by kernel_rfl
theorem infoSym_parts : ∃ i, Tryz.prog.info? 135 = some i ∧ i.zero = some (.agg #[.int .i64 0, .int .i64 0]) ∧ i.size = 2 ∧ i.bytes = 16 := by
  have h := infoSym
  cases e : Tryz.prog.info? 135 with
  | none => rw [e] at h; cases h
  | some i => rw [e] at h; simp at h; exact ⟨i, rfl, h⟩
theorem SY.nil (w : World) : SY w (.slice none 0 0) [] := World.ownsRow_nil w 0 135 2
theorem sy_len {w : World} {v : Value} {l : List (Int × Int)} (h : SY w v l) : ∃ a c, v = .slice a l.length c := by
  rcases h.2 with ⟨rfl, h0⟩ | ⟨g, cap, cur, rfl, _⟩
  · exact ⟨none, 0, by rw [h0]⟩
  · exact ⟨_, _, rfl⟩
theorem SY.kept {w w' : World} {v : Value} {l : List (Int × Int)} (h : SY w v l) (hb : ∀ k, v.ownBlock = some k → w'.heap[k]? = w.heap[k]?) : SY w' v l := by
  refine ⟨h.1, ?_⟩
  rcases h.2 with q | ⟨g, cap, cur, rfl, h1, h2, h3⟩
  · exact .inl q
  · exact .inr ⟨g, cap, cur, rfl, h1, (hb g rfl).trans h2, h3⟩
theorem SY.lt {w : World} {v : Value} {l : List (Int × Int)} (h : SY w v l) : ∀ k, v.ownBlock = some k → k < w.heap.size := fun k hk => (World.ownsRow.lt h k hk).2
theorem SY.later {w w' : World} {v : Value} {l : List (Int × Int)} (h : SY w v l) (hb : Below w.heap.size w w') : SY w' v l := h.kept fun k hk => hb.block k (h.lt k hk)
theorem SY.row {w : World} {a : Option Addr} {n c : Nat} {l : List (Int × Int)} (h : SY w (.slice a n c) l) : SymRow w a l := by
  intro hne
  rcases h.2 with ⟨e, h0⟩ | ⟨g, cap, cur, e, h1, h2, h3⟩
  · exact absurd (List.eq_nil_of_length_eq_zero h0) hne
  · have hc := fun j x hx => World.ownsRow.cells h (g := g) (by rw [e]; rfl) j x hx
    cases e
    refine ⟨g, 0, rfl, lt_of_block h2, fun i hi => ?_⟩
    obtain ⟨q1, q2⟩ := symCells_get l i hi
    have r1 := hc _ _ q1
    have r2 := hc _ _ q2
    rw [add_none] at r1 r2
    exact ⟨r1, r2⟩
theorem wpList_sy_append_w {ops : Array Oper} {rest : List Oper} {o : Oper} {a : Act} {Q : Exit → Act → World → Prop} {w : World} (hgd : o.guard = none) (s x : Operand)
    (ho : o.op = .call { callee := .builtin .append, args := #[s, x], argTypes := #[101, 101] })
    (v : Value) (l : List (Int × Int)) (hs : a.eval s = v) (h : SY w v l) (b c : Nat) (k n : Int) (hx : a.eval x = .slice (some ⟨b, 0, none⟩) 1 c) (hy : w.cell? ⟨b, 0, none⟩ = some (.int .i64 k)) (hy2 : w.cell? ⟨b, 1, none⟩ = some (.int .i64 n)) (hlen : l.length ≤ 100000000)
    (hK : ∀ a' n' c' w', SY w' (.slice a' n' c') (l ++ [(k, n)]) → Grew w w' v (.slice a' n' c') → wpList Tryz.prog ops Q rest (a.put o.dst (.slice a' n' c')) w') : wpList Tryz.prog ops Q (o :: rest) a w := by
  obtain ⟨i0, hi, hz0, hz1, hz2⟩ := infoSym_parts
  refine wpList_append_own_at w hgd s x 101 ho 0 135 i0 (.agg #[.int .i64 0, .int .i64 0]) 2 16 Tryz.underlying101 hi hz0 hz1 hz2 rfl (by decide) v l.length (symCells l) hs h ⟨b, 0, none⟩ 1 c [.int .i64 k, .int .i64 n] hx (by simp) ?_ ?_ (by unfold maxLen; omega) (by omega) (Nat.zero_le _) ?_
  · intro j u hu
    match j with
    | 0 => simp at hu; subst hu; rw [add_none]; exact hy
    | 1 => simp at hu; subst hu; rw [add_none]; exact hy2
    | j + 2 => simp at hu
  · intro u hu; simp at hu; rcases hu with rfl | rfl <;> rfl
  · intro v' w' h2 h3 _ h5
    have h6 : SY w' v' (l ++ [(k, n)]) := by
      unfold SY
      have e : symCells (l ++ [(k, n)]) = symCells l ++ [.int .i64 k, .int .i64 n] := by simp [symCells]
      rw [e]
      simpa using h2
    obtain ⟨a', c', rfl⟩ := sy_len h6
    exact hK _ _ _ w' h6 ⟨h3, h5.imp id fun e => ⟨_, e, Nat.le_refl _⟩⟩
theorem wpList_sy_append {ops : Array Oper} {rest : List Oper} {o : Oper} {a : Act} {Q : Exit → Act → World → Prop} {w : World} (hgd : o.guard = none) (s x : Operand)
    (ho : o.op = .call { callee := .builtin .append, args := #[s, x], argTypes := #[101, 101] })
    (v : Value) (l : List (Int × Int)) (hs : a.eval s = v) (h : SY w v l) (b c : Nat) (k n : Int) (hx : a.eval x = .slice (some ⟨b, 0, none⟩) 1 c) (hy : w.cell? ⟨b, 0, none⟩ = some (.int .i64 k)) (hy2 : w.cell? ⟨b, 1, none⟩ = some (.int .i64 n)) (hlen : l.length ≤ 2000000)
    (hK : ∀ a' n' c' w', SY w' (.slice a' n' c') (l ++ [(k, n)]) → Grew w w' v (.slice a' n' c') → wpList Tryz.prog ops Q rest (a.put o.dst (.slice a' n' c')) w') : wpList Tryz.prog ops Q (o :: rest) a w := wpList_sy_append_w hgd s x ho v l hs h b c k n hx hy hy2 (Nat.le_trans hlen (by omega)) hK
end Go.Proofs.YtcgghlaifmlpiaaGreatDoor
namespace Go.Proofs.YtcgghlaifmlpiaaGreatDoor
set_option linter.unusedVariables false
open Go.RowKit

/-- Numbers that can be read in w. -/
def InRow (w : World) (ao : Option Addr) (l : List Int) : Prop := l ≠ [] → ∃ b off, ao = some ⟨b, off, none⟩ ∧ b < w.heap.size ∧ ∀ i, i < l.length → w.cell? ⟨b, off + i, none⟩ = some (.int .i64 (l.getD i 0))
theorem InRow.later {w w' : World} {ao : Option Addr} {l : List Int} (h : InRow w ao l) (hb : Below w.heap.size w w') : InRow w' ao l := by
  intro hne
  obtain ⟨b, off, rfl, hl, hc⟩ := h hne
  have e : ∀ j, w'.cell? ⟨b, j, none⟩ = w.cell? ⟨b, j, none⟩ := fun j => hb.cell (p := ⟨b, j, none⟩) hl
  refine ⟨b, off, rfl, Nat.lt_of_lt_of_le hl hb.size, fun i hi => ?_⟩
  rw [e]
  exact hc i hi
/-- A production, a level, with where their lists lie. -/
structure PV where
  left : Int
  ra : Option Addr
  rc : Nat
  right : List (Int × Int)
  prec : Int
def PV.none : PV := ⟨0, Option.none, 0, [], 0⟩
structure LV where
  assoc : Int
  ta : Option Addr
  tc : Nat
  terms : List Int
def LV.none : LV := ⟨0, Option.none, 0, []⟩
structure PrRow (w : World) (ao : Option Addr) (l : List PV) : Prop where
  cells : l ≠ [] → ∃ b off, ao = some ⟨b, off, none⟩ ∧ b < w.heap.size ∧ ∀ i, i < l.length →
    w.cell? ⟨b, off + i * 3, none⟩ = some (.int .i64 (l.getD i .none).left) ∧ w.cell? ⟨b, off + i * 3 + 1, none⟩ = some (.slice (l.getD i .none).ra (l.getD i .none).right.length (l.getD i .none).rc) ∧ w.cell? ⟨b, off + i * 3 + 2, none⟩ = some (.int .i64 (l.getD i .none).prec)
  rows : ∀ p ∈ l, SymRow w p.ra p.right
structure LvRow (w : World) (ao : Option Addr) (l : List LV) : Prop where
  cells : l ≠ [] → ∃ b off, ao = some ⟨b, off, none⟩ ∧ b < w.heap.size ∧ ∀ i, i < l.length →
    w.cell? ⟨b, off + i * 2, none⟩ = some (.int .i64 (l.getD i .none).assoc) ∧ w.cell? ⟨b, off + i * 2 + 1, none⟩ = some (.slice (l.getD i .none).ta (l.getD i .none).terms.length (l.getD i .none).tc)
  rows : ∀ p ∈ l, InRow w p.ta p.terms
theorem PrRow.later {w w' : World} {ao : Option Addr} {l : List PV} (h : PrRow w ao l) (hb : Below w.heap.size w w') : PrRow w' ao l := by
  refine ⟨fun hne => ?_, fun p hp => (h.rows p hp).later (Nat.le_refl _) hb⟩
  obtain ⟨b, off, rfl, hl, hc⟩ := h.cells hne
  have e : ∀ j, w'.cell? ⟨b, j, none⟩ = w.cell? ⟨b, j, none⟩ := fun j => hb.cell (p := ⟨b, j, none⟩) hl
  refine ⟨b, off, rfl, Nat.lt_of_lt_of_le hl hb.size, fun i hi => ?_⟩
  rw [e, e, e]
  exact hc i hi
theorem LvRow.later {w w' : World} {ao : Option Addr} {l : List LV} (h : LvRow w ao l) (hb : Below w.heap.size w w') : LvRow w' ao l := by
  refine ⟨fun hne => ?_, fun p hp => (h.rows p hp).later hb⟩
  obtain ⟨b, off, rfl, hl, hc⟩ := h.cells hne
  have e : ∀ j, w'.cell? ⟨b, j, none⟩ = w.cell? ⟨b, j, none⟩ := fun j => hb.cell (p := ⟨b, j, none⟩) hl
  refine ⟨b, off, rfl, Nat.lt_of_lt_of_le hl hb.size, fun i hi => ?_⟩
  rw [e, e]
  exact hc i hi
/-- A grammar, with where its lists lie. -/
structure GV where
  ta : Option Addr
  tc : Nat
  ts : List ByteArray
  na : Option Addr
  nc : Nat
  ns : List ByteArray
  start : Int
  pa : Option Addr
  pc : Nat
  ps : List PV
  la : Option Addr
  lc : Nat
  ls : List LV
abbrev GV.val (g : GV) : Value := .agg #[.slice g.ta g.ts.length g.tc, .slice g.na g.ns.length g.nc, .int .i64 g.start, .slice g.pa g.ps.length g.pc, .slice g.la g.ls.length g.lc]
/-- It can be read in w; nothing of it is longer than n. -/
structure GAt (n : Nat) (w : World) (g : GV) : Prop where
  t : StrRow w g.ta g.ts
  n_ : StrRow w g.na g.ns
  p : PrRow w g.pa g.ps
  l : LvRow w g.la g.ls
  tz : ∀ s ∈ g.ts, s.size ≤ maxLen
  nz : ∀ s ∈ g.ns, s.size ≤ maxLen
  tl : g.ts.length ≤ n
  nl : g.ns.length ≤ n
  pl : g.ps.length ≤ n
  ll : g.ls.length ≤ n
  rl : ∀ p ∈ g.ps, p.right.length ≤ n
  vl : ∀ p ∈ g.ls, p.terms.length ≤ n
/-- Bounds by the sizes of elements. -/
structure GFine (g : GV) : Prop where
  tl : g.ts.length ≤ 8796093022000
  nl : g.ns.length ≤ 8796093022000
  pl : g.ps.length ≤ 3518437208780
  ll : g.ls.length ≤ 4398046510976
  rl : ∀ p ∈ g.ps, p.right.length ≤ 8796093022000
  vl : ∀ p ∈ g.ls, p.terms.length ≤ 17592186044000
theorem GAt.fine {w : World} {g : GV} (h : GAt 1048576 w g) : GFine g :=
  ⟨Nat.le_trans h.tl (by omega), Nat.le_trans h.nl (by omega), Nat.le_trans h.pl (by omega), Nat.le_trans h.ll (by omega), fun p hp => Nat.le_trans (h.rl p hp) (by omega), fun p hp => Nat.le_trans (h.vl p hp) (by omega)⟩
theorem GAt.later {n : Nat} {w w' : World} {g : GV} (h : GAt n w g) (hb : Below w.heap.size w w') : GAt n w' g :=
  ⟨h.t.later hb, h.n_.later hb, h.p.later hb, h.l.later hb, h.tz, h.nz, h.tl, h.nl, h.pl, h.ll, h.rl, h.vl⟩
theorem GAt.mono {n m : Nat} {w : World} {g : GV} (h : GAt n w g) (hn : n ≤ m) : GAt m w g :=
  ⟨h.t, h.n_, h.p, h.l, h.tz, h.nz, Nat.le_trans h.tl hn, Nat.le_trans h.nl hn, Nat.le_trans h.pl hn, Nat.le_trans h.ll hn, fun p hp => Nat.le_trans (h.rl p hp) hn, fun p hp => Nat.le_trans (h.vl p hp) hn⟩
/-- A list of numbers that is one's own. -/
def IL (w : World) (v : Value) (l : List Int) : Prop := w.ownsRow 0 3 1 v l.length (l.map (.int .i64 ·))
theorem infoInt : (Tryz.prog.info? 3).map (fun i => (i.zero, i.size, i.bytes)) = some (some (.int .i64 0), 1, 8) := by kernel_rfl
theorem infoInt_parts : ∃ i, Tryz.prog.info? 3 = some i ∧ i.zero = some (.int .i64 0) ∧ i.size = 1 ∧ i.bytes = 8 := by
  have h := infoInt
  cases e : Tryz.prog.info? 3 with
  | none => rw [e] at h; cases h
  | some i => rw [e] at h; simp at h; exact ⟨i, rfl, h⟩
theorem IL.nil (w : World) : IL w (.slice none 0 0) [] := World.ownsRow_nil w 0 3 1
theorem il_len {w : World} {v : Value} {l : List Int} (h : IL w v l) : ∃ a c, v = .slice a l.length c := by
  rcases h.2 with ⟨rfl, h0⟩ | ⟨g, cap, cur, rfl, _⟩
  · exact ⟨none, 0, by rw [h0]⟩
  · exact ⟨_, _, rfl⟩
theorem IL.kept {w w' : World} {v : Value} {l : List Int} (h : IL w v l) (hb : ∀ k, v.ownBlock = some k → w'.heap[k]? = w.heap[k]?) : IL w' v l := by
  refine ⟨h.1, ?_⟩
  rcases h.2 with q | ⟨g, cap, cur, rfl, h1, h2, h3⟩
  · exact .inl q
  · exact .inr ⟨g, cap, cur, rfl, h1, (hb g rfl).trans h2, h3⟩
theorem IL.lt {w : World} {v : Value} {l : List Int} (h : IL w v l) : ∀ k, v.ownBlock = some k → k < w.heap.size := fun k hk => (World.ownsRow.lt h k hk).2
theorem IL.later {w w' : World} {v : Value} {l : List Int} (h : IL w v l) (hb : Below w.heap.size w w') : IL w' v l := h.kept fun k hk => hb.block k (h.lt k hk)
theorem wpList_il_append_w {ops : Array Oper} {rest : List Oper} {o : Oper} {a : Act} {Q : Exit → Act → World → Prop} {w : World} (hgd : o.guard = none) (s x : Operand)
    (ho : o.op = .call { callee := .builtin .append, args := #[s, x], argTypes := #[46, 46] })
    (v : Value) (l : List Int) (hs : a.eval s = v) (h : IL w v l) (b c : Nat) (k : Int) (hx : a.eval x = .slice (some ⟨b, 0, none⟩) 1 c) (hy : w.cell? ⟨b, 0, none⟩ = some (.int .i64 k)) (hlen : l.length ≤ 100000000)
    (hK : ∀ a' n' c' w', IL w' (.slice a' n' c') (l ++ [k]) → Grew w w' v (.slice a' n' c') → wpList Tryz.prog ops Q rest (a.put o.dst (.slice a' n' c')) w') : wpList Tryz.prog ops Q (o :: rest) a w := by
  obtain ⟨i0, hi, hz0, hz1, hz2⟩ := infoInt_parts
  refine wpList_append_own_at w hgd s x 46 ho 0 3 i0 (.int .i64 0) 1 8 Tryz.underlying46 hi hz0 hz1 hz2 rfl (by decide) v l.length (l.map (.int .i64 ·)) hs h ⟨b, 0, none⟩ 1 c [.int .i64 k] hx (by simp) ?_ ?_ (by unfold maxLen; omega) (by omega) (Nat.zero_le _) ?_
  · intro j u hu
    match j with
    | 0 => simp at hu; subst hu; rw [add_none]; exact hy
    | j + 1 => simp at hu
  · intro u hu; simp at hu; subst hu; rfl
  · intro v' w' h2 h3 _ h5
    have h6 : IL w' v' (l ++ [k]) := by unfold IL; simpa using h2
    obtain ⟨a', c', rfl⟩ := il_len h6
    exact hK _ _ _ w' h6 ⟨h3, h5.imp id fun e => ⟨_, e, Nat.le_refl _⟩⟩
theorem wpList_il_append {ops : Array Oper} {rest : List Oper} {o : Oper} {a : Act} {Q : Exit → Act → World → Prop} {w : World} (hgd : o.guard = none) (s x : Operand)
    (ho : o.op = .call { callee := .builtin .append, args := #[s, x], argTypes := #[46, 46] })
    (v : Value) (l : List Int) (hs : a.eval s = v) (h : IL w v l) (b c : Nat) (k : Int) (hx : a.eval x = .slice (some ⟨b, 0, none⟩) 1 c) (hy : w.cell? ⟨b, 0, none⟩ = some (.int .i64 k)) (hlen : l.length ≤ 2000000)
    (hK : ∀ a' n' c' w', IL w' (.slice a' n' c') (l ++ [k]) → Grew w w' v (.slice a' n' c') → wpList Tryz.prog ops Q rest (a.put o.dst (.slice a' n' c')) w') : wpList Tryz.prog ops Q (o :: rest) a w := wpList_il_append_w hgd s x ho v l hs h b c k hx hy (Nat.le_trans hlen (by omega)) hK
end Go.Proofs.YtcgghlaifmlpiaaGreatDoor
