import Derived.Test.YtfckmbdcfeljiaaDoorChecked
import Derived.WalkKit
import Derived.PlainAid
import Derived.Maps.AppendAt
import Derived.Maps.OwnSet
import Derived.Deep.RegionLaw
import Derived.Deep.QuietTactic
import Derived.BigQuiet
import Derived.OwnWalk
import Derived.StringKeys
import Derived.Handy
namespace Go.Proofs.YtfckmbdcfeljiaaDoor.K
set_option linter.unusedVariables false
open Go.RowKit Go.Maps

/-- A list of names that its holder alone writes. -/
def GS (w : World) (v : Value) (ss : List ByteArray) : Prop := w.ownsRow 0 9 1 v ss.length (ss.map Value.string)
theorem infoStr : (Tryd.prog.info? 9).map (fun i => (i.zero, i.size, i.bytes)) = some (some (.string ⟨#[]⟩), 1, 16) := by kernel_rfl
theorem infoStr_parts : ∃ i, Tryd.prog.info? 9 = some i ∧ i.zero = some (.string ⟨#[]⟩) ∧ i.size = 1 ∧ i.bytes = 16 := by
  have h := infoStr
  cases e : Tryd.prog.info? 9 with
  | none => rw [e] at h; cases h
  | some i => rw [e] at h; simp at h; exact ⟨i, rfl, h⟩
theorem GS.kept {w w' : World} {v : Value} {ss : List ByteArray} (h : GS w v ss) (hb : ∀ k, v.ownBlock = some k → w'.heap[k]? = w.heap[k]?) : GS w' v ss := by
  refine ⟨h.1, ?_⟩
  rcases h.2 with q | ⟨g, cap, cur, rfl, h1, h2, h3⟩
  · exact .inl q
  · exact .inr ⟨g, cap, cur, rfl, h1, (hb g rfl).trans h2, h3⟩
theorem GS.lt {w : World} {v : Value} {ss : List ByteArray} (h : GS w v ss) : ∀ k, v.ownBlock = some k → k < w.heap.size := fun k hk => (World.ownsRow.lt h k hk).2
theorem GS.later {w w' : World} {v : Value} {ss : List ByteArray} (h : GS w v ss) (hb : Below w.heap.size w w') : GS w' v ss := h.kept fun k hk => hb.block k (h.lt k hk)
theorem GS.ne {w : World} {v : Value} {ss : List ByteArray} (h : GS w v ss) {b : Nat} {C : Array Value} {t : TypeId} {fz : Nat × Nat} (hb : w.heap[b]? = some (.cells C t fz)) (ht : t ≠ 9) : some b ≠ v.ownBlock := by
  intro e
  rcases h.2 with ⟨rfl, _⟩ | ⟨g, cap, cur, rfl, _, hg, _⟩
  · simp [Value.ownBlock] at e
  · simp [Value.ownBlock] at e
    subst e
    rw [hb] at hg; simp at hg; exact ht hg.2.1
theorem GS.neMap {w : World} {v : Value} {ss : List ByteArray} (h : GS w v ss) {b : Nat} {es : Array MapEntry} {c : Nat} (hb : w.heap[b]? = some (.map es c)) : some b ≠ v.ownBlock := by
  intro e
  rcases h.2 with ⟨rfl, _⟩ | ⟨g, cap, cur, rfl, _, hg, _⟩
  · simp [Value.ownBlock] at e
  · simp [Value.ownBlock] at e
    subst e
    rw [hb] at hg; simp at hg
theorem GS.nil (w : World) : GS w (.slice none 0 0) [] := World.ownsRow_nil w 0 9 1
theorem gs_len {w : World} {v : Value} {ss : List ByteArray} (h : GS w v ss) : ∃ a c, v = .slice a ss.length c := by
  rcases h.2 with ⟨rfl, h0⟩ | ⟨g, cap, cur, rfl, _⟩
  · exact ⟨none, 0, by rw [h0]⟩
  · exact ⟨_, _, rfl⟩
theorem add_none (b off j : Nat) : (⟨b, off, none⟩ : Addr).add j = ⟨b, off + j, none⟩ := by
  unfold Addr.add
  by_cases h : j = 0 <;> simp [h]
theorem gs_at {w : World} {v : Value} {ss : List ByteArray} (h : GS w v ss) (i : Nat) (hi : i < ss.length) : ∃ g c, v = .slice (some ⟨g, 0, none⟩) ss.length c ∧ w.cell? ⟨g, i, none⟩ = some (.string (ss.getD i ByteArray.empty)) := by
  rcases h.2 with ⟨rfl, h0⟩ | ⟨g, cap, cur, rfl, hb, hg, hle, hm, hs, ht⟩
  · omega
  · refine ⟨g, cap, rfl, ?_⟩
    have := World.ownsRow.cells h (g := g) rfl i (.string (ss.getD i ByteArray.empty)) (by simp [List.getD, hi])
    rwa [add_none, Nat.zero_add] at this
/-- What an append leaves: of the old blocks the value's own alone may have turned; the new value lies in that block, or in a new one. -/
structure Grew (w w' : World) (v v' : Value) : Prop where
  grown : w.grownBy w' v.ownBlock
  moved : v'.ownBlock = v.ownBlock ∨ ∃ k, v'.ownBlock = some k ∧ w.heap.size ≤ k
/-- One more name behind it: what has turned, and where the new list lies. -/
theorem wpList_gs_append {ops : Array Oper} {rest : List Oper} {o : Oper} {a : Act} {Q : Exit → Act → World → Prop} {w : World} (hgd : o.guard = none) (s x : Operand)
    (ho : o.op = .call { callee := .builtin .append, args := #[s, x], argTypes := #[102, 102] })
    (v : Value) (ss : List ByteArray) (hs : a.eval s = v) (h : GS w v ss) (b c : Nat) (y : ByteArray) (hx : a.eval x = .slice (some ⟨b, 0, none⟩) 1 c) (hy : w.cell? ⟨b, 0, none⟩ = some (.string y)) (hlen : ss.length ≤ 1000000)
    (hK : ∀ a' n' c' w', GS w' (.slice a' n' c') (ss ++ [y]) → Grew w w' v (.slice a' n' c') → wpList Tryd.prog ops Q rest (a.put o.dst (.slice a' n' c')) w') : wpList Tryd.prog ops Q (o :: rest) a w := by
  obtain ⟨i0, hi, hz0, hz1, hz2⟩ := infoStr_parts
  refine wpList_append_own_at w hgd s x 102 ho 0 9 i0 (.string ⟨#[]⟩) 1 16 Tryd.underlying102 hi hz0 hz1 hz2 rfl (by decide) v ss.length (ss.map Value.string) hs h ⟨b, 0, none⟩ 1 c [.string y] hx (by simp) ?_ ?_ (by unfold maxLen; omega) (by omega) (Nat.zero_le _) ?_
  · intro j u hu
    match j with
    | 0 => simp at hu; subst hu; rw [add_none]; exact hy
    | j + 1 => simp at hu
  · intro u hu; simp at hu; subst hu; rfl
  · intro v' w' h2 h3 _ h5
    have h6 : GS w' v' (ss ++ [y]) := by unfold GS; simpa using h2
    obtain ⟨a', c', rfl⟩ := gs_len h6
    exact hK _ _ _ w' h6 ⟨h3, h5.imp id fun e => ⟨_, e, Nat.le_refl _⟩⟩

/-- The key of a name. -/
def keyL (s : ByteArray) : Lit := .string s.data.toList
theorem keyL_inj {s t : ByteArray} (h : keyL s = keyL t) : s = t := by
  unfold keyL at h
  simp at h
  exact ByteArray.ext h
theorem keyL_is (s : ByteArray) : WideAt.IsKeyLit (keyL s) := by unfold keyL WideAt.IsKeyLit; trivial
theorem law : Keyed Tryd.prog 9 := string_keyed Tryd.underlying9
theorem keyOf_name {s : ByteArray} (hs : s.size ≤ maxLen) : keyOf Tryd.prog 9 (.string s) = some (keyL s) := Go.WideMaps.keyOf_string_mk Tryd.underlying9 hs
theorem below_drewN {B : Nat} {w w' : World} (h : Below B w w') (n : Nat) : Below B w (w'.drewN n) := by
  induction n with
  | zero => exact h
  | succ n ih => exact ih.drew
theorem drewN_heap (w : World) (n : Nat) : (w.drewN n).heap = w.heap ∧ (w.drewN n).os = w.os ∧ (w.drewN n).tape = w.tape ∧ (w.drewN n).output = w.output := by
  induction n with
  | zero => exact ⟨rfl, rfl, rfl, rfl⟩
  | succ n ih => exact ih
theorem below_ofDrewN {B n : Nat} {w w' : World} (h : Below B (w.drewN n) w') : Below B w w' := by
  obtain ⟨e1, e2, e3, e4⟩ := drewN_heap w n
  exact ⟨h.os.trans e2, h.tape.trans e3, h.output.trans e4, by rw [← e1]; exact h.size, fun k hk => (h.block k hk).trans (by rw [e1])⟩
theorem below_alloc (w : World) (o : Obj) : Below w.heap.size w (w.alloc o) := (Below.refl _ _).alloc (Nat.le_refl _) _
theorem heap_set {w : World} {b : Nat} {C : Array Value} {t : TypeId} (h : w.heap[b]? = some (.cells C t (0, 0))) (o : Nat) (u : Value) : (w.setCell ⟨b, o, none⟩ u).heap[b]? = some (.cells (C.setIfInBounds o u) t (0, 0)) := by
  have hlt := lt_of_block h
  have h' : w.heap[b] = .cells C t (0, 0) := by simpa [Array.getElem?_eq_getElem hlt] using h
  show (w.heap.modify b _)[b]? = _
  rw [Array.getElem?_eq_getElem (by simpa using hlt), Array.getElem_modify_self, h']
  rfl
theorem cellq_any {w : World} {q i : Nat} {C : Array Value} {t : TypeId} {fz : Nat × Nat} (h : w.heap[q]? = some (.cells C t fz)) : w.cell? ⟨q, i, none⟩ = C[i]? := by simp [World.cell?, h]
/-- The rest of a walk, in whatever world of which this much is known. -/
theorem wp_world {P : Program} {c : Code} {Q : Exit → Act → World → Prop} {a : Act} {w : World} (I : World → Prop) (h : I w) (k : ∀ w', I w' → Code.wp P c Q a w') : Code.wp P c Q a w := k w h
/-- The place of a name in a list. -/
def placeS (l : List ByteArray) (s : ByteArray) : Option Nat := l.findIdx? fun t => decide (t = s)
theorem placeS_nil (s : ByteArray) : placeS [] s = none := rfl
theorem placeS_snoc (l : List ByteArray) (s t : ByteArray) : placeS (l ++ [s]) t = match placeS l t with | some i => some i | none => if s = t then some l.length else none := by
  unfold placeS
  rw [List.findIdx?_append]
  cases h : List.findIdx? (fun x => decide (x = t)) l with
  | some i => rfl
  | none => by_cases e : s = t <;> simp [List.findIdx?_cons, e]
end Go.Proofs.YtfckmbdcfeljiaaDoor.K
