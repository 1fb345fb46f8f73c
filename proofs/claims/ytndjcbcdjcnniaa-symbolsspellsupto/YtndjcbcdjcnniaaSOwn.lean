import Derived.Test.YtndjcbcdjcnniaaSClone
import Derived.Maps.AppendAt
import Derived.Maps.OwnSet
import Derived.Deep.RegionLaw
import Derived.Deep.QuietTactic
import Derived.BigQuiet
import Derived.OwnWalk
import Derived.StringKeys
namespace Go.Proofs.Ytndjcbcdjcnniaa
set_option linter.unusedVariables false
open Go.RowKit Go.Maps

/-- A list of names that its holder alone writes. -/
def GS (w : World) (v : Value) (ss : List ByteArray) : Prop := w.ownsRow 0 9 1 v ss.length (ss.map Value.string)
theorem infoStr : (Try.prog.info? 9).map (fun i => (i.zero, i.size, i.bytes)) = some (some (.string ⟨#[]⟩), 1, 16) := by kernel_rfl
theorem infoStr_parts : ∃ i, Try.prog.info? 9 = some i ∧ i.zero = some (.string ⟨#[]⟩) ∧ i.size = 1 ∧ i.bytes = 16 := by
  have h := infoStr
  cases e : Try.prog.info? 9 with
  | none => rw [e] at h; cases h
  | some i => rw [e] at h; simp at h; exact ⟨i, rfl, h⟩
theorem GS.kept {w w' : World} {v : Value} {ss : List ByteArray} (h : GS w v ss) (hb : ∀ k, v.ownBlock = some k → w'.heap[k]? = w.heap[k]?) : GS w' v ss := by
  refine ⟨h.1, ?_⟩
  rcases h.2 with q | ⟨g, cap, cur, rfl, h1, h2, h3⟩
  · exact .inl q
  · exact .inr ⟨g, cap, cur, rfl, h1, (hb g rfl).trans h2, h3⟩
theorem GS.lt {w : World} {v : Value} {ss : List ByteArray} (h : GS w v ss) : ∀ k, v.ownBlock = some k → k < w.heap.size := fun k hk => (World.ownsRow.lt h k hk).2
theorem GS.later {w w' : World} {v : Value} {ss : List ByteArray} (h : GS w v ss) (hb : Below w.heap.size w w') : GS w' v ss := h.kept fun k hk => hb.block k (h.lt k hk)
theorem GS.ne {w : World} {v : Value} {ss : List ByteArray} (h : GS w v ss) {b : Nat} {C : Array Value} {t : TypeId} {fz : Nat × Nat} (hb : w.heap[b]? = some (.cells C t fz)) (ht : t ≠ 9) : some b ≠ v.ownBlock := by
  intro e
  rcases h.2 with ⟨rfl, _⟩ | ⟨g, cap, cur, rfl, _, hg, _⟩
  · simp [Value.ownBlock] at e
  · simp [Value.ownBlock] at e
    subst e
    rw [hb] at hg; simp at hg; exact ht hg.2.1
theorem GS.neMap {w : World} {v : Value} {ss : List ByteArray} (h : GS w v ss) {b : Nat} {es : Array MapEntry} {c : Nat} (hb : w.heap[b]? = some (.map es c)) : some b ≠ v.ownBlock := by
  intro e
  rcases h.2 with ⟨rfl, _⟩ | ⟨g, cap, cur, rfl, _, hg, _⟩
  · simp [Value.ownBlock] at e
  · simp [Value.ownBlock] at e
    subst e
    rw [hb] at hg; simp at hg
theorem GS.nil (w : World) : GS w (.slice none 0 0) [] := World.ownsRow_nil w 0 9 1
theorem gs_len {w : World} {v : Value} {ss : List ByteArray} (h : GS w v ss) : ∃ a c, v = .slice a ss.length c := by
  rcases h.2 with ⟨rfl, h0⟩ | ⟨g, cap, cur, rfl, _⟩
  · exact ⟨none, 0, by rw [h0]⟩
  · exact ⟨_, _, rfl⟩
theorem add_none (b off j : Nat) : (⟨b, off, none⟩ : Addr).add j = ⟨b, off + j, none⟩ := by
  unfold Addr.add
  by_cases h : j = 0 <;> simp [h]
theorem gs_at {w : World} {v : Value} {ss : List ByteArray} (h : GS w v ss) (i : Nat) (hi : i < ss.length) : ∃ g c, v = .slice (some ⟨g, 0, none⟩) ss.length c ∧ w.cell? ⟨g, i, none⟩ = some (.string (ss.getD i ByteArray.empty)) := by
  rcases h.2 with ⟨rfl, h0⟩ | ⟨g, cap, cur, rfl, hb, hg, hle, hm, hs, ht⟩
  · omega
  · refine ⟨g, cap, rfl, ?_⟩
    have := World.ownsRow.cells h (g := g) rfl i (.string (ss.getD i ByteArray.empty)) (by simp [List.getD, hi])
    rwa [add_none, Nat.zero_add] at this
/-- What an append leaves: of the old blocks the value's own alone may have turned; the new value lies in that block, or in a new one. -/
structure Grew (w w' : World) (v v' : Value) : Prop where
  grown : w.grownBy w' v.ownBlock
  moved : v'.ownBlock = v.ownBlock ∨ ∃ k, v'.ownBlock = some k ∧ w.heap.size ≤ k
/-- One more name behind it: what has turned, and where the new list lies. -/
theorem wpList_gs_append {ops : Array Oper} {rest : List Oper} {o : Oper} {a : Act} {Q : Exit → Act → World → Prop} {w : World} (hgd : o.guard = none) (s x : Operand)
    (ho : o.op = .call { callee := .builtin .append, args := #[s, x], argTypes := #[22, 22] })
    (v : Value) (ss : List ByteArray) (hs : a.eval s = v) (h : GS w v ss) (b c : Nat) (y : ByteArray) (hx : a.eval x = .slice (some ⟨b, 0, none⟩) 1 c) (hy : w.cell? ⟨b, 0, none⟩ = some (.string y)) (hlen : ss.length ≤ 1000000)
    (hK : ∀ a' n' c' w', GS w' (.slice a' n' c') (ss ++ [y]) → Grew w w' v (.slice a' n' c') → wpList Try.prog ops Q rest (a.put o.dst (.slice a' n' c')) w') : wpList Try.prog ops Q (o :: rest) a w := by
  obtain ⟨i0, hi, hz0, hz1, hz2⟩ := infoStr_parts
  refine wpList_append_own_at w hgd s x 22 ho 0 9 i0 (.string ⟨#[]⟩) 1 16 Try.underlying22 hi hz0 hz1 hz2 rfl (by decide) v ss.length (ss.map Value.string) hs h ⟨b, 0, none⟩ 1 c [.string y] hx (by simp) ?_ ?_ (by unfold maxLen; omega) (by omega) (Nat.zero_le _) ?_
  · intro j u hu
    match j with
    | 0 => simp at hu; subst hu; rw [add_none]; exact hy
    | j + 1 => simp at hu
  · intro u hu; simp at hu; subst hu; rfl
  · intro v' w' h2 h3 _ h5
    have h6 : GS w' v' (ss ++ [y]) := by unfold GS; simpa using h2
    obtain ⟨a', c', rfl⟩ := gs_len h6
    exact hK _ _ _ w' h6 ⟨h3, h5.imp id fun e => ⟨_, e, Nat.le_refl _⟩⟩

/-- How an element of the map reads: a symbol. -/
def symElem : Value → Option (DataW Unit × List MemPlace)
  | .agg c => match c.toList with
    | [.int .i64 k, .int .i64 n] => some (.agg [.lit (.int .i64 k), .lit (.int .i64 n)], [])
    | _ => none
  | _ => none
theorem symElem_mk (k n : Int) : symElem (.agg #[.int .i64 k, .int .i64 n]) = some (.agg [.lit (.int .i64 k), .lit (.int .i64 n)], []) := rfl
theorem symElem_inv {v : Value} {z : DataW Unit × List MemPlace} (h : symElem v = some z) : ∃ k n, v = .agg #[.int .i64 k, .int .i64 n] ∧ z = (.agg [.lit (.int .i64 k), .lit (.int .i64 n)], []) := by
  unfold symElem at h
  split at h
  · rename_i c
    split at h
    · rename_i k n e
      simp at h
      obtain rfl : c = #[.int .i64 k, .int .i64 n] := by cases c; simp at e; rw [e]
      exact ⟨k, n, rfl, h.symm⟩
    · cases h
  · cases h
def symD (k n : Int) : DataW Unit := .agg [.lit (.int .i64 k), .lit (.int .i64 n)]
/-- The key of a name. -/
def keyL (s : ByteArray) : Lit := .string s.data.toList
theorem keyL_inj {s t : ByteArray} (h : keyL s = keyL t) : s = t := by
  unfold keyL at h
  simp at h
  exact ByteArray.ext h
theorem keyL_is (s : ByteArray) : WideAt.IsKeyLit (keyL s) := by unfold keyL WideAt.IsKeyLit; trivial
theorem law : Keyed Try.prog 9 := string_keyed Try.underlying9
theorem zeroSym (w : World) : (zeroValue 61).run Try.prog w = .ok (.agg #[.int .i64 0, .int .i64 0]) w := by kernel_rfl
theorem keyOf_name {s : ByteArray} (hs : s.size ≤ maxLen) : keyOf Try.prog 9 (.string s) = some (keyL s) := Go.WideMaps.keyOf_string_mk Try.underlying9 hs
/-- What the map says of each name. -/
structure MInv (D : DataW Unit) (f : ByteArray → Option (Int × Int)) : Prop where
  tidy : Tidy D
  has_ : ∀ s, Maps.has D (keyL s) = (f s).isSome
  at_ : ∀ s k n, f s = some (k, n) → D.atKey (keyL s) (symD 0 0) = symD k n
theorem MInv.atNone {D : DataW Unit} {f : ByteArray → Option (Int × Int)} (h : MInv D f) {s : ByteArray} (hf : f s = none) : D.atKey (keyL s) (symD 0 0) = symD 0 0 := atKey_of_not_has (by rw [h.has_ s, hf]; rfl) _
theorem MInv.empty : MInv (.map []) (fun _ => none) := ⟨tidy_empty, fun s => rfl, fun s k n h => by cases h⟩
def upd (f : ByteArray → Option (Int × Int)) (s : ByteArray) (v : Option (Int × Int)) : ByteArray → Option (Int × Int) := fun t => if t = s then v else f t
theorem MInv.put {D : DataW Unit} {f : ByteArray → Option (Int × Int)} (h : MInv D f) (s : ByteArray) (k n : Int) : MInv (D.put (keyL s) (symD k n)) (upd f s (some (k, n))) := by
  refine ⟨h.tidy.put (keyL_is s) _, fun t => ?_, fun t k' n' ht => ?_⟩
  · by_cases e : t = s
    · subst e; rw [has_put_same h.tidy.isMap (keyL_is t)]; simp [upd]
    · rw [has_put_other (fun q => e (keyL_inj q)), h.has_ t]; simp [upd, e]
  · by_cases e : t = s
    · subst e
      simp [upd] at ht
      rw [atKey_put_same h.tidy.isMap (keyL_is t), ht.1, ht.2]
    · simp [upd, e] at ht
      rw [atKey_put_other (fun q => e (keyL_inj q)), h.at_ t k' n' ht]
theorem MInv.del {D : DataW Unit} {f : ByteArray → Option (Int × Int)} (h : MInv D f) (s : ByteArray) : MInv (D.del (keyL s)) (upd f s none) := by
  refine ⟨h.tidy.del _, fun t => ?_, fun t k' n' ht => ?_⟩
  · by_cases e : t = s
    · subst e; rw [has_del_same]; simp [upd]
    · rw [has_del_other (fun q => e (keyL_inj q)), h.has_ t]; simp [upd, e]
  · by_cases e : t = s
    · subst e; simp [upd] at ht
    · simp [upd, e] at ht
      rw [atKey_del_other (fun q => e (keyL_inj q)), h.at_ t k' n' ht]
theorem ownsMap_tight {w : World} {b n : Nat} {D : DataW Unit} (h : w.ownsMap Try.prog 9 symElem b n D) : w.ownsMap Try.prog 9 symElem b (Maps.size D) D := by
  obtain ⟨es, clock, hb, F, hs, rfl⟩ := h
  exact ⟨es, clock, hb, F, by simp [Maps.size, length_sorted], rfl⟩
/-- 's, ok := m[name]', by what the map says of it. -/
theorem wpList_look_some {ops : Array Oper} {rest : List Oper} {o : Oper} {a : Act} {Q : Exit → Act → World → Prop} (w : World) (hg : o.guard = none) (m x : Operand) (hop : o.op = Op.lookup 130 m x true)
    (b n : Nat) (D : DataW Unit) (f : ByteArray → Option (Int × Int)) (hm : a.eval m = .map (some b)) (hown : w.ownsMap Try.prog 9 symElem b n D) (hM : MInv D f) (s : ByteArray) (hx : a.eval x = .string s) (hs : s.size ≤ maxLen) (k i : Int) (hf : f s = some (k, i))
    (hK : wpList Try.prog ops Q rest (a.put o.dst (.tuple #[.agg #[.int .i64 k, .int .i64 i], .bool true])) w) : wpList Try.prog ops Q (o :: rest) a w := by
  refine wpList_lookup_own_ok w hg m x _ hop 9 61 law Try.underlying130 symElem (zeroSym w) (symD 0 0) [] (symElem_mk 0 0) b n D hm hown (.string s) (keyL s) hx (keyOf_name hs) fun v ps hv => ?_
  rw [hM.at_ s k i hf] at hv
  obtain ⟨k', n', rfl, e⟩ := symElem_inv hv
  simp [symD] at e
  obtain ⟨⟨rfl, rfl⟩, _⟩ := e
  rw [hM.has_ s, hf]
  exact hK
theorem wpList_look_none {ops : Array Oper} {rest : List Oper} {o : Oper} {a : Act} {Q : Exit → Act → World → Prop} (w : World) (hg : o.guard = none) (m x : Operand) (hop : o.op = Op.lookup 130 m x true)
    (b n : Nat) (D : DataW Unit) (f : ByteArray → Option (Int × Int)) (hm : a.eval m = .map (some b)) (hown : w.ownsMap Try.prog 9 symElem b n D) (hM : MInv D f) (s : ByteArray) (hx : a.eval x = .string s) (hs : s.size ≤ maxLen) (hf : f s = none)
    (hK : wpList Try.prog ops Q rest (a.put o.dst (.tuple #[.agg #[.int .i64 0, .int .i64 0], .bool false])) w) : wpList Try.prog ops Q (o :: rest) a w := by
  refine wpList_lookup_own_ok w hg m x _ hop 9 61 law Try.underlying130 symElem (zeroSym w) (symD 0 0) [] (symElem_mk 0 0) b n D hm hown (.string s) (keyL s) hx (keyOf_name hs) fun v ps hv => ?_
  rw [hM.atNone hf] at hv
  obtain ⟨k', n', rfl, e⟩ := symElem_inv hv
  simp [symD] at e
  obtain ⟨⟨rfl, rfl⟩, _⟩ := e
  rw [hM.has_ s, hf]
  exact hK
end Go.Proofs.Ytndjcbcdjcnniaa
