import Derived.Test.YtfckmbdcfeljiaaSClone
import Derived.Test.YtfckmbdcfeljiaaBBase
import Derived.Maps.AppendAt
import Derived.Maps.OwnSet
import Derived.Deep.RegionLaw
import Derived.Deep.QuietTactic
import Derived.BigQuiet
import Derived.OwnWalk
import Derived.StringKeys
namespace Go.Proofs.Ytfckmbdcfeljiaa
set_option linter.unusedVariables false
open Go.RowKit Go.Maps

/-- How an element of the map reads: a symbol. -/
def symElem : Value → Option (DataW Unit × List MemPlace)
  | .agg c => match c.toList with
    | [.int .i64 k, .int .i64 n] => some (.agg [.lit (.int .i64 k), .lit (.int .i64 n)], [])
    | _ => none
  | _ => none
theorem symElem_mk (k n : Int) : symElem (.agg #[.int .i64 k, .int .i64 n]) = some (.agg [.lit (.int .i64 k), .lit (.int .i64 n)], []) := rfl
theorem symElem_inv {v : Value} {z : DataW Unit × List MemPlace} (h : symElem v = some z) : ∃ k n, v = .agg #[.int .i64 k, .int .i64 n] ∧ z = (.agg [.lit (.int .i64 k), .lit (.int .i64 n)], []) := by
  unfold symElem at h
  split at h
  · rename_i c
    split at h
    · rename_i k n e
      simp at h
      obtain rfl : c = #[.int .i64 k, .int .i64 n] := by cases c; simp at e; rw [e]
      exact ⟨k, n, rfl, h.symm⟩
    · cases h
  · cases h
def symD (k n : Int) : DataW Unit := .agg [.lit (.int .i64 k), .lit (.int .i64 n)]
theorem zeroSym (w : World) : (zeroValue 70).run Try.prog w = .ok (.agg #[.int .i64 0, .int .i64 0]) w := by kernel_rfl
/-- What the map says of each name. -/
structure MInv (D : DataW Unit) (f : ByteArray → Option (Int × Int)) : Prop where
  tidy : Tidy D
  has_ : ∀ s, Maps.has D (keyL s) = (f s).isSome
  at_ : ∀ s k n, f s = some (k, n) → D.atKey (keyL s) (symD 0 0) = symD k n
theorem MInv.atNone {D : DataW Unit} {f : ByteArray → Option (Int × Int)} (h : MInv D f) {s : ByteArray} (hf : f s = none) : D.atKey (keyL s) (symD 0 0) = symD 0 0 := atKey_of_not_has (by rw [h.has_ s, hf]; rfl) _
theorem MInv.empty : MInv (.map []) (fun _ => none) := ⟨tidy_empty, fun s => rfl, fun s k n h => by cases h⟩
def upd (f : ByteArray → Option (Int × Int)) (s : ByteArray) (v : Option (Int × Int)) : ByteArray → Option (Int × Int) := fun t => if t = s then v else f t
theorem MInv.put {D : DataW Unit} {f : ByteArray → Option (Int × Int)} (h : MInv D f) (s : ByteArray) (k n : Int) : MInv (D.put (keyL s) (symD k n)) (upd f s (some (k, n))) := by
  refine ⟨h.tidy.put (keyL_is s) _, fun t => ?_, fun t k' n' ht => ?_⟩
  · by_cases e : t = s
    · subst e; rw [has_put_same h.tidy.isMap (keyL_is t)]; simp [upd]
    · rw [has_put_other (fun q => e (keyL_inj q)), h.has_ t]; simp [upd, e]
  · by_cases e : t = s
    · subst e
      simp [upd] at ht
      rw [atKey_put_same h.tidy.isMap (keyL_is t), ht.1, ht.2]
    · simp [upd, e] at ht
      rw [atKey_put_other (fun q => e (keyL_inj q)), h.at_ t k' n' ht]
theorem MInv.del {D : DataW Unit} {f : ByteArray → Option (Int × Int)} (h : MInv D f) (s : ByteArray) : MInv (D.del (keyL s)) (upd f s none) := by
  refine ⟨h.tidy.del _, fun t => ?_, fun t k' n' ht => ?_⟩
  · by_cases e : t = s
    · subst e; rw [has_del_same]; simp [upd]
    · rw [has_del_other (fun q => e (keyL_inj q)), h.has_ t]; simp [upd, e]
  · by_cases e : t = s
    · subst e; simp [upd] at ht
    · simp [upd, e] at ht
      rw [atKey_del_other (fun q => e (keyL_inj q)), h.at_ t k' n' ht]
theorem ownsMap_tight {w : World} {b n : Nat} {D : DataW Unit} (h : w.ownsMap Try.prog 9 symElem b n D) : w.ownsMap Try.prog 9 symElem b (Maps.size D) D := by
  obtain ⟨es, clock, hb, F, hs, rfl⟩ := h
  exact ⟨es, clock, hb, F, by simp [Maps.size, length_sorted], rfl⟩
/-- 's, ok := m[name]', by what the map says of it. -/
theorem wpList_look_some {ops : Array Oper} {rest : List Oper} {o : Oper} {a : Act} {Q : Exit → Act → World → Prop} (w : World) (hg : o.guard = none) (m x : Operand) (hop : o.op = Op.lookup 63 m x true)
    (b n : Nat) (D : DataW Unit) (f : ByteArray → Option (Int × Int)) (hm : a.eval m = .map (some b)) (hown : w.ownsMap Try.prog 9 symElem b n D) (hM : MInv D f) (s : ByteArray) (hx : a.eval x = .string s) (hs : s.size ≤ maxLen) (k i : Int) (hf : f s = some (k, i))
    (hK : wpList Try.prog ops Q rest (a.put o.dst (.tuple #[.agg #[.int .i64 k, .int .i64 i], .bool true])) w) : wpList Try.prog ops Q (o :: rest) a w := by
  refine wpList_lookup_own_ok w hg m x _ hop 9 70 law Try.underlying63 symElem (zeroSym w) (symD 0 0) [] (symElem_mk 0 0) b n D hm hown (.string s) (keyL s) hx (keyOf_name hs) fun v ps hv => ?_
  rw [hM.at_ s k i hf] at hv
  obtain ⟨k', n', rfl, e⟩ := symElem_inv hv
  simp [symD] at e
  obtain ⟨⟨rfl, rfl⟩, _⟩ := e
  rw [hM.has_ s, hf]
  exact hK
theorem wpList_look_none {ops : Array Oper} {rest : List Oper} {o : Oper} {a : Act} {Q : Exit → Act → World → Prop} (w : World) (hg : o.guard = none) (m x : Operand) (hop : o.op = Op.lookup 63 m x true)
    (b n : Nat) (D : DataW Unit) (f : ByteArray → Option (Int × Int)) (hm : a.eval m = .map (some b)) (hown : w.ownsMap Try.prog 9 symElem b n D) (hM : MInv D f) (s : ByteArray) (hx : a.eval x = .string s) (hs : s.size ≤ maxLen) (hf : f s = none)
    (hK : wpList Try.prog ops Q rest (a.put o.dst (.tuple #[.agg #[.int .i64 0, .int .i64 0], .bool false])) w) : wpList Try.prog ops Q (o :: rest) a w := by
  refine wpList_lookup_own_ok w hg m x _ hop 9 70 law Try.underlying63 symElem (zeroSym w) (symD 0 0) [] (symElem_mk 0 0) b n D hm hown (.string s) (keyL s) hx (keyOf_name hs) fun v ps hv => ?_
  rw [hM.atNone hf] at hv
  obtain ⟨k', n', rfl, e⟩ := symElem_inv hv
  simp [symD] at e
  obtain ⟨⟨rfl, rfl⟩, _⟩ := e
  rw [hM.has_ s, hf]
  exact hK
end Go.Proofs.Ytfckmbdcfeljiaa
