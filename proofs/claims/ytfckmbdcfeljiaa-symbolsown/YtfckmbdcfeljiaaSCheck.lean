import Derived.Test.YtfckmbdcfeljiaaSIn
import Derived.Test.YtfckmbdcfeljiaaSWord3
namespace Go.Proofs.Ytfckmbdcfeljiaa
set_option linter.unusedVariables false
open Go.RowKit Go.Maps

def inB (seen : List ByteArray) (s : ByteArray) : Bool := seen.any fun t => decide (t = s)
theorem inB_snoc (seen : List ByteArray) (s t : ByteArray) : inB (seen ++ [s]) t = (inB seen t || decide (s = t)) := by simp [inB]
/-- A set of names. -/
structure USet (D : DataW Unit) (seen : List ByteArray) : Prop where
  tidy : Tidy D
  has_ : ∀ s, Maps.has D (keyL s) = inB seen s
  size : Maps.size D = seen.length
theorem USet.empty : USet (.map []) [] := ⟨tidy_empty, fun _ => rfl, rfl⟩
theorem USet.put {D : DataW Unit} {seen : List ByteArray} (h : USet D seen) {s : ByteArray} (hs : inB seen s = false) : USet (D.put (keyL s) (.agg [])) (seen ++ [s]) := by
  refine ⟨h.tidy.put (keyL_is s) _, fun t => ?_, ?_⟩
  · by_cases e : t = s
    · subst e; rw [has_put_same h.tidy.isMap (keyL_is t), inB_snoc]; simp
    · rw [has_put_other (fun q => e (keyL_inj q)), h.has_ t, inB_snoc]; simp [Ne.symm e]
  · rw [size_put h.tidy, h.has_ s, h.size]; simp [hs]
/-- The names of one kind, behind those that were seen: the error, its place, those seen. -/
def formsF (form : ByteArray → Bool) : List ByteArray → List ByteArray → Int × Int × List ByteArray
  | [], seen => (0, 0, seen)
  | s :: r, seen => if form s = false then (21, seen.length, seen) else if inB seen s = true then (6, seen.length, seen) else formsF form r (seen ++ [s])
/-- What checkForms leaves. -/
structure FOut (w w' : World) (b : Nat) (r : Int × Int × List ByteArray) (e : Ending) (D' : DataW Unit) : Prop where
  ret : e = .returned (.tuple #[.int .i64 r.1, .int .i64 r.2.1])
  own : w'.ownsMap Try.prog 9 unitElem b (Maps.size D') D'
  set_ : USet D' r.2.2
  grown : w.grownBy w' (some b)
theorem grow_alloc {w w1 : World} {r : Option Nat} (h : w.grownBy w1 r) (o : Obj) : w.grownBy (w1.alloc o) r := h.trans (World.grownBy_alloc w1 o r)
/-- CheckNames, as a plain function. -/
def checkF (ts ns : List ByteArray) : Int × Int :=
  if 64 < ts.length then (31, 0) else if 64 < ns.length then (32, 0) else
    if (formsF termS ts []).1 ≠ 0 then ((formsF termS ts []).1, (formsF termS ts []).2.1) else
      if (formsF wordS ns (formsF termS ts []).2.2).1 ≠ 0 then ((formsF wordS ns (formsF termS ts []).2.2).1, (formsF wordS ns (formsF termS ts []).2.2).2.1) else (0, (formsF wordS ns (formsF termS ts []).2.2).2.2.length)
theorem formsF_len (form : ByteArray → Bool) : ∀ (ss seen : List ByteArray), (formsF form ss seen).2.2.length ≤ seen.length + ss.length
  | [], seen => by simp [formsF]
  | s :: r, seen => by
    unfold formsF
    split
    · simp
    · split
      · simp
      · have := formsF_len form r (seen ++ [s]); simp at this ⊢; omega
theorem below_grown {w w0 w1 : World} {b : Nat} (h : Below w.heap.size w w0) (hb : w.heap.size ≤ b) (g : w0.grownBy w1 (some b)) : Below w.heap.size w w1 :=
  ⟨g.os.trans h.os, g.tape.trans h.tape, g.output.trans h.output, Nat.le_trans h.size g.size, fun k hk => (g.block k (Nat.lt_of_lt_of_le hk h.size) (by simp; omega)).trans (h.block k hk)⟩
end Go.Proofs.Ytfckmbdcfeljiaa
