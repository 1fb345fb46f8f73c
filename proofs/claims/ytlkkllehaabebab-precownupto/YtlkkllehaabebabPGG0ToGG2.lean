import Derived.Test.YtlkkllehaabebabPHStrToHInt
import Derived.Test.YtlkkllehaabebabPGDec5ToGDec8
import Derived.Test.YtlkkllehaabebabPGRulesToGIn2
namespace Go.Proofs.Ytlkkllehaabebab
set_option linter.unusedVariables false
set_option maxRecDepth 100000
set_option maxHeartbeats 16000000
open Go.RowKit
def TB (w : World) (g : Nat) (xs : List ByteArray) : Prop := ∃ zs : List ByteArray, w.heap[g]? = some (.cells (zs.map Value.string).toArray 9 (0, 0)) /\ zs.take xs.length = xs
def YB (w : World) (g : Nat) (xs : List (Int × Int)) : Prop := ∃ zs : List (Int × Int), w.heap[g]? = some (.cells (symCells zs).toArray 78 (0, 0)) /\ zs.take xs.length = xs
def NB (w : World) (g : Nat) (xs : List Int) : Prop := ∃ zs : List Int, w.heap[g]? = some (.cells (zs.map (Value.int .i64 ·)).toArray 3 (0, 0)) /\ zs.take xs.length = xs
theorem take_getD {α : Type} {zs xs : List α} {d : α} (h : zs.take xs.length = xs) {i : Nat} (hi : i < xs.length) : i < zs.length /\ xs.getD i d = zs.getD i d := by
 have hz : i < zs.length := by have := congrArg List.length h; simp at this; omega
 refine ⟨hz, ?_⟩
 rw [<- h]
 simp [List.getD, hi]
theorem TB.row {w : World} {g : Nat} {xs : List ByteArray} (h : TB w g xs) : StrRow w (some ⟨g, 0, none⟩) xs := by
 obtain ⟨zs, h1, h2⟩ := h
 refine fun _ => ⟨g, 0, rfl, lt_of_block h1, fun i hi => ?_⟩
 obtain ⟨hz, e⟩ := take_getD (d := ByteArray.empty) h2 hi
 rw [Nat.zero_add, cellq_any h1, e]
 simp [List.getD, hz]
theorem NB.row {w : World} {g : Nat} {xs : List Int} (h : NB w g xs) : InRow w (some ⟨g, 0, none⟩) xs := by
 obtain ⟨zs, h1, h2⟩ := h
 refine fun _ => ⟨g, 0, rfl, lt_of_block h1, fun i hi => ?_⟩
 obtain ⟨hz, e⟩ := take_getD (d := (0 : Int)) h2 hi
 rw [Nat.zero_add, cellq_any h1, e]
 simp [List.getD, hz]
theorem YB.row {w : World} {g : Nat} {xs : List (Int × Int)} (h : YB w g xs) : SymRow w (some ⟨g, 0, none⟩) xs := by
 obtain ⟨zs, h1, h2⟩ := h
 exact FullS.rowTake ⟨h1⟩ h2
section
variable {B : Nat} {w0 w w' : World} {q : Nat} {V : Nat -> Value} {E : Nat -> List HE} {n1 n2 n4 : Nat}
end
section
variable {B : Nat} {w0 w : World} {q m1 m2 m4 : Nat} {g : GV} {p t0 n0 : Nat} {P : List PV} {L : List LV} {pa : Option Addr} {pc : Nat} {la : Option Addr} {lc : Nat} {wr w' : World}
end
end Go.Proofs.Ytlkkllehaabebab
