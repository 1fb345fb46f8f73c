import Derived.Test.YtjpknihkcndoiaaGreatPFChk1ToFOf
import Derived.Test.YtjpknihkcndoiaaGreatPRegXToRRow
import Derived.Test.YtjpknihkcndoiaaGreatPFBaseToFMem7
import Derived.Deep.QuietTactic
import Derived.BigQuiet
import Derived.Lib.SliceRun
namespace Go.Proofs.YtjpknihkcndoiaaGreat
set_option linter.unusedVariables false
set_option maxRecDepth 100000
set_option maxHeartbeats 16000000
open Go.RowKit
def SRd (w : World) (b : Nat) (F : List BS) : Prop := b < w.heap.size /\ ∀ i, i < F.length -> w.cell? ⟨b, i * 2, none⟩ = some (.int .u64 ((F.getD i (0, 0)).1 : Int)) /\ w.cell? ⟨b, i * 2 + 1, none⟩ = some (.int .u64 ((F.getD i (0, 0)).2 : Int))
theorem SRd.later {w w' : World} {b : Nat} {F : List BS} (h : SRd w b F) (hb : Below w.heap.size w w') : SRd w' b F :=
 ⟨Nat.lt_of_lt_of_le h.1 hb.size, fun i hi => ⟨(hb.cell (p := ⟨b, i * 2, none⟩) h.1).trans (h.2 i hi).1, (hb.cell (p := ⟨b, i * 2 + 1, none⟩) h.1).trans (h.2 i hi).2⟩⟩
def LeF (F G : List BS) : Prop := G.length = F.length /\ ∀ i, (F.getD i (0, 0)).1 <= (G.getD i (0, 0)).1 /\ (F.getD i (0, 0)).2 <= (G.getD i (0, 0)).2
theorem LeF.refl (F : List BS) : LeF F F := ⟨rfl, fun _ => ⟨Nat.le_refl _, Nat.le_refl _⟩⟩
theorem LeF.trans {F G H : List BS} (h : LeF F G) (h' : LeF G H) : LeF F H := ⟨h'.1.trans h.1, fun i => ⟨Nat.le_trans (h.2 i).1 (h'.2 i).1, Nat.le_trans (h.2 i).2 (h'.2 i).2⟩⟩
theorem SRd.kept {w w' : World} {b : Nat} {F : List BS} (h : SRd w b F) (hb : w'.heap[b]? = w.heap[b]?) (hs : w.heap.size <= w'.heap.size) : SRd w' b F := by
 have hc : ∀ i, w'.cell? ⟨b, i, none⟩ = w.cell? ⟨b, i, none⟩ := fun i => by simp [World.cell?, hb]
 exact ⟨Nat.lt_of_lt_of_le h.1 hs, fun i hi => ⟨(hc _).trans (h.2 i hi).1, (hc _).trans (h.2 i hi).2⟩⟩
def LsRow (w : World) (ao : Option Addr) (L : List (List Int)) : Prop := L ≠ [] -> ∃ b off, ao = some ⟨b, off, none⟩ /\ b < w.heap.size /\ ∀ i, i < L.length -> ∃ a c, w.cell? ⟨b, off + i, none⟩ = some (.slice a (L.getD i []).length c) /\ InRow w a (L.getD i [])
theorem LsRow.later {w w' : World} {ao : Option Addr} {L : List (List Int)} (h : LsRow w ao L) (hb : Below w.heap.size w w') : LsRow w' ao L := by
 intro hne
 obtain ⟨b, off, e, h1, h2⟩ := h hne
 refine ⟨b, off, e, Nat.lt_of_lt_of_le h1 hb.size, fun i hi => ?_⟩
 obtain ⟨a, c, h3, h4⟩ := h2 i hi
 exact ⟨a, c, (hb.cell (p := ⟨b, off + i, none⟩) h1).trans h3, h4.later hb⟩
end Go.Proofs.YtjpknihkcndoiaaGreat
namespace Go.Proofs.YtjpknihkcndoiaaGreat
set_option linter.unusedVariables false
set_option maxRecDepth 100000
set_option maxHeartbeats 16000000
open Go.RowKit
def LLk (w : World) (b : Nat) (T : List (List Int)) (k : Nat) : Prop := ∃ C : Array Value, w.heap[b]? = some (.cells C 42 (0, 0)) /\ C.size = T.length /\ ∀ i, i < k -> ∃ a c, C[i]? = some (.slice a (T.getD i []).length c) /\ IL w (.slice a (T.getD i []).length c) (T.getD i []) /\ (∀ j, (Value.slice a (T.getD i []).length c).ownBlock = some j -> b < j)
theorem LLk.lt {w : World} {b : Nat} {T : List (List Int)} {k : Nat} (h : LLk w b T k) : b < w.heap.size := by
 obtain ⟨C, h1, _⟩ := h
 exact lt_of_block h1
theorem LLk.later {w w' : World} {b : Nat} {T : List (List Int)} {k : Nat} (h : LLk w b T k) (hb : Below w.heap.size w w') : LLk w' b T k := by
 have hl := h.lt
 obtain ⟨C, h1, h2, h3⟩ := h
 refine ⟨C, (hb.block _ hl).trans h1, h2, fun i hi => ?_⟩
 obtain ⟨a, c, q1, q2, q3⟩ := h3 i hi
 exact ⟨a, c, q1, q2.later hb, q3⟩
theorem LLk.free {w : World} {b : Nat} {T : List (List Int)} {k : Nat} (h : LLk w b T k) (i : Nat) : w.frozen? ⟨b, i, none⟩ = false := by
 obtain ⟨C, h1, _⟩ := h
 simp [World.frozen?, h1]
theorem LLk.some {w : World} {b : Nat} {T : List (List Int)} {k : Nat} (h : LLk w b T k) (i : Nat) (hi : i < T.length) : ∃ v, w.cell? ⟨b, i, none⟩ = .some v := by
 obtain ⟨C, h1, h2, _⟩ := h
 exact ⟨C[i]'(by omega), by rw [cellq_any h1]; simp [show i < C.size by omega]⟩
theorem LLk.set {w : World} {b : Nat} {T : List (List Int)} {k : Nat} (h : LLk w b T k) (hk : k < T.length) {a : Option Addr} {c : Nat} (hI : IL w (.slice a (T.getD k []).length c) (T.getD k [])) (hb : ∀ j, (Value.slice a (T.getD k []).length c).ownBlock = .some j -> b < j) :
  LLk (w.setCell ⟨b, k, none⟩ (.slice a (T.getD k []).length c)) b T (k + 1) := by
 obtain ⟨C, h1, h2, h3⟩ := h
 have hkeep : ∀ {v : Value} {l : List Int}, IL w v l -> (∀ j, v.ownBlock = .some j -> b < j) -> IL (w.setCell ⟨b, k, none⟩ (.slice a (T.getD k []).length c)) v l := fun hI hj => hI.kept fun j e => Below.heap_setCell w ⟨b, k, none⟩ _ _ (show j ≠ b by have := hj j e; omega)
 refine ⟨_, heap_set h1 k _, by simpa using h2, fun i hi => ?_⟩
 by_cases e : i = k
 ·subst e
  exact ⟨a, c, by simp [show i < C.size by omega], hkeep hI hb, hb⟩
 ·obtain ⟨a', c', q1, q2, q3⟩ := h3 i (by omega)
  exact ⟨a', c', by rw [Array.getElem?_setIfInBounds]; simp [show ¬ k = i by omega, q1], hkeep q2 q3, q3⟩
theorem LLk.row {w : World} {b : Nat} {T : List (List Int)} (h : LLk w b T T.length) : LsRow w (.some ⟨b, 0, none⟩) T := by
 have hl := h.lt
 obtain ⟨C, h1, h2, h3⟩ := h
 intro _
 refine ⟨b, 0, rfl, hl, fun i hi => ?_⟩
 obtain ⟨a, c, q1, q2, _⟩ := h3 i hi
 exact ⟨a, c, by rw [cellq_any h1, Nat.zero_add, q1], q2.inrow⟩
end Go.Proofs.YtjpknihkcndoiaaGreat
