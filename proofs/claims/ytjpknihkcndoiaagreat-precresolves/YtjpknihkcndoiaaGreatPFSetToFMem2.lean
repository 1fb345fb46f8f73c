import Derived.Test.YtjpknihkcndoiaaGreatPBBaseToGRow
import Derived.Laws.BitsAllLaws
import Derived.Laws.StructEq
import Derived.ChangeKeysEq
import Derived.RegionTactic
import Derived.BigRegion
import Derived.Deep.RegionWith
namespace Go.Proofs.YtjpknihkcndoiaaGreat
set_option linter.unusedVariables false
set_option maxRecDepth 100000
set_option maxHeartbeats 16000000
open Go.RowKit
abbrev BS := Nat × Nat
def OkS (s : BS) : Prop := s.1 < 18446744073709551616 /\ s.2 < 18446744073709551616
def addS (s : BS) (n : Nat) : BS := if n < 64 then (s.1 ||| 2 ^ n, s.2) else (s.1, s.2 ||| 2 ^ (n - 64))
def withS (a b : BS) : BS := (a.1 ||| b.1, a.2 ||| b.2)
theorem pow64 {n : Nat} (h : n < 64) : 2 ^ n < 18446744073709551616 := by
 have := Nat.pow_lt_pow_right (a := 2) (by omega) h
 simpa using this
theorem or64 {a b : Nat} (ha : a < 18446744073709551616) (hb : b < 18446744073709551616) : a ||| b < 18446744073709551616 := Nat.or_lt_two_pow (n := 64) ha hb
theorem OkS.add {s : BS} (h : OkS s) {n : Nat} (hn : n < 128) : OkS (addS s n) := by
 unfold addS
 split
 ·exact ⟨or64 h.1 (pow64 (by omega)), h.2⟩
 ·exact ⟨h.1, or64 h.2 (pow64 (by omega))⟩
theorem OkS.with {a b : BS} (ha : OkS a) (hb : OkS b) : OkS (withS a b) := ⟨or64 ha.1 hb.1, or64 ha.2 hb.2⟩
theorem OkS.zero : OkS (0, 0) := ⟨by decide, by decide⟩
structure HGo (v : Int) (K L : List Int) : Prop where
 len : L.length = K.length
 old : ∀ i, K.getD i 0 ≠ 0 -> L.getD i 0 = K.getD i 0
 new : ∀ i, K.getD i 0 = 0 -> L.getD i 0 = 0 ∨ L.getD i 0 = v
theorem HGo.refl (v : Int) (K : List Int) : HGo v K K := ⟨rfl, fun _ _ => rfl, fun _ h => .inl h⟩
theorem HGo.trans {v : Int} (hv : v ≠ 0) {K L M : List Int} (h : HGo v K L) (h' : HGo v L M) : HGo v K M :=
 ⟨h'.len.trans h.len, fun i hi => by have e := h.old i hi; rw [h'.old i (by rw [e]; exact hi), e], fun i hi => by
  rcases h.new i hi with e | e
  ·exact h'.new i e
  ·right; rw [h'.old i (by rw [e]; exact hv), e]⟩
end Go.Proofs.YtjpknihkcndoiaaGreat
namespace Go.Proofs.YtjpknihkcndoiaaGreat
set_option linter.unusedVariables false
set_option maxRecDepth 100000
set_option maxHeartbeats 16000000
open Go.RowKit
theorem three_box (w : World) (a b c : Obj) : Below w.heap.size w (((w.alloc a).alloc b).alloc c) /\ (((w.alloc a).alloc b).alloc c).heap[w.heap.size]? = some a /\ (((w.alloc a).alloc b).alloc c).heap[w.heap.size + 1]? = some b /\ (((w.alloc a).alloc b).alloc c).heap[w.heap.size + 1 + 1]? = some c := by
 have b1 := below_alloc w a
 have b2 := below_alloc (w.alloc a) b
 have b3 := below_alloc ((w.alloc a).alloc b) c
 have s1 : (w.alloc a).heap.size = w.heap.size + 1 := by simp
 have s2 : ((w.alloc a).alloc b).heap.size = w.heap.size + 1 + 1 := by simp
 refine ⟨b1.trans ((b2.mono b1.size).trans (b3.mono (Nat.le_trans b1.size b2.size))), ?_, ?_, ?_⟩
 ·rw [b3.block _ (by omega), b2.block _ (by omega)]; exact heap_alloc_new _ _
 ·rw [b3.block _ (by omega), <- s1]; exact heap_alloc_new _ _
 ·rw [<- s2]; exact heap_alloc_new _ _
end Go.Proofs.YtjpknihkcndoiaaGreat
