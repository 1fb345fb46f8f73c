import Derived.Test.YtlkkllehaabebabPPlainToHead
import Derived.Laws.AppendOwnNone
import Derived.Deep.RegionWith
import Derived.Deep.AppendSrc
import Derived.Deep.RegionHeld3
namespace Go.Proofs.Ytlkkllehaabebab.C
set_option linter.unusedVariables false
set_option maxRecDepth 100000
set_option maxHeartbeats 16000000
open Go.RowKit
def Own (w : World) (v : Value) (xs : List Int) : Prop := isBytes xs /\ w.ownsRow 0 5 1 v xs.length (vals xs)
structure Grew (w w' : World) (v v' : Value) : Prop where
 grown : w.grownBy w' v.ownBlock
 moved : v'.ownBlock = v.ownBlock ∨ ∃ k, v'.ownBlock = some k /\ w.heap.size <= k
theorem Grew.refl (w : World) (v : Value) : Grew w w v v := ⟨⟨rfl, rfl, rfl, Nat.le_refl _, fun _ _ _ => rfl⟩, .inl rfl⟩
theorem Grew.trans {w w1 w2 : World} {v v1 v2 : Value} (h : Grew w w1 v v1) (k : Grew w1 w2 v1 v2) : Grew w w2 v v2 := by
 refine ⟨⟨k.grown.os.trans h.grown.os, k.grown.tape.trans h.grown.tape, k.grown.output.trans h.grown.output, Nat.le_trans h.grown.size k.grown.size, fun i hi hne => ?_⟩, ?_⟩
 ·refine (k.grown.block i (Nat.lt_of_lt_of_le hi h.grown.size) ?_).trans (h.grown.block i hi hne)
  rcases h.moved with e | ⟨q, e, hq⟩
  ·rw [e]; exact hne
  ·rw [e]; intro e'; have := Option.some.inj e'; omega
 ·rcases k.moved with e | ⟨q, e, hq⟩
  ·rw [e]; exact h.moved
  ·exact .inr ⟨q, e, Nat.le_trans h.grown.size hq⟩
theorem Grew.alloc {w w' : World} {v v' : Value} (h : Grew w w' v v') (o : Obj) : Grew w (w'.alloc o) v v' := by
 refine ⟨⟨h.grown.os, h.grown.tape, h.grown.output, by have := h.grown.size; simp; omega, fun i hi hne => ?_⟩, h.moved⟩
 exact (Below.heap_alloc w' o i (Nat.lt_of_lt_of_le hi h.grown.size)).trans (h.grown.block i hi hne)
theorem Own.alloc {w : World} {v : Value} {xs : List Int} (h : Own w v xs) (o : Obj) : Own (w.alloc o) v xs := ⟨h.1, h.2.alloc o⟩
theorem Own.drew {w : World} {v : Value} {xs : List Int} (h : Own w v xs) : Own w.drew v xs := ⟨h.1, h.2.drew⟩
theorem Own.lt {w : World} {v : Value} {xs : List Int} (h : Own w v xs) : ∀ k, v.ownBlock = some k -> k < w.heap.size := fun k hk => (h.2.lt k hk).2
theorem Own.kept {w w' : World} {v : Value} {xs : List Int} (h : Own w v xs) (hb : ∀ k, v.ownBlock = some k -> w'.heap[k]? = w.heap[k]?) : Own w' v xs := by
 refine ⟨h.1, h.2.1, ?_⟩
 rcases h.2.2 with hn | ⟨g, cap, cur, rfl, hb', hgg, rest⟩
 ·exact .inl hn
 ·exact .inr ⟨g, cap, cur, rfl, hb', by rw [hb g rfl]; exact hgg, rest⟩
theorem Own.nil (w : World) : Own w (.slice none 0 0) [] := ⟨isBytes_nil, World.ownsRow_nil w 0 5 1⟩
theorem Own.row {w : World} {v : Value} {xs : List Int} (h : Own w v xs) : ∃ ao cap, v = .slice ao xs.length cap /\ (ao = none -> xs = [] /\ cap = 0) /\ RowAt w ao xs := rowAt_of_owns h.1 h.2
def enc : Nat -> Int -> List Int
 | 0, _ => []
 | f + 1, n => if 128 <= n then (n % 128 + 128) :: enc f (n / 128) else [n]
end Go.Proofs.Ytlkkllehaabebab.C
namespace Go.Proofs.Ytlkkllehaabebab.C
set_option linter.unusedVariables false
set_option maxRecDepth 100000
set_option maxHeartbeats 16000000
open Go.RowKit
structure WGrew (w w' : World) (q : Nat) (v v' : Value) : Prop where
 os : w'.os = w.os
 tape : w'.tape = w.tape
 output : w'.output = w.output
 size : w.heap.size <= w'.heap.size
 block : ∀ k, k < w.heap.size -> k ≠ q -> some k ≠ v.ownBlock -> w'.heap[k]? = w.heap[k]?
 moved : v'.ownBlock = v.ownBlock ∨ ∃ k, v'.ownBlock = some k /\ w.heap.size <= k
theorem heap_set {w : World} {b : Nat} {C : Array Value} {t : TypeId} (h : w.heap[b]? = some (.cells C t (0, 0))) (o : Nat) (u : Value) : (w.setCell ⟨b, o, none⟩ u).heap[b]? = some (.cells (C.setIfInBounds o u) t (0, 0)) := by
 have hlt := lt_of_block h
 have h' : w.heap[b] = .cells C t (0, 0) := by simpa [Array.getElem?_eq_getElem hlt] using h
 show (w.heap.modify b _)[b]? = _
 rw [Array.getElem?_eq_getElem (by simpa using hlt), Array.getElem_modify_self, h']
 rfl
end Go.Proofs.Ytlkkllehaabebab.C
