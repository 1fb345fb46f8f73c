import Derived.Test.YtlkkllehaabebaaPHListToHGiven
import Derived.Test.YtlkkllehaabebaaPBBaseToGRow
import Derived.Test.YtlkkllehaabebaaPOwnToAppStr
import Derived.Test.YtlkkllehaabebaaPSameToSums0
import Derived.Deep.RegionWith
import Derived.Test.YtlkkllehaabebaaPGG0ToGG2
import Derived.Test.YtlkkllehaabebaaPGCheckPToGSame2
namespace Go.Proofs.Ytlkkllehaabebaa
set_option linter.unusedVariables false
set_option maxRecDepth 100000
set_option maxHeartbeats 16000000
open Go.RowKit
def BtRow (w : World) (ao : Option Addr) (l : List Int) : Prop := l ≠ [] -> ∃ b off, ao = some ⟨b, off, none⟩ /\ b < w.heap.size /\ ∀ i, i < l.length -> w.cell? ⟨b, off + i, none⟩ = some (.int .u8 (l.getD i 0))
theorem BtRow.of {w : World} {ao : Option Addr} {l : List Int} (h : C.RowAt w ao l) : BtRow w ao l := fun hne => by
 obtain ⟨b, off, e, hc⟩ := h.2 hne
 have h0 : 0 < l.length := List.length_pos_iff.2 hne
 exact ⟨b, off, e, World.block_lt_of_cell? _ _ (hc 0 h0), hc⟩
theorem BtRow.row {w : World} {ao : Option Addr} {l : List Int} (h : BtRow w ao l) (hb : C.isBytes l) : C.RowAt w ao l := ⟨hb, fun hne => by
 obtain ⟨b, off, e, _, hc⟩ := h hne
 exact ⟨b, off, e, hc⟩⟩
def BtL (w : World) (v : Value) (l : List Int) : Prop := w.ownsRow 0 5 1 v l.length (l.map (.int .u8 ·))
theorem BtL.lt {w : World} {v : Value} {l : List Int} (h : BtL w v l) : ∀ k, v.ownBlock = some k -> k < w.heap.size := fun k hk => (World.ownsRow.lt h k hk).2
theorem BtL.later {w w' : World} {v : Value} {l : List Int} (h : BtL w v l) (hb : Below w.heap.size w w') : BtL w' v l := by
 refine ⟨h.1, ?_⟩
 rcases h.2 with q | ⟨g, cap, cur, rfl, h1, h2, h3⟩
 ·exact .inl q
 ·exact .inr ⟨g, cap, cur, rfl, h1, (hb.block g (lt_of_block h2)).trans h2, h3⟩
structure FullB (w : World) (g : Nat) (zs : List Int) : Prop where
 hg : w.heap[g]? = some (.cells (zs.map (.int .u8 ·)).toArray 5 (0, 0))
 by_ : C.isBytes zs
theorem FullB.cell {w : World} {g : Nat} {zs : List Int} (h : FullB w g zs) (j : Nat) (hj : j < zs.length) : w.cell? ⟨g, j, none⟩ = some (.int .u8 (zs.getD j 0)) := by
 simp [World.cell?, h.hg, List.getD, hj]
theorem FullB.free {w : World} {g : Nat} {zs : List Int} (h : FullB w g zs) (j : Nat) : w.frozen? ⟨g, j, none⟩ = false := by
 simp [World.frozen?, h.hg]
theorem FullB.set {w : World} {g : Nat} {zs : List Int} (h : FullB w g zs) (j : Nat) (m : Int) (h0 : 0 <= m) (h1 : m <= 255) : FullB (w.setCell ⟨g, j, none⟩ (.int .u8 m)) g (zs.set j m) := by
 refine ⟨?_, fun x hx => ?_⟩
 ·rw [heap_set h.hg]
  congr 2
  simp [List.map_set]
 ·rcases List.mem_or_eq_of_mem_set hx with q | q
  ·exact h.by_ x q
  ·subst q; exact ⟨h0, h1⟩
theorem FullB.later {w w' : World} {g : Nat} {zs : List Int} (h : FullB w g zs) (hb : w'.heap[g]? = w.heap[g]?) : FullB w' g zs := ⟨hb.trans h.hg, h.by_⟩
theorem FullB.row {w : World} {g : Nat} {zs : List Int} (h : FullB w g zs) : BtRow w (some ⟨g, 0, none⟩) zs :=
 fun _ => ⟨g, 0, rfl, lt_of_block h.hg, fun i hi => by rw [Nat.zero_add]; exact h.cell i hi⟩
end Go.Proofs.Ytlkkllehaabebaa
namespace Go.Proofs.Ytlkkllehaabebaa
set_option linter.unusedVariables false
set_option maxRecDepth 100000
set_option maxHeartbeats 16000000
open Go.RowKit
end Go.Proofs.Ytlkkllehaabebaa
