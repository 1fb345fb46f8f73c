import Derived.Test.YtflcnlefcnclkaaFEq
import Derived.Laws.BitsAllLaws
import Derived.RegionTactic
import Derived.BigRegion
import Derived.Deep.RegionWith
namespace Go.Proofs.Ytflcnlefcnclkaa
set_option linter.unusedVariables false
open Go.RowKit

/-- A set as a value. -/
abbrev sv (s : BS) : Value := .agg #[.int .u64 (s.1 : Int), .int .u64 (s.2 : Int)]
abbrev sBox (s : BS) : Obj := .cells #[.int .u64 (s.1 : Int), .int .u64 (s.2 : Int)] 63
def stepW (a b : BS) (k : Nat) : BS := (if 0 < k then a.1 ||| b.1 else a.1, if 1 < k then a.2 ||| b.2 else a.2)
theorem three_box (w : World) (a b c : Obj) : Below w.heap.size w (((w.alloc a).alloc b).alloc c) ∧ (((w.alloc a).alloc b).alloc c).heap[w.heap.size]? = some a ∧ (((w.alloc a).alloc b).alloc c).heap[w.heap.size + 1]? = some b ∧ (((w.alloc a).alloc b).alloc c).heap[w.heap.size + 1 + 1]? = some c := by
  have b1 := below_alloc w a
  have b2 := below_alloc (w.alloc a) b
  have b3 := below_alloc ((w.alloc a).alloc b) c
  have s1 : (w.alloc a).heap.size = w.heap.size + 1 := by simp
  have s2 : ((w.alloc a).alloc b).heap.size = w.heap.size + 1 + 1 := by simp
  refine ⟨b1.trans ((b2.mono b1.size).trans (b3.mono (Nat.le_trans b1.size b2.size))), ?_, ?_, ?_⟩
  · rw [b3.block _ (by omega), b2.block _ (by omega)]; exact heap_alloc_new _ _
  · rw [b3.block _ (by omega), ← s1]; exact heap_alloc_new _ _
  · rw [← s2]; exact heap_alloc_new _ _
theorem or_S (a b : Nat) (ha : a < 18446744073709551616) (hb : b < 18446744073709551616) : bits .or .u64 (a : Int) (b : Int) = ((a ||| b : Nat) : Int) := u64_or_nat a b ha hb
set_option maxRecDepth 100000 in
set_option maxHeartbeats 1000000 in
theorem with_S (a b : BS) (w : World) (ha : OkS a) (hb : OkS b) :
    Calls Try.prog 37 #[sv a, sv b] w fun e w' => e = .returned (sv (withS a b)) ∧ Below w.heap.size w w' := by
  obtain ⟨t0, t1, t2, t3⟩ := three_box w (sBox a) (sBox b) (sBox (0, 0))
  have T : Hid (Below w.heap.size w (((w.alloc (sBox a)).alloc (sBox b)).alloc (sBox (0, 0)))) := t0
  have o1 := or_S a.1 b.1 ha.1 hb.1
  have o2 := or_S a.2 b.2 ha.2 hb.2
  obtain ⟨a1, a2⟩ := a
  obtain ⟨b1, b2⟩ := b
  simp only at o1 o2
  clear t0
  go_enter Try.func37, Try.ntmps37
  go_wp2
  go_loopw [6] (fun z wr => ∃ k : Nat, k ≤ 2 ∧ z = .int .i64 k ∧ wr.heap[w.heap.size]? = some (sBox (stepW (a1, a2) (b1, b2) k)) ∧ wr.heap[w.heap.size + 1]? = some (sBox (b1, b2)) ∧ wr.heap[w.heap.size + 1 + 1]? = some (sBox (0, 0)) ∧ Below w.heap.size w wr) (fun z _ => 2 - (intOf z).toNat)
  case atStart => exact ⟨0, Nat.zero_le _, rfl, t1, t2, t3, T.out⟩
  case round =>
    clear t1 t2 t3
    obtain ⟨k, hk, rfl, h1, h2, h3, h4⟩ := hrel
    have H : Hid (wr.heap[w.heap.size]? = some (sBox (stepW (a1, a2) (b1, b2) k)) ∧ wr.heap[w.heap.size + 1]? = some (sBox (b1, b2)) ∧ wr.heap[w.heap.size + 1 + 1]? = some (sBox (0, 0)) ∧ Below w.heap.size w wr) := ⟨h1, h2, h3, h4⟩
    have hz := lt_of_block h1
    have hk3 : k = 0 ∨ k = 1 ∨ k = 2 := by omega
    rcases hk3 with rfl | rfl | rfl
    · have c0 : wr.cell? ⟨w.heap.size, 0, none⟩ = some (.int .u64 (a1 : Int)) := (cellq_any h1).trans rfl
      have c1 : wr.cell? ⟨w.heap.size + 1, 0, none⟩ = some (.int .u64 (b1 : Int)) := (cellq_any h2).trans rfl
      have f0 : wr.frozen? ⟨w.heap.size, 0, none⟩ = false := by simp [World.frozen?, h1]
      clear h1 h2 h3 h4
      go_wp2
      go_region
      go_wp2
      go_roundw
      case rel =>
        obtain ⟨h1, h2, h3, h4⟩ := H.out
        refine ⟨1, by omega, by go_num, ?_, ?_, ?_, ?_⟩
        · exact (heap_set h1 0 _).trans rfl
        · exact (Below.heap_setCell wr ⟨w.heap.size, 0, none⟩ _ _ (show w.heap.size + 1 ≠ w.heap.size by omega)).trans h2
        · exact (Below.heap_setCell wr ⟨w.heap.size, 0, none⟩ _ _ (show w.heap.size + 1 + 1 ≠ w.heap.size by omega)).trans h3
        · exact (h4.setCell (p := ⟨w.heap.size, 0, none⟩) (Nat.le_refl _) _).drew
      case measure => simp [intOf]
    · have c0 : wr.cell? ⟨w.heap.size, 1, none⟩ = some (.int .u64 (a2 : Int)) := (cellq_any h1).trans rfl
      have c1 : wr.cell? ⟨w.heap.size + 1, 1, none⟩ = some (.int .u64 (b2 : Int)) := (cellq_any h2).trans rfl
      have f0 : wr.frozen? ⟨w.heap.size, 1, none⟩ = false := by simp [World.frozen?, h1]
      clear h1 h2 h3 h4
      go_wp2
      go_region
      go_wp2
      go_roundw
      case rel =>
        obtain ⟨h1, h2, h3, h4⟩ := H.out
        refine ⟨2, by omega, by go_num, ?_, ?_, ?_, ?_⟩
        · exact (heap_set h1 1 _).trans rfl
        · exact (Below.heap_setCell wr ⟨w.heap.size, 1, none⟩ _ _ (show w.heap.size + 1 ≠ w.heap.size by omega)).trans h2
        · exact (Below.heap_setCell wr ⟨w.heap.size, 1, none⟩ _ _ (show w.heap.size + 1 + 1 ≠ w.heap.size by omega)).trans h3
        · exact (h4.setCell (p := ⟨w.heap.size, 1, none⟩) (Nat.le_refl _) _).drew
      case measure => simp [intOf]
    · have c0 : wr.cell? ⟨w.heap.size, 0, none⟩ = some (.int .u64 ((a1 ||| b1 : Nat) : Int)) := (cellq_any h1).trans rfl
      have c1 : wr.cell? ⟨w.heap.size, 1, none⟩ = some (.int .u64 ((a2 ||| b2 : Nat) : Int)) := (cellq_any h1).trans rfl
      have d0 : wr.cell? ⟨w.heap.size + 1 + 1, 0, none⟩ = some (.int .u64 0) := (cellq_any h3).trans rfl
      have d1 : wr.cell? ⟨w.heap.size + 1 + 1, 1, none⟩ = some (.int .u64 0) := (cellq_any h3).trans rfl
      have f0 : wr.frozen? ⟨w.heap.size + 1 + 1, 0, none⟩ = false := by simp [World.frozen?, h3]
      have f1 : wr.frozen? ⟨w.heap.size + 1 + 1, 1, none⟩ = false := by simp [World.frozen?, h3]
      have hz3 := lt_of_block h3
      clear h1 h2 h3 h4
      go_wp2
      refine bodyPost_ret (v := sv (withS (a1, a2) (b1, b2))) (by simp [results, Try.results37, go_sem, d0, d1, withS]) rfl ?_
      obtain ⟨h1, h2, h3, h4⟩ := H.out
      exact ⟨rfl, (h4.setCell (p := ⟨w.heap.size + 1 + 1, 0, none⟩) (by show w.heap.size ≤ w.heap.size + 1 + 1; omega) _).setCell (p := ⟨w.heap.size + 1 + 1, 1, none⟩) (by show w.heap.size ≤ w.heap.size + 1 + 1; omega) _⟩
set_option maxRecDepth 100000 in
set_option maxHeartbeats 1000000 in
theorem within_S (a b : BS) (w : World) (ha : OkS a) (hb : OkS b) (x : Bool) (hx : decide (withS a b = b) = x) :
    Calls Try.prog 25 #[sv a, sv b] w fun e w' => e = .returned (.bool x) ∧ Below w.heap.size w w' := by
  have WC : Hid (∀ w', Calls Try.prog 37 #[sv a, sv b] w' fun e w2 => e = .returned (sv (withS a b)) ∧ Below w'.heap.size w' w2) := fun w' => with_S a b w' ha hb
  have HX : Hid (decide (withS a b = b) = x) := hx
  have B0 : Hid (Below w.heap.size w ((w.alloc (sBox a)).alloc (sBox b)) ∧ ((w.alloc (sBox a)).alloc (sBox b)).heap[w.heap.size + 1]? = some (sBox b)) := by
    have h := heap_alloc_new (w.alloc (sBox a)) (sBox b)
    rw [show (w.alloc (sBox a)).heap.size = w.heap.size + 1 by simp] at h
    exact ⟨(below_alloc w _).trans ((below_alloc _ _).mono (below_alloc w _).size), h⟩
  generalize hW : withS a b = c at *
  obtain ⟨a1, a2⟩ := a
  obtain ⟨b1, b2⟩ := b
  obtain ⟨c1, c2⟩ := c
  have hq := eq_S c1 c2 b1 b2
  have HY : Hid ((decide (c1 = b1) && decide (c2 = b2)) = x) := by show _ = _; rw [← HX.out]; simp
  clear ha hb hx hW
  go_enter Try.func25, Try.ntmps25
  go_wp2
  go_region_with (go_at_call 37; refine (WC.out _).mono ?_; rintro e w2 ⟨rfl, hB2⟩; have B2 : Hid (Below w.heap.size w w2) := (B0.out.1.drew).trans (hB2.mono B0.out.1.size); have X2 : w2.heap[w.heap.size + 1]? = some (sBox (b1, b2)) := (hB2.block _ (lt_of_block B0.out.2)).trans B0.out.2; have d0 : w2.cell? ⟨w.heap.size + 1, 0, none⟩ = some (.int .u64 (b1 : Int)) := (cellq_any X2).trans rfl; have d1 : w2.cell? ⟨w.heap.size + 1, 1, none⟩ = some (.int .u64 (b2 : Int)) := (cellq_any X2).trans rfl; clear hB2 X2)
  all_goals
    go_wp2
    go_ret
    exact ⟨congrArg (fun b => Ending.returned (.bool b)) HY.out, B2.out⟩
end Go.Proofs.Ytflcnlefcnclkaa
