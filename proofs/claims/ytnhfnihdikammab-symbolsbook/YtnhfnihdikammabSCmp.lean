import Derived.Test.YtnhfnihdikammabSExt
import Derived.Deep.RegionHeld3
namespace Go.Proofs.Ytnhfnihdikammab
set_option linter.unusedVariables false
open Go.RowKit

abbrev symV (k n : Int) : Value := .agg #[.int .i64 k, .int .i64 n]
def orS (x y : Int) : Int := if x = 0 then y else x
theorem or_new (w : World) (o1 o2 : Obj) (t : TypeId) (x y : Int) : Calls Try.prog 51 #[.slice (some ⟨w.heap.size + 1 + 1, 0, none⟩) 2 2] (((w.alloc o1).alloc o2).alloc (.cells #[.int .i64 x, .int .i64 y] t)).drew
    fun e w' => e = .returned (.int .i64 (orS x y)) ∧ (((w.alloc o1).alloc o2).alloc (.cells #[.int .i64 x, .int .i64 y] t)).drew = w' := by
  have h : (((w.alloc o1).alloc o2).alloc (.cells #[.int .i64 x, .int .i64 y] t)).drew.heap[w.heap.size + 1 + 1]? = some (.cells #[.int .i64 x, .int .i64 y] t (0, 0)) := by
    rw [show w.heap.size + 1 + 1 = ((w.alloc o1).alloc o2).heap.size by simp]
    exact heap_alloc_new _ _
  exact cmpor_any _ x y _ (by rw [cellq_any h]; rfl) (by rw [cellq_any h]; rfl)
set_option maxHeartbeats 1000000 in
theorem compare_any (k1 n1 k2 n2 : Int) (w : World) : Calls Try.prog 25 #[.agg #[.int .i64 k1, .int .i64 n1], .agg #[.int .i64 k2, .int .i64 n2]] w fun e w' => e = .returned (.int .i64 (symCmp k1 n1 k2 n2)) ∧ Below w.heap.size w w' := by
  go_enter Try.func25, Try.ntmps25
  go_wp2
  go_region_held3 (fun w' => w'.cell? ⟨w.heap.size, 0, none⟩ = some (.int .i64 k1) ∧ w'.cell? ⟨w.heap.size, 1, none⟩ = some (.int .i64 n1) ∧ w'.cell? ⟨w.heap.size + 1, 0, none⟩ = some (.int .i64 k2) ∧ w'.cell? ⟨w.heap.size + 1, 1, none⟩ = some (.int .i64 n2)) (first | assumption | go_keep) (first
    | (go_at_call 52; refine (cmpkind_any _ _ _).mono ?_; rintro e w' ⟨rfl, rfl⟩)
    | (go_at_call 53; refine (cmpint_any _ _ _).mono ?_; rintro e w' ⟨rfl, rfl⟩)
    | (go_at_call 51; refine (or_new w _ _ _ _ _).mono ?_; rintro e w' ⟨rfl, rfl⟩))
  all_goals go_wp2
  all_goals go_ret
  all_goals exact ⟨rfl, (((below_alloc w _).alloc (by simp) _).alloc (by simp; omega) _).drew⟩
end Go.Proofs.Ytnhfnihdikammab
