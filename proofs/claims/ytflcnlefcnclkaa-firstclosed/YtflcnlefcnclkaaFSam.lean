import Derived.Test.YtflcnlefcnclkaaFSame
namespace Go.Proofs.Ytflcnlefcnclkaa
set_option linter.unusedVariables false
open Go.RowKit

theorem below_al {w w' : World} {o : Obj} (h : Below w.heap.size w w') : Below w.heap.size w (w'.alloc o) := h.trans ((below_alloc _ _).mono h.size)
set_option maxRecDepth 100000 in
set_option maxHeartbeats 2000000 in
theorem sample_at (w : World) :
    Calls Try.prog 10 #[] w fun e w' => ∃ g : GV, e = .returned g.val ∧ GAt 8 w' g ∧ g.ts = [⟨#[97]⟩, ⟨#[98]⟩] ∧ g.ns = [⟨#[83]⟩, ⟨#[65]⟩] ∧ g.start = 0 ∧ g.ps.map (fun p => (p.left, p.right, p.prec)) = [(0, [(2, 1), (1, 1)], -1), (1, [(1, 0)], -1), (1, [], -1)] ∧ g.ls = [] ∧ g.ps.length ≤ g.pc ∧ Below w.heap.size w w' := by
  go_enter Try.func10, Try.ntmps10
  go_wp2
  refine bodyPost_ret (v := .agg #[.slice (some ⟨w.heap.size + 1 + 1 + 1, 0, none⟩) 2 2, .slice (some ⟨w.heap.size + 1 + 1 + 1 + 1, 0, none⟩) 2 2, .int .i64 0, .slice (some ⟨w.heap.size + 1 + 1 + 1 + 1 + 1 + 1 + 1, 0, none⟩) 3 3, .slice none 0 0]) (by simp [results, Try.results10, go_sem]) rfl ?_
  refine ⟨⟨some ⟨w.heap.size + 1 + 1 + 1, 0, none⟩, 2, [⟨#[97]⟩, ⟨#[98]⟩], some ⟨w.heap.size + 1 + 1 + 1 + 1, 0, none⟩, 2, [⟨#[83]⟩, ⟨#[65]⟩], 0, some ⟨w.heap.size + 1 + 1 + 1 + 1 + 1 + 1 + 1, 0, none⟩, 3, [⟨0, some ⟨w.heap.size + 1 + 1 + 1 + 1 + 1, 0, none⟩, 2, [(2, 1), (1, 1)], -1⟩, ⟨1, some ⟨w.heap.size + 1 + 1 + 1 + 1 + 1 + 1, 0, none⟩, 1, [(1, 0)], -1⟩, ⟨1, none, 0, [], -1⟩], none, 0, []⟩, rfl, ⟨?_, ?_, ⟨?_, ?_⟩, ⟨?_, ?_⟩, ?_, ?_, ?_, ?_, ?_, ?_, ?_, ?_⟩, rfl, rfl, rfl, rfl, rfl, Nat.le_refl _, ?_⟩
  · intro _
    refine ⟨w.heap.size + 1 + 1 + 1, 0, rfl, by simp, fun i hi => ?_⟩
    rcases (show i = 0 ∨ i = 1 by simp at hi; omega) with rfl | rfl <;> simp [go_sem]
  · intro _
    refine ⟨w.heap.size + 1 + 1 + 1 + 1, 0, rfl, by simp, fun i hi => ?_⟩
    rcases (show i = 0 ∨ i = 1 by simp at hi; omega) with rfl | rfl <;> simp [go_sem]
  · intro _
    refine ⟨w.heap.size + 1 + 1 + 1 + 1 + 1 + 1 + 1, 0, rfl, by simp, fun i hi => ?_⟩
    rcases (show i = 0 ∨ i = 1 ∨ i = 2 by simp at hi; omega) with rfl | rfl | rfl <;> simp [go_sem]
  · intro p hp hn
    simp only [List.mem_cons, List.not_mem_nil, or_false] at hp
    rcases hp with rfl | rfl | rfl
    · refine ⟨w.heap.size + 1 + 1 + 1 + 1 + 1, 0, rfl, by simp, fun i hi => ?_⟩
      rcases (show i = 0 ∨ i = 1 by simp at hi; omega) with rfl | rfl <;> simp [go_sem]
    · refine ⟨w.heap.size + 1 + 1 + 1 + 1 + 1 + 1, 0, rfl, by simp, fun i hi => ?_⟩
      obtain rfl : i = 0 := by simpa using hi
      simp [go_sem]
    · exact absurd rfl hn
  · intro h; exact absurd rfl h
  · intro p hp; cases hp
  · intro s hs; simp only [List.mem_cons, List.not_mem_nil, or_false] at hs; rcases hs with rfl | rfl <;> first | decide | simp
  · intro s hs; simp only [List.mem_cons, List.not_mem_nil, or_false] at hs; rcases hs with rfl | rfl <;> first | decide | simp
  · simp
  · simp
  · simp
  · simp
  · intro p hp; simp only [List.mem_cons, List.not_mem_nil, or_false] at hp; rcases hp with rfl | rfl | rfl <;> first | decide | simp
  · intro p hp; cases hp
  · exact below_al (below_al (below_al (below_al (below_al (below_al (below_al (below_al (Below.refl _ _))))))))
end Go.Proofs.Ytflcnlefcnclkaa
