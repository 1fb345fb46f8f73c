import Derived.Test.YtnhfnihdikammabSDoes3
namespace Go.Proofs.Ytnhfnihdikammab
set_option linter.unusedVariables false
open Go.RowKit Go.Maps

theorem same_gs {w : World} {v v2 : Value} {ss : List ByteArray} (h : GS w v ss) (h2 : GS w v2 ss) (hl : ss.length ≤ 140737488355328) : Calls Try.prog 22 #[v, v2] w fun e w' => e = .returned (.bool true) ∧ Below w.heap.size w w' := by
  obtain ⟨a, c, rfl, hr, _, _⟩ := h.row
  obtain ⟨a2, c2, rfl, hr2, _, _⟩ := h2.row
  exact samestrs_eq a a2 _ _ c c2 ss w rfl rfl hl hr hr2
theorem below_ofDrew {w w1 : World} (h : Below w.drew.heap.size w.drew w1) : Below w.heap.size w w1 := ⟨h.os, h.tape, h.output, h.size, h.block⟩
theorem below_then {w w1 w2 : World} (h : Below w.heap.size w w1) (k : Below w1.heap.size w1 w2) : Below w.heap.size w w2 := h.trans (k.mono h.size)
set_option maxRecDepth 100000 in
set_option maxHeartbeats 4000000 in
theorem stands_any {B : Nat} {w : World} {p g b q : Nat} {T N T2 N2 : Value} {D : DataW Unit} {ts ns : List ByteArray} (h : Two B w p g b q T N D T2 N2 ts ns) :
    Calls Try.prog 11 #[.pointer (some ⟨p, 0, none⟩), .pointer (some ⟨q, 0, none⟩)] w fun e w' => e = .returned (.bool true) ∧ Below w.heap.size w w' := by
  obtain ⟨ta, tc, rfl⟩ := gs_len h.rf.tn
  obtain ⟨na, nc, rfl⟩ := gs_len h.rf.nn
  have c0 : w.cell? ⟨q, 0, none⟩ = some (.slice ta ts.length tc) := by rw [cellq_any h.rf.hq]; rfl
  have c1 : w.cell? ⟨q, 1, none⟩ = some (.slice na ns.length nc) := by rw [cellq_any h.rf.hq]; rfl
  have lq := lt_of_block h.rf.hq
  have hl : ts.length ≤ 140737488355328 := by have := h.rf.tl; omega
  have hl' : ns.length ≤ 140737488355328 := by have := h.rf.nl; omega
  have AF : Hid (∀ w', Below w.heap.size w w' → w'.cell? ⟨q, 0, none⟩ = some (.slice ta ts.length tc) ∧ w'.cell? ⟨q, 1, none⟩ = some (.slice na ns.length nc)) := fun w' hb => ⟨(hb.cell (p := ⟨q, 0, none⟩) lq).trans c0, (hb.cell (p := ⟨q, 1, none⟩) lq).trans c1⟩
  have e1 : ((ts.length : Int) == ts.length) = true := by simp
  have e2 : ((ns.length : Int) == ns.length) = true := by simp
  go_enter Try.func11, Try.ntmps11
  go_wp2
  go_region_held3 (fun w' => w'.cell? ⟨q, 0, none⟩ = some (.slice ta ts.length tc) ∧ w'.cell? ⟨q, 1, none⟩ = some (.slice na ns.length nc)) (first | assumption | go_keep)
    (first
      | (go_at_call 19; (with_reducible refine (terms_any h.bk.drew).mono ?_); rintro e w1 ⟨a1, n1, d1, rfl, G1, L1, B1⟩; have C1 := below_ofDrew B1; obtain ⟨x1, y1⟩ := AF.out w1 C1)
      | (go_at_call 22; (with_reducible refine (same_gs G1 (h.rf.later C1).tn hl).mono ?_); rintro e w2 ⟨rfl, B2⟩; have C2 := below_then C1 B2; obtain ⟨x2, y2⟩ := AF.out w2 C2)
      | (go_at_call 20; (with_reducible refine (nons_any (h.bk.later C2)).mono ?_); rintro e w3 ⟨a3, n3, d3, rfl, G3, L3, B3⟩; have C3 := below_then C2 B3; obtain ⟨x3, y3⟩ := AF.out w3 C3)
      | (go_at_call 22; (with_reducible refine (same_gs G3 (h.rf.later C3).nn hl').mono ?_); rintro e w4 ⟨rfl, B4⟩; have C4 := below_then C3 B4; obtain ⟨x4, y4⟩ := AF.out w4 C4)
      | (go_at_call 21; (with_reducible refine (mark_any (h.bk.later C4)).mono ?_); rintro e w5 ⟨rfl, B5⟩; have C5 := below_then C4 B5; obtain ⟨x5, y5⟩ := AF.out w5 C5))
  all_goals go_wp2
  all_goals go_ret
  all_goals exact ⟨rfl, C5⟩
end Go.Proofs.Ytnhfnihdikammab
