import Derived.Test.YtldomigddgaabaaGreatPFX1
namespace Go.Proofs.YtldomigddgaabaaGreat
set_option linter.unusedVariables false
set_option maxRecDepth 100000
set_option maxHeartbeats 16000000
open Go.RowKit
theorem firstX_ok (g : GV) (w : World) (h : GAt 140737488355328 w g) (hpc : g.ps.length <= g.pc) (at_ : Int) (hE : checkG g (checkF g.ts g.ns) = (0, at_)) :
  Calls Tryz.prog 6 #[g.val] w fun e w' => ∃ b F, LeastF g F /\ e = .returned (.tuple #[.slice (some ⟨b, 0, none⟩) g.ns.length g.ns.length, .int .i64 0]) /\ LLx w' b (listsU F) g.ns.length /\ w.heap.size <= b /\ Below w.heap.size w w' := by
 have ok : OkC g := OkC.of (by rw [hE])
 have X0 : Hid ((w.alloc (gBox g)).heap[w.heap.size]? = some (gBox g)) := heap_alloc_new _ _
 have CK : Hid (Calls Tryz.prog 19 #[g.val] (w.alloc (gBox g)) fun e w' => e = .returned (.tuple #[.int .i64 0, .int .i64 at_]) /\ Below (w.alloc (gBox g)).heap.size (w.alloc (gBox g)) w') := check_G g _ (h.later (below_alloc _ _)) hpc 0 at_ hE
 have HFG : Hid (∀ w', Below w.heap.size w w' -> FG w' g) := fun w' hb => ok.fg (h.later hb)
 have HN64 : Hid (g.ns.length <= 64) := ok.nl.2
 have LC : Hid (∀ w', FG w' g -> Calls Tryz.prog 22 #[g.val] w' fun e w'' => ∃ nb fb F, LeastF g F /\ e = .returned (.agg #[.slice (some ⟨nb, 0, none⟩) g.ns.length g.ns.length, .slice (some ⟨fb, 0, none⟩) g.ns.length g.ns.length]) /\ SBk w'' fb F /\ Below w'.heap.size w' w'') := fun w' hf => by
  refine (least_S g w' hf).mono ?_
  rintro e w'' ⟨nb, fb, k, q1, q2, q3, q4, q5, q6, q7, q8, q9⟩
  exact ⟨nb, fb, _, ⟨k, rfl, q4, q5, q6⟩, q1, q3, q9⟩
 have LS : Hid (∀ w' fb F, LeastF g F -> SBk w' fb F -> Calls Tryz.prog 21 #[.slice (some ⟨fb, 0, none⟩) g.ns.length g.ns.length] w' fun e w'' => ∃ b, e = .returned (.slice (some ⟨b, 0, none⟩) g.ns.length g.ns.length) /\ LLx w'' b (listsU F) g.ns.length /\ w'.heap.size <= b /\ Below w'.heap.size w' w'') := fun w' fb F ⟨k, e1, e2, e3, e4⟩ hS => by
  have := listsOfX_S fb g.ns.length F w' hS (by rw [e4]; have := HN64.out; omega) e3
  rwa [e4] at this
 obtain ⟨x0, x1, x2, x3, x4⟩ := gb_cells X0.out
 have t1 : ((0 : Int) != 0) = false := by decide
 have hfl := fun nb fb w => clm_field (some ⟨nb, 0, none⟩) fb g.ns.length g.ns.length g.ns.length g.ns.length w
 clear h hE ok
 go_enter Tryz.func6, Tryz.ntmps6
 go_wp2_with (first
  | (go_at_call 19; refine CK.out.mono ?_; rintro e w2 ⟨rfl, b2⟩; have B2 : Hid (Below w.heap.size w w2 /\ w2.heap[w.heap.size]? = some (gBox g)) := ⟨(below_alloc w _).trans (b2.mono (below_alloc w _).size), (b2.block _ (lt_of_block X0.out)).trans X0.out⟩; clear b2 x0 x1 x2 x3 x4; obtain ⟨x0, x1, x2, x3, x4⟩ := gb_cells B2.out.2)
  | (go_at_call 22; refine (LC.out _ (HFG.out _ B2.out.1)).mono ?_; rintro e w3 ⟨nb, fb, F, hF, rfl, n3, b3⟩; have B3 : Hid (LeastF g F /\ SBk w3 fb F /\ Below w.heap.size w w3) := ⟨hF, n3, B2.out.1.trans (b3.mono B2.out.1.size)⟩; clear n3 b3 hF)
  | (go_at_call 21; refine (LS.out w3 fb F B3.out.1 B3.out.2.1).mono ?_; rintro e w4 ⟨b, rfl, n4, l4, b4⟩; have B4 : Hid (LLx w4 b (listsU F) g.ns.length /\ w.heap.size <= b /\ Below w.heap.size w w4) := ⟨n4, Nat.le_trans B3.out.2.2.size l4, B3.out.2.2.trans (b4.mono B3.out.2.2.size)⟩; clear n4 l4 b4))
 refine bodyPost_ret (results_tmp2 rfl _ _ _) rfl ?_
 exact ⟨b, F, B3.out.1, rfl, B4.out⟩
theorem followX_ok (g : GV) (w : World) (h : GAt 140737488355328 w g) (hpc : g.ps.length <= g.pc) (at_ : Int) (hE : checkG g (checkF g.ts g.ns) = (0, at_)) :
  Calls Tryz.prog 7 #[g.val] w fun e w' => ∃ b F E, LeastF g F /\ LstW g F E /\ e = .returned (.tuple #[.slice (some ⟨b, 0, none⟩) g.ns.length g.ns.length, .int .i64 0]) /\ LLx w' b (listsU E) g.ns.length /\ w.heap.size <= b /\ Below w.heap.size w w' := by
 have ok : OkC g := OkC.of (by rw [hE])
 have X0 : Hid ((w.alloc (gBox g)).heap[w.heap.size]? = some (gBox g)) := heap_alloc_new _ _
 have CK : Hid (Calls Tryz.prog 19 #[g.val] (w.alloc (gBox g)) fun e w' => e = .returned (.tuple #[.int .i64 0, .int .i64 at_]) /\ Below (w.alloc (gBox g)).heap.size (w.alloc (gBox g)) w') := check_G g _ (h.later (below_alloc _ _)) hpc 0 at_ hE
 have HFG : Hid (∀ w', Below w.heap.size w w' -> FG w' g) := fun w' hb => ok.fg (h.later hb)
 have HN64 : Hid (g.ns.length <= 64) := ok.nl.2
 have LC : Hid (∀ w', FG w' g -> Calls Tryz.prog 23 #[g.val] w' fun e w'' => ∃ eb F E, LeastF g F /\ LstW g F E /\ e = .returned (.slice (some ⟨eb, 0, none⟩) g.ns.length g.ns.length) /\ SBk w'' eb E /\ Below w'.heap.size w' w'') := fun w' hf => follows_S g w' hf ok.st
 have LS : Hid (∀ w' fb F E, LstW g F E -> SBk w' fb E -> Calls Tryz.prog 21 #[.slice (some ⟨fb, 0, none⟩) g.ns.length g.ns.length] w' fun e w'' => ∃ b, e = .returned (.slice (some ⟨b, 0, none⟩) g.ns.length g.ns.length) /\ LLx w'' b (listsU E) g.ns.length /\ w'.heap.size <= b /\ Below w'.heap.size w' w'') := fun w' fb F E hE hS => by
  have := listsOfX_S fb g.ns.length E w' hS (by rw [hE.len]; have := HN64.out; omega) hE.ok
  rwa [hE.len] at this
 obtain ⟨x0, x1, x2, x3, x4⟩ := gb_cells X0.out
 have t1 : ((0 : Int) != 0) = false := by decide
 clear h hE ok
 go_enter Tryz.func7, Tryz.ntmps7
 go_wp2_with (first
  | (go_at_call 19; refine CK.out.mono ?_; rintro e w2 ⟨rfl, b2⟩; have B2 : Hid (Below w.heap.size w w2 /\ w2.heap[w.heap.size]? = some (gBox g)) := ⟨(below_alloc w _).trans (b2.mono (below_alloc w _).size), (b2.block _ (lt_of_block X0.out)).trans X0.out⟩; clear b2 x0 x1 x2 x3 x4; obtain ⟨x0, x1, x2, x3, x4⟩ := gb_cells B2.out.2)
  | (go_at_call 23; refine (LC.out _ (HFG.out _ B2.out.1)).mono ?_; rintro e w3 ⟨fb, F, E, hF, hE, rfl, n3, b3⟩; have B3 : Hid (LstW g F E /\ SBk w3 fb E /\ Below w.heap.size w w3) := ⟨hE, n3, B2.out.1.trans (b3.mono B2.out.1.size)⟩; have HLF : Hid (LeastF g F) := hF; clear n3 b3 hF hE)
  | (go_at_call 21; refine (LS.out w3 fb F E B3.out.1 B3.out.2.1).mono ?_; rintro e w4 ⟨b, rfl, n4, l4, b4⟩; have B4 : Hid (LLx w4 b (listsU E) g.ns.length /\ w.heap.size <= b /\ Below w.heap.size w w4) := ⟨n4, Nat.le_trans B3.out.2.2.size l4, B3.out.2.2.trans (b4.mono B3.out.2.2.size)⟩; clear n4 l4 b4))
 refine bodyPost_ret (results_tmp2 rfl _ _ _) rfl ?_
 exact ⟨b, F, E, HLF.out, B3.out.1, rfl, B4.out⟩
end Go.Proofs.YtldomigddgaabaaGreat
