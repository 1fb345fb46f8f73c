import Derived.Test.YtfgdpmcpjpceoaaPFThyToFSame
namespace Go.Proofs.Ytfgdpmcpjpceoaa
set_option linter.unusedVariables false
set_option maxRecDepth 100000
set_option maxHeartbeats 16000000
open Go.RowKit
theorem heights_ok (g : GV) (w : World) (h : GAt 140737488355328 w g) (hpc : g.ps.length <= g.pc) (at_ : Int) (hE : checkG g (checkF g.ts g.ns) = (0, at_)) :
  Calls Try.prog 13 #[g.val] w fun e w' => ∃ kb, e = .returned (.tuple #[.slice (some ⟨kb, 0, none⟩) g.ns.length g.ns.length, .int .i64 0]) /\ KB w' kb (htU g.ps g.ns.length g.ns.length) /\ w.heap.size <= kb /\ Below w.heap.size w w' := by
 have ok : OkC g := OkC.of (by rw [hE])
 have X0 : Hid ((w.alloc (gBox g)).heap[w.heap.size]? = some (gBox g)) := heap_alloc_new _ _
 have CK : Hid (Calls Try.prog 19 #[g.val] (w.alloc (gBox g)) fun e w' => e = .returned (.tuple #[.int .i64 0, .int .i64 at_]) /\ Below (w.alloc (gBox g)).heap.size (w.alloc (gBox g)) w') := check_G g _ (h.later (below_alloc _ _)) hpc 0 at_ hE
 have HFG : Hid (∀ w', Below w.heap.size w w' -> FG w' g) := fun w' hb => ok.fg (h.later hb)
 obtain ⟨x0, x1, x2, x3, x4⟩ := gb_cells X0.out
 have t1 : ((0 : Int) != 0) = false := by decide
 clear h hE ok
 go_enter Try.func13, Try.ntmps13
 go_wp2_with (first
  | (go_at_call 19; refine CK.out.mono ?_; rintro e w2 ⟨rfl, b2⟩; have B2 : Hid (Below w.heap.size w w2 /\ w2.heap[w.heap.size]? = some (gBox g)) := ⟨(below_alloc w _).trans (b2.mono (below_alloc w _).size), (b2.block _ (lt_of_block X0.out)).trans X0.out⟩; clear b2 x0 x1 x2 x3 x4; obtain ⟨x0, x1, x2, x3, x4⟩ := gb_cells B2.out.2)
  | (go_at_call 35; refine (heights_S g _ (HFG.out _ B2.out.1)).mono ?_; rintro e w3 ⟨nb, rfl, n3, l3, b3⟩; have B3 : Hid (KB w3 nb (htU g.ps g.ns.length g.ns.length) /\ w.heap.size <= nb /\ Below w.heap.size w w3) := ⟨n3, Nat.le_trans B2.out.1.size l3, B2.out.1.trans (b3.mono B2.out.1.size)⟩; clear n3 l3 b3))
 refine bodyPost_ret (results_tmp2 rfl _ _ _) rfl ?_
 exact ⟨nb, rfl, B3.out⟩
end Go.Proofs.Ytfgdpmcpjpceoaa
