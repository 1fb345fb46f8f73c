import Derived.Test.YtchocojmideleaaGreatDoorGG0
import Derived.Test.YtchocojmideleaaGreatDoorGDec12ToGDec14
import Derived.Test.YtchocojmideleaaGreatDoorGRulesToGIn2
import Derived.Test.YtchocojmideleaaGreatDoorGUses3
namespace Go.Proofs.YtchocojmideleaaGreatDoor
set_option linter.unusedVariables false
open Go.RowKit

/-- A Given that is new. -/
theorem hg_new (B : Nat) (w0 w : World) (hb : Below B w0 w) (hB : B ≤ w.heap.size) : HG B w0 (w.alloc (.cells #[hNil, hNil, hNil, hNil, hNil, hNil, hNil, hNil, hNil, hNil, hNil, hNil, hNil, hNil, hNil, hNil, hNil, hNil, hNil, hNil, hNil, hNil] 42)) w.heap.size (fun _ => hNil) (fun _ => []) 0 0 0 :=
  ⟨hnew w tyG tyG_q, (fun i k hk => by cases hk), hB, hb.trans ((below_alloc w _).mono hB), Nat.le_trans hB (below_alloc w _).size, ⟨(fun e he => by cases he), (fun e he => by cases he), (fun e he => by cases he), (fun _ _ _ _ => rfl)⟩, rfl, rfl, rfl⟩
theorem same_at {g x : GV} (h : SameG g x) (i : Nat) : (x.ps.getD i .none).left = (g.ps.getD i .none).left ∧ (x.ps.getD i .none).right = (g.ps.getD i .none).right := by
  exact ⟨congrArg (·.1) (core_p h i), congrArg (·.2.1) (core_p h i)⟩
theorem same_rules {g x : GV} (h : SameG g x) (n : Int) : rulesU x.ps n x.ps.length = rulesU g.ps n g.ps.length := by
  have hp : x.ps.length = g.ps.length := by simpa using congrArg List.length h.ps
  unfold rulesU
  rw [hp]
  congr 1
  apply List.filter_congr
  intro i _
  rw [(same_at h i).1]
theorem same_usesK {g x : GV} (h : SameG g x) (q : Int × Int) : ∀ k, usesU x.ps q k = usesU g.ps q k
  | 0 => rfl
  | k + 1 => by simp only [usesU, same_usesK h q k, (same_at h k).2]
theorem same_uses {g x : GV} (h : SameG g x) (q : Int × Int) : usesU x.ps q x.ps.length = usesU g.ps q g.ps.length := by
  have hp : x.ps.length = g.ps.length := by simpa using congrArg List.length h.ps
  rw [hp]; exact same_usesK h q _
theorem same_in {g x : GV} (h : SameG g x) (k n : Int) : inG x k n = inG g k n := by
  unfold inG inT inN
  rw [h.ts, h.ns]
end Go.Proofs.YtchocojmideleaaGreatDoor
