import Derived.Test.YtfckmbdcfeljiaaDoorOwn
namespace Go.Proofs.YtfckmbdcfeljiaaDoor
set_option linter.unusedVariables false
open Go.RowKit

set_option maxRecDepth 100000 in
theorem clone_nil (w : World) :
    Calls Tryd.prog 27 #[.slice none 0 0] w fun e w' => e = .returned (.slice none 0 0) ∧ w' = w := by
  have hne := fun wx a n c => Lib.run_eql_slice_nil (P := Tryd.prog) (w := wx) 22 5 a n c 0 0 Tryd.underlying22
  go_enter Tryd.func27, Tryd.ntmps27
  go_wp2
  go_ret
  exact ⟨rfl, rfl⟩

theorem own_made (w : World) : Own (w.alloc (.cells #[] 5)) (.slice (some ⟨w.heap.size, 0, none⟩) 0 0) [] := ⟨isBytes_nil, World.ownsRow_made w #[] 0 (Nat.zero_le _) (Nat.zero_le _) rfl⟩

set_option maxRecDepth 100000 in
set_option maxHeartbeats 400000 in
/-- bytes.Clone of a slice that is not nil: a row of the call's own, not nil, in a new block. -/
theorem clone_some (ad : Addr) (cap : Nat) (xs : List Int) (w : World) (hl : xs.length ≤ 140737488355328) (hr : RowAt w (some ad) xs) :
    Calls Tryd.prog 27 #[.slice (some ad) xs.length cap] w fun e w' => ∃ g c, e = .returned (.slice (some ⟨g, 0, none⟩) xs.length c) ∧ Own w' (.slice (some ⟨g, 0, none⟩) xs.length c) xs ∧ w.heap.size ≤ g ∧ Below w.heap.size w w' := by
  have hne := fun wx a n c => Lib.run_eql_slice_nil (P := Tryd.prog) (w := wx) 22 5 a n c 0 0 Tryd.underlying22
  go_enter Tryd.func27, Tryd.ntmps27
  go_wp2_with (at_builtin; refine wpList_own_append rfl _ _ rfl _ [] rfl (own_made w) (some ad) cap xs rfl (hr.later (below_alloc _ _)) (fun h => by cases h) (by simp; omega) ?_)
  intro v' w1 hown hgrow hnil
  go_wp2
  go_ret
  have hsz : w.heap.size ≤ w1.heap.size := by have := hgrow.grown.size; simp at this; omega
  have hbel : Below w.heap.size w w1 := (below_alloc w _).trans (grew_below hgrow (by simp) (fun k hk => by simp [Value.ownBlock] at hk; omega))
  rcases hown.2.2 with ⟨rfl, _⟩ | ⟨g, cap, cur, rfl, _⟩
  · simp at hnil
  · refine ⟨g, cap, by simp, by simpa using hown, ?_, hbel⟩
    rcases hgrow.moved with e | ⟨k, e, hk⟩
    · simp [Value.ownBlock] at e; omega
    · simp [Value.ownBlock] at e hk; omega
end Go.Proofs.YtfckmbdcfeljiaaDoor
