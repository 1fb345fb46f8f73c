import Derived.Test.YtfckmbdcfeljiaaDoorOwn
namespace Go.Proofs.YtfckmbdcfeljiaaDoor
set_option linter.unusedVariables false
open Go.RowKit

def sumBytes (s : Int) : List Int := [s / 16777216, s / 65536 % 256, s / 256 % 256, s % 256]
theorem sumBytes_bytes (s : Int) (h0 : 0 ≤ s) (h1 : s ≤ 4294967295) : isBytes (sumBytes s) := by intro x hx; simp [sumBytes] at hx; omega

set_option maxRecDepth 100000 in
set_option maxHeartbeats 400000 in
theorem appsum_any (v : Value) (ys : List Int) (s : Int) (w : World) (h0 : 0 ≤ s) (h1 : s ≤ 4294967295) (hl : ys.length ≤ 140737488355300) (hown : Own w v ys) :
    Calls Tryd.prog 29 #[v, .int .u32 s] w fun e w' => ∃ g N c, e = .returned (.slice (some ⟨g, 0, none⟩) N c) ∧ Own w' (.slice (some ⟨g, 0, none⟩) N c) (ys ++ sumBytes s) ∧ Grew w w' v (.slice (some ⟨g, 0, none⟩) N c) := by
  go_enter Tryd.func29, Tryd.ntmps29
  go_wp2_with (at_builtin; refine wpList_own_append rfl _ _ rfl _ _ rfl (hown.alloc _) (some ⟨w.heap.size, 0, none⟩) 4 (sumBytes s) rfl ?hr no_nil ?hl ?_)
  case hr => exact rowAt_new _ _ _ _ (sumBytes_bytes s h0 h1)
  case hl => simp [sumBytes]; omega
  intro v1 w1 ho1 hg1 hn1
  go_wp2
  go_ret
  obtain ⟨g, N, c, rfl⟩ := own_shape ho1 (fun h => by first | exact hn1 h | (have := hn1.1 h; simp [sumBytes] at this))
  exact ⟨g, N, c, rfl, ho1, (((Grew.refl _ _).alloc _).trans hg1)⟩
end Go.Proofs.YtfckmbdcfeljiaaDoor
