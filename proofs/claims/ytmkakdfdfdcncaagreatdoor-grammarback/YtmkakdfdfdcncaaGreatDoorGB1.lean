import Derived.Test.YtmkakdfdfdcncaaGreatDoorGE10
import Derived.Test.YtmkakdfdfdcncaaGreatDoorGBG
import Derived.Test.YtmkakdfdfdcncaaGreatDoorGSmallToGAlive2
import Derived.Test.YtmkakdfdfdcncaaGreatDoorGUsesToGSum
import Derived.Test.YtmkakdfdfdcncaaGreatDoorSameToSums0
namespace Go.Proofs.YtmkakdfdfdcncaaGreatDoor
set_option linter.unusedVariables false
open Go.RowKit

/-- Encode, in one form. -/
theorem enc_any (g : GV) (w : World) (h : GAt 140737488355328 w g) (hpc : g.ps.length ≤ g.pc) (hm : C.Magic w) (er at_ : Int) (hE : checkG g (checkF g.ts g.ns) = (er, at_)) :
    Calls Tryz.prog 19 #[g.val] w fun e w' => ∃ a N c, e = .returned (.tuple #[.slice a N c, .int .i64 er]) ∧ Below w.heap.size w w' ∧ (er = 0 → C.RowAt w' a (C.frame 1 (encG g)) ∧ N = (C.frame 1 (encG g)).length ∧ N ≤ c ∧ N ≤ 140737488355328) := by
  by_cases h0 : er = 0
  · subst h0
    have ok : OkC g := OkC.of (by rw [hE])
    refine (encode_ok g w (h.ok ok) hpc at_ hE ok.okg hm).mono ?_
    rintro e w' ⟨gg, N, c, rfl, ho, _, hb⟩
    obtain ⟨a, c', e1, _, hr⟩ := C.Own.row ho
    have hc := C.own_cap ho
    cases e1
    have l1 := gframe_len 1 (encG g)
    have l2 := ok.enc_len
    exact ⟨_, _, _, rfl, hb, fun _ => ⟨hr, rfl, by omega, by omega⟩⟩
  · refine (encode_no g w h hpc er at_ hE h0).mono ?_
    rintro e w' ⟨rfl, hb⟩
    exact ⟨_, _, _, rfl, hb, fun h => absurd h h0⟩
/-- What Decode took lies right. -/
theorem dec_at {xs : List Int} (hb : C.isBytes xs) (h : (decE xs).1 = 0) {y : GV} (hy : y.core = (decG xs).1) {B : Nat} {w : World} (hd : DG B w y) : GAt 1048576 w y ∧ y.ps.length ≤ y.pc := by
  obtain ⟨_, _, at_, hC⟩ := dec_good xs hb h y hy
  have ok : OkC y := OkC.of (by rw [hC])
  exact hd.at (g := y) ⟨rfl, rfl, rfl, rfl, rfl⟩ ok.okd
end Go.Proofs.YtmkakdfdfdcncaaGreatDoor
