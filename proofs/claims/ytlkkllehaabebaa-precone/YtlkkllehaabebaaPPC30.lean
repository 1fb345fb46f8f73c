import Derived.Test.YtlkkllehaabebaaPPC29
namespace Go.Proofs.Ytlkkllehaabebaa
set_option linter.unusedVariables false
set_option maxRecDepth 100000
set_option maxHeartbeats 16000000
open Go.RowKit Go.Maps
theorem precOne_walk (g : GV) (q : CV) (w : World) (h : GAt 140737488355328 w g) (hpc : g.ps.length <= g.pc) (hl : q.red.length <= 140737488355328) (hr : InRow w q.ra q.red) :
  Calls Try.prog 5 #[g.val, q.val] w fun e w' => e = .returned (.bool true) /\ Below w.heap.size w w' := by
 obtain ⟨er, at_, hE⟩ : ∃ er at_, checkG g (checkF g.ts g.ns) = (er, at_) := ⟨_, _, rfl⟩
 by_cases h0 : (rsF g er q).2 = 0
 ·have he : er = 0 := Classical.byContradiction fun hn => by
   unfold rsF at h0
   rw [if_pos hn] at h0
   exact hn h0
  subst he
  have hc : cfE g q = 0 := Classical.byContradiction fun hn => by
   unfold rsF at h0
   rw [if_neg (by simp), if_pos hn] at h0
   exact hn h0
  have ok : OkC g := OkC.of (by rw [hE])
  have hrs : rsF g 0 q = (resU g q.look q.shift q.red, 0) := by simp [rsF, hc]
  have hrl := (cf_ok hc ok).2.2.2.2.1
  rcases one_of ok hc with e | e
  ·exact one_none g q w h hpc hl hr at_ hE (by rw [hrs, e])
  ·have hdl := res_len ok hc
   generalize resU g q.look q.shift q.red = d at *
   obtain ⟨dl, dk, dp, dd, sd, dv⟩ := d
   have hso : ∀ b, ((dd.length : Int) == 0) = b -> b = true -> sd = true := fun b hb hbt => by
    rcases e.some_ with a | a
    ·rw [hbt] at hb
     have h1 : (dd.length : Int) = 0 := by simpa using hb
     have h2 : dd.length ≠ 0 := a
     omega
    ·exact a
   cases sd with
   | false => exact one_shift g q w h hpc hl hr hrl at_ hE dl dk dp dv dd hrs e hdl _ rfl (hso _ rfl)
   | true => exact one_keep g q w h hpc hl hr hrl at_ hE dl dk dp dv dd hrs e hdl _ rfl (hso _ rfl)
 ·exact one_no g q w h hpc hl hr er at_ hE h0
end Go.Proofs.Ytlkkllehaabebaa
