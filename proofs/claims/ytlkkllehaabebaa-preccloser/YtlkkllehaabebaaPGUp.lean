import Derived.Test.YtlkkllehaabebaaPGOkToSCheckR
namespace Go.Proofs.Ytlkkllehaabebaa
set_option linter.unusedVariables false
set_option maxRecDepth 100000
set_option maxHeartbeats 16000000
open Go.RowKit
theorem checkG_of {g : GV} {nm : Int × Int} (tl : 1 <= g.ts.length /\ g.ts.length <= 64) (nl : 1 <= g.ns.length /\ g.ns.length <= 64) (hn : nm.1 = 0) (st : inN g g.start = true) (pl : 1 <= g.ps.length /\ g.ps.length <= 256) (ps : ∀ i, i < g.ps.length -> prodU g i = 0) (ll : g.ls.length <= 32) (ls : ∀ i, i < g.ls.length -> levelU g i = 0) : checkG g nm = (0, 0) := by
 have hp := firstU_none ps
 have hl := firstU_none ls
 unfold checkG
 rw [if_neg (by omega), if_neg (by omega), if_neg (by simpa using hn), if_neg (by simp [st]), if_neg (by omega), if_neg (by rw [hp]; simp), if_neg (by omega), hl]
end Go.Proofs.Ytlkkllehaabebaa
