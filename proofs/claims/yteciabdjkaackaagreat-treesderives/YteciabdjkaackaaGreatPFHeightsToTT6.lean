import Derived.Laws.StructEq
import Derived.ChangeKeysEq
import Derived.RegionTactic
import Derived.BigRegion
import Derived.Test.YteciabdjkaackaaGreatPGOkToGCheckR
import Derived.RangeFuncNested
import Derived.RangeFuncLeaves
import Derived.Shelf.Abstract
import Derived.OwnWalkIn
import Derived.TacticsInMore
import Derived.LoopNIn
import Derived.LoopIn
import Derived.RangeFuncCalls
import Derived.Test.YteciabdjkaackaaGreatPTT2ToRegX
import Derived.Lib.SliceRun
namespace Go.Proofs.YteciabdjkaackaaGreat
set_option linter.unusedVariables false
open Go.RowKit
def BB (w:World)(b:Nat)(L:List Bool):Prop:=w.heap[b]?=some (.cells (L.map Value.bool).toArray 4 (0,0))
def setCells (F:List BS):List Value:=F.flatMap fun s=>[.int .u64 (s.1:Int),.int .u64 (s.2:Int)]
abbrev cv (na:Option Addr)(N:List Bool)(nc fb:Nat)(fc:Nat):Value:=.agg #[.slice na N.length nc,.slice (some ⟨fb,0,none⟩) N.length fc]
open Go.RowKit Go.Shelf
section
variable {P:Program} {ops:Array Oper} {Q:Exit->Act->World->Prop} {md:Region.Mode} {S:Array Bool->World->Prop}
theorem set_comm (L:Array Bool)(i j:Nat):(L.setIfInBounds i true).setIfInBounds j true=(L.setIfInBounds j true).setIfInBounds i true:=by
 by_cases h:i=j
 ·rw [h]
 ·exact Array.setIfInBounds_comm _ _ h
end
def flCells (x:SP):List Value:=[.int .i64 x.t.prod,.int .i64 x.t.kind,.string x.t.tx,.int .i64 (x.t.kids.length:Int)]
theorem rkFlat:RK 128 86 4 flCells:=by
 refine ⟨Tryz.underlying86,?_,by decide,fun _=>rfl,fun x u hu=>?_⟩
 ·have h:(Tryz.prog.info? 128).map (fun i=>(i.zero,i.size,i.bytes))=some (some (.agg #[.int .i64 0,.int .i64 0,.string ByteArray.empty,.int .i64 0]),4,40):=by kernel_rfl
  cases e:Tryz.prog.info? 128 with
  | none=>rw [e] at h;cases h
  | some i =>
   rw [e] at h
   simp at h
   exact ⟨i,_,rfl,h.1,h.2.1,by rw [h.2.2];decide,rfl⟩
 ·simp [flCells] at hu
  rcases hu with rfl | rfl | rfl | rfl<;>rfl
abbrev FLo:=RO 128 4 flCells
end Go.Proofs.YteciabdjkaackaaGreat
