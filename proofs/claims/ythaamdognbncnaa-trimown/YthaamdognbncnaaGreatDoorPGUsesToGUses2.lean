import Derived.Test.YthaamdognbncnaaGreatDoorPFSetToGIn2
namespace Go.Proofs.YthaamdognbncnaaGreatDoor
set_option linter.unusedVariables false
set_option maxRecDepth 100000
set_option maxHeartbeats 16000000
open Go.RowKit
def prCells (l:List (Int×Int)):List Value:=l.flatMap fun q=>[.int .i64 q.1,.int .i64 q.2]
def CL (w:World)(v:Value)(l:List (Int×Int)):Prop:=w.ownsRow 0 120 2 v l.length (prCells l)
theorem infoCore:(Tryz.prog.info? 120).map (fun i=>(i.zero,i.size,i.bytes))=some (some (.agg #[.int .i64 0,.int .i64 0]),2,16):=by kernel_rfl
theorem infoCore_parts:∃ i,Tryz.prog.info? 120=some i/\i.zero=some (.agg #[.int .i64 0,.int .i64 0])/\i.size=2/\i.bytes=16:=by
 have h:=infoCore
 cases e:Tryz.prog.info? 120 with
 | none=>rw [e] at h;cases h
 | some i=>rw [e] at h;simp at h;exact ⟨i,rfl,h⟩
theorem CL.nil (w:World):CL w (.slice none 0 0) []:=World.ownsRow_nil w 0 120 2
theorem CL.kept {w w':World}{v:Value}{l:List (Int×Int)}(h:CL w v l)(hb:∀ k,v.ownBlock=some k->w'.heap[k]?=w.heap[k]?):CL w' v l:=by
 refine ⟨h.1,?_⟩
 rcases h.2 with q | ⟨g,cap,cur,rfl,h1,h2,h3⟩
 ·exact .inl q
 ·exact .inr ⟨g,cap,cur,rfl,h1,(hb g rfl).trans h2,h3⟩
theorem CL.lt {w:World}{v:Value}{l:List (Int×Int)}(h:CL w v l):∀ k,v.ownBlock=some k->k < w.heap.size:=fun k hk=>(World.ownsRow.lt h k hk).2
theorem CL.later {w w':World}{v:Value}{l:List (Int×Int)}(h:CL w v l)(hb:Below w.heap.size w w'):CL w' v l:=h.kept fun k hk=>hb.block k (h.lt k hk)
end Go.Proofs.YthaamdognbncnaaGreatDoor
