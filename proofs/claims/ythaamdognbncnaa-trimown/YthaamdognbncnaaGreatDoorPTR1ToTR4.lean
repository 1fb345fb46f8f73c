import Derived.Test.YthaamdognbncnaaGreatDoorPRegXToFThy2
namespace Go.Proofs.YthaamdognbncnaaGreatDoor
set_option linter.unusedVariables false
set_option maxRecDepth 100000
set_option maxHeartbeats 16000000
open Go.RowKit
def wh1 (t:Bool)(M:List Bool)(s:Int×Int):Bool:=!(decide (s.1=2) && !M.getD s.2.toNat false || decide (s.1=1) && !t)
def wU_ (t:Bool)(M:List Bool)(l:List (Int×Int)):Bool:=l.all (wh1 t M)
def ClM (ps:List PV)(t:Bool)(C:Nat->Prop):Prop:=∀ p∈ps,(∀ s∈p.right,(s.1=2->C s.2.toNat)/\(s.1=1->t=true))->C p.left.toNat
structure MLst (ps:List PV)(n:Nat)(t:Bool)(M:List Bool):Prop where
 len:M.length=n
 clo:∀ p∈ps,wU_ t M p.right=true->M.getD p.left.toNat false=true
 lst:∀ C,ClM ps t C->∀ i,M.getD i false=true->C i
def fU_:List Bool->Nat
 | []=>0
 | b :: l=>(if b then 0 else 1)+fU_ l
theorem falseU_set:∀ (M:List Bool) (i:Nat),i < M.length->M.getD i false=false->fU_ (M.set i true)+1=fU_ M
 | [],i,h,_=>by simp at h
 | b :: l,0,_,h0=>by
  simp only [List.getD_cons_zero] at h0
  subst h0
  simp [fU_,Nat.add_comm]
 | b :: l,i+1,h,h0=>by
  simp only [List.getD_cons_succ] at h0
  have:=falseU_set l i (by simpa using h) h0
  simp only [List.set_cons_succ,fU_]
  omega
def falseC:List Value->Nat
 | []=>0
 | .bool b :: l=>(if b then 0 else 1)+falseC l
 | _ :: l=>falseC l
theorem falseC_map:∀ M:List Bool,falseC (M.map Value.bool)=fU_ M
 | []=>rfl
 | b :: l=>by rw [List.map_cons,falseC,fU_,falseC_map l]
def mesB (b:Nat)(w:World):Nat:=match w.heap[b]? with
 | some (.cells C _ _)=>falseC C.toList
 | _=>0
theorem mesB_of {w:World}{b:Nat}{M:List Bool}(h:BB w b M):mesB b w=fU_ M:=by
 unfold mesB
 rw [show w.heap[b]?=_ from h]
 exact falseC_map M
theorem getD_set_b {M:List Bool}{i j:Nat}{v:Bool}:(M.set i v).getD j false=if i=j/\j < M.length then v else M.getD j false:=by
 simp only [List.getD,List.getElem?_set]
 by_cases h1:i=j
 ·subst h1
  by_cases h2:i < M.length
  ·simp [h2]
  ·simp [h2]
 ·simp [h1]
theorem whole_in {t:Bool}{M:List Bool}{l:List (Int×Int)}(h:wU_ t M l=true):∀ s∈l,(s.1=2->M.getD s.2.toNat false=true)/\(s.1=1->t=true):=fun s hs=>by
 have:=List.all_eq_true.1 h s hs
 unfold wh1 at this
 constructor
 ·intro e
  rw [e] at this
  cases q:M.getD s.2.toNat false
  ·rw [q] at this;simp at this
  ·rfl
 ·intro e
  rw [e] at this
  cases t
  ·simp at this
  ·rfl
theorem sound_set {ps:List PV}{t:Bool}{M:List Bool}{p:PV}(hp:p∈ps)(hM:∀ C,ClM ps t C->∀ i,M.getD i false=true->C i)(hw:wU_ t M p.right=true):∀ C,ClM ps t C->∀ i,(M.set p.left.toNat true).getD i false=true->C i:=fun C hC i hi=>by
 rw [getD_set_b] at hi
 split at hi
 ·rename_i q
  rw [<- q.1]
  exact hC p hp fun s hs=>⟨fun e=>hM C hC _ ((whole_in hw s hs).1 e),(whole_in hw s hs).2⟩
 ·exact hM C hC i hi
def tOf:Value->Nat
 | .bool true=>1
 | _=>0
structure MW (g:GV)(t:Bool)(w:World)(mb:Nat)(M:List Bool)(wr:World):Prop where
 len:M.length=g.ns.length
 lst:∀ C,ClM g.ps t C->∀ i,M.getD i false=true->C i
 bb:BB wr mb M
 box:wr.heap[w.heap.size]?=some (gBox g)
 bel:Below w.heap.size w wr
theorem MW.set {g:GV}{t:Bool}{w wr:World}{mb:Nat}{M:List Bool}(h:MW g t w mb M wr){p:PV}(hp:p∈g.ps)(hw:wU_ t M p.right=true)(hmb:w.heap.size < mb):MW g t w mb (M.set p.left.toNat true) (wr.setCell ⟨mb,p.left.toNat,none⟩ (.bool true)) :=
 ⟨by rw [List.length_set];exact h.len,sound_set hp h.lst hw,h.bb.set _ _,(Below.heap_setCell _ _ _ _ (by show w.heap.size≠mb;omega)).trans h.box,h.bel.setCell (p:=⟨mb,p.left.toNat,none⟩) (by show w.heap.size<=mb;omega) _⟩
structure GB (g:GV)(w wr:World):Prop where
 at_:GAt 140737488355328 wr g
 g0:wr.cell? ⟨w.heap.size,0,none⟩=some (.slice g.ta g.ts.length g.tc)
 g1:wr.cell? ⟨w.heap.size,1,none⟩=some (.slice g.na g.ns.length g.nc)
 g2:wr.cell? ⟨w.heap.size,2,none⟩=some (.int .i64 g.start)
 g3:wr.cell? ⟨w.heap.size,3,none⟩=some (.slice g.pa g.ps.length g.pc)
 g4:wr.cell? ⟨w.heap.size,4,none⟩=some (.slice g.la g.ls.length g.lc)
 lt0:w.heap.size < wr.heap.size
theorem GB.new {g:GV}{w:World}(h:GAt 140737488355328 w g){t:TypeId}:GB g w (w.alloc (.cells #[.slice g.ta g.ts.length g.tc,.slice g.na g.ns.length g.nc,.int .i64 g.start,.slice g.pa g.ps.length g.pc,.slice g.la g.ls.length g.lc] t)):=by
 have e1:=heap_alloc_new w (.cells #[.slice g.ta g.ts.length g.tc,.slice g.na g.ns.length g.nc,.int .i64 g.start,.slice g.pa g.ps.length g.pc,.slice g.la g.ls.length g.lc] t)
 refine ⟨h.later (bAl w _),?_,?_,?_,?_,?_,lt_of_block e1⟩
 ·rw [cQa e1];rfl
 ·rw [cQa e1];rfl
 ·rw [cQa e1];rfl
 ·rw [cQa e1];rfl
 ·rw [cQa e1];rfl
theorem GB.later {g:GV}{w wr w':World}(h:GB g w wr)(hb:Below wr.heap.size wr w'):GB g w w':=by
 have e0:∀ j,w'.cell? ⟨w.heap.size,j,none⟩=wr.cell? ⟨w.heap.size,j,none⟩:=fun j=>hb.cell (p:=⟨w.heap.size,j,none⟩) h.lt0
 exact ⟨h.at_.later hb,(e0 0).trans h.g0,(e0 1).trans h.g1,(e0 2).trans h.g2,(e0 3).trans h.g3,(e0 4).trans h.g4,Nat.lt_of_lt_of_le h.lt0 hb.size⟩
def offU (v:Bool)(M:List Bool)(k:Nat):List Int:=((List.range k).filter fun i=>decide (M.getD i false=v)).map fun (i:Nat)=>(i:Int)
theorem offU_succ (v:Bool)(M:List Bool)(k:Nat):offU v M (k+1)=if M.getD k false=v then offU v M k++[(k:Int)] else offU v M k:=by
 unfold offU
 rw [List.range_succ,List.filter_append,List.map_append]
 by_cases h:M.getD k false=v
 ·have e:List.filter (fun i=>decide (M.getD i false=v)) [k]=[k]:=by rw [List.filter_cons,if_pos (decide_eq_true h)];rfl
  rw [if_pos h,e];rfl
 ·have e:List.filter (fun i=>decide (M.getD i false=v)) [k]=[]:=by rw [List.filter_cons,if_neg (by rw [decide_eq_false h];decide)];rfl
  rw [if_neg h,e];simp
theorem offU_len (v:Bool)(M:List Bool)(k:Nat):(offU v M k).length<=k:=by
 unfold offU
 rw [List.length_map]
 exact Nat.le_trans (List.length_filter_le _ _) (by simp)
def ClR (g:GV)(Ct Cn:Nat->Prop):Prop:=Cn g.start.toNat/\∀ p∈g.ps,Cn p.left.toNat->∀ s∈p.right,(s.1=1->Ct s.2.toNat)/\(s.1=2->Cn s.2.toNat)
def InM (T N:List Bool)(s:Int×Int):Prop:=(s.1=1->T.getD s.2.toNat false=true)/\(s.1=2->N.getD s.2.toNat false=true)
structure RLst (g:GV)(T N:List Bool):Prop where
 tl:T.length=g.ts.length
 nl:N.length=g.ns.length
 st:N.getD g.start.toNat false=true
 clo:∀ p∈g.ps,N.getD p.left.toNat false=true->∀ s∈p.right,InM T N s
 lst:∀ Ct Cn,ClR g Ct Cn->(∀ i,N.getD i false=true->Cn i)/\(∀ i,T.getD i false=true->Ct i)
structure RW (g:GV)(w:World)(T N:List Bool)(wr:World):Prop where
 tl:T.length=g.ts.length
 nl:N.length=g.ns.length
 st:N.getD g.start.toNat false=true
 lst:∀ Ct Cn,ClR g Ct Cn->(∀ i,N.getD i false=true->Cn i)/\(∀ i,T.getD i false=true->Ct i)
 tb:BB wr (w.heap.size+1) T
 nb:BB wr (w.heap.size+1+1) N
 box:wr.heap[w.heap.size]?=some (gBox g)
 bel:Below w.heap.size w wr
theorem RW.any {g:GV}{w wr w':World}{T N:List Bool}(h:RW g w T N wr)(hb:Below wr.heap.size wr w'):RW g w T N w' :=
 ⟨h.tl,h.nl,h.st,h.lst,h.tb.later hb,h.nb.later hb,(hb.block _ (lt_of_block h.box)).trans h.box,h.bel.trans (hb.mono h.bel.size)⟩
theorem set_true {M:List Bool}{i j:Nat}(h:M.getD j false=true):(M.set i true).getD j false=true:=by
 rw [getD_set_b]
 split
 ·rfl
 ·exact h
theorem set_self {M:List Bool}{i:Nat}(h:i < M.length):(M.set i true).getD i false=true:=by
 rw [getD_set_b,if_pos ⟨rfl,h⟩]
theorem RW.setT {g:GV}{w wr:World}{T N:List Bool}(h:RW g w T N wr){p:PV}(hp:p∈g.ps)(hl:N.getD p.left.toNat false=true){s:Int×Int}(hs:s∈p.right)(h1:s.1=1):RW g w (T.set s.2.toNat true) N (wr.setCell ⟨w.heap.size+1,s.2.toNat,none⟩ (.bool true)) :=
 ⟨by rw [List.length_set];exact h.tl,h.nl,h.st,fun Ct Cn hC=>⟨(h.lst Ct Cn hC).1,fun i hi=>by
  rw [getD_set_b] at hi
  split at hi
  ·rename_i q
   rw [<- q.1]
   exact (hC.2 p hp ((h.lst Ct Cn hC).1 _ hl) s hs).1 h1
  ·exact (h.lst Ct Cn hC).2 i hi⟩,h.tb.set _ _,h.nb.kept (Below.heap_setCell _ _ _ _ (by show w.heap.size+1+1≠w.heap.size+1;omega)),(Below.heap_setCell _ _ _ _ (by show w.heap.size≠w.heap.size+1;omega)).trans h.box,h.bel.setCell (p:=⟨w.heap.size+1,s.2.toNat,none⟩) (by show w.heap.size<=w.heap.size+1;omega) _⟩
theorem RW.setN {g:GV}{w wr:World}{T N:List Bool}(h:RW g w T N wr){p:PV}(hp:p∈g.ps)(hl:N.getD p.left.toNat false=true){s:Int×Int}(hs:s∈p.right)(h1:s.1=2):RW g w T (N.set s.2.toNat true) (wr.setCell ⟨w.heap.size+1+1,s.2.toNat,none⟩ (.bool true)) :=
 ⟨h.tl,by rw [List.length_set];exact h.nl,set_true h.st,fun Ct Cn hC=>⟨fun i hi=>by
  rw [getD_set_b] at hi
  split at hi
  ·rename_i q
   rw [<- q.1]
   exact (hC.2 p hp ((h.lst Ct Cn hC).1 _ hl) s hs).2 h1
  ·exact (h.lst Ct Cn hC).1 i hi,(h.lst Ct Cn hC).2⟩,h.tb.kept (Below.heap_setCell _ _ _ _ (by show w.heap.size+1≠w.heap.size+1+1;omega)),h.nb.set _ _,(Below.heap_setCell _ _ _ _ (by show w.heap.size≠w.heap.size+1+1;omega)).trans h.box,h.bel.setCell (p:=⟨w.heap.size+1+1,s.2.toNat,none⟩) (by show w.heap.size<=w.heap.size+1+1;omega) _⟩
theorem rep_no {n i:Nat}:(List.replicate n false).getD i false=false:=by
 simp [List.getD,List.getElem?_replicate];split<;>rfl
theorem RW.first (g:GV)(w:World)(m:Nat)(hm:g.start.toNat=m)(hl:m < g.ns.length):RW g w (List.replicate g.ts.length false) ((List.replicate g.ns.length false).set m true) (((w.alloc (gBox g)).alloc (.cells (madeCells #[.bool false] g.ts.length) 4)).alloc (.cells ((madeCells #[.bool false] g.ns.length).setIfInBounds m (.bool true)) 4)):=by
 have b1:=bAl w (gBox g)
 have z1:(w.alloc (gBox g)).heap.size=w.heap.size+1:=by simp
 have X1:(w.alloc (gBox g)).heap[w.heap.size]?=some (gBox g):=heap_alloc_new _ _
 generalize w.alloc (gBox g)=w1 at *
 have b2:=bAl w1 (.cells (madeCells #[.bool false] g.ts.length) 4)
 have z2:(w1.alloc (.cells (madeCells #[.bool false] g.ts.length) 4)).heap.size=w.heap.size+1+1:=by simp [z1]
 have X2:=BB.made w1 g.ts.length
 generalize w1.alloc (.cells (madeCells #[.bool false] g.ts.length) 4)=w2 at *
 have b3:=bAl w2 (.cells ((madeCells #[.bool false] g.ns.length).setIfInBounds m (.bool true)) 4)
 have X3:BB (w2.alloc (.cells ((madeCells #[.bool false] g.ns.length).setIfInBounds m (.bool true)) 4)) w2.heap.size ((List.replicate g.ns.length false).set m true):=by
  unfold BB
  rw [heap_alloc_new,made_listF,List.setIfInBounds_toArray,List.map_set,List.map_replicate]
 generalize w2.alloc (.cells ((madeCells #[.bool false] g.ns.length).setIfInBounds m (.bool true)) 4)=w3 at *
 rw [z1] at X2 b2
 rw [z2] at X3 b3
 refine ⟨by simp,by simp,by rw [hm];exact set_self (by simpa using hl),fun Ct Cn hC=>⟨fun i hi=>?_,fun i hi=>?_⟩,?_,X3,?_,?_⟩
 ·rw [getD_set_b] at hi
  split at hi
  ·rename_i q
   rw [<- q.1,<- hm]
   exact hC.1
  ·rw [rep_no] at hi;cases hi
 ·rw [rep_no] at hi;cases hi
 ·exact X2.later (by rw [z2];exact b3)
 ·exact (b3.block _ (by omega)).trans ((b2.block _ (by omega)).trans X1)
 ·exact (b1.trans (b2.mono (by omega))).trans (b3.mono (by omega))
def CloK (g:GV)(T N:List Bool)(k:Nat):Prop:=∀ j,j < k->N.getD (g.ps.getD j .none).left.toNat false=true->∀ s∈(g.ps.getD j .none).right,InM T N s
theorem InM.more {T N:List Bool}{s:Int×Int}(h:InM T N s)(i:Nat):InM (T.set i true) N s:=⟨fun e=>set_true (h.1 e),h.2⟩
theorem CloK.more {g:GV}{T N:List Bool}{k:Nat}(h:CloK g T N k)(i:Nat):CloK g (T.set i true) N k:=fun j hj hl s hs=>(h j hj hl s hs).more i
end Go.Proofs.YthaamdognbncnaaGreatDoor
