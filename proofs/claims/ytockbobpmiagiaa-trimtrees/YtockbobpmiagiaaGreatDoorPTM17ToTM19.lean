import Derived.Test.YtockbobpmiagiaaGreatDoorPTM13ToTM16
import Derived.Test.YtockbobpmiagiaaGreatDoorPRRowToRegS
namespace Go.Proofs.YtockbobpmiagiaaGreatDoor
set_option linter.unusedVariables false
set_option maxRecDepth 100000
set_option maxHeartbeats 16000000
open Go.RowKit Go.Shelf
def gF (g:GV)(C:PV->Bool):GV:={ g with ps:=g.ps.filter C }
theorem gF_all (g:GV):gF g (fun _=>true)=g:=by
 have e:g.ps.filter (fun _=>true)=g.ps:=List.filter_eq_self.2 fun _ _=>rfl
 show { g with ps:=g.ps.filter (fun _=>true) }=g
 rw [e]
theorem set_sameT {M:List Bool}{i:Nat}(h:M.getD i false=true):M.set i true=M:=by
 apply List.ext_getElem?
 intro j
 rw [List.getElem?_set]
 split
 ·rename_i e
  subst e
  split
  ·rename_i hl
   rw [List.getD_eq_getElem?_getD,List.getElem?_eq_getElem hl] at h
   rw [List.getElem?_eq_getElem hl]
   simpa using h.symm
  ·rename_i hl
   rw [List.getElem?_eq_none (by omega)]
 ·rfl
structure RP (g:GV)(C:PV->Bool)(w:World)(vb cb tb nb:Nat)(cv:Value)(T N:List Bool)(wr:World):Prop where
 tl:T.length=g.ts.length
 nl:N.length=g.ns.length
 st:N.getD g.start.toNat false=true
 lst:∀ Ct Cn,ClR (gF g C) Ct Cn->(∀ i,N.getD i false=true->Cn i)/\(∀ i,T.getD i false=true->Ct i)
 bt:BB wr tb T
 bn:BB wr nb N
 var:wr.heap[vb]?=some (.cells #[.slice (some ⟨tb,0,none⟩) g.ts.length g.ts.length,.slice (some ⟨nb,0,none⟩) g.ns.length g.ns.length] 86)
 cnt:wr.heap[cb]?=some (.cells #[cv] 88)
 ord:(w.heap.size<=tb/\w.heap.size<=nb/\tb≠nb)/\(vb≠tb/\vb≠nb)/\cb≠tb/\cb≠nb
 bel:Below w.heap.size w wr
section
variable {g:GV} {C:PV->Bool} {w wr w':World} {vb cb tb nb:Nat} {cv:Value} {T N:List Bool}
theorem RP.any (h:RP g C w vb cb tb nb cv T N wr)(hb:Below wr.heap.size wr w'):RP g C w vb cb tb nb cv T N w' :=
 ⟨h.tl,h.nl,h.st,h.lst,h.bt.later hb,h.bn.later hb,(hb.block _ (lt_of_block h.var)).trans h.var,(hb.block _ (lt_of_block h.cnt)).trans h.cnt,h.ord,h.bel.trans (hb.mono h.bel.size)⟩
theorem RP.setT (h:RP g C w vb cb tb nb cv T N wr){p:PV}(hp:p∈g.ps)(hc:C p=true)(hl:N.getD p.left.toNat false=true){s:Int×Int}(hs:s∈p.right)(h1:s.1=1){i:Nat}(hi:s.2.toNat=i):RP g C w vb cb tb nb cv (T.set i true) N (wr.setCell ⟨tb,i,none⟩ (.bool true)) :=
 ⟨by rw [List.length_set];exact h.tl,h.nl,h.st,fun Ct Cn hC=>⟨(h.lst Ct Cn hC).1,fun j hj=>by
  rw [getD_set_b] at hj
  split at hj
  ·rename_i q
   rw [<- q.1,<- hi]
   exact (hC.2 p (List.mem_filter.2 ⟨hp,hc⟩) ((h.lst Ct Cn hC).1 _ hl) s hs).1 h1
  ·exact (h.lst Ct Cn hC).2 j hj⟩,h.bt.set _ _,h.bn.kept (Below.heap_setCell _ _ _ _ (fun e=>h.ord.1.2.2 e.symm)),(Below.heap_setCell _ _ _ _ h.ord.2.1.1).trans h.var,(Below.heap_setCell _ _ _ _ h.ord.2.2.1).trans h.cnt,h.ord,h.bel.setCell (p:=⟨tb,i,none⟩) h.ord.1.1 _⟩
theorem RP.setN (h:RP g C w vb cb tb nb cv T N wr){p:PV}(hp:p∈g.ps)(hc:C p=true)(hl:N.getD p.left.toNat false=true){s:Int×Int}(hs:s∈p.right)(h1:s.1=2){i:Nat}(hi:s.2.toNat=i):RP g C w vb cb tb nb cv T (N.set i true) (wr.setCell ⟨nb,i,none⟩ (.bool true)) :=
 ⟨h.tl,by rw [List.length_set];exact h.nl,set_true h.st,fun Ct Cn hC=>⟨fun j hj=>by
  rw [getD_set_b] at hj
  split at hj
  ·rename_i q
   rw [<- q.1,<- hi]
   exact (hC.2 p (List.mem_filter.2 ⟨hp,hc⟩) ((h.lst Ct Cn hC).1 _ hl) s hs).2 h1
  ·exact (h.lst Ct Cn hC).1 j hj,(h.lst Ct Cn hC).2⟩,h.bt.kept (Below.heap_setCell _ _ _ _ h.ord.1.2.2),h.bn.set _ _,(Below.heap_setCell _ _ _ _ h.ord.2.1.2).trans h.var,(Below.heap_setCell _ _ _ _ h.ord.2.2.2).trans h.cnt,h.ord,h.bel.setCell (p:=⟨nb,i,none⟩) h.ord.1.2.1 _⟩
end
def RsO (g:GV)(C:PV->Bool)(w:World)(vb cb tb nb:Nat)(cv:Value)(T N:List Bool)(p:PV)(e:Ending)(w':World):Prop:=∃ (bo:Bool) (T2 N2:List Bool),e=.returned (.bool bo)/\RP g C w vb cb tb nb cv T2 N2 w'/\fU_ T2+fU_ N2+(if bo then 1 else 0)<=fU_ T+fU_ N/\(bo=false->T2=T/\N2=N/\(C p=true->N.getD p.left.toNat false=true->∀ s∈p.right,InM T N s))
def AdO (g:GV)(C:PV->Bool)(w:World)(vb cb tb nb:Nat)(cv:Value)(T N:List Bool)(s:Int×Int)(e:Ending)(w':World):Prop:=∃ (bo:Bool) (T2 N2:List Bool),e=.returned (.bool bo)/\RP g C w vb cb tb nb cv T2 N2 w'/\fU_ T2+fU_ N2+(if bo then 1 else 0)<=fU_ T+fU_ N/\(bo=false->T2=T/\N2=N/\InM T N s)/\∀ j,N.getD j false=true->N2.getD j false=true
theorem RP.addS {g:GV}{C:PV->Bool}{w wr:World}{vb cb tb nb:Nat}{cv:Value}{T N:List Bool}(hfg:FG wr g)(h:RP g C w vb cb tb nb cv T N wr){p:PV}(hp:p∈g.ps)(hc:C p=true)(hl:N.getD p.left.toNat false=true){s:Int×Int}(hs:s∈p.right) :
  Calls Tryz.prog 61 #[.agg #[.slice (some ⟨tb,0,none⟩) g.ts.length g.ts.length,.slice (some ⟨nb,0,none⟩) g.ns.length g.ns.length],.agg #[.int .i64 s.1,.int .i64 s.2]] wr fun e w'=>AdO g C w vb cb tb nb cv T N s e w':=by
 have htl:=hfg.tl.2
 have hnl:=hfg.nl.2
 rcases hfg.sym p hp s hs with ⟨h1,i0,i1⟩ | ⟨h1,i0,i1⟩
 ·obtain ⟨i,hi⟩:∃ i:Nat,s.2=(i:Int):=⟨s.2.toNat,by omega⟩
  have hit:s.2.toNat=i:=by omega
  have hil:i < T.length:=by rw [h.tl];omega
  have:=add_P (some ⟨tb,0,none⟩) (some ⟨nb,0,none⟩) g.ts.length g.ts.length g.ns.length g.ns.length s.1 i tb g.ts.length g.ts.length (T.getD i false) wr (by rw [if_pos h1]) (by omega) (by omega) (h.bt.cell hil) (fun w' hb=>(h.any hb).bt.free i)
  rw [<- hi] at this
  refine this.mono ?_
  rintro e w' ⟨rfl,w3,b3,rfl⟩
  have hS:=(h.any b3).setT hp hc hl hs h1 hit
  cases hv:T.getD i false with
  | false =>
   refine ⟨true,_,N,rfl,hS,?_,(fun q=>by cases q),fun j q=>q⟩
   have:=falseU_set T i hil hv
   rw [if_pos rfl]
   omega
  | true =>
   rw [set_sameT hv] at hS
   refine ⟨false,T,N,rfl,hS,by simp,fun _=>⟨rfl,rfl,fun _=>by rw [hit];exact hv,fun q=>by omega⟩,fun j q=>q⟩
 ·obtain ⟨i,hi⟩:∃ i:Nat,s.2=(i:Int):=⟨s.2.toNat,by omega⟩
  have hit:s.2.toNat=i:=by omega
  have hil:i < N.length:=by rw [h.nl];omega
  have:=add_P (some ⟨tb,0,none⟩) (some ⟨nb,0,none⟩) g.ts.length g.ts.length g.ns.length g.ns.length s.1 i nb g.ns.length g.ns.length (N.getD i false) wr (by rw [if_neg (by omega)]) (by omega) (by omega) (h.bn.cell hil) (fun w' hb=>(h.any hb).bn.free i)
  rw [<- hi] at this
  refine this.mono ?_
  rintro e w' ⟨rfl,w3,b3,rfl⟩
  have hS:=(h.any b3).setN hp hc hl hs h1 hit
  cases hv:N.getD i false with
  | false =>
   refine ⟨true,T,_,rfl,hS,?_,(fun q=>by cases q),fun j q=>set_true q⟩
   have:=falseU_set N i hil hv
   rw [if_pos rfl]
   omega
  | true =>
   rw [set_sameT hv] at hS
   refine ⟨false,T,N,rfl,hS,by simp,fun _=>⟨rfl,rfl,fun q=>by omega,fun _=>by rw [hit];exact hv⟩,fun j q=>q⟩
theorem RP.hasN {g:GV}{C:PV->Bool}{w wr:World}{vb cb tb nb:Nat}{cv:Value}{T N:List Bool}(hfg:FG wr g)(h:RP g C w vb cb tb nb cv T N wr)(m:Nat)(hm:m < g.ns.length) :
  Calls Tryz.prog 42 #[.agg #[.slice (some ⟨tb,0,none⟩) g.ts.length g.ts.length,.slice (some ⟨nb,0,none⟩) g.ns.length g.ns.length],.agg #[.int .i64 2,.int .i64 (m:Int)]] wr fun e w'=>e=.returned (.bool (N.getD m false))/\Below wr.heap.size wr w' :=
 has_P _ _ _ _ _ _ 2 m nb g.ns.length g.ns.length (N.getD m false) wr (by rw [if_neg (by decide)]) hm (by have:=hfg.nl.2;omega) (h.bn.cell (by rw [h.nl];exact hm))
def pVal (p:PV):Value:=.agg #[.int .i64 p.left,.slice p.ra p.right.length p.rc,.int .i64 p.prec]
def EntF (F:FuncId):Prop:=∀ (args:Array Value) (w:World),(callFunc F args).run Tryz.prog w=.ok (.enter F args) w
def CntF (g:GV)(C:PV->Bool)(w:World)(F:FuncId)(cap:Array Value):Prop:=EntF F/\∀ wq p,Below w.heap.size w wq->p∈g.ps->Calls Tryz.prog F (#[pVal p]++cap) wq fun e w'=>e=.returned (.bool (C p))/\Below wq.heap.size wq w'
theorem run_fn1 {o:Oper}{a:Act}{t0:TypeId}{v0:Value}{x x0:Operand}{F:FuncId}{cap:Array Value}(hE:EntF F)(hop:o.op=Op.call { callee:=Callee.value x,args:=#[x0],argTypes:=#[t0] })(hx:a.eval x=.func (.func F) #[] cap)(h0:a.eval x0=v0)(w:World):(execOp a.eval o).run Tryz.prog w=.ok (.enter F (#[v0]++cap)) w:=by
 have hE':=hE (#[v0]++cap) w
 simp [execOp,hop,resolve,invoke,h0,hx,Deferred.ofValue,hE']
set_option linter.unusedSimpArgs false in
theorem rstep_P (g:GV)(C:PV->Bool)(w wu:World)(vb cb tb nb:Nat)(F:FuncId)(cap:Array Value)(T N:List Bool)(hfg:FG w g)(hC:CntF g C w F cap)(h:RP g C w vb cb tb nb (.func (.func F) #[] cap) T N wu)(p:PV)(hp:p∈g.ps) :
  Calls Tryz.prog 62 #[.agg #[.int .i64 p.left,.slice p.ra p.right.length p.rc,.int .i64 p.prec],.pointer (some ⟨vb,0,none⟩),.pointer (some ⟨cb,0,none⟩)] wu fun e w'=>RsO g C w vb cb tb nb (.func (.func F) #[] cap) T N p e w':=by
 have hfr:=hfg.later h.bel
 obtain ⟨l0,l1⟩:=hfr.left _ hp
 have hrl:=hfr.rl _ hp
 have hnl:=hfr.nl.2
 have htl:=hfr.tl.2
 obtain ⟨wb,hwb⟩:∃ wb:World,wb=wu.alloc (.cells #[.int .i64 p.left,.slice p.ra p.right.length p.rc,.int .i64 p.prec] 44):=⟨_,rfl⟩
 have bB:Below wu.heap.size wu wb:=by rw [hwb];exact bAl _ _
 have h1:=h.any bB
 have cB:wb.heap[wu.heap.size]?=some (.cells #[.int .i64 p.left,.slice p.ra p.right.length p.rc,.int .i64 p.prec] 44):=by rw [hwb];exact heap_alloc_new _ _
 have BR:Hid (Below wb.heap.size wb wb.drew):=(Below.refl _ _).drew
 obtain ⟨m,hm⟩:∃ m:Nat,p.left=(m:Int):=⟨p.left.toNat,by omega⟩
 have hml:m < g.ns.length:=by omega
 have HMT:Hid (p.left.toNat=m):=by show _=_;omega
 have FX:Hid (∀ wq,Below wb.heap.size wb wq->wq.cell? ⟨wu.heap.size,0,none⟩=some (.int .i64 (m:Int))/\wq.cell? ⟨wu.heap.size,1,none⟩=some (.slice p.ra p.right.length p.rc)/\wq.cell? ⟨wu.heap.size,2,none⟩=some (.int .i64 p.prec)/\wq.cell? ⟨vb,0,none⟩=some (.slice (some ⟨tb,0,none⟩) g.ts.length g.ts.length)/\wq.cell? ⟨vb,1,none⟩=some (.slice (some ⟨nb,0,none⟩) g.ns.length g.ns.length)/\wq.cell? ⟨cb,0,none⟩=some (.func (.func F) #[] cap)):=fun wq hb=>by
  have e:=(hb.block _ (lt_of_block cB)).trans cB
  rw [hm] at e
  exact ⟨(cQa e).trans rfl,(cQa e).trans rfl,(cQa e).trans rfl,(cQa (h1.any hb).var).trans rfl,(cQa (h1.any hb).var).trans rfl,(cQa (h1.any hb).cnt).trans rfl⟩
 have CN:Hid (∀ wq,Below wb.heap.size wb wq->Calls Tryz.prog 26 #[.int .i64 (m:Int)] wq fun e w'=>e=.returned (.agg #[.int .i64 2,.int .i64 (m:Int)])/\Below wb.heap.size wb w'):=fun wq hb=>(non_P _ wq).mono fun e w' ⟨q1,q2⟩=>⟨q1,hb.trans (q2.mono hb.size)⟩
 have CH0:Hid (∀ wq,Below wb.heap.size wb wq->Calls Tryz.prog 42 #[.agg #[.slice (some ⟨tb,0,none⟩) g.ts.length g.ts.length,.slice (some ⟨nb,0,none⟩) g.ns.length g.ns.length],.agg #[.int .i64 2,.int .i64 (m:Int)]] wq fun e w'=>e=.returned (.bool (N.getD m false))/\Below wb.heap.size wb w'):=fun wq hb=>((h1.any hb).hasN (hfg.later (h1.any hb).bel) m hml).mono fun e w' ⟨q1,q2⟩=>⟨q1,hb.trans (q2.mono hb.size)⟩
 obtain ⟨A,hA⟩:∃ A:Array Value,A=#[.agg #[.int .i64 (m:Int),.slice p.ra p.right.length p.rc,.int .i64 p.prec]]++cap:=⟨_,rfl⟩
 have CC0:Hid (∀ wq,Below wb.heap.size wb wq->Calls Tryz.prog F A wq fun e w'=>e=.returned (.bool (C p))/\Below wb.heap.size wb w'):=fun wq hb=>by
  have:=hC.2 wq p (h1.any hb).bel hp
  unfold pVal at this
  rw [hm,<- hA] at this
  exact this.mono fun e w' ⟨q1,q2⟩=>⟨q1,hb.trans (q2.mono hb.size)⟩
 have HEN:Hid (EntF F):=hC.1
 have HRP:Hid (∀ wq,Below wb.heap.size wb wq->RP g C w vb cb tb nb (.func (.func F) #[] cap) T N wq):=fun wq hb=>h1.any hb
 have HRO:Hid (∀ w',Below w.heap.size w w'->SymRow w' p.ra p.right):=fun w' hb=>(hfg.later hb).p.rows _ hp
 have HFG:Hid (∀ w',Below w.heap.size w w'->FG w' g):=fun w' hb=>hfg.later hb
 have HP:Hid (p∈g.ps):=hp
 have O1:Hid (∀ e w',(C p=true->N.getD m false=true->False)->RP g C w vb cb tb nb (.func (.func F) #[] cap) T N w'->e=.returned (.bool false)->RsO g C w vb cb tb nb (.func (.func F) #[] cap) T N p e w'):=fun e w' q1 q2 q3=>⟨false,T,N,q3,q2,by simp,fun _=>⟨rfl,rfl,fun c1 c2=>by rw [HMT.out] at c2;exact absurd c2 (q1 c1)⟩⟩
 have O2:Hid (∀ e w' (bo:Bool) (T2 N2:List Bool),e=.returned (.bool bo)->RP g C w vb cb tb nb (.func (.func F) #[] cap) T2 N2 w'->fU_ T2+fU_ N2+(if bo then 1 else 0)<=fU_ T+fU_ N->(bo=false->T2=T/\N2=N/\∀ j,j < p.right.length->InM T N (p.right.getD j (0,0)))->RsO g C w vb cb tb nb (.func (.func F) #[] cap) T N p e w'):=fun e w' bo T2 N2 q1 q2 q3 q4=>⟨bo,T2,N2,q1,q2,q3,fun hb=>⟨(q4 hb).1,(q4 hb).2.1,fun _ _ s hs=>by
  obtain ⟨i,hi,rfl⟩:=List.getElem_of_mem hs
  have:=(q4 hb).2.2 i hi
  simpa [List.getD,hi] using this⟩⟩
 rw [hm] at hwb ⊢
 generalize RsO g C w vb cb tb nb (.func (.func F) #[] cap) T N p=POST at *
 obtain ⟨cv,hcv⟩:∃ cv,C p=cv:=⟨_,rfl⟩
 obtain ⟨mv,hmv⟩:∃ mv,N.getD m false=mv:=⟨_,rfl⟩
 rw [hcv] at CC0
 rw [hmv] at CH0
 simp only [hcv,hmv] at O1
 have HCV:Hid (C p=cv):=hcv
 have HMV:Hid (N.getD m false=mv):=hmv
 clear hfr h h1 bB cB hp hcv hmv hfg l0 l1 hm hC
 go_enter Tryz.func62,Tryz.ntmps62
 cases mv
 ·have CH:Hid (∀ wq,Below wb.heap.size wb wq->Calls Tryz.prog 42 #[.agg #[.slice (some ⟨tb,0,none⟩) g.ts.length g.ts.length,.slice (some ⟨nb,0,none⟩) g.ns.length g.ns.length],.agg #[.int .i64 2,.int .i64 (m:Int)]] wq fun e w'=>e=.returned (.bool false)/\Below wb.heap.size wb w'):=CH0.out
  clear CH0
  go_wp2
  rw [<- hwb]
  refine wp_region_q (C:=fun wq=>Below wb.heap.size wb wq) (by kernel_rfl) (by kernel_rfl) BR.out ?_
  iterate 3 (refine qt_yes (v:=?_) (by rfl) ?_ ?_;rotate_left;(· (intro wq hSw;obtain ⟨f0,f1,f2,f3,f4,f5⟩:=FX.out wq hSw;clear hSw;go_simp;with_reducible rfl));(try simp only [Act.put,lsA,lsZ,lsN]))
  refine qt_call (v:=.agg #[.int .i64 2,.int .i64 (m:Int)]) 26 #[.int .i64 (m:Int)] (by rfl) ?_ (fun wq hq=>CN.out wq hq) ?_
  ·intro wq hSw
   clear hSw
   go_simp
   try with_reducible rfl
  (try simp only [Act.put,lsA,lsZ,lsN])
  refine qt_call (v:=.bool false) 42 #[.agg #[.slice (some ⟨tb,0,none⟩) g.ts.length g.ts.length,.slice (some ⟨nb,0,none⟩) g.ns.length g.ns.length],.agg #[.int .i64 2,.int .i64 (m:Int)]] (by rfl) ?_ (fun wq hq=>CH.out wq hq) ?_
  ·intro wq hSw
   clear hSw
   go_simp
   try with_reducible rfl
  (try simp only [Act.put,lsA,lsZ,lsN])
  iterate 2 (refine qt_yes (v:=?_) (by rfl) ?_ ?_;rotate_left;(· (intro wq hSw;obtain ⟨f0,f1,f2,f3,f4,f5⟩:=FX.out wq hSw;clear hSw;go_simp;with_reducible rfl));(try simp only [Act.put,lsA,lsZ,lsN]))
  iterate 4 (refine qt_no (by rfl) ?_;(try simp only [Act.put,lsA,lsZ,lsN]))
  (refine qt_yes (v:=?_) (by rfl) ?_ ?_;rotate_left;(· (intro wq hSw;obtain ⟨f0,f1,f2,f3,f4,f5⟩:=FX.out wq hSw;clear hSw;go_simp;with_reducible rfl));(try simp only [Act.put,lsA,lsZ,lsN]))
  refine qt_nil ?_
  intro wq hSw
  have R:Hid (RP g C w vb cb tb nb (.func (.func F) #[] cap) T N wq):=HRP.out wq hSw
  clear hSw
  go_wp2
  exact O1.out _ _ (by simp) R.out rfl
 ·have CH:Hid (∀ wq,Below wb.heap.size wb wq->Calls Tryz.prog 42 #[.agg #[.slice (some ⟨tb,0,none⟩) g.ts.length g.ts.length,.slice (some ⟨nb,0,none⟩) g.ns.length g.ns.length],.agg #[.int .i64 2,.int .i64 (m:Int)]] wq fun e w'=>e=.returned (.bool true)/\Below wb.heap.size wb w'):=CH0.out
  clear CH0
  cases cv
  ·have CC:Hid (∀ wq,Below wb.heap.size wb wq->Calls Tryz.prog F A wq fun e w'=>e=.returned (.bool false)/\Below wb.heap.size wb w'):=CC0.out
   clear CC0
   go_wp2
   rw [<- hwb]
   refine wp_region_q (C:=fun wq=>Below wb.heap.size wb wq) (by kernel_rfl) (by kernel_rfl) BR.out ?_
   iterate 3 (refine qt_yes (v:=?_) (by rfl) ?_ ?_;rotate_left;(· (intro wq hSw;obtain ⟨f0,f1,f2,f3,f4,f5⟩:=FX.out wq hSw;clear hSw;go_simp;with_reducible rfl));(try simp only [Act.put,lsA,lsZ,lsN]))
   refine qt_call (v:=.agg #[.int .i64 2,.int .i64 (m:Int)]) 26 #[.int .i64 (m:Int)] (by rfl) ?_ (fun wq hq=>CN.out wq hq) ?_
   ·intro wq hSw
    clear hSw
    go_simp
    try with_reducible rfl
   (try simp only [Act.put,lsA,lsZ,lsN])
   refine qt_call (v:=.bool true) 42 #[.agg #[.slice (some ⟨tb,0,none⟩) g.ts.length g.ts.length,.slice (some ⟨nb,0,none⟩) g.ns.length g.ns.length],.agg #[.int .i64 2,.int .i64 (m:Int)]] (by rfl) ?_ (fun wq hq=>CH.out wq hq) ?_
   ·intro wq hSw
    clear hSw
    go_simp
    try with_reducible rfl
   (try simp only [Act.put,lsA,lsZ,lsN])
   iterate 2 (refine qt_yes (v:=?_) (by rfl) ?_ ?_;rotate_left;(· (intro wq hSw;obtain ⟨f0,f1,f2,f3,f4,f5⟩:=FX.out wq hSw;clear hSw;go_simp;with_reducible rfl));(try simp only [Act.put,lsA,lsZ,lsN]))
   iterate 2 (refine qt_yes (v:=?_) (by rfl) ?_ ?_;rotate_left;(· (intro wq hSw;obtain ⟨f0,f1,f2,f3,f4,f5⟩:=FX.out wq hSw;clear hSw;go_simp;with_reducible rfl));(try simp only [Act.put,lsA,lsZ,lsN]))
   refine qt_call (v:=.bool false) F A (by rfl) ?_ CC.out ?_
   ·intro wq hSw
    clear hSw
    rw [hA]
    refine run_fn1 (x:=.tmp 15) (x0:=.tmp 16) (t0:=44) HEN.out ?_ ?_ ?_ wq
    ·rfl
    ·rfl
    ·rfl
   (try simp only [Act.put,lsA,lsZ,lsN])
   iterate 2 (refine qt_yes (v:=?_) (by rfl) ?_ ?_;rotate_left;(· (intro wq hSw;obtain ⟨f0,f1,f2,f3,f4,f5⟩:=FX.out wq hSw;clear hSw;go_simp;with_reducible rfl));(try simp only [Act.put,lsA,lsZ,lsN]))
   refine qt_nil ?_
   intro wq hSw
   have R:Hid (RP g C w vb cb tb nb (.func (.func F) #[] cap) T N wq):=HRP.out wq hSw
   clear hSw
   go_wp2
   exact O1.out _ _ (by simp) R.out rfl
  ·have CC:Hid (∀ wq,Below wb.heap.size wb wq->Calls Tryz.prog F A wq fun e w'=>e=.returned (.bool true)/\Below wb.heap.size wb w'):=CC0.out
   clear CC0 O1
   go_wp2
   rw [<- hwb]
   refine wp_region_q (C:=fun wq=>Below wb.heap.size wb wq) (by kernel_rfl) (by kernel_rfl) BR.out ?_
   iterate 3 (refine qt_yes (v:=?_) (by rfl) ?_ ?_;rotate_left;(· (intro wq hSw;obtain ⟨f0,f1,f2,f3,f4,f5⟩:=FX.out wq hSw;clear hSw;go_simp;with_reducible rfl));(try simp only [Act.put,lsA,lsZ,lsN]))
   refine qt_call (v:=.agg #[.int .i64 2,.int .i64 (m:Int)]) 26 #[.int .i64 (m:Int)] (by rfl) ?_ (fun wq hq=>CN.out wq hq) ?_
   ·intro wq hSw
    clear hSw
    go_simp
    try with_reducible rfl
   (try simp only [Act.put,lsA,lsZ,lsN])
   refine qt_call (v:=.bool true) 42 #[.agg #[.slice (some ⟨tb,0,none⟩) g.ts.length g.ts.length,.slice (some ⟨nb,0,none⟩) g.ns.length g.ns.length],.agg #[.int .i64 2,.int .i64 (m:Int)]] (by rfl) ?_ (fun wq hq=>CH.out wq hq) ?_
   ·intro wq hSw
    clear hSw
    go_simp
    try with_reducible rfl
   (try simp only [Act.put,lsA,lsZ,lsN])
   iterate 2 (refine qt_yes (v:=?_) (by rfl) ?_ ?_;rotate_left;(· (intro wq hSw;obtain ⟨f0,f1,f2,f3,f4,f5⟩:=FX.out wq hSw;clear hSw;go_simp;with_reducible rfl));(try simp only [Act.put,lsA,lsZ,lsN]))
   iterate 2 (refine qt_yes (v:=?_) (by rfl) ?_ ?_;rotate_left;(· (intro wq hSw;obtain ⟨f0,f1,f2,f3,f4,f5⟩:=FX.out wq hSw;clear hSw;go_simp;with_reducible rfl));(try simp only [Act.put,lsA,lsZ,lsN]))
   refine qt_call (v:=.bool true) F A (by rfl) ?_ CC.out ?_
   ·intro wq hSw
    clear hSw
    rw [hA]
    refine run_fn1 (x:=.tmp 15) (x0:=.tmp 16) (t0:=44) HEN.out ?_ ?_ ?_ wq
    ·rfl
    ·rfl
    ·rfl
   (try simp only [Act.put,lsA,lsZ,lsN])
   iterate 2 (refine qt_yes (v:=?_) (by rfl) ?_ ?_;rotate_left;(· (intro wq hSw;obtain ⟨f0,f1,f2,f3,f4,f5⟩:=FX.out wq hSw;clear hSw;go_simp;with_reducible rfl));(try simp only [Act.put,lsA,lsZ,lsN]))
   refine qt_nil ?_
   intro wq hSw
   have R:Hid (RP g C w vb cb tb nb (.func (.func F) #[] cap) T N wq):=HRP.out wq hSw
   obtain ⟨f0,f1,f2,f3,f4,f5⟩:=FX.out wq hSw
   clear hSw CC CH CN FX HRP
   go_wp2
   clear f0 f1 f2 f3 f4 f5
   go_loopw [5,23] (fun z i wr3=>∃ (q:Nat) (b3:Bool) (T3 N3:List Bool),q<=p.right.length/\z=.bool b3/\i=.int .i64 q/\RP g C w vb cb tb nb (.func (.func F) #[] cap) T3 N3 wr3/\N3.getD m false=true/\fU_ T3+fU_ N3+(if b3 then 1 else 0)<=fU_ T+fU_ N/\(b3=false->T3=T/\N3=N/\∀ j,j < q->InM T N (p.right.getD j (0,0)))) (fun _ i _=>p.right.length - (intOf i).toNat)
   case atStart=>exact ⟨0,false,T,N,Nat.zero_le _,rfl,rfl,R.out,HMV.out,by simp,fun _=>⟨rfl,rfl,fun j hj=>absurd hj (Nat.not_lt_zero j)⟩⟩
   case round =>
    clear R BR
    obtain ⟨q,b3,T3,N3,hq,rfl,rfl,hW3,hm3,hle3,hcl3⟩:=hrel
    by_cases hql:q < p.right.length
    ·obtain ⟨sb,so,hpr,hsl,hsc⟩:=HRO.out _ hW3.bel (by intro e;rw [e] at hql;simp at hql)
     obtain ⟨s0,s1⟩:=hsc q hql
     have qlt:(q:Int) < (p.right.length:Int):=by omega
     have hsm:p.right.getD q (0,0)∈p.right:=by simp [List.getD,hql]
     have HLE3:Hid (fU_ T3+fU_ N3+(if b3 then 1 else 0)<=fU_ T+fU_ N):=hle3
     have HCL3:Hid (b3=false->T3=T/\N3=N/\∀ j,j < q->InM T N (p.right.getD j (0,0))):=hcl3
     obtain ⟨wa,hwa⟩:∃ wa:World,wa=wr.alloc (.cells #[.int .i64 (p.right.getD q (0,0)).1,.int .i64 (p.right.getD q (0,0)).2] 49):=⟨_,rfl⟩
     have hWa:=hW3.any (by rw [hwa];exact bAl _ _:Below _ _ wa)
     obtain ⟨v0,v1⟩:wa.cell? ⟨vb,0,none⟩=some (.slice (some ⟨tb,0,none⟩) g.ts.length g.ts.length)/\wa.cell? ⟨vb,1,none⟩=some (.slice (some ⟨nb,0,none⟩) g.ns.length g.ns.length):=⟨(cQa hWa.var).trans rfl,(cQa hWa.var).trans rfl⟩
     have AD:Hid (Calls Tryz.prog 61 #[.agg #[.slice (some ⟨tb,0,none⟩) g.ts.length g.ts.length,.slice (some ⟨nb,0,none⟩) g.ns.length g.ns.length],.agg #[.int .i64 (p.right.getD q (0,0)).1,.int .i64 (p.right.getD q (0,0)).2]] wa fun e w'=>AdO g C w vb cb tb nb (.func (.func F) #[] cap) T3 N3 (p.right.getD q (0,0)) e w'):=hWa.addS (HFG.out _ hWa.bel) HP.out HCV.out (by rw [HMT.out];exact hm3) hsm
     have HM3:Hid (N3.getD m false=true):=hm3
     clear hm3 hW3 hle3 hcl3 hsc hsl hsm hWa
     rw [hpr]
     generalize hx:p.right.getD q (0,0)=x at *
     have HX:Hid (p.right.getD q (0,0)=x):=hx
     clear hx
     obtain ⟨x1,x2⟩:=x
     simp only at s0 s1 hwa AD
     subst hwa
     go_wp2_with (go_at_call 61;refine AD.out.mono ?_;rintro e w4 ⟨bo,T4,N4,rfl,r4,l4,c4,n4⟩;have R4:Hid (RP g C w vb cb tb nb (.func (.func F) #[] cap) T4 N4 w4/\N4.getD m false=true):=⟨r4,n4 m HM3.out⟩;have L4:Hid (fU_ T4+fU_ N4+(if bo then 1 else 0)<=fU_ T3+fU_ N3):=l4;have C4:Hid (bo=false->T4=T3/\N4=N3/\InM T3 N3 (x1,x2)):=c4;clear r4 l4 c4 n4;cases bo)
     ·go_roundw
      case rel =>
       refine ⟨q+1,b3,T4,N4,by omega,rfl,by go_num,R4.out.1,R4.out.2,?_,fun hb=>?_⟩
       ·have h1:=L4.out
        have h2:=HLE3.out
        simp only [Bool.false_eq_true,if_false] at h1
        omega
       ·obtain ⟨e1,e2,e3⟩:=HCL3.out hb
        obtain ⟨d1,d2,d3⟩:=C4.out (by simp)
        refine ⟨d1.trans e1,d2.trans e2,fun j hj=>?_⟩
        by_cases r:j=q
        ·subst r
         rw [HX.out,<- e1,<- e2]
         exact d3
        ·exact e3 j (by omega)
      case measure=>simp [intOf];omega
     ·go_roundw
      case rel =>
       refine ⟨q+1,true,T4,N4,by omega,rfl,by go_num,R4.out.1,R4.out.2,?_,fun hb=>by cases hb⟩
       have h1:=L4.out
       have h2:=HLE3.out
       simp only [if_true] at h1 ⊢
       cases b3<;>simp at h2<;>omega
      case measure=>simp [intOf];omega
    ·obtain rfl:q=p.right.length:=by omega
     have R5:Hid (RP g C w vb cb tb nb (.func (.func F) #[] cap) T3 N3 wr):=hW3
     have HLE3:Hid (fU_ T3+fU_ N3+(if b3 then 1 else 0)<=fU_ T+fU_ N):=hle3
     have HCL3:Hid (b3=false->T3=T/\N3=N/\∀ j,j < p.right.length->InM T N (p.right.getD j (0,0))):=hcl3
     clear hW3 hle3 hcl3 hm3
     go_wp2
     exact O2.out _ _ b3 T3 N3 rfl R5.out HLE3.out HCL3.out
end Go.Proofs.YtockbobpmiagiaaGreatDoor
