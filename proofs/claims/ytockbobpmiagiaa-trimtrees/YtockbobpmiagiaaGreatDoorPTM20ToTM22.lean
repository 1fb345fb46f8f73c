import Derived.Test.YtockbobpmiagiaaGreatDoorPTM17ToTM19
namespace Go.Proofs.YtockbobpmiagiaaGreatDoor
set_option linter.unusedVariables false
set_option maxRecDepth 100000
set_option maxHeartbeats 16000000
open Go.RowKit Go.Shelf
def CloC (g:GV)(C:PV->Bool)(T N:List Bool)(k:Nat):Prop:=∀ j,j < k->C (g.ps.getD j .none)=true->N.getD (g.ps.getD j .none).left.toNat false=true->∀ s∈(g.ps.getD j .none).right,InM T N s
theorem settle_R (g:GV)(C:PV->Bool)(w w1:World)(vb cb tb nb:Nat)(F:FuncId)(cap:Array Value)(T0 N0:List Bool)(hfg:FG w g)(hC:CntF g C w F cap)(h:RP g C w vb cb tb nb (.func (.func F) #[] cap) T0 N0 w1) :
  Calls Tryz.prog 52 #[.slice g.pa g.ps.length g.pc,.func (.func 62) #[] #[.pointer (some ⟨vb,0,none⟩),.pointer (some ⟨cb,0,none⟩)]] w1 fun e w'=>e=.returned (.tuple #[])/\∃ T N,RP g C w vb cb tb nb (.func (.func F) #[] cap) T N w'/\RLst (gF g C) T N:=by
 have HFG:Hid (∀ w',Below w.heap.size w w'->FG w' g):=fun w' hb=>hfg.later hb
 have HST:Hid (∀ T N wr p,RP g C w vb cb tb nb (.func (.func F) #[] cap) T N wr->p∈g.ps->Calls Tryz.prog 62 #[.agg #[.int .i64 p.left,.slice p.ra p.right.length p.rc,.int .i64 p.prec],.pointer (some ⟨vb,0,none⟩),.pointer (some ⟨cb,0,none⟩)] wr fun e w'=>RsO g C w vb cb tb nb (.func (.func F) #[] cap) T N p e w'):=fun T N wr p hf hp=>rstep_P g C w wr vb cb tb nb F cap T N hfg hC hf p hp
 have H0:Hid (RP g C w vb cb tb nb (.func (.func F) #[] cap) T0 N0 w1):=h
 have hpl:=hfg.pl
 clear h hfg hC
 go_enter Tryz.func52,Tryz.ntmps52
 go_wp2
 go_loopw [4] (fun z wr=>∃ (bo:Bool) (T N:List Bool),z=.bool bo/\RP g C w vb cb tb nb (.func (.func F) #[] cap) T N wr/\(bo=false->CloC g C T N g.ps.length)) (fun z wr=>mesB tb wr+mesB nb wr+tOf z)
 case atStart=>exact ⟨true,_,_,rfl,H0.out,fun h=>by cases h⟩
 case round =>
  clear H0
  obtain ⟨bo,T,N,rfl,hW,hcl⟩:=hrel
  have HW:Hid (RP g C w vb cb tb nb (.func (.func F) #[] cap) T N wr):=hW
  have HM:Hid (mesB tb wr+mesB nb wr=fU_ T+fU_ N):=by show _=_;rw [mesB_of hW.bt,mesB_of hW.bn]
  cases bo
  ·have R:Hid (RLst (gF g C) T N):=⟨hW.tl,hW.nl,hW.st,fun p hp hl=>by
    obtain ⟨hp1,hp2⟩:=List.mem_filter.1 hp
    obtain ⟨i,hi,rfl⟩:=List.getElem_of_mem hp1
    have e2:g.ps.getD i .none=g.ps[i]:=by simp [List.getD,hi]
    have:=hcl rfl i hi
    rw [e2] at this
    exact this hp2 hl,hW.lst⟩
   clear hW hcl
   go_wp2
   go_end0
   exact ⟨rfl,T,N,HW.out,R.out⟩
  ·clear hcl hW
   obtain ⟨wz,rfl⟩:∃ wz:World,wz=wr:=⟨_,rfl⟩
   go_wp2
   go_loopw [4,10] (fun z i wr2=>∃ (k:Nat) (b2:Bool) (T2 N2:List Bool),k<=g.ps.length/\z=.bool b2/\i=.int .i64 k/\RP g C w vb cb tb nb (.func (.func F) #[] cap) T2 N2 wr2/\fU_ T2+fU_ N2+(if b2 then 1 else 0)<=fU_ T+fU_ N/\(b2=false->T2=T/\N2=N/\CloC g C T N k)) (fun _ i _=>g.ps.length - (intOf i).toNat)
   case atStart=>exact ⟨0,false,T,N,Nat.zero_le _,rfl,rfl,HW.out,by simp,fun _=>⟨rfl,rfl,fun j hj=>absurd hj (Nat.not_lt_zero j)⟩⟩
   case round =>
    obtain ⟨k,b2,T2,N2,hk,rfl,rfl,hW2,hle,hcl⟩:=hrel
    by_cases hlt:k < g.ps.length
    ·obtain ⟨b,o,hpa,hbl,hc⟩:=(HFG.out _ hW2.bel).p.cells (by intro e;rw [e] at hlt;simp at hlt)
     obtain ⟨c0,c1,c2⟩:=hc k hlt
     have klt:(k:Int) < (g.ps.length:Int):=by omega
     have hmem:g.ps.getD k .none∈g.ps:=by simp [List.getD,hlt]
     have HCL:Hid (b2=false->T2=T/\N2=N/\CloC g C T N k):=hcl
     have HLE:Hid (fU_ T2+fU_ N2+(if b2 then 1 else 0)<=fU_ T+fU_ N):=hle
     obtain ⟨p,hp⟩:∃ p,g.ps.getD k .none=p:=⟨_,rfl⟩
     have HP:Hid (g.ps.getD k .none=p):=hp
     rw [hp] at hmem c0 c1 c2
     obtain ⟨bx,hbx⟩:∃ bx:World,bx=wr.alloc (.cells #[.int .i64 p.left,.slice p.ra p.right.length p.rc,.int .i64 p.prec] 44):=⟨_,rfl⟩
     have C3:Hid (Calls Tryz.prog 62 #[.agg #[.int .i64 p.left,.slice p.ra p.right.length p.rc,.int .i64 p.prec],.pointer (some ⟨vb,0,none⟩),.pointer (some ⟨cb,0,none⟩)] bx fun e w'=>RsO g C w vb cb tb nb (.func (.func F) #[] cap) T2 N2 p e w'):=HST.out T2 N2 bx p (hW2.any (by rw [hbx];exact bAl _ _)) hmem
     clear hle hcl hmem hc hW2 hp
     rw [hpa] at *
     clear hpa
     go_wp2_with (go_at_call 62;rw [<- hbx];refine C3.out.mono ?_;rintro e w3 ⟨bo,T3,N3,rfl,r3,l3,c3⟩;have R3:Hid (RP g C w vb cb tb nb (.func (.func F) #[] cap) T3 N3 w3):=r3;have L3:Hid (fU_ T3+fU_ N3+(if bo then 1 else 0)<=fU_ T2+fU_ N2):=l3;have Q3:Hid (bo=false->T3=T2/\N3=N2/\(C p=true->N2.getD p.left.toNat false=true->∀ s∈p.right,InM T2 N2 s)):=c3;clear r3 l3 c3;cases bo)
     ·go_roundw
      case rel =>
       refine ⟨k+1,b2,T3,N3,by omega,rfl,by go_num,R3.out,?_,fun hb=>?_⟩
       ·have h1:=L3.out
        have h2:=HLE.out
        simp only [Bool.false_eq_true,if_false] at h1
        omega
       ·obtain ⟨e1,e2,e3⟩:=HCL.out hb
        obtain ⟨d1,d2,d3⟩:=Q3.out (by simp)
        refine ⟨d1.trans e1,d2.trans e2,fun j hj hc hl s hs=>?_⟩
        by_cases r:j=k
        ·subst r
         rw [HP.out] at hc hl hs
         rw [<- e1,<- e2]
         rw [<- e2] at hl
         exact d3 hc hl s hs
        ·exact e3 j (by omega) hc hl s hs
      case measure=>simp [intOf];omega
     ·go_roundw
      case rel =>
       refine ⟨k+1,true,T3,N3,by omega,rfl,by go_num,R3.out,?_,fun hb=>by cases hb⟩
       have h1:=L3.out
       have h2:=HLE.out
       simp only [if_true] at h1 ⊢
       cases b2<;>simp at h2<;>omega
      case measure=>simp [intOf];omega
    ·have klt:¬ (k:Int) < (g.ps.length:Int):=by omega
     have R:Hid (RP g C w vb cb tb nb (.func (.func F) #[] cap) T2 N2 wr/\(b2=false->CloC g C T2 N2 g.ps.length)):=⟨hW2,fun hb=>by
      obtain ⟨e1,e2,q⟩:=hcl hb
      rw [e1,e2]
      exact fun j hj=>q j (by omega)⟩
     have ME:Hid (mesB tb wr+mesB nb wr+(if b2 then 1 else 0)<=mesB tb wz+mesB nb wz):=by
      show _<=_
      rw [mesB_of hW2.bt,mesB_of hW2.bn,HM.out]
      exact hle
     clear hW2 hcl hle
     go_wp2
     go_roundw
     case rel=>exact ⟨b2,T2,N2,rfl,R.out.1,R.out.2⟩
     case measure =>
      have:=ME.out
      cases b2<;>simp [tOf] at this ⊢<;>omega
theorem RP.first {g:GV}{C:PV->Bool}{w w6:World}{vb cb tb nb sm:Nat}{cv:Value}(hm:g.start.toNat=sm)(hl:sm < g.ns.length)(ht:BB w6 tb (List.replicate g.ts.length false))(hn:BB w6 nb (List.replicate g.ns.length false))
  (hv:w6.heap[vb]?=some (.cells #[.slice (some ⟨tb,0,none⟩) g.ts.length g.ts.length,.slice (some ⟨nb,0,none⟩) g.ns.length g.ns.length] 86)) (hc:w6.heap[cb]?=some (.cells #[cv] 88))
  (ho:(w.heap.size<=tb/\w.heap.size<=nb/\tb≠nb)/\(vb≠tb/\vb≠nb)/\cb≠tb/\cb≠nb) (hb:Below w.heap.size w w6) :
  RP g C w vb cb tb nb cv (List.replicate g.ts.length false) ((List.replicate g.ns.length false).set sm true) (w6.setCell ⟨nb,sm,none⟩ (.bool true)):=by
 refine ⟨by simp,by simp,by rw [hm];exact set_self (by simpa using hl),fun Ct Cn hC=>⟨fun i hi=>?_,fun i hi=>?_⟩,ht.kept (Below.heap_setCell _ _ _ _ ho.1.2.2),hn.set _ _,(Below.heap_setCell _ _ _ _ ho.2.1.2).trans hv,(Below.heap_setCell _ _ _ _ ho.2.2.2).trans hc,ho,hb.setCell (p:=⟨nb,sm,none⟩) ho.1.2.1 _⟩
 ·rw [getD_set_b] at hi
  split at hi
  ·rename_i q
   rw [<- q.1,<- hm]
   exact hC.1
  ·rw [rep_no] at hi;cases hi
 ·rw [rep_no] at hi;cases hi
theorem run_non1 {o:Oper}{a:Act}{t0:TypeId}{v0:Value}{x0:Operand}(hop:o.op=Op.call { callee:=Callee.value (Operand.func 26),args:=#[x0],argTypes:=#[t0] })(h0:a.eval x0=v0)(w:World):(execOp a.eval o).run Tryz.prog w=.ok (.enter 26 #[v0]) w:=by
 have hf:a.eval (Operand.func 26)=.func (.func 26) #[] #[]:=rfl
 simp [execOp,hop,resolve,invoke,h0,hf,Deferred.ofValue]
theorem run_add2 {o:Oper}{a:Act}{t0 t1:TypeId}{v0 v1:Value}{x0 x1:Operand}(hop:o.op=Op.call { callee:=Callee.value (Operand.func 61),args:=#[x0,x1],argTypes:=#[t0,t1] })(h0:a.eval x0=v0)(h1:a.eval x1=v1)(w:World):(execOp a.eval o).run Tryz.prog w=.ok (.enter 61 #[v0,v1]) w:=by
 have hf:a.eval (Operand.func 61)=.func (.func 61) #[] #[]:=rfl
 simp [execOp,hop,resolve,invoke,h0,h1,hf,Deferred.ofValue]
def rbS (g:GV)(q vb tb nb:Nat)(w':World):Prop:=w'.cell? ⟨q,2,none⟩=some (.int .i64 g.start)/\w'.cell? ⟨vb,0,none⟩=some (.slice (some ⟨tb,0,none⟩) g.ts.length g.ts.length)/\w'.cell? ⟨vb,1,none⟩=some (.slice (some ⟨nb,0,none⟩) g.ns.length g.ns.length)
structure RQ (g:GV)(wa:World)(vb tb nb:Nat)(wr:World):Prop where
 bt:BB wr tb (List.replicate g.ts.length false)
 bn:BB wr nb (List.replicate g.ns.length false)
 var:wr.heap[vb]?=some (.cells #[.slice (some ⟨tb,0,none⟩) g.ts.length g.ts.length,.slice (some ⟨nb,0,none⟩) g.ns.length g.ns.length] 86)
 ord:wa.heap.size<=tb/\wa.heap.size<=nb/\tb≠nb/\vb≠tb/\vb≠nb/\wa.heap.size<=vb
 bel:Below wa.heap.size wa wr
theorem RQ.any {g:GV}{wa wr w':World}{vb tb nb:Nat}(h:RQ g wa vb tb nb wr)(hb:Below wr.heap.size wr w'):RQ g wa vb tb nb w' :=
 ⟨h.bt.later hb,h.bn.later hb,(hb.block _ (lt_of_block h.var)).trans h.var,h.ord,h.bel.trans (hb.mono h.bel.size)⟩
theorem RQ.rb {g:GV}{wa wr:World}{q vb tb nb:Nat}(h:RQ g wa vb tb nb wr)(hx:wa.heap[q]?=some (gBox g)):rbS g q vb tb nb wr :=
 ⟨(gbc ((h.bel.block _ (lt_of_block hx)).trans hx)).2.2.1,(cQa h.var).trans rfl,(cQa h.var).trans rfl⟩
theorem RQ.rbset {g:GV}{wa wr:World}{q vb tb nb i:Nat}{v:Value}(h:RQ g wa vb tb nb wr)(hx:wa.heap[q]?=some (gBox g))(hq:q≠nb):rbS g q vb tb nb (wr.setCell ⟨nb,i,none⟩ v) :=
 ⟨(gbc ((Below.heap_setCell _ _ _ _ hq).trans ((h.bel.block _ (lt_of_block hx)).trans hx))).2.2.1,(cQa ((Below.heap_setCell _ _ _ _ h.ord.2.2.2.2.1).trans h.var)).trans rfl,(cQa ((Below.heap_setCell _ _ _ _ h.ord.2.2.2.2.1).trans h.var)).trans rfl⟩
theorem three_boxes (w:World)(A B D:Obj):(((w.alloc A).alloc B).alloc D).heap.size=w.heap.size+1+1+1/\(((w.alloc A).alloc B).alloc D).heap[w.heap.size]?=some A/\(((w.alloc A).alloc B).alloc D).heap[w.heap.size+1]?=some B/\(((w.alloc A).alloc B).alloc D).heap[w.heap.size+1+1]?=some D/\Below w.heap.size w (((w.alloc A).alloc B).alloc D):=by
 obtain ⟨a,ha⟩:∃ a,a=w.alloc A:=⟨_,rfl⟩
 obtain ⟨b,hb⟩:∃ b,b=a.alloc B:=⟨_,rfl⟩
 obtain ⟨d,hd⟩:∃ d,d=b.alloc D:=⟨_,rfl⟩
 rw [<- ha,<- hb,<- hd]
 have za:a.heap.size=w.heap.size+1:=by rw [ha];simp
 have zb:b.heap.size=w.heap.size+1+1:=by rw [hb];simp [za]
 have zd:d.heap.size=w.heap.size+1+1+1:=by rw [hd];simp [zb]
 have ba:Below w.heap.size w a:=by rw [ha];exact bAl _ _
 have bb:Below a.heap.size a b:=by rw [hb];exact bAl _ _
 have bd:Below b.heap.size b d:=by rw [hd];exact bAl _ _
 have h1:a.heap[w.heap.size]?=some A:=by rw [ha];exact heap_alloc_new _ _
 have h2:b.heap[w.heap.size+1]?=some B:=by rw [hb,<- za];exact heap_alloc_new _ _
 have h3:d.heap[w.heap.size+1+1]?=some D:=by rw [hd,<- zb];exact heap_alloc_new _ _
 have bad:Below a.heap.size a d:=bb.trans (bd.mono bb.size)
 exact ⟨zd,(bad.block _ (lt_of_block h1)).trans h1,(bd.block _ (lt_of_block h2)).trans h2,h3,ba.trans (bad.mono ba.size)⟩
set_option linter.unusedSimpArgs false in
theorem reached_P (g:GV)(C:PV->Bool)(w:World)(F:FuncId)(cap:Array Value)(hfg:FG w g)(hst:0<=g.start/\g.start < g.ns.length)(hC:CntF g C w F cap) :
  Calls Tryz.prog 39 #[g.val,(.func (.func F) #[] cap)] w fun e w'=>∃ tb nb T N,e=.returned (.agg #[.slice (some ⟨tb,0,none⟩) g.ts.length g.ts.length,.slice (some ⟨nb,0,none⟩) g.ns.length g.ns.length])/\RLst (gF g C) T N/\BB w' tb T/\BB w' nb N/\w.heap.size<=tb/\w.heap.size<=nb/\Below w.heap.size w w':=by
 obtain ⟨wa,hwa⟩:∃ wa:World,wa=((w.alloc (gBox g)).alloc (.cells #[(.func (.func F) #[] cap)] 88)).alloc (.cells #[.slice none 0 0,.slice none 0 0] 86):=⟨_,rfl⟩
 obtain ⟨z3,q1,q2,q3,q4⟩:=three_boxes w (gBox g) (.cells #[(.func (.func F) #[] cap)] 88) (.cells #[.slice none 0 0,.slice none 0 0] 86)
 rw [<- hwa] at z3 q1 q2 q3 q4
 have NM:Hid (Calls Tryz.prog 60 #[g.val] wa fun e w'=>∃ tb nb,e=.returned (.agg #[.slice (some ⟨tb,0,none⟩) g.ts.length g.ts.length,.slice (some ⟨nb,0,none⟩) g.ns.length g.ns.length])/\BB w' tb (List.replicate g.ts.length false)/\BB w' nb (List.replicate g.ns.length false)/\tb≠nb/\wa.heap.size<=tb/\wa.heap.size<=nb/\Below wa.heap.size wa w'):=noMarks_P g wa (hfg.later q4)
 have X0:Hid (wa.heap.size=w.heap.size+1+1+1/\wa.heap[w.heap.size]?=some (gBox g)/\wa.heap[w.heap.size+1]?=some (.cells #[(.func (.func F) #[] cap)] 88)/\wa.heap[w.heap.size+1+1]?=some (.cells #[.slice none 0 0,.slice none 0 0] 86)/\Below w.heap.size w wa):=⟨z3,q1,q2,q3,q4⟩
 obtain ⟨x0,x1,x2,x3,x4⟩:=gbc q1
 have hnl:=hfg.nl.2
 have htl:=hfg.tl.2
 obtain ⟨sm,hsm⟩:∃ m:Nat,g.start=(m:Int):=⟨g.start.toNat,by omega⟩
 have slt:sm < g.ns.length:=by omega
 have HSM:Hid (g.start.toNat=sm/\sm < g.ns.length):=⟨by omega,slt⟩
 have HSE:Hid (g.start=(sm:Int)):=hsm
 clear hsm
 have SE:Hid (∀ w1 vb tb nb T0 N0,RP g C wa vb (w.heap.size+1) tb nb (.func (.func F) #[] cap) T0 N0 w1->Calls Tryz.prog 52 #[.slice g.pa g.ps.length g.pc,.func (.func 62) #[] #[.pointer (some ⟨vb,0,none⟩),.pointer (some ⟨w.heap.size+1,0,none⟩)]] w1 fun e w'=>e=.returned (.tuple #[])/\∃ T N,RP g C wa vb (w.heap.size+1) tb nb (.func (.func F) #[] cap) T N w'/\RLst (gF g C) T N):=fun w1 vb tb nb T0 N0 h=>settle_R g C wa w1 vb _ tb nb F cap T0 N0 (hfg.later q4) ⟨hC.1,fun wq p hb hp=>hC.2 wq p (q4.trans (hb.mono q4.size)) hp⟩ h
 clear hfg hst hC z3 q1 q2 q3 q4
 simp only [gBox] at hwa
 go_enter Tryz.func39,Tryz.ntmps39
 go_wp2_with (go_at_call 60;go_loud (rw [<- hwa];refine NM.out.mono ?_;rintro e w2 ⟨tb,nb,rfl,t2,n2,o2,l2,l3,b2⟩;have R2:Hid (RQ g wa w2.heap.size tb nb (w2.alloc (.cells #[.slice (some ⟨tb,0,none⟩) g.ts.length g.ts.length,.slice (some ⟨nb,0,none⟩) g.ns.length g.ns.length] 86))):=⟨t2.later (bAl _ _),n2.later (bAl _ _),heap_alloc_new _ _,⟨l2,l3,o2,by have:=t2.lt;omega,by have:=n2.lt;omega,b2.size⟩,b2.trans ((bAl _ _).mono b2.size)⟩;clear t2 n2 o2 l2 l3 b2 x0 x1 x2 x3 x4))
 obtain ⟨wd,hwd⟩:∃ wd:World,wd=(w2.alloc (.cells #[.slice (some ⟨tb,0,none⟩) g.ts.length g.ts.length,.slice (some ⟨nb,0,none⟩) g.ns.length g.ns.length] 86)).drew:=⟨_,rfl⟩
 generalize w2.heap.size=vb at *
 have RD:Hid (RQ g wa vb tb nb wd):=R2.out.any (by rw [hwd];exact (Below.refl _ _).drew)
 have hs:Hid (rbS g w.heap.size vb tb nb wd):=RD.out.rb X0.out.2.1
 clear R2 NM
 refine wp_region_x (S:=fun _=>rbS g w.heap.size vb tb nb) (by kernel_rfl) ?_
 rw [<- hwd]
 refine takeF (i:=0) (v:=?_) rfl (by kernel_rfl) (by decide +kernel) (by decide +kernel) (fun _ _ _ h=>h) (Or.inl ⟨by rfl,?_⟩) hs.out ?_
 rotate_left
 ·(intro w hSw;obtain ⟨z0,z1,z2⟩:=hSw;go_simp;try (with_reducible rfl))
 (try simp only [Act.put,lsA,lsZ,lsN])
 refine takeF (i:=1) (v:=?_) rfl (by kernel_rfl) (by decide +kernel) (by decide +kernel) (fun _ _ _ h=>h) (Or.inl ⟨by rfl,?_⟩) hs.out ?_
 rotate_left
 ·(intro w hSw;obtain ⟨z0,z1,z2⟩:=hSw;go_simp;try (with_reducible rfl))
 (try simp only [Act.put,lsA,lsZ,lsN])
 refine takeF (i:=2) (v:=?_) rfl (by kernel_rfl) (by decide +kernel) (by decide +kernel) (fun _ _ _ h=>h) (Or.inl ⟨by rfl,?_⟩) hs.out ?_
 rotate_left
 ·(intro w hSw;obtain ⟨z0,z1,z2⟩:=hSw;go_simp;try (with_reducible rfl))
 (try simp only [Act.put,lsA,lsZ,lsN])
 refine wX1 (j:=3) (by decide +kernel) rfl (fun K' hK=>?_)
 refine sCX rfl 26 #[.int .i64 g.start] _ (run_non1 (v0:=.int .i64 g.start) (by rfl) (by rfl) _) (non_P _ _) ?_
 rintro e w3 ⟨rfl,b3⟩
 have R3:Hid (RQ g wa vb tb nb w3):=RD.out.any b3
 have hs3:Hid (rbS g w.heap.size vb tb nb w3):=R3.out.rb X0.out.2.1
 clear b3 RD hs
 refine ⟨_,rfl,hK.out _ _ hs3.out ?_⟩
 clear hK K'
 (try simp only [Act.put,lsA,lsZ,lsN])
 have AD:Hid (Calls Tryz.prog 61 #[.agg #[.slice (some ⟨tb,0,none⟩) g.ts.length g.ts.length,.slice (some ⟨nb,0,none⟩) g.ns.length g.ns.length],.agg #[.int .i64 2,.int .i64 g.start]] w3 fun e w'=>e=.returned (.bool (!false))/\∃ w6,Below w3.heap.size w3 w6/\w'=w6.setCell ⟨nb,sm,none⟩ (.bool true)):=by
  have hcl:=R3.out.bn.cell (i:=sm) (by simpa using HSM.out.2)
  rw [rep_no] at hcl
  have:=add_P (some ⟨tb,0,none⟩) (some ⟨nb,0,none⟩) g.ts.length g.ts.length g.ns.length g.ns.length 2 sm nb g.ns.length g.ns.length false w3 (by rw [if_neg (by decide)]) HSM.out.2 (by omega) hcl (fun w' hb=>(R3.out.any hb).bn.free sm)
  rw [<- HSE.out] at this
  exact this
 refine wX1 (j:=4) (by decide +kernel) rfl (fun K' hK=>?_)
 refine sCX rfl 61 #[.agg #[.slice (some ⟨tb,0,none⟩) g.ts.length g.ts.length,.slice (some ⟨nb,0,none⟩) g.ns.length g.ns.length],.agg #[.int .i64 2,.int .i64 g.start]] _ (run_add2 (v0:=.agg #[.slice (some ⟨tb,0,none⟩) g.ts.length g.ts.length,.slice (some ⟨nb,0,none⟩) g.ns.length g.ns.length]) (v1:=.agg #[.int .i64 2,.int .i64 g.start]) (by rfl) (by rfl) (by rfl) _) AD.out ?_
 rintro e w4 ⟨rfl,w6,b6,rfl⟩
 have R6:Hid (RQ g wa vb tb nb w6):=R3.out.any b6
 clear b6 AD R3 hs3
 refine ⟨_,rfl,hK.out _ _ (R6.out.rbset X0.out.2.1 (by have:=X0.out.1;have:=R6.out.ord;omega)) ?_⟩
 clear hK K'
 (try simp only [Act.put,lsA,lsZ,lsN])
 refine wXd (by decide +kernel) ?_
 obtain ⟨w7,hw7⟩:∃ w7:World,w7=w6.setCell ⟨nb,sm,none⟩ (.bool true):=⟨_,rfl⟩
 rw [<- hw7]
 have od:=R6.out.ord
 have xs:=X0.out.1
 have RS:Hid (RP g C wa vb (w.heap.size+1) tb nb (.func (.func F) #[] cap) (List.replicate g.ts.length false) ((List.replicate g.ns.length false).set sm true) w7):=by
  show RP _ _ _ _ _ _ _ _ _ _ _
  rw [hw7]
  exact RP.first HSM.out.1 HSM.out.2 R6.out.bt R6.out.bn R6.out.var ((R6.out.bel.block _ (lt_of_block X0.out.2.2.1)).trans X0.out.2.2.1) ⟨⟨by omega,by omega,od.2.2.1⟩,⟨od.2.2.2.1,od.2.2.2.2.1⟩,by omega,by omega⟩ R6.out.bel
 clear hw7 R6
 obtain ⟨y0,y1,y2,y3,y4⟩:=gbc ((RS.out.bel.block _ (lt_of_block X0.out.2.1)).trans X0.out.2.1)
 go_wp2_with (go_at_call 52;refine (SE.out w7 vb tb nb _ _ RS.out).mono ?_;rintro e w8 ⟨rfl,T,N,r8,m8⟩;have R8:Hid (RP g C wa vb (w.heap.size+1) tb nb (.func (.func F) #[] cap) T N w8/\RLst (gF g C) T N):=⟨r8,m8⟩;have v0:w8.cell? ⟨vb,0,none⟩=some (.slice (some ⟨tb,0,none⟩) g.ts.length g.ts.length):=(cQa r8.var).trans rfl;have v1:w8.cell? ⟨vb,1,none⟩=some (.slice (some ⟨nb,0,none⟩) g.ns.length g.ns.length):=(cQa r8.var).trans rfl;have O8:Hid (w8.heap[w.heap.size+1+1]?=some (.cells #[.slice none 0 0,.slice none 0 0] 86)):=(r8.bel.block _ (lt_of_block X0.out.2.2.2.1)).trans X0.out.2.2.2.1;clear r8 m8 y0 y1 y2 y3 y4;obtain ⟨o0,o1,o2,o3⟩:=two_cells O8.out)
 refine bodyPost_ret (v:=.agg #[.slice (some ⟨tb,0,none⟩) g.ts.length g.ts.length,.slice (some ⟨nb,0,none⟩) g.ns.length g.ns.length]) (by simp [results,Tryz.results39,go_sem,o0,o1]) rfl ?_
 have or8:=R8.out.1.ord.1
 have bw:=X0.out.2.2.2.2.trans (R8.out.1.bel.mono X0.out.2.2.2.2.size)
 exact ⟨tb,nb,T,N,rfl,R8.out.2,(R8.out.1.bt.kept (Below.heap_setCell _ _ _ _ (by show tb≠w.heap.size+1+1;omega))).kept (Below.heap_setCell _ _ _ _ (by show tb≠w.heap.size+1+1;omega)),(R8.out.1.bn.kept (Below.heap_setCell _ _ _ _ (by show nb≠w.heap.size+1+1;omega))).kept (Below.heap_setCell _ _ _ _ (by show nb≠w.heap.size+1+1;omega)),by omega,by omega,below_set2 bw (by omega) _ _ _ _⟩
theorem unr1_P (p:PV)(w:World):Calls Tryz.prog 40 #[pVal p] w fun e w'=>e=.returned (.bool true)/\Below w.heap.size w w':=by
 unfold pVal
 go_enter Tryz.func40,Tryz.ntmps40
 go_wp2
 go_ret
 exact ⟨rfl,bAl _ _⟩
theorem unr1_C (g:GV)(w:World):CntF g (fun _=>true) w 40 #[]:=⟨fun args w=>by simp,fun wq p _ _=>by
 have:=unr1_P p wq
 simpa using this⟩
def mkY (T N:List Bool)(s:Int×Int):Bool:=if s.1=1 then T.getD s.2.toNat false else N.getD s.2.toNat false
def unY (T N:List Bool)(l:List (Int×Int)):List (Int×Int):=l.filter fun s=>!mkY T N s
theorem unY_one (T N:List Bool)(k:Nat):unY T N (syD 1 k)=offY 1 T k:=by
 unfold unY syD offY offU
 rw [List.filter_map,List.map_map]
 congr 1
 apply List.filter_congr
 intro i _
 simp [mkY]
theorem unY_two (T N:List Bool)(k:Nat):unY T N (syD 2 k)=offY 2 N k:=by
 unfold unY syD offY offU
 rw [List.filter_map,List.map_map]
 congr 1
 apply List.filter_congr
 intro i _
 simp [mkY]
theorem unY_take {T N:List Bool}{L:List (Int×Int)}{k:Nat}(hk:k < L.length):unY T N (L.take (k+1))=if mkY T N (L.getD k (0,0))=true then unY T N (L.take k) else unY T N (L.take k)++[L.getD k (0,0)]:=by
 have e:L.take (k+1)=L.take k++[L.getD k (0,0)]:=by
  rw [List.take_add_one,List.getElem?_eq_getElem hk,List.getD_eq_getElem?_getD,List.getElem?_eq_getElem hk]
  rfl
 rw [e]
 unfold unY
 rw [List.filter_append]
 split
 ·rename_i h
  rw [List.filter_cons_of_neg (by rw [h];decide)]
  simp
 ·rename_i h
  rw [List.filter_cons_of_pos (by rw [Bool.eq_false_iff.2 h];rfl)]
  simp
theorem unY_len (T N:List Bool)(L:List (Int×Int))(k:Nat):(unY T N (L.take k)).length<=k:=by
 refine Nat.le_trans (List.length_filter_le _ _) ?_
 rw [List.length_take]
 omega
theorem syD_in {g:GV}{s:Int×Int}(h:s∈syD 1 g.ts.length++syD 2 g.ns.length):(s.1=1/\0<=s.2/\s.2 < g.ts.length)∨(s.1=2/\0<=s.2/\s.2 < g.ns.length):=by
 rcases List.mem_append.1 h with h | h
 ·obtain ⟨i,hi,rfl⟩:=List.mem_map.1 h
  have:=List.mem_range.1 hi
  exact .inl ⟨rfl,by simp only;omega,by simp only;omega⟩
 ·obtain ⟨i,hi,rfl⟩:=List.mem_map.1 h
  have:=List.mem_range.1 hi
  exact .inr ⟨rfl,by simp only;omega,by simp only;omega⟩
theorem has_any {g:GV}{w:World}{tb nb:Nat}{T N:List Bool}(ht:g.ts.length<=64)(hn:g.ns.length<=64)(hT:T.length=g.ts.length)(hN:N.length=g.ns.length)(bt:BB w tb T)(bn:BB w nb N){s:Int×Int}(hs:(s.1=1/\0<=s.2/\s.2 < g.ts.length)∨(s.1=2/\0<=s.2/\s.2 < g.ns.length)) :
  Calls Tryz.prog 42 #[.agg #[.slice (some ⟨tb,0,none⟩) g.ts.length g.ts.length,.slice (some ⟨nb,0,none⟩) g.ns.length g.ns.length],.agg #[.int .i64 s.1,.int .i64 s.2]] w fun e w'=>e=.returned (.bool (mkY T N s))/\Below w.heap.size w w':=by
 rcases hs with ⟨h1,i0,i1⟩ | ⟨h1,i0,i1⟩
 ·obtain ⟨i,hi⟩:∃ i:Nat,s.2=(i:Int):=⟨s.2.toNat,by omega⟩
  have:=has_P (some ⟨tb,0,none⟩) (some ⟨nb,0,none⟩) g.ts.length g.ts.length g.ns.length g.ns.length s.1 i tb g.ts.length g.ts.length (T.getD i false) w (by rw [if_pos h1]) (by omega) (by omega) (bt.cell (by omega))
  rw [<- hi] at this
  have e:mkY T N s=T.getD i false:=by unfold mkY;rw [if_pos h1,hi];rfl
  rw [e]
  exact this
 ·obtain ⟨i,hi⟩:∃ i:Nat,s.2=(i:Int):=⟨s.2.toNat,by omega⟩
  have:=has_P (some ⟨tb,0,none⟩) (some ⟨nb,0,none⟩) g.ts.length g.ts.length g.ns.length g.ns.length s.1 i nb g.ns.length g.ns.length (N.getD i false) w (by rw [if_neg (by omega)]) (by omega) (by omega) (bn.cell (by omega))
  rw [<- hi] at this
  have e:mkY T N s=N.getD i false:=by unfold mkY;rw [if_neg (by omega),hi];rfl
  rw [e]
  exact this
structure YBs (w:World)(l:List (Int×Int))(v:Value)(wr:World):Prop where
 sy:SY wr v l
 own:∀ j,v.ownBlock=some j->w.heap.size<=j
 bel:Below w.heap.size w wr
theorem YBs.any {w wr w':World}{l:List (Int×Int)}{v:Value}(h:YBs w l v wr)(hb:Below wr.heap.size wr w'):YBs w l v w':=⟨h.sy.later hb,h.own,h.bel.trans (hb.mono h.bel.size)⟩
structure UQ (g:GV)(w:World)(mb tb nb:Nat)(T N:List Bool)(wr:World):Prop where
 ls:RLst g T N
 bt:BB wr tb T
 bn:BB wr nb N
 box:wr.heap[w.heap.size]?=some (gBox g)
 var:wr.heap[mb]?=some (.cells #[.slice (some ⟨tb,0,none⟩) g.ts.length g.ts.length,.slice (some ⟨nb,0,none⟩) g.ns.length g.ns.length] 86)
 bel:Below w.heap.size w wr
theorem UQ.any {g:GV}{w wr w':World}{mb tb nb:Nat}{T N:List Bool}(h:UQ g w mb tb nb T N wr)(hb:Below wr.heap.size wr w'):UQ g w mb tb nb T N w' :=
 ⟨h.ls,h.bt.later hb,h.bn.later hb,(hb.block _ (lt_of_block h.box)).trans h.box,(hb.block _ (lt_of_block h.var)).trans h.var,h.bel.trans (hb.mono h.bel.size)⟩
theorem unreached_P (g:GV)(w:World)(hfg:FG w g)(hst:0<=g.start/\g.start < g.ns.length) :
  Calls Tryz.prog 24 #[g.val] w fun e w'=>∃ v T N,e=.returned v/\RLst g T N/\YBs w (offY 1 T g.ts.length++offY 2 N g.ns.length) v w':=by
 have X0:Hid ((w.alloc (gBox g)).heap[w.heap.size]?=some (gBox g)):=heap_alloc_new _ _
 have HFG:Hid (∀ w',Below w.heap.size w w'->FG w' g):=fun w' hb=>hfg.later hb
 have RC:Hid (Calls Tryz.prog 39 #[g.val,.func (.func 40) #[] #[]] (w.alloc (gBox g)) fun e w'=>∃ tb nb T N,e=.returned (.agg #[.slice (some ⟨tb,0,none⟩) g.ts.length g.ts.length,.slice (some ⟨nb,0,none⟩) g.ns.length g.ns.length])/\RLst g T N/\BB w' tb T/\BB w' nb N/\Below (w.alloc (gBox g)).heap.size (w.alloc (gBox g)) w'):=by
  have:=reached_P g (fun _=>true) (w.alloc (gBox g)) 40 #[] (hfg.later (bAl _ _)) hst (unr1_C g _)
  rw [gF_all] at this
  exact this.mono fun e w' ⟨tb,nb,T,N,h1,h2,h3,h4,_,_,h5⟩=>⟨tb,nb,T,N,h1,h2,h3,h4,h5⟩
 obtain ⟨x0,x1,x2,x3,x4⟩:=gbc X0.out
 have hnl:=hfg.nl.2
 have htl:=hfg.tl.2
 have SO:Hid (∀ wq,Below w.heap.size w wq->Calls Tryz.prog 41 #[g.val] wq fun e w'=>∃ v,e=.returned v/\SY w' v (syD 1 g.ts.length++syD 2 g.ns.length)/\Below wq.heap.size wq w'):=fun wq hb=>(symbolsOf_P g wq (HFG.out wq hb)).mono fun e w' ⟨v,q1,q2,_,q4⟩=>⟨v,q1,q2,q4⟩
 have HLL:(syD 1 g.ts.length++syD 2 g.ns.length).length<=128:=by simp [syD];omega
 have HIN:Hid (∀ s∈syD 1 g.ts.length++syD 2 g.ns.length,(s.1=1/\0<=s.2/\s.2 < g.ts.length)∨(s.1=2/\0<=s.2/\s.2 < g.ns.length)):=fun s hs=>syD_in hs
 have HFI:Hid (∀ T N,unY T N (syD 1 g.ts.length++syD 2 g.ns.length)=offY 1 T g.ts.length++offY 2 N g.ns.length):=fun T N=>by
  rw [<- unY_one T N,<- unY_two T N]
  unfold unY
  rw [List.filter_append]
 generalize syD 1 g.ts.length++syD 2 g.ns.length=L at *
 clear hfg hst
 go_enter Tryz.func24,Tryz.ntmps24
 go_wp2_with (first
  | (go_at_call 39;refine RC.out.mono ?_;rintro e w2 ⟨tb,nb,T,N,rfl,m2,t2,n2,b2⟩;have U2:Hid (UQ g w w2.heap.size tb nb T N (w2.alloc (.cells #[.slice (some ⟨tb,0,none⟩) g.ts.length g.ts.length,.slice (some ⟨nb,0,none⟩) g.ns.length g.ns.length] 86))):=⟨m2,t2.later (bAl _ _),n2.later (bAl _ _),((bAl w2 _).block _ (Nat.lt_of_lt_of_le (lt_of_block X0.out) b2.size)).trans ((b2.block _ (lt_of_block X0.out)).trans X0.out),heap_alloc_new _ _,((bAl w _).trans (b2.mono (bAl w _).size)).trans ((bAl w2 _).mono ((bAl w _).trans (b2.mono (bAl w _).size)).size)⟩;clear m2 t2 n2 b2 x0 x1 x2 x3 x4;obtain ⟨x0,x1,x2,x3,x4⟩:=gbc U2.out.box)
  | (go_at_call 41;refine (SO.out _ U2.out.bel).mono ?_;rintro e w3 ⟨yv,rfl,y3,b3⟩;obtain ⟨ya,yc,rfl⟩:=sy_lenP y3;have U3:Hid (UQ g w w2.heap.size tb nb T N w3/\SymRow w3 ya L):=⟨U2.out.any b3,y3.row⟩;clear y3 b3 x0 x1 x2 x3 x4))
 generalize w2.heap.size=mb at *
 clear U2
 go_loopw [4,12] (fun v i wr=>∃ k:Nat,k<=L.length/\i=.int .i64 k/\YBs w3 (unY T N (L.take k)) v wr) (fun _ i _=>L.length - (intOf i).toNat)
 case atStart=>exact ⟨0,Nat.zero_le _,rfl,SY.nil _,(fun j hj=>by simp [Value.ownBlock] at hj),Below.refl _ _⟩
 case round =>
  obtain ⟨k,hk,rfl,hY⟩:=hrel
  obtain ⟨va,vc,rfl⟩:=sy_lenP hY.sy
  have HY:Hid (YBs w3 (unY T N (L.take k)) (.slice va (unY T N (L.take k)).length vc) wr):=hY
  by_cases hlt:k < L.length
  ·obtain ⟨sb,so,hya,hsl,hsc⟩:=(U3.out.2.later (Nat.le_refl _) hY.bel) (by intro e;rw [e] at hlt;simp at hlt)
   obtain ⟨s0,s1⟩:=hsc k hlt
   have klt:(k:Int) < (L.length:Int):=by omega
   have hin:=HIN.out _ (by simp [List.getD,hlt]:L.getD k (0,0)∈L)
   have HST:Hid _:=unY_take (T:=T) (N:=N) hlt
   have hrl:=unY_len T N L k
   have HSZ:Hid (L.getD k (0,0)=L.getD k (0,0)):=rfl
   obtain ⟨x,hx⟩:∃ x,L.getD k (0,0)=x:=⟨_,rfl⟩
   rw [hx] at s0 s1 hin HST
   obtain ⟨wa,hwa⟩:∃ wa:World,wa=wr.alloc (.cells #[.int .i64 x.1,.int .i64 x.2] 49):=⟨_,rfl⟩
   have ba:Below wr.heap.size wr wa:=by rw [hwa];exact bAl _ _
   have b3a:Below w3.heap.size w3 wa:=hY.bel.trans (ba.mono hY.bel.size)
   have Ua:=U3.out.1.any b3a
   have v0:wa.cell? ⟨mb,0,none⟩=some (.slice (some ⟨tb,0,none⟩) g.ts.length g.ts.length):=(cQa Ua.var).trans rfl
   have v1:wa.cell? ⟨mb,1,none⟩=some (.slice (some ⟨nb,0,none⟩) g.ns.length g.ns.length):=(cQa Ua.var).trans rfl
   have AD:Hid (Calls Tryz.prog 42 #[.agg #[.slice (some ⟨tb,0,none⟩) g.ts.length g.ts.length,.slice (some ⟨nb,0,none⟩) g.ns.length g.ns.length],.agg #[.int .i64 x.1,.int .i64 x.2]] wa fun e w'=>e=.returned (.bool (mkY T N x))/\Below wa.heap.size wa w'):=has_any htl hnl Ua.ls.tl Ua.ls.nl Ua.bt Ua.bn hin
   have HA:Hid (Below wr.heap.size wr wa/\wa.heap[wr.heap.size]?=some (.cells #[.int .i64 x.1,.int .i64 x.2] 49)):=⟨ba,by rw [hwa];exact heap_alloc_new _ _⟩
   clear hsc hsl hin hY ba b3a Ua hx HSZ
   rw [hya]
   clear hya
   generalize unY T N (L.take k)=R at *
   generalize mkY T N x=mv at *
   obtain ⟨x1,x2⟩:=x
   simp only at s0 s1 hwa AD HA HST
   subst hwa
   cases mv
   ·have E:Hid (unY T N (L.take (k+1))=R++[(x1,x2)]):=by
     show _=_
     have:=HST.out
     simpa using this
    have HLT:Hid (R.length<=2000000):=by show _<=_;omega
    clear HST
    go_wp2_with (first
     | (go_at_call 42;refine AD.out.mono ?_;rintro e w4 ⟨rfl,b4⟩;have B4:Hid (Below wr.heap.size wr w4/\w4.heap[wr.heap.size]?=some (.cells #[.int .i64 x1,.int .i64 x2] 49)):=⟨HA.out.1.trans (b4.mono HA.out.1.size),(b4.block _ (lt_of_block HA.out.2)).trans HA.out.2⟩;obtain ⟨d0,d1,d2,d3⟩:=two_cells B4.out.2;clear b4)
     | (at_builtin;refine wpList_sy_append rfl _ _ rfl (.slice va R.length vc) R rfl ((HY.out.sy.later B4.out.1).later (bAl _ _)) w4.heap.size 1 x1 x2 rfl (by simp) (by simp) HLT.out ?_;intro a4 n4 c4 w5 ho4 hg4))
    obtain ⟨q1,q2⟩:=gBi ((HY.out.bel.trans (B4.out.1.mono HY.out.bel.size)).alloc (HY.out.bel.trans (B4.out.1.mono HY.out.bel.size)).size _) HY.out.own hg4
    have R5:Hid (YBs w3 (unY T N (L.take (k+1))) (.slice a4 n4 c4) w5):=⟨by rw [E.out];exact ho4,q2,q1⟩
    clear q1 q2 ho4 hg4 d0 d1 d2 d3
    go_wp2
    go_roundw
    case rel=>exact ⟨k+1,by omega,by go_num,R5.out⟩
    case measure=>simp [intOf];omega
   ·have E:Hid (unY T N (L.take (k+1))=R):=by
     show _=_
     have:=HST.out
     simpa using this
    clear HST
    go_wp2_with (go_at_call 42;refine AD.out.mono ?_;rintro e w4 ⟨rfl,b4⟩;have R5:Hid (YBs w3 (unY T N (L.take (k+1))) (.slice va R.length vc) w4):=(by rw [E.out];exact (HY.out.any HA.out.1).any b4);clear b4)
    go_roundw
    case rel=>exact ⟨k+1,by omega,by go_num,R5.out⟩
    case measure=>simp [intOf];omega
  ·obtain rfl:k=L.length:=by omega
   have R5:Hid (YBs w (offY 1 T g.ts.length++offY 2 N g.ns.length) (.slice va (unY T N (L.take L.length)).length vc) wr):=by
    show YBs _ _ _ _
    rw [<- HFI.out T N]
    have:=HY.out
    rw [List.take_length] at this ⊢
    exact ⟨this.sy,fun j hj=>Nat.le_trans U3.out.1.bel.size (this.own j hj),U3.out.1.bel.trans (this.bel.mono U3.out.1.bel.size)⟩
   clear hY
   go_wp2
   go_ret
   exact ⟨_,T,N,rfl,U3.out.1.ls,R5.out⟩
end Go.Proofs.YtockbobpmiagiaaGreatDoor
