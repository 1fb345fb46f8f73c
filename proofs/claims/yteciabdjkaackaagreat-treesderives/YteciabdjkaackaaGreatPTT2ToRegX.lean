import Derived.Test.YteciabdjkaackaaGreatPTTPToRegS
import Derived.Deep.DeepCutAuto
import Derived.Deep.MidRow
import Derived.Deep.RegionHeld3
namespace Go.Proofs.YteciabdjkaackaaGreat
set_option linter.unusedVariables false
open Go.RowKit
theorem ps_cells {n:Nat}{w:World}{g:GV}(h:GAt n w g){j:Nat}(hj:j < g.ps.length):∃ b off,g.pa=some ⟨b,off,none⟩/\b < w.heap.size/\w.cell? ⟨b,off+j*3,none⟩=some (.int .i64 (g.ps.getD j .none).left)/\w.cell? ⟨b,off+j*3+1,none⟩=some (.slice (g.ps.getD j .none).ra (g.ps.getD j .none).right.length (g.ps.getD j .none).rc)/\SymRow w (g.ps.getD j .none).ra (g.ps.getD j .none).right:=by
 obtain ⟨b,o,hpa,hbl,hc⟩:=h.p.cells (by intro e;rw [e] at hj;simp at hj)
 obtain ⟨c0,c1,c2⟩:=hc j hj
 exact ⟨b,o,hpa,hbl,c0,c1,h.p.rows _ (by simp [List.getD,hj])⟩
def EntW (F:FuncId):Prop:=∀ (args:Array Value) (w:World),(callFunc F args).run Tryz.prog w=.ok (.enter F args) w
theorem run_fnW {o:Oper}{a:Act}{t0:TypeId}{v0:Value}{x x0:Operand}{F:FuncId}{cap:Array Value}(hE:EntW F)(hop:o.op=Op.call { callee:=Callee.value x,args:=#[x0],argTypes:=#[t0] })(hx:a.eval x=.func (.func F) #[] cap)(h0:a.eval x0=v0)(w:World):(execOp a.eval o).run Tryz.prog w=.ok (.enter F (#[v0]++cap)) w:=by
 have hE':=hE (#[v0]++cap) w
 simp [execOp,hop,resolve,invoke,h0,hx,Deferred.ofValue,hE']
theorem wpList_callW {ops:Array Oper}{rest:List Oper}{o:Oper}{a:Act}{Q:Exit->Act->World->Prop}{w:World}{F:FuncId}{cap:Array Value}{R:Ending->World->Prop}(hg:o.guard=none)(x x0:Operand)(t0:TypeId)(hop:o.op=Op.call { callee:=Callee.value x,args:=#[x0],argTypes:=#[t0] })(hE:EntW F)(v0:Value)(hx:a.eval x=.func (.func F) #[] cap)(h0:a.eval x0=v0)(A:Array Value)(hA:A=#[v0]++cap)(hC:Calls Tryz.prog F A w R)
  (hK:∀ e w',R e w'->∃ v,e=.returned v/\wpList Tryz.prog ops Q rest (a.put o.dst v) w'):wpList Tryz.prog ops Q (o :: rest) a w:=by
 subst hA
 refine wpList_plain hg fun K' hK'=>?_
 show o.upon Tryz.prog a K' Q ((execOp a.eval o).run Tryz.prog w)
 rw [run_fnW hE hop hx h0 w,Oper.upon_enter]
 refine hC.mono fun e w' hR=>?_
 obtain ⟨v,rfl,hk⟩:=hK e w' hR
 exact hK' _ _ hk
def Stp (o:Obj):Prop:=∃ cs fz,o=.cells cs 131 fz
structure NoStp (N:Nat)(w w':World):Prop where
 os:w'.os=w.os
 tape:w'.tape=w.tape
 output:w'.output=w.output
 size:w.heap.size<=w'.heap.size
 keep:∀ (j:Nat) (o:Obj),w.heap[j]?=some o->¬ (N<=j/\Stp o)->w'.heap[j]?=some o
structure OnStp (N:Nat)(w w':World):Prop where
 size:w.heap.size<=w'.heap.size
 keep:∀ (j:Nat) (o:Obj),w.heap[j]?=some o->N<=j->Stp o->w'.heap[j]?=some o
theorem OnStp.refl (N:Nat)(w:World):OnStp N w w:=⟨Nat.le_refl _,fun _ _ h _ _=>h⟩
theorem OnStp.trans {N:Nat}{a b c:World}(h:OnStp N a b)(h':OnStp N b c):OnStp N a c:=⟨Nat.le_trans h.size h'.size,fun j o q l s=>h'.keep j o (h.keep j o q l s) l s⟩
theorem NoStp.trans {N:Nat}{a b c:World}(h:NoStp N a b)(h':NoStp N b c):NoStp N a c:=⟨h'.os.trans h.os,h'.tape.trans h.tape,h'.output.trans h.output,Nat.le_trans h.size h'.size,fun j o q s=>h'.keep j o (h.keep j o q s) s⟩
theorem below_onStp {N:Nat}{w w':World}(h:Below w.heap.size w w'):OnStp N w w':=⟨h.size,fun j o q _ _=>(h.block j (lt_of_block q)).trans q⟩
theorem below_noStp {N:Nat}{w w':World}(h:Below w.heap.size w w'):NoStp N w w':=⟨h.os,h.tape,h.output,h.size,fun j o q _=>(h.block j (lt_of_block q)).trans q⟩
abbrev PA:=Nat×Nat×Nat
def stCells (x:PA):List Value:=[.pointer (some ⟨x.1,x.2.1,none⟩),.int .i64 (x.2.2:Int)]
theorem rkStep:RK 131 132 2 stCells:=by
 refine ⟨Tryz.underlying132,?_,by decide,fun _=>rfl,fun x u hu=>?_⟩
 ·have h:(Tryz.prog.info? 131).map (fun i=>(i.zero,i.size,i.bytes))=some (some (.agg #[.pointer none,.int .i64 0]),2,16):=by kernel_rfl
  cases e:Tryz.prog.info? 131 with
  | none=>rw [e] at h;cases h
  | some i =>
   rw [e] at h
   simp at h
   exact ⟨i,_,rfl,h.1,h.2.1,by rw [h.2.2];decide,rfl⟩
 ·simp [stCells] at hu
  rcases hu with rfl | rfl<;>rfl
abbrev STo:=RO 131 2 stCells
theorem STo.stp {w:World}{v:Value}{S:List PA}(h:STo w v S):∀ j,v.ownBlock=some j->∃ o,w.heap[j]?=some o/\Stp o:=fun j hj=>by
 rcases h.2 with ⟨rfl,_⟩ | ⟨g,cap,cur,rfl,_,h2,_⟩
 ·simp [Value.ownBlock] at hj
 ·simp [Value.ownBlock] at hj
  subst hj
  exact ⟨_,h2,_,_,rfl⟩
def STn (N:Nat)(w:World)(v:Value)(S:List PA):Prop:=STo w v S/\∀ j,v.ownBlock=some j->N<=j
theorem STn.on {N:Nat}{w w':World}{v:Value}{S:List PA}(h:STn N w v S)(hb:OnStp N w w'):STn N w' v S:=⟨h.1.kept fun j hj=>by
 obtain ⟨o,h1,h2⟩:=h.1.stp j hj
 rw [hb.keep j o h1 (h.2 j hj) h2,h1],h.2⟩
theorem STn.later {N:Nat}{w w':World}{v:Value}{S:List PA}(h:STn N w v S)(hb:Below w.heap.size w w'):STn N w' v S:=⟨h.1.later hb,h.2⟩
theorem Grew.noStp {N:Nat}{w w':World}{v v':Value}{S:List PA}(h:Grew w w' v v')(hS:STn N w v S):NoStp N w w':=by
 refine ⟨h.grown.os,h.grown.tape,h.grown.output,h.grown.size,fun j o q s=>?_⟩
 rw [h.grown.block j (lt_of_block q) (fun e=>?_),q]
 obtain ⟨o',h1,h2⟩:=hS.1.stp j e.symm
 rw [q] at h1
 cases h1
 exact s ⟨hS.2 j e.symm,h2⟩
theorem fm_last {α:Type}{f:α->List Value}{k:Nat}(hf:∀ x,(f x).length=k)(S:List α)(x:α)(j:Nat)(u:Value):((S++[x]).flatMap f).set (S.length*k+j) u=S.flatMap f++(f x).set j u:=by
 rw [List.flatMap_append,List.set_append_right _ _ (by rw [fm_len hf];omega),fm_len hf,Nat.add_sub_cancel_left]
 simp
theorem STo.bump {N:Nat}{w:World}{b c:Nat}{S:List PA}{p q n:Nat}(h:STo w (.slice (some ⟨b,0,none⟩) (S.length+1) c) (S++[(p,q,n)])):STo (w.setCell ⟨b,S.length*2+1,none⟩ (.int .i64 ((n:Int)+1))) (.slice (some ⟨b,0,none⟩) (S.length+1) c) (S++[(p,q,n+1)])/\(N<=b->NoStp N w (w.setCell ⟨b,S.length*2+1,none⟩ (.int .i64 ((n:Int)+1)))):=by
 have hl:(S++[(p,q,n)]).length=S.length+1:=by simp
 have hl':(S++[(p,q,n+1)]).length=S.length+1:=by simp
 have h':w.ownsRow 0 131 2 (.slice (some ⟨b,0,none⟩) (S.length+1) c) (S.length+1) ((S++[(p,q,n)]).flatMap stCells):=by
  have:=h
  unfold STo RO at this
  rwa [hl] at this
 rcases h'.2 with ⟨e,_⟩ | ⟨g,cap,cur,e,h1,h2,h3,h4,h5,h6⟩
 ·cases e
 ·cases e
  have hset:=heap_setCell_same w b (S.length*2+1) cur 131 (.int .i64 ((n:Int)+1)) h2
  refine ⟨?_,?_⟩
  ·unfold STo RO
   rw [hl']
   refine ⟨by rw [fm_len (k:=2) (fun _=>rfl),hl'],.inr ⟨b,c,_,rfl,h1,hset,h3,h4,by simp [h5],?_⟩⟩
   rw [Array.toList_setIfInBounds,List.take_set,h6,fm_last (k:=2) (fun _=>rfl) S (p,q,n) 1]
   rw [List.flatMap_append]
   congr 1
  ·intro hN
   have hb:=(Below.refl 0 w).setCell (p:=⟨b,S.length*2+1,none⟩) (Nat.zero_le _) (.int .i64 ((n:Int)+1))
   refine ⟨hb.os,hb.tape,hb.output,hb.size,fun j o qq s=>?_⟩
   rw [Below.heap_setCell _ _ _ _ (fun e=>?_),qq]
   have e:j=b:=e
   subst e
   rw [h2] at qq
   cases qq
   exact s ⟨hN,_,_,rfl⟩
abbrev fnV (F:FuncId)(c:Array Value):Value:=.func (.func F) #[] c
structure WkC {γ:Type}(N:Nat)(I:γ->List PA->World->Prop)(μ:γ->Nat)(Post:World->Prop)(E L:FuncId)(ec lc:Array Value):Prop where
 ee:EntW E
 el:EntW L
 still:∀ x S w w',I x S w->NoStp N w w'->I x S w'
 deep:∀ x S w,I x S w->S.length<=500000000
 fin:∀ x w,I x [] w->Post w
 apart:∀ x S p q n w,I x (S++[(p,q,n)]) w->∀ b m c,STn N w (.slice (some ⟨b,0,none⟩) m c) (S++[(p,q,n)])->p≠b
 top:∀ x S p q n w,I x (S++[(p,q,n)]) w->∃ ka len kc,w.cell? ⟨p,q+3,none⟩=some (.slice ka len kc)/\n<=len/\len<=1000000000 /\
  (n=len->Calls Tryz.prog L (#[.pointer (some ⟨p,q,none⟩)]++lc) w fun e w'=>e=.returned (.tuple #[])/\OnStp N w w'/\∃ x',μ x' < μ x/\I x' S w') /\
  (n < len->∃ b off,ka=some ⟨b,off,none⟩/\Calls Tryz.prog E (#[.pointer (some ⟨b,off+n*4,none⟩)]++ec) w fun e w'=>∃ r,e=.returned (.bool r)/\OnStp N w w'/\(r=true->∃ x',μ x' < μ x/\I x' (S++[(p,q,n+1)]++[(b,off+n*4,0)]) w')/\(r=false->Post w'))
theorem sto_one (w:World)(p q:Nat):STo (w.alloc (.cells #[.pointer (some ⟨p,q,none⟩),.int .i64 0] 131)) (.slice (some ⟨w.heap.size,0,none⟩) 1 1) [(p,q,0)] :=
 ⟨rfl,.inr ⟨w.heap.size,1,#[.pointer (some ⟨p,q,none⟩),.int .i64 0],rfl,Nat.zero_le _,heap_alloc_new _ _,Nat.le_refl _,by unfold maxLen;omega,rfl,rfl⟩⟩
theorem sto_free {w:World}{b n c:Nat}{S:List PA}(h:STo w (.slice (some ⟨b,0,none⟩) n c) S)(j:Nat):w.frozen? ⟨b,j,none⟩=false:=by
 rcases h.2 with ⟨e,_⟩ | ⟨g,cap,cur,e,_,h2,_⟩
 ·cases e
 ·cases e
  simp [World.frozen?,h2]
theorem cell_set_neW {w:World}{p q o o':Nat}{u:Value}(h:p≠q):(w.setCell ⟨q,o',none⟩ u).cell? ⟨p,o,none⟩=w.cell? ⟨p,o,none⟩:=World.cell?_of_block (Below.heap_setCell _ _ _ _ h)
set_option linter.unusedSimpArgs false in
set_option maxRecDepth 100000 in
set_option maxHeartbeats 8000000 in
theorem walkAround_W {γ:Type}{N:Nat}{I:γ->List PA->World->Prop}{μ:γ->Nat}{Post:World->Prop}{E L:FuncId}{ec lc:Array Value}(hC:WkC N I μ Post E L ec lc)(b0 o0:Nat)(w:World)(hN:N<=w.heap.size)
  (h0:Calls Tryz.prog E (#[.pointer (some ⟨b0,o0,none⟩)]++ec) w fun e w'=>∃ r,e=.returned (.bool r)/\w.heap.size<=w'.heap.size/\(r=true->∃ x,I x [(b0,o0,0)] w')/\(r=false->Post w')) :
  Calls Tryz.prog 34 #[.pointer (some ⟨b0,o0,none⟩),fnV E ec,fnV L lc] w fun e w'=>e=.returned (.tuple #[])/\Post w':=by
 obtain ⟨A0,hA0⟩:∃ A0,A0=#[Value.pointer (some ⟨b0,o0,none⟩)]++ec:=⟨_,rfl⟩
 have H0:Hid (Calls Tryz.prog E A0 w fun e w'=>∃ r,e=.returned (.bool r)/\w.heap.size<=w'.heap.size/\(r=true->∃ x,I x [(b0,o0,0)] w')/\(r=false->Post w')):=by rw [hA0];exact h0
 have HA0:Hid (A0=#[Value.pointer (some ⟨b0,o0,none⟩)]++ec):=hA0
 have HN:Hid (N<=w.heap.size):=hN
 have HC:Hid (WkC N I μ Post E L ec lc):=hC
 clear hC h0 hA0 hN
 go_enter Tryz.func34,Tryz.ntmps34
 go_upto_region 1 with (refine wpList_callW rfl (.tmp 9) (.tmp 10) 75 rfl HC.out.ee (.pointer (some ⟨b0,o0,none⟩)) rfl rfl A0 HA0.out H0.out ?_;rintro e w1 ⟨r,rfl,hz1,h1,h2⟩;refine ⟨_,rfl,?_⟩;cases r)
 ·refine bodyPost_ret (results_none rfl _ _ _) rfl ?_
  exact ⟨rfl,h2 (by simp)⟩
 ·obtain ⟨x0,hx0⟩:=h1 (by simp)
  have S0:Hid (STn N (w1.alloc (.cells #[.pointer (some ⟨b0,o0,none⟩),.int .i64 0] 131)) (.slice (some ⟨w1.heap.size,0,none⟩) 1 1) [(b0,o0,0)]/\I x0 [(b0,o0,0)] (w1.alloc (.cells #[.pointer (some ⟨b0,o0,none⟩),.int .i64 0] 131))):=⟨⟨sto_one w1 b0 o0,fun j hj=>by simp [Value.ownBlock] at hj;have:=HN.out;omega⟩,HC.out.still _ _ _ _ hx0 (below_noStp (bAl _ _))⟩
  clear h1 h2 hx0 hz1
  go_wp2
  generalize w1.alloc (.cells #[.pointer (some ⟨b0,o0,none⟩),.int .i64 0] 131)=w2 at *
  go_loopg [6] (μ x0+1) (fun gk vs wr=>∃ x S,STn N wr vs S/\I x S wr/\μ x < gk)
  case atStart=>exact ⟨x0,_,S0.out.1,S0.out.2,by omega⟩
  case round =>
   clear S0
   obtain ⟨x,S,hS,hI,hg⟩:=hrel
   by_cases hD:S=[]
   ·subst hD
    obtain ⟨sa,sc,rfl,_⟩:=RO.len hS.1
    have R:Hid (Post wr):=HC.out.fin x wr hI
    clear hS hI hg
    simp only [List.length_nil] at *
    go_wp2
    refine bodyPost_end (results_none rfl _ _ _) rfl ?_
    exact ⟨rfl,R.out⟩
   ·obtain ⟨S',y,rfl⟩:∃ d y,S=d++[y]:=⟨S.dropLast,S.getLast hD,(List.dropLast_concat_getLast hD).symm⟩
    obtain ⟨p,q,n⟩:=y
    obtain ⟨b,c,rfl,hc,hcell,hP'⟩:=RO.pop (f:=stCells) (fun _=>rfl) hS.1
    have c0:=hcell 0 (by omega)
    have c1:=hcell 1 (by omega)
    simp only [stCells,List.getElem?_cons_zero,List.getElem?_cons_succ,Nat.add_zero] at c0 c1
    obtain ⟨ka,len,kc,c3,hnl,hll,-⟩:=HC.out.top _ _ _ _ _ _ hI
    have HTOP:Hid (∀ w',I x (S'++[(p,q,n)]) w'->w'.cell? ⟨p,q+3,none⟩=some (.slice ka len kc)->(n=len->Calls Tryz.prog L (#[.pointer (some ⟨p,q,none⟩)]++lc) w' fun e w''=>e=.returned (.tuple #[])/\OnStp N w' w''/\∃ x',μ x' < μ x/\I x' S' w'') /\
      (n < len->∃ b off,ka=some ⟨b,off,none⟩/\Calls Tryz.prog E (#[.pointer (some ⟨b,off+n*4,none⟩)]++ec) w' fun e w''=>∃ r,e=.returned (.bool r)/\OnStp N w' w''/\(r=true->∃ x',μ x' < μ x/\I x' (S'++[(p,q,n+1)]++[(b,off+n*4,0)]) w'')/\(r=false->Post w''))):=fun w' h' e'=>by
     obtain ⟨ka',len',kc',e,-,-,h⟩:=HC.out.top _ _ _ _ _ _ h'
     rw [e'] at e
     simp only [Option.some.injEq,Value.slice.injEq] at e
     obtain ⟨rfl,rfl,rfl⟩:=e
     exact h
    have hdp:=HC.out.deep _ _ _ hI
    simp only [List.length_append,List.length_cons,List.length_nil] at hdp
    have HNB:Hid (N<=b):=hS.2 b rfl
    have HS:Hid (STn N wr (.slice (some ⟨b,0,none⟩) (S'.length+1) c) (S'++[(p,q,n)])/\I x (S'++[(p,q,n)]) wr/\μ x < gk/\STn N wr (.slice (some ⟨b,0,none⟩) S'.length c) S'):=⟨hS,hI,hg,hP',hS.2⟩
    clear hS hI hg hP' hcell hD
    have hb0:S'.length<=500000000:=by omega
    clear hdp
    by_cases hn:n=len
    ·subst hn
     have t1:((n:Int) == (n:Int))=true:=by simp
     go_upto_region 4 with fail
     go_quiet (fail)
     obtain ⟨wd,hwd⟩:∃ wd:World,wd=wr.drewN nq:=⟨_,rfl⟩
     rw [<- hwd]
     have BD:Below wr.heap.size wr wd:=by rw [hwd];exact bDn (Below.refl _ _) _
     have HD:Hid (STn N wd (.slice (some ⟨b,0,none⟩) (S'.length+1) c) (S'++[(p,q,n)])/\I x (S'++[(p,q,n)]) wd/\STn N wd (.slice (some ⟨b,0,none⟩) S'.length c) S'):=⟨HS.out.1.on (below_onStp BD),HC.out.still _ _ _ _ HS.out.2.1 (below_noStp BD),HS.out.2.2.2.on (below_onStp BD)⟩
     have cc:∀ a:Addr,wd.cell? a=wr.cell? a:=fun a=>by rw [hwd];rfl
     have d0:=(cc _).trans c0
     have d1:=(cc _).trans c1
     have d3:=(cc _).trans c3
     obtain ⟨A1,hA1⟩:∃ A1,A1=#[Value.pointer (some ⟨p,q,none⟩)]++lc:=⟨_,rfl⟩
     have CL:Hid (Calls Tryz.prog L A1 wd fun e w''=>e=.returned (.tuple #[])/\OnStp N wd w''/\∃ x',μ x' < μ x/\I x' S' w''):=by
      rw [hA1]
      exact (HTOP.out wd HD.out.2.1 d3).1 rfl
     have HA1:Hid (A1=#[Value.pointer (some ⟨p,q,none⟩)]++lc):=hA1
     clear hwd BD cc c0 c1 c3 hA1 HTOP d3
     go_wp2_with (refine wpList_callW rfl (.tmp 37) (.tmp 41) 75 rfl HC.out.el (.pointer (some ⟨p,q,none⟩)) rfl rfl A1 HA1.out CL.out ?_;rintro e w5 ⟨rfl,b5,x',hm5,hi5⟩;refine ⟨_,rfl,?_⟩;have W5:Hid (STn N w5 (.slice (some ⟨b,0,none⟩) S'.length c) S'/\μ x' < μ x/\I x' S' w5):=⟨HD.out.2.2.on b5,hm5,hi5⟩;clear b5 hm5 hi5 d0 d1)
     go_roundg (gk - 1)
     case measure=>have:=HS.out.2.2.1;omega
     case rel=>exact ⟨x',S',W5.out.1,W5.out.2.2,by have:=HS.out.2.2.1;have:=W5.out.2.1;omega⟩
    ·have hlt:n < len:=by omega
     have t1:((n:Int) == (len:Int))=false:=by simp;omega
     have nlt:(n:Int) < (len:Int):=by omega
     obtain ⟨kb,ko,rfl,-⟩:=(HTOP.out wr HS.out.2.1 c3).2 hlt
     have HAP:Hid (p≠b):=HC.out.apart _ _ _ _ _ _ HS.out.2.1 _ _ _ HS.out.1
     clear hn
     go_upto_region 4 with fail
     go_quiet (fail)
     obtain ⟨wd,hwd⟩:∃ wd:World,wd=wr.drewN nq:=⟨_,rfl⟩
     rw [<- hwd]
     have BD:Below wr.heap.size wr wd:=by rw [hwd];exact bDn (Below.refl _ _) _
     have HD:Hid (STn N wd (.slice (some ⟨b,0,none⟩) (S'.length+1) c) (S'++[(p,q,n)])/\I x (S'++[(p,q,n)]) wd/\STn N wd (.slice (some ⟨b,0,none⟩) S'.length c) S'):=⟨HS.out.1.on (below_onStp BD),HC.out.still _ _ _ _ HS.out.2.1 (below_noStp BD),HS.out.2.2.2.on (below_onStp BD)⟩
     have cc:∀ a:Addr,wd.cell? a=wr.cell? a:=fun a=>by rw [hwd];rfl
     have d0:=(cc _).trans c0
     have d1:=(cc _).trans c1
     have d3:=(cc _).trans c3
     have HG:Hid (μ x < gk):=HS.out.2.2.1
     clear hwd BD cc c0 c1 c3 HS
     go_upto_region 7 with fail
     go_quiet (fail)
     obtain ⟨we,hwe⟩:∃ we:World,we=wd.drewN nq:=⟨_,rfl⟩
     rw [<- hwe]
     have BE:Below wd.heap.size wd we:=by rw [hwe];exact bDn (Below.refl _ _) _
     have cc:∀ a:Addr,we.cell? a=wd.cell? a:=fun a=>by rw [hwe];rfl
     have e1:=(cc _).trans d1
     have HE:Hid (STn N we (.slice (some ⟨b,0,none⟩) (S'.length+1) c) (S'++[(p,q,n)])):=HD.out.1.on (below_onStp BE)
     have ef:=sto_free HE.out.1 (S'.length*2+1)
     obtain ⟨bm1,bm2⟩:=STo.bump (N:=N) HE.out.1
     have HF:Hid (STn N (we.setCell ⟨b,S'.length*2+1,none⟩ (.int .i64 ((n:Int)+1))) (.slice (some ⟨b,0,none⟩) (S'.length+1) c) (S'++[(p,q,n+1)])/\I x (S'++[(p,q,n)]) (we.setCell ⟨b,S'.length*2+1,none⟩ (.int .i64 ((n:Int)+1)))):=⟨⟨bm1,HE.out.2⟩,HC.out.still _ _ _ _ HD.out.2.1 ((below_noStp BE).trans (bm2 HNB.out))⟩
     obtain ⟨A2,hA2⟩:∃ A2,A2=#[Value.pointer (some ⟨kb,ko+n*4,none⟩)]++ec:=⟨_,rfl⟩
     have CE:Hid (Calls Tryz.prog E A2 (we.setCell ⟨b,S'.length*2+1,none⟩ (.int .i64 ((n:Int)+1))) fun e w''=>∃ r,e=.returned (.bool r)/\OnStp N (we.setCell ⟨b,S'.length*2+1,none⟩ (.int .i64 ((n:Int)+1))) w''/\(r=true->∃ x',μ x' < μ x/\I x' (S'++[(p,q,n+1)]++[(kb,ko+n*4,0)]) w'')/\(r=false->Post w'')):=by
      obtain ⟨ka',len',kc',e,-,-,hh⟩:=HC.out.top _ _ _ _ _ _ HF.out.2
      have e3:(we.setCell ⟨b,S'.length*2+1,none⟩ (.int .i64 ((n:Int)+1))).cell? ⟨p,q+3,none⟩=some (.slice (some ⟨kb,ko,none⟩) len kc):=by
       rw [cell_set_neW (HAP.out)]
       exact (cc _).trans d3
      rw [hA2]
      obtain ⟨b',o',eq',h⟩:=(HTOP.out _ HF.out.2 e3).2 hlt
      simp only [Option.some.injEq,Addr.mk.injEq,and_true] at eq'
      obtain ⟨rfl,rfl⟩:=eq'
      exact h
     have HA2:Hid (A2=#[Value.pointer (some ⟨kb,ko+n*4,none⟩)]++ec):=hA2
     clear hwe BE cc d0 d1 d3 hA2 HTOP HD bm1 bm2 HE
     generalize hwf:we.setCell ⟨b,S'.length*2+1,none⟩ (.int .i64 ((n:Int)+1))=wf at HF CE
     have HWF:Hid (we.setCell ⟨b,S'.length*2+1,none⟩ (.int .i64 ((n:Int)+1))=wf):=hwf
     clear hwf
     go_upto_region 9 with fail
     rw [HWF.out]
     clear HWF e1 ef
     go_upto_region 10 with (refine wpList_callW rfl (.tmp 67) (.tmp 68) 75 rfl HC.out.ee (.pointer (some ⟨kb,ko+n*4,none⟩)) rfl rfl A2 HA2.out CE.out ?_;rintro e w6 ⟨r,rfl,b6,h1,h2⟩;refine ⟨_,rfl,?_⟩;cases r)
     ·refine bodyPost_ret (results_none rfl _ _ _) rfl ?_
      exact ⟨rfl,h2 (by simp)⟩
     ·obtain ⟨x',hm6,hi6⟩:=h1 (by simp)
      have W6:Hid (STn N (w6.alloc (.cells #[.pointer (some ⟨kb,ko+n*4,none⟩),.int .i64 0] 131)) (.slice (some ⟨b,0,none⟩) (S'.length+1) c) (S'++[(p,q,n+1)])/\μ x' < μ x/\I x' (S'++[(p,q,n+1)]++[(kb,ko+n*4,0)]) (w6.alloc (.cells #[.pointer (some ⟨kb,ko+n*4,none⟩),.int .i64 0] 131))):=⟨(HF.out.1.on b6).later (bAl _ _),hm6,HC.out.still _ _ _ _ hi6 (below_noStp (bAl _ _))⟩
      have NX:Hid (∀ j u,(stCells (kb,ko+n*4,0))[j]?=some u->(w6.alloc (.cells #[.pointer (some ⟨kb,ko+n*4,none⟩),.int .i64 0] 131)).cell? ⟨w6.heap.size,j,none⟩=some u):=fun j u hu=>by
       rw [cQa (heap_alloc_new w6 (.cells #[.pointer (some ⟨kb,ko+n*4,none⟩),.int .i64 0] 131)),<- hu]
       simp [stCells]
      have HNS:Hid (N<=(w6.alloc (.cells #[.pointer (some ⟨kb,ko+n*4,none⟩),.int .i64 0] 131)).heap.size):=by
       have:=W6.out.1.1.lt b rfl
       have:=HNB.out
       show _<=_
       omega
      have LN:Hid ((S'++[(p,q,n+1)]).length<=1000000000):=by show _<=_;simp;omega
      have VL:Hid (S'.length+1=(S'++[(p,q,n+1)]).length):=by simp [Hid]
      clear h1 h2 b6 hm6 hi6 HF CE HA2
      go_wp2_with (at_builtin;refine wpList_ro_append rkStep rfl _ _ rfl (.slice (some ⟨b,0,none⟩) (S'.length+1) c) (S'++[(p,q,n+1)]) rfl W6.out.1.1 w6.heap.size 1 (kb,ko+n*4,0) rfl NX.out LN.out ?_;intro a7 n7 c7 w7 ho7 hg7;have W7:Hid (STn N w7 (.slice a7 n7 c7) (S'++[(p,q,n+1)]++[(kb,ko+n*4,0)])/\I x' (S'++[(p,q,n+1)]++[(kb,ko+n*4,0)]) w7):=⟨⟨ho7,hg7.own (n:=N) HNS.out W6.out.1.2⟩,HC.out.still _ _ _ _ W6.out.2.2 (Grew.noStp hg7 W6.out.1)⟩;clear ho7 hg7)
      go_roundg (gk - 1)
      case measure=>have:=HG.out;omega
      case rel=>exact ⟨x',_,W7.out.1,W7.out.2,by have:=HG.out;have:=W6.out.2.1;omega⟩
theorem pl_size (t:TV)(d e:Int):(plT d t).length=(plT e t).length:=by
 induction t using TV.ind generalizing d e with
 | _ t ih =>
  rw [plT_eq,plT_eq]
  have:∀ (l:List TV),(∀ k∈l,∀ d e,(plT d k).length=(plT e k).length)->(plL (d+1) l).length=(plL (e+1) l).length:=by
   intro l
   induction l with
   | nil=>intro _;rfl
   | cons a l ihl =>
    intro hl
    rw [plL_cons,plL_cons,List.length_append,List.length_append,hl a List.mem_cons_self (d+1) (e+1),ihl (fun k hk=>hl k (List.mem_cons_of_mem _ hk))]
  simp [this t.kids (fun k hk=>ih k hk)]
def szT (t:TV):Nat:=(plT 0 t).length
def szL (l:List TV):Nat:=(l.map szT).sum
theorem szL_app (l m:List TV):szL (l++m)=szL l+szL m:=by simp [szL]
theorem plL_len (d:Int):∀ l:List TV,(plL d l).length=szL l
 | []=>rfl
 | a :: l=>by rw [plL_cons,List.length_append,plL_len d l,pl_size a d 0];simp [szL,szT]
theorem szT_eq (t:TV):szT t=szL t.kids+1:=by
 unfold szT
 rw [plT_eq,List.length_cons,plL_len]
theorem szL_len:∀ l:List TV,l.length<=szL l
 | []=>Nat.le_refl _
 | a :: l=>by
  have:=szL_len l
  have:=szT_eq a
  simp only [szL,List.map_cons,List.sum_cons,List.length_cons] at *
  omega
theorem szL_mem:∀ {l:List TV} {k:TV},k∈l->szT k<=szL l
 | a :: l,k,h=>by
  simp only [szL,List.map_cons,List.sum_cons]
  rcases List.mem_cons.1 h with rfl | h
  ·omega
  ·have:=szL_mem h
   simp only [szL] at this
   omega
section
variable {P:Program} {ops:Array Oper} {Q:Exit->Act->World->Prop} {md:Region.Mode} {S:Array Bool->World->Prop}
def wpAnyX (P:Program)(md:Region.Mode)(ops:Array Oper)(Q:Exit->Act->World->Prop)(S:Array Bool->World->Prop):Nat->Array Bool->Act->World->Prop
 | 0,listed,a,w=>Region.ready md ops listed=[]/\Q .normal a w
 | fuel+1,listed,a,w =>
  (Region.ready md ops listed=[]->Q .normal a w) /\
  ∀ i∈Region.ready md ops listed,wpOp P ops Q i (fun a' w'=>S (listed.setIfInBounds i true) w'/\wpAnyX P md ops Q S fuel (listed.setIfInBounds i true) a' w') a w
theorem wpAny_of_x:∀ (fuel:Nat) (listed:Array Bool) (a:Act) (w:World),wpAnyX P md ops Q S fuel listed a w->wpAny P md ops Q fuel listed a w
 | 0,_,_,_,h=>h
 | fuel+1,_,_,_,h=>⟨h.1,fun i hi=>wpOp_mono (fun a' w' h'=>wpAny_of_x fuel _ a' w' h'.2) (h.2 i hi)⟩
theorem wp_region_x {id:Nat}{a:Act}{w:World}(hm:P.follows .mixedOrders=true)
  (h:wpAnyX P .any ops Q S ops.size (Array.replicate ops.size false) a w.drew):(Code.region id ops true).wp P Q a w :=
 wp_region_any hm (wpAny_of_x _ _ _ _ h)
theorem wpAnyX_first {i:Nat}{oi:Oper}{v:Value}{T:World->Prop}{Cl:Array Bool->Prop}(hi:ops[i]?=some oi)(hsel:∀ (j:Nat) (o:Oper) cs b,ops[j]?=some o->o.op≠.select cs b)
  (hQ:∀ c a w,Q (.panic c) (a.put oi.dst v) w->Q (.panic c) a w) (hCl:∀ L j,Cl L->j∈Region.ready md ops L->Cl (L.setIfInBounds j true))
  (hST:∀ L w,Cl L->L.getD i true=false->S L w->T w) (hSi:∀ L w,S (L.setIfInBounds i true) w ↔ S L w) :
  ∀ (fuel:Nat) (listed:Array Bool) (a:Act) (w:World),
   (∀ j oj,ops[j]?=some oj->j≠i->listed.getD j true=false->(∀ e∈oj.after,Region.binds md e=true->e.on≠i)->oi.apart ops oj=true) ->
   i∈Region.ready md ops listed->Cl listed->YieldsIf P ops T oi v a->S listed w ->
   wpAnyX P md ops Q S fuel (listed.setIfInBounds i true) (a.put oi.dst v) w->wpAnyX P md ops Q S (fuel+1) listed a w:=by
 intro fuel
 induction fuel with
 | zero =>
  intro listed a w _ hr hc hy hS H
  refine ⟨fun h=>(by rw [h] at hr;cases hr),fun j hj=>?_⟩
  by_cases hji:j=i
  ·subst hji;exact hy.wpOp hi (hST _ _ hc (mem_ready.1 hr).1 hS) ⟨(hSi _ _).2 hS,H⟩
  ·have:=ready_mono hj hji
   rw [H.1] at this
   cases this
 | succ fuel ih =>
  intro listed a w hfree hr hc hy hS H
  refine ⟨fun h=>(by rw [h] at hr;cases hr),fun j hj=>?_⟩
  by_cases hji:j=i
  ·subst hji;exact hy.wpOp hi (hST _ _ hc (mem_ready.1 hr).1 hS) ⟨(hSi _ _).2 hS,H⟩
  ·have h1:=H.2 j (ready_mono hj hji)
   obtain ⟨hjun,oj,hoj,hall⟩:=mem_ready.1 hj
   have hnot:∀ e∈oj.after,Region.binds md e=true->e.on≠i:=fun e he hb heq=>by
    have h1:=hall e he hb
    have h0:=(mem_ready.1 hr).1
    rw [heq] at h1
    rcases Nat.lt_or_ge i listed.size with h' | h'
    ·simp [h'] at h0 h1;rw [h0] at h1;cases h1
    ·simp [Array.getElem?_eq_none h'] at h1
   have h2:=wpOp_putIf hoj (hfree j oj hoj hji hjun hnot) (fun cs b=>hsel i oi cs b hi) (fun cs b=>hsel j oj cs b hoj) hQ hy h1
   have hfree':∀ k ok,ops[k]?=some ok->k≠i->(listed.setIfInBounds j true).getD k true=false ->
     (∀ e∈ok.after,Region.binds md e=true->e.on≠i)->oi.apart ops ok=true:=fun k ok hk hki hun hno=>by
    refine hfree k ok hk hki ?_ hno
    by_cases hjk:j=k
    ·subst hjk;exact hjun
    ·rw [getD_set_ne true hjk] at hun;exact hun
   refine wpOp_mono (fun a' w' h3=>?_) h2
   have hs:S (listed.setIfInBounds j true) w':=by
    have:=h3.2.1
    rw [Array.setIfInBounds_comm _ _ (Ne.symm hji)] at this
    exact (hSi _ _).1 this
   refine ⟨hs,ih (listed.setIfInBounds j true) a' w' hfree' (ready_mono hr (Ne.symm hji)) (hCl _ _ hc hj) h3.1 hs ?_⟩
   rw [Array.setIfInBounds_comm _ _ hji]
   exact h3.2.2
def SX (m:Nat)(S0 S1:World->Prop)(L:Array Bool)(w:World):Prop:=S0 w/\(L.getD m false=false->S1 w)
theorem SX.both {m:Nat}{S0 S1:World->Prop}{L:Array Bool}{w:World}(h0:S0 w)(h1:S1 w):SX m S0 S1 L w:=⟨h0,fun _=>h1⟩
theorem SX.one {m:Nat}{S0 S1:World->Prop}{L:Array Bool}{w:World}(h0:S0 w)(hm:L.getD m false=true):SX m S0 S1 L w:=⟨h0,fun h=>by rw [hm] at h;cases h⟩
def lastB (md:Region.Mode)(ops:Array Oper)(m:Nat):Bool:=(List.range m).all fun i=>Region.waitsFor md ops m i
def ClX (m:Nat)(L:Array Bool):Prop:=L.getD m false=true->∀ i,i < m->L.getD i false=true
theorem ClX.next {m:Nat}(hl:lastB md ops m=true)(L:Array Bool)(j:Nat)(h:ClX m L)(hj:j∈Region.ready md ops L):ClX m (L.setIfInBounds j true):=by
 intro hm i hi
 by_cases hjm:j=m
 ·subst hjm
  obtain ⟨_,oj,hoj,hall⟩:=mem_ready.1 hj
  have h1:=List.all_eq_true.1 hl i (List.mem_range.2 hi)
  obtain ⟨o',ho',e,he,hb,hon⟩:=Region.waitsFor_spec h1
  obtain rfl:o'=oj:=Option.some.inj (ho'.symm.trans hoj)
  have h2:=hall e he hb
  rw [hon] at h2
  exact getD_set_true h2
 ·rw [getD_set_ne false hjm] at hm
  exact getD_set_true (h hm i hi)
theorem wXt {m i:Nat}{oi:Oper}{v:Value}{S0 S1:World->Prop}{fuel:Nat}{listed:Array Bool}{a:Act}{w:World}(hi':ops.toList[i]?=some oi)
  (hs:Region.noSelect ops=true) (hl:lastB md ops m=true) (him:i < m) (hf:Region.free md ops listed i=true) (hr:(Region.ready md ops listed).contains i=true)
  (hQ:∀ c a w,Q (.panic c) (a.put oi.dst v) w->Q (.panic c) a w) (hc0:listed.getD m false=false) (hy:YieldsIf P ops (fun w=>S0 w/\S1 w) oi v a) (hS:SX m S0 S1 listed w)
  (h:wpAnyX P md ops Q (SX m S0 S1) fuel (listed.setIfInBounds i true) (a.put oi.dst v) w):wpAnyX P md ops Q (SX m S0 S1) (fuel+1) listed a w :=
 have hi:ops[i]?=some oi:=by rw [<- Array.getElem?_toList];exact hi'
 wpAnyX_first (Cl:=ClX m) hi (Region.noSelect_spec hs) hQ (ClX.next hl)
  (fun L w hc hun hS=>⟨hS.1,hS.2 (by
   cases e:L.getD m false with
   | false=>rfl
   | true=>have:=hc e i him;rw [getD_both hun] at this;cases this)⟩)
  (fun L w=>by
   have e:(L.setIfInBounds i true).getD m false=L.getD m false:=getD_set_ne false (by omega)
   unfold SX
   rw [e]) fuel listed a w (Region.free_spec hi hf) (by simpa using hr) (fun e=>by rw [hc0] at e;cases e) hy hS h
theorem wX1 {j:Nat}{o:Oper}{fuel:Nat}{listed:Array Bool}{a:Act}{w:World}(hr:Region.ready md ops listed=[j])(ho':ops.toList[j]?=some o)
  (h:∀ K':Act->World->Prop,Shut (∀ a' w',S (listed.setIfInBounds j true) w'->wpAnyX P md ops Q S fuel (listed.setIfInBounds j true) a' w'->K' a' w')->if Region.wanted o (yielded ops a.tmps)=true then Oper.wp P o a w K' Q else K' (a.put o.dst undef) w) :
  wpAnyX P md ops Q S (fuel+1) listed a w:=by
 refine ⟨fun h0=>(by rw [hr] at h0;cases h0),fun i hi=>?_⟩
 rw [hr] at hi
 obtain rfl:i=j:=by simpa using hi
 have ho:ops[i]?=some o:=by rw [<- Array.getElem?_toList];exact ho'
 exact wpOp_step ho (fun K' hK=>h K' (fun a' w' hS hW=>hK a' w' ⟨hS,hW⟩))
theorem sCX {o:Oper}{a:Act}{w:World}{K:Act->World->Prop}{E:Prop}(hg:o.guard=none)(f:FuncId)(args:Array Value)(R:Ending->World->Prop)
  (hrun:(execOp a.eval o).run P w=.ok (.enter f args) w) (hC:Calls P f args w R) (hK:∀ e w',R e w'->∃ v,e=.returned v/\K (a.put o.dst v) w') :
  if Region.wanted o (yielded ops a.tmps)=true then Oper.wp P o a w K Q else E:=by
 have hw:Region.wanted o (yielded ops a.tmps)=true:=by simp [Region.wanted,hg]
 rw [if_pos hw]
 show o.upon P a K Q ((execOp a.eval o).run P w)
 rw [hrun,Oper.upon_enter]
 refine hC.mono fun e w' hR=>?_
 obtain ⟨v,rfl,hk⟩:=hK e w' hR
 exact hk
theorem wXd {listed:Array Bool}{a:Act}{w:World}(hr:Region.ready md ops listed=[])(h:Q .normal a w):wpAnyX P md ops Q S 0 listed a w:=⟨hr,h⟩
end
end Go.Proofs.YteciabdjkaackaaGreat
