import Derived.Test.YthaamdognbncnaaGreatDoorPBBaseToGInts
import Derived.Deep.RegionWith
namespace Go.Proofs.YthaamdognbncnaaGreatDoor
set_option linter.unusedVariables false
set_option maxRecDepth 100000
set_option maxHeartbeats 16000000
open Go.RowKit Go.Maps
def GL (w:World)(v:Value)(ss:List Value):Prop:=w.ownsRow 0 22 1 v ss.length ss
theorem GL.kept {w w':World}{v:Value}{ss:List Value}(h:GL w v ss)(hb:∀ k,v.ownBlock=some k->w'.heap[k]?=w.heap[k]?):GL w' v ss:=by
 refine ⟨h.1,?_⟩
 rcases h.2 with q | ⟨g,cap,cur,rfl,h1,h2,h3⟩
 ·exact .inl q
 ·exact .inr ⟨g,cap,cur,rfl,h1,(hb g rfl).trans h2,h3⟩
theorem GL.lt {w:World}{v:Value}{ss:List Value}(h:GL w v ss):∀ k,v.ownBlock=some k->k < w.heap.size:=fun k hk=>(World.ownsRow.lt h k hk).2
theorem GL.later {w w':World}{v:Value}{ss:List Value}(h:GL w v ss)(hb:Below w.heap.size w w'):GL w' v ss:=h.kept fun k hk=>hb.block k (h.lt k hk)
theorem GL.ne {w:World}{v:Value}{ss:List Value}(h:GL w v ss){b:Nat}{C:Array Value}{t:TypeId}(hb:w.heap[b]?=some (.cells C t (0,0)))(ht:t≠22):some b≠v.ownBlock:=by
 intro e
 rcases h.2 with ⟨rfl,_⟩ | ⟨g,cap,cur,rfl,_,hg,_⟩
 ·simp [Value.ownBlock] at e
 ·simp [Value.ownBlock] at e
  subst e
  rw [hb] at hg;simp at hg;exact ht hg.2
theorem GL.nil (w:World):GL w (.slice none 0 0) []:=World.ownsRow_nil w 0 22 1
structure Full (w:World)(g:Nat)(zs:List ByteArray):Prop where
 hg:w.heap[g]?=some (.cells (zs.map Value.string).toArray 9 (0,0))
 by_:∀ s∈zs,s.size<=maxLen
theorem Full.cell {w:World}{g:Nat}{zs:List ByteArray}(h:Full w g zs)(j:Nat)(hj:j < zs.length):w.cell? ⟨g,j,none⟩=some (.string (zs.getD j ByteArray.empty)):=by
 simp [World.cell?,h.hg,List.getD,hj]
theorem Full.free {w:World}{g:Nat}{zs:List ByteArray}(h:Full w g zs)(j:Nat):w.frozen? ⟨g,j,none⟩=false:=by
 simp [World.frozen?,h.hg]
theorem Full.set {w:World}{g:Nat}{zs:List ByteArray}(h:Full w g zs)(j:Nat)(m:ByteArray)(h1:m.size<=maxLen):Full (w.setCell ⟨g,j,none⟩ (.string m)) g (zs.set j m):=by
 refine ⟨?_,fun x hx=>?_⟩
 ·rw [hSt h.hg]
  congr 2
  simp [List.map_set]
 ·rcases List.mem_or_eq_of_mem_set hx with q | q
  ·exact h.by_ x q
  ·subst q;exact h1
theorem Full.row {w:World}{g:Nat}{zs:List ByteArray}(h:Full w g zs):StrRow w (some ⟨g,0,none⟩) zs :=
 fun _=>⟨g,0,rfl,lt_of_block h.hg,fun i hi=>by rw [Nat.zero_add];exact h.cell i hi⟩
theorem Full.rowTake {w:World}{g:Nat}{zs xs:List ByteArray}(h:Full w g zs)(hx:zs.take xs.length=xs):StrRow w (some ⟨g,0,none⟩) xs:=by
 refine fun _=>⟨g,0,rfl,lt_of_block h.hg,fun i hi=>?_⟩
 have hz:i < zs.length:=by have:=congrArg List.length hx;simp at this;omega
 rw [Nat.zero_add,h.cell i hz]
 have:xs.getD i ByteArray.empty=zs.getD i ByteArray.empty:=by rw [<- hx];simp [List.getD,hi]
 rw [this]
theorem Full.later {w w':World}{g:Nat}{zs:List ByteArray}(h:Full w g zs)(hb:w'.heap[g]?=w.heap[g]?):Full w' g zs:=⟨hb.trans h.hg,h.by_⟩
structure GE where
 g:Nat
 N:Nat
 a:Option Addr
 M:Nat
 c:Nat
 zs:List ByteArray
def GE.fst (e:GE):Value:=.slice (some ⟨e.g,0,none⟩) e.N e.N
def GE.snd (e:GE):Value:=.slice e.a e.M e.c
structure GE.At (w:World)(e:GE):Prop where
 n:e.N=e.zs.length
 m:e.M=e.zs.length
 lim:e.zs.length<=8796093022208
 full:Full w e.g e.zs
 own:GS w (.slice e.a e.M e.c) e.zs
theorem GE.At.later {w w':World}{e:GE}(h:e.At w)(hb:Below w.heap.size w w'):e.At w' :=
 ⟨h.n,h.m,h.lim,h.full.later (hb.block _ (lt_of_block h.full.hg)),h.own.later hb⟩
structure GF (w w':World)(q:Nat)(L W L' W':Value):Prop where
 os:w'.os=w.os
 tape:w'.tape=w.tape
 output:w'.output=w.output
 size:w.heap.size<=w'.heap.size
 block:∀ k,k < w.heap.size->k≠q->some k≠L.ownBlock->some k≠W.ownBlock->w'.heap[k]?=w.heap[k]?
 ml:L'.ownBlock=L.ownBlock∨∃ k,L'.ownBlock=some k/\w.heap.size<=k
 mw:W'.ownBlock=W.ownBlock∨∃ k,W'.ownBlock=some k/\w.heap.size<=k
theorem GF.trans {w w1 w2:World}{q:Nat}{L W L1 W1 L2 W2:Value}(h:GF w w1 q L W L1 W1)(k:GF w1 w2 q L1 W1 L2 W2):GF w w2 q L W L2 W2:=by
 refine ⟨k.os.trans h.os,k.tape.trans h.tape,k.output.trans h.output,Nat.le_trans h.size k.size,fun z hz hq hl hw=>?_,?_,?_⟩
 ·refine (k.block z (Nat.lt_of_lt_of_le hz h.size) hq (fun e=>?_) (fun e=>?_)).trans (h.block z hz hq hl hw)
  ·rcases h.ml with q | ⟨m,q,hm⟩
   ·exact hl (e.trans q)
   ·rw [q] at e;have:=Option.some.inj e;omega
  ·rcases h.mw with q | ⟨m,q,hm⟩
   ·exact hw (e.trans q)
   ·rw [q] at e;have:=Option.some.inj e;omega
 ·rcases k.ml with e | ⟨m,e,hm⟩
  ·rw [e];exact h.ml
  ·exact .inr ⟨m,e,Nat.le_trans h.size hm⟩
 ·rcases k.mw with e | ⟨m,e,hm⟩
  ·rw [e];exact h.mw
  ·exact .inr ⟨m,e,Nat.le_trans h.size hm⟩
theorem GF.ofBelow {w w':World}{q:Nat}{L W:Value}(h:Below w.heap.size w w'):GF w w' q L W L W:=⟨h.os,h.tape,h.output,h.size,fun k hk _ _ _=>h.block k hk,.inl rfl,.inl rfl⟩
theorem GF.below {w w':World}{q B:Nat}{L W L' W':Value}(h:GF w w' q L W L' W')(hB:B<=w.heap.size)(hq:B<=q)(hl:∀ k,L.ownBlock=some k->B<=k)(hw:∀ k,W.ownBlock=some k->B<=k):Below B w w' :=
 ⟨h.os,h.tape,h.output,h.size,fun k hk=>h.block k (by omega) (by omega) (fun e=>by have:=hl k e.symm;omega) (fun e=>by have:=hw k e.symm;omega)⟩
section
variable {w w':World} {q:Nat} {L W L' W':Value} {ss tt:List Value} {es:List GE}
end
def HL (t:TypeId)(w:World)(v:Value)(ss:List Value):Prop:=w.ownsRow 0 t 1 v ss.length ss
def SliceInfo (t:TypeId):Prop:=∃ i,Tryz.prog.info? t=some i/\i.zero=some (.slice none 0 0)/\i.size=1/\i.bytes=24
theorem sliceInfo_of {t:TypeId}(h:(Tryz.prog.info? t).map (fun i=>(i.zero,i.size,i.bytes))=some (some (.slice none 0 0),1,24)):SliceInfo t:=by
 unfold SliceInfo
 cases e:Tryz.prog.info? t with
 | none=>rw [e] at h;cases h
 | some i=>rw [e] at h;simp at h;exact ⟨i,rfl,h⟩
section
variable {t:TypeId} {w w':World} {v:Value} {ss:List Value}
theorem HL.kept (h:HL t w v ss)(hb:∀ k,v.ownBlock=some k->w'.heap[k]?=w.heap[k]?):HL t w' v ss:=by
 refine ⟨h.1,?_⟩
 rcases h.2 with q | ⟨g,cap,cur,rfl,h1,h2,h3⟩
 ·exact .inl q
 ·exact .inr ⟨g,cap,cur,rfl,h1,(hb g rfl).trans h2,h3⟩
theorem HL.lt (h:HL t w v ss):∀ k,v.ownBlock=some k->k < w.heap.size:=fun k hk=>(World.ownsRow.lt h k hk).2
theorem HL.later (h:HL t w v ss)(hb:Below w.heap.size w w'):HL t w' v ss:=h.kept fun k hk=>hb.block k (h.lt k hk)
theorem HL.ne (h:HL t w v ss){b:Nat}{C:Array Value}{t':TypeId}(hb:w.heap[b]?=some (.cells C t' (0,0)))(ht:t'≠t):some b≠v.ownBlock:=by
 intro e
 rcases h.2 with ⟨rfl,_⟩ | ⟨g,cap,cur,rfl,_,hg,_⟩
 ·simp [Value.ownBlock] at e
 ·simp [Value.ownBlock] at e
  subst e
  rw [hb] at hg;simp at hg;exact ht hg.2
theorem HL.nil (t:TypeId)(w:World):HL t w (.slice none 0 0) []:=World.ownsRow_nil w 0 t 1
theorem HL.slice (h:HL t w v ss):∃ a c,v=.slice a ss.length c:=by
 rcases h.2 with ⟨rfl,h0⟩ | ⟨g,cap,cur,rfl,_⟩
 ·exact ⟨none,0,by rw [h0]⟩
 ·exact ⟨_,_,rfl⟩
theorem HL.slice3 (h:HL t w v ss):∃ a N c,v=.slice a N c:=by
 obtain ⟨a,c,e⟩:=h.slice
 exact ⟨a,_,c,e⟩
theorem HL.at (h:HL t w v ss)(i:Nat)(x:Value)(hx:ss[i]?=some x):∃ g c,v=.slice (some ⟨g,0,none⟩) ss.length c/\w.cell? ⟨g,i,none⟩=some x:=by
 have hi:i < ss.length:=(List.getElem?_eq_some_iff.1 hx).1
 rcases h.2 with ⟨rfl,h0⟩ | ⟨g,cap,cur,rfl,hb,hg,hle,hm,hs,ht⟩
 ·omega
 ·refine ⟨g,cap,rfl,?_⟩
  have:=World.ownsRow.cells h (g:=g) rfl i x hx
  rwa [aNn,Nat.zero_add] at this
end
theorem run_hl_append {tt tl:TypeId}(hu:Tryz.prog.underlying tt=some (.slice tl))(hI:SliceInfo tl)(w:World)(ty:TypeId)(v:Value)(ss:List Value)(h:HL tl w v ss)(b c:Nat)(x:Value)(hx:w.cell? ⟨b,0,none⟩=some x)(h1:x.oneCell'=true)(hlen:ss.length<=5864062014720) :
  ∃ v' w',(Builtin.append_ #[tt,tt] ty #[v,.slice (some ⟨b,0,none⟩) 1 c]).run Tryz.prog w=.ok v' w'/\HL tl w' v' (ss++[x])/\Grew w w' v v':=by
 obtain ⟨i0,hi,hz0,hz1,hz2⟩:=hI
 have hnews:∀ j u,[x][j]?=some u->w.cell? ((⟨b,0,none⟩:Addr).add j)=some u:=by
  intro j u hu
  match j with
  | 0=>simp at hu;subst hu;rw [aNn];exact hx
  | j+1=>simp at hu
 have h1':∀ u∈[x],u.oneCell'=true:=by intro u hu;simp at hu;subst hu;exact h1
 obtain ⟨v',w',hrun,hown,hgrow,hnil⟩:=run_append_own (P:=Tryz.prog) w 0 tt ty tl i0 (.slice none 0 0) 1 24 hu hi hz0 hz1 hz2 rfl (by decide) v ss.length ss h ⟨b,0,none⟩ 1 c [x] (by simp) hnews h1' (by unfold maxLen;omega) (by omega) (Nat.zero_le _)
 refine ⟨v',w',hrun,by unfold HL;simpa using hown,⟨hgrow,?_⟩⟩
 rcases h.2 with ⟨rfl,hn0⟩ | ⟨g,cap,cur,rfl,hbg,hg,hnc,hcm,hcs,htake⟩
 ·obtain rfl:ss=[]:=List.eq_nil_of_length_eq_zero hn0
  have hr2:=run_append_nil (P:=Tryz.prog) w tt ty tl i0 (.slice none 0 0) hu hi hz0 ⟨b,0,none⟩ 1 c [x] (by rw [hz1];simp) hnews (by omega) (by omega) (by rw [hz2];omega)
  have e:=hrun.symm.trans hr2
  right
  simp only [Result.ok.injEq] at e
  rw [e.1]
  exact ⟨w.heap.size,rfl,Nat.le_refl _⟩
 ·by_cases hroom:ss.length+1<=cap
  ·have hr2:=run_append_room (P:=Tryz.prog) w tt ty tl i0 hu hi g ss.length cap cur hg ⟨b,0,none⟩ 1 c [x] (by rw [hz1];simp) hnews h1' hroom (by rw [hz1];simp;omega)
   have e:=hrun.symm.trans hr2
   simp only [Result.ok.injEq] at e
   left
   rw [e.1];rfl
  ·have hr2:=run_append_grow (P:=Tryz.prog) w tt ty tl i0 (.slice none 0 0) hu hi hz0 ⟨g,0,none⟩ ss.length cap ss (by rw [hz1];simp) (World.ownsRow.cells h (g:=g) rfl) ⟨b,0,none⟩ 1 c [x] (by rw [hz1];simp) hnews (by omega) (by omega) (growslice_fits (by omega) (by rw [hz2];omega))
   have e:=hrun.symm.trans hr2
   simp only [Result.ok.injEq] at e
   right
   rw [e.1]
   exact ⟨w.heap.size,rfl,Nat.le_refl _⟩
theorem wpList_hl_append {tt tl:TypeId}(hu:Tryz.prog.underlying tt=some (.slice tl))(hI:SliceInfo tl){ops:Array Oper}{rest:List Oper}{o:Oper}{a:Act}{Q:Exit->Act->World->Prop}{w:World}(hgd:o.guard=none)(s x:Operand)
  (ho:o.op=.call { callee:=.builtin .append,args:=#[s,x],argTypes:=#[tt,tt] })
  (v:Value) (ss:List Value) (hs:a.eval s=v) (h:HL tl w v ss) (b c:Nat) (y:Value) (hx:a.eval x=.slice (some ⟨b,0,none⟩) 1 c) (hy:w.cell? ⟨b,0,none⟩=some y) (h1:y.oneCell'=true) (hlen:ss.length<=5864062014720)
  (hK:∀ v' w',HL tl w' v' (ss++[y])->Grew w w' v v'->wpList Tryz.prog ops Q rest (a.put o.dst v') w'):wpList Tryz.prog ops Q (o :: rest) a w:=by
 refine wpList_plain hgd fun K hK'=>?_
 obtain ⟨v',w',hrun,h2,h3⟩:=run_hl_append hu hI w o.type v ss h b c y hy h1 hlen
 unfold Oper.wp execOp
 simp only [ho,resolve,invoke,builtin,Sem.run_bind,Sem.run_pure,Result.andThen_ok,List.map_toArray,List.map_cons,List.map_nil,hs,hx,hrun]
 exact hK' _ _ (hK v' w' h2 h3)
structure HE where
 t:TypeId
 sz:Nat
 g:Nat
 N:Nat
 a:Option Addr
 c:Nat
 cs:List Value
def HE.fst (e:HE):Value:=.slice (some ⟨e.g,0,none⟩) e.N e.N
def HE.snd (e:HE):Value:=.slice e.a e.N e.c
structure HE.At (w:World)(e:HE):Prop where
 len:e.cs.length=e.N*e.sz
 lim:e.N<=140737488355328
 hg:w.heap[e.g]?=some (.cells e.cs.toArray e.t (0,0))
 own:w.ownsRow 0 e.t e.sz (.slice e.a e.N e.c) e.N e.cs
theorem row_kept {t:TypeId}{sz:Nat}{w w':World}{v:Value}{n:Nat}{cs:List Value}(h:w.ownsRow 0 t sz v n cs)(hb:∀ k C,v.ownBlock=some k->w.heap[k]?=some (.cells C t (0,0))->w'.heap[k]?=w.heap[k]?):w'.ownsRow 0 t sz v n cs:=by
 refine ⟨h.1,?_⟩
 rcases h.2 with q | ⟨g,cap,cur,rfl,h1,h2,h3⟩
 ·exact .inl q
 ·exact .inr ⟨g,cap,cur,rfl,h1,(hb g _ rfl h2).trans h2,h3⟩
theorem HE.At.keptBy {w w':World}{e:HE}(h:e.At w)(hb:∀ (k:Nat) (C:Array Value),w.heap[k]?=some (.cells C e.t (0,0))->w'.heap[k]?=w.heap[k]?):e.At w' :=
 ⟨h.len,h.lim,(hb _ _ h.hg).trans h.hg,row_kept h.own fun k C _ hk=>hb k C hk⟩
theorem HE.At.later {w w':World}{e:HE}(h:e.At w)(hb:Below w.heap.size w w'):e.At w':=h.keptBy fun k _ hk=>hb.block k (lt_of_block hk)
structure HF (w w':World)(q:Nat)(V V':Nat->Value):Prop where
 os:w'.os=w.os
 tape:w'.tape=w.tape
 output:w'.output=w.output
 size:w.heap.size<=w'.heap.size
 block:∀ k,k < w.heap.size->k≠q->(∀ i,some k≠(V i).ownBlock)->w'.heap[k]?=w.heap[k]?
 mv:∀ i k,(V' i).ownBlock=some k->(V i).ownBlock=some k∨w.heap.size<=k
theorem HF.trans {w w1 w2:World}{q:Nat}{V V1 V2:Nat->Value}(h:HF w w1 q V V1)(k:HF w1 w2 q V1 V2):HF w w2 q V V2:=by
 refine ⟨k.os.trans h.os,k.tape.trans h.tape,k.output.trans h.output,Nat.le_trans h.size k.size,fun z hz hq hv=>?_,fun i z hz=>?_⟩
 ·refine (k.block z (Nat.lt_of_lt_of_le hz h.size) hq (fun i e=>?_)).trans (h.block z hz hq hv)
  rcases h.mv i z e.symm with r | r
  ·exact hv i r.symm
  ·omega
 ·rcases k.mv i z hz with r | r
  ·exact h.mv i z r
  ·exact .inr (Nat.le_trans h.size r)
theorem HF.ofBelow {w w':World}{q:Nat}{V:Nat->Value}(h:Below w.heap.size w w'):HF w w' q V V:=⟨h.os,h.tape,h.output,h.size,fun k hk _ _=>h.block k hk,fun _ _ e=>.inl e⟩
theorem HF.below {w w':World}{q B:Nat}{V V':Nat->Value}(h:HF w w' q V V')(hB:B<=w.heap.size)(hq:B<=q)(hv:∀ i k,(V i).ownBlock=some k->B<=k):Below B w w' :=
 ⟨h.os,h.tape,h.output,h.size,fun k hk=>h.block k (by omega) (by omega) (fun i e=>by have:=hv i k e.symm;omega)⟩
section
variable {w w':World} {q:Nat} {V V':Nat->Value} {ty:Nat->TypeId} {S:Nat->List Value} {E:Nat->List HE}
end
def hS (E:Nat->List HE):Nat->List Value:=fun i=>if i % 2=0 then (E (i / 2)).map HE.fst else (E (i / 2)).map HE.snd
theorem SymRow.cells {w:World}{b off:Nat}{zs:List (Int×Int)}(hr:SymRow w (some ⟨b,off,none⟩) zs)(j:Nat)(u:Value)(hu:(sCl zs)[j]?=some u):w.cell? ⟨b,off+j,none⟩=some u:=by
 have hj:j < zs.length*2:=by have:=(List.getElem?_eq_some_iff.1 hu).1;rwa [symCells_len] at this
 obtain ⟨b',off',e,_,hc⟩:=hr (by intro h;subst h;simp at hj)
 simp at e
 obtain ⟨rfl,rfl⟩:=e
 obtain ⟨c1,c2⟩:=hc (j / 2) (by omega)
 obtain ⟨g1,g2⟩:=symCells_get zs (j / 2) (by omega)
 by_cases h:j % 2=0
 ·have e:j / 2*2=j:=by omega
  rw [e] at c1 g1
  rw [c1,<- hu,g1]
 ·have e:j / 2*2+1=j:=by omega
  rw [e] at g2
  rw [show off+j / 2*2+1=off+j by omega] at c2
  rw [c2,<- hu,g2]
structure FullS (w:World)(g:Nat)(zs:List (Int×Int)):Prop where
 hg:w.heap[g]?=some (.cells (sCl zs).toArray 62 (0,0))
theorem FullS.cell {w:World}{g:Nat}{zs:List (Int×Int)}(h:FullS w g zs)(j:Nat)(hj:j < zs.length):w.cell? ⟨g,j*2,none⟩=some (.int .i64 (zs.getD j (0,0)).1)/\w.cell? ⟨g,j*2+1,none⟩=some (.int .i64 (zs.getD j (0,0)).2):=by
 obtain ⟨g1,g2⟩:=symCells_get zs j hj
 simp only [World.cell?,h.hg]
 exact ⟨by simpa using g1,by simpa using g2⟩
theorem FullS.free {w:World}{g:Nat}{zs:List (Int×Int)}(h:FullS w g zs)(j:Nat):w.frozen? ⟨g,j,none⟩=false:=by
 simp [World.frozen?,h.hg]
theorem symCells_set:∀ (zs:List (Int×Int)) (j:Nat) (k n:Int),((sCl zs).set (j*2) (.int .i64 k)).set (j*2+1) (.int .i64 n)=sCl (zs.set j (k,n))
 | [],j,k,n=>by simp [sCl]
 | q :: r,0,k,n=>by simp [sCl]
 | q :: r,j+1,k,n=>by
  have e:∀ q r,sCl (q :: r)=.int .i64 q.1 :: .int .i64 q.2 :: sCl r:=fun _ _=>rfl
  rw [List.set_cons_succ,e,e,<- symCells_set r j k n,show (j+1)*2=j*2+1+1 by omega]
  rfl
theorem FullS.set {w:World}{g:Nat}{zs:List (Int×Int)}(h:FullS w g zs)(j:Nat)(k n:Int):FullS ((w.setCell ⟨g,j*2,none⟩ (.int .i64 k)).setCell ⟨g,j*2+1,none⟩ (.int .i64 n)) g (zs.set j (k,n)):=by
 refine ⟨?_⟩
 rw [hSt (hSt h.hg _ _)]
 congr 2
 rw [<- symCells_set]
 simp
theorem FullS.later {w w':World}{g:Nat}{zs:List (Int×Int)}(h:FullS w g zs)(hb:w'.heap[g]?=w.heap[g]?):FullS w' g zs:=⟨hb.trans h.hg⟩
theorem FullS.row {w:World}{g:Nat}{zs:List (Int×Int)}(h:FullS w g zs):SymRow w (some ⟨g,0,none⟩) zs :=
 fun _=>⟨g,0,rfl,lt_of_block h.hg,fun i hi=>by rw [Nat.zero_add];exact h.cell i hi⟩
theorem FullS.rowTake {w:World}{g:Nat}{zs xs:List (Int×Int)}(h:FullS w g zs)(hx:zs.take xs.length=xs):SymRow w (some ⟨g,0,none⟩) xs:=by
 refine fun _=>⟨g,0,rfl,lt_of_block h.hg,fun i hi=>?_⟩
 have hz:i < zs.length:=by have:=congrArg List.length hx;simp at this;omega
 have:xs.getD i (0,0)=zs.getD i (0,0):=by rw [<- hx];simp [List.getD,hi]
 rw [Nat.zero_add,this]
 exact h.cell i hz
open Go.RowKit
structure FullI (w:World)(g:Nat)(zs:List Int):Prop where
 hg:w.heap[g]?=some (.cells (zs.map (.int .i64 ·)).toArray 3 (0,0))
theorem FullI.cell {w:World}{g:Nat}{zs:List Int}(h:FullI w g zs)(j:Nat)(hj:j < zs.length):w.cell? ⟨g,j,none⟩=some (.int .i64 (zs.getD j 0)):=by
 simp [World.cell?,h.hg,List.getD,hj]
theorem FullI.free {w:World}{g:Nat}{zs:List Int}(h:FullI w g zs)(j:Nat):w.frozen? ⟨g,j,none⟩=false:=by
 simp [World.frozen?,h.hg]
theorem FullI.set {w:World}{g:Nat}{zs:List Int}(h:FullI w g zs)(j:Nat)(m:Int):FullI (w.setCell ⟨g,j,none⟩ (.int .i64 m)) g (zs.set j m):=by
 refine ⟨?_⟩
 rw [hSt h.hg]
 congr 2
 simp [List.map_set]
theorem FullI.later {w w':World}{g:Nat}{zs:List Int}(h:FullI w g zs)(hb:w'.heap[g]?=w.heap[g]?):FullI w' g zs:=⟨hb.trans h.hg⟩
theorem FullI.row {w:World}{g:Nat}{zs:List Int}(h:FullI w g zs):InRow w (some ⟨g,0,none⟩) zs :=
 fun _=>⟨g,0,rfl,lt_of_block h.hg,fun i hi=>by rw [Nat.zero_add];exact h.cell i hi⟩
end Go.Proofs.YthaamdognbncnaaGreatDoor
