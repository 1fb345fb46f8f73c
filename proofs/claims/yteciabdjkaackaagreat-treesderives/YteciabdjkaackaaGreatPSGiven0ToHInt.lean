import Derived.Test.YteciabdjkaackaaGreatPBBaseToFSet
import Derived.Deep.RegionWith
namespace Go.Proofs.YteciabdjkaackaaGreat
set_option linter.unusedVariables false
open Go.RowKit Go.Maps
theorem conv_mark (w:World)(x y:Int)(hx0:0<=x)(hx1:x<=255)(hy0:0<=y)(hy1:y<=255):∃ m:ByteArray,m.size<=16 /\
  (convert 95 9 (.slice (some ⟨w.heap.size,0,none⟩) 5 5)).run Tryz.prog (w.alloc (.cells #[.int .u8 219,.int .u8 3,.int .u8 x,.int .u8 y,.int .u8 77] 5))=.ok (.string m) (w.alloc (.cells #[.int .u8 219,.int .u8 3,.int .u8 x,.int .u8 y,.int .u8 77] 5)):=by
 refine ⟨⟨[219,3,UInt8.ofNat x.toNat,UInt8.ofNat y.toNat,77].toArray⟩,by simp [ByteArray.size],?_⟩
 refine run_convert_bytes_back (P:=Tryz.prog) _ 95 9 5 ⟨w.heap.size,0,none⟩ 5 [219,3,UInt8.ofNat x.toNat,UInt8.ofNat y.toNat,77] Tryz.underlying95 Tryz.underlying5 Tryz.underlying9 ?_
 have hh:=heap_alloc_new w (.cells #[.int .u8 219,.int .u8 3,.int .u8 x,.int .u8 y,.int .u8 77] 5)
 intro j hj
 rw [aNn,cQa hh]
 match j,hj with
 | 0,_=>rfl
 | 1,_=>rfl
 | 2,_=>simp;omega
 | 3,_=>simp;omega
 | 4,_=>rfl
set_option maxRecDepth 100000 in
set_option maxHeartbeats 1000000 in
theorem markstr_any (k:Nat)(w:World)(hk:k<=140737488355400) :
  Calls Tryz.prog 81 #[.int .i64 987,.int .i64 k] w fun e w'=>∃ m,e=.returned (.string m)/\m.size<=16/\Below w.heap.size w w':=by
 obtain ⟨m,hm,hrun⟩:=conv_mark w ((k:Int) % 256) ((k:Int) / 256 % 256) (by omega) (by omega) (by omega) (by omega)
 go_enter Tryz.func81,Tryz.ntmps81
 go_wp2
 go_ret
 exact ⟨m,rfl,hm,bAl w _⟩
theorem wpList_gs_copy {ops:Array Oper}{rest:List Oper}{o:Oper}{a:Act}{Q:Exit->Act->World->Prop}{w:World}(hgd:o.guard=none)(s x:Operand)
  (ho:o.op=.call { callee:=.builtin .append,args:=#[s,x],argTypes:=#[59,59] })
  (hs:a.eval s=.slice none 0 0) (b off c:Nat) (zs:List ByteArray) (hx:a.eval x=.slice (some ⟨b,off,none⟩) zs.length c) (hr:StrRow w (some ⟨b,off,none⟩) zs) (hlen:zs.length<=8796093022208)
  (hK:∀ a' n' c' w',GS w' (.slice a' n' c') zs->Grew w w' (.slice none 0 0) (.slice a' n' c')->wpList Tryz.prog ops Q rest (a.put o.dst (.slice a' n' c')) w'):wpList Tryz.prog ops Q (o :: rest) a w:=by
 obtain ⟨i0,hi,hz0,hz1,hz2⟩:=infoStr_parts
 refine wpList_append_own_at w hgd s x 59 ho 0 9 i0 (.string ⟨#[]⟩) 1 16 Tryz.underlying59 hi hz0 hz1 hz2 rfl (by decide) (.slice none 0 0) 0 [] hs (World.ownsRow_nil w 0 9 1) ⟨b,off,none⟩ zs.length c (zs.map Value.string) hx (by simp) ?_ ?_ (by unfold maxLen;omega) (by omega) (Nat.zero_le _) ?_
 ·intro j u hu
  have hj:j < zs.length:=by have:=(List.getElem?_eq_some_iff.1 hu).1;simpa using this
  obtain ⟨b',off',e,_,hc⟩:=hr (by intro h;subst h;simp at hj)
  simp at e
  obtain ⟨rfl,rfl⟩:=e
  rw [aNn,hc j hj,<- hu]
  simp [List.getD,hj]
 ·intro u hu;simp at hu;obtain ⟨y,_,rfl⟩:=hu;rfl
 ·intro v' w' h2 h3 _ h5
  have h6:GS w' v' zs:=by unfold GS;simpa using h2
  obtain ⟨a',c',rfl⟩:=gs_len h6
  exact hK _ _ _ w' h6 ⟨h3,h5.imp id fun e=>⟨_,e,Nat.le_refl _⟩⟩
set_option maxRecDepth 100000 in
set_option maxHeartbeats 1000000 in
theorem copystr_any (b off cap:Nat)(zs:List ByteArray)(w:World)(hl:zs.length<=8796093022208)(hr:StrRow w (some ⟨b,off,none⟩) zs) :
  Calls Tryz.prog 82 #[.slice (some ⟨b,off,none⟩) zs.length cap] w fun e w'=>∃ a N c,e=.returned (.slice a N c)/\GS w' (.slice a N c) zs/\(∀ k,(Value.slice a N c).ownBlock=some k->w.heap.size<=k)/\Below w.heap.size w w':=by
 go_enter Tryz.func82,Tryz.ntmps82
 go_wp2_with (at_builtin;refine wpList_gs_copy rfl _ _ rfl rfl b off cap zs rfl hr hl ?_;intro a2 n2 c2 w2 ho2 hg2)
 go_ret
 refine ⟨a2,n2,c2,rfl,ho2,fun k hk=>?_,⟨hg2.grown.os,hg2.grown.tape,hg2.grown.output,hg2.grown.size,fun k hk=>hg2.grown.block k hk (by simp [Value.ownBlock])⟩⟩
 rcases hg2.moved with e | ⟨j,e,hj⟩
 ·rw [e] at hk;simp [Value.ownBlock] at hk
 ·rw [e] at hk;simp at hk;omega
open Go.RowKit
structure Full (w:World)(g:Nat)(zs:List ByteArray):Prop where
 hg:w.heap[g]?=some (.cells (zs.map Value.string).toArray 9 (0,0))
 by_:∀ s∈zs,s.size<=maxLen
theorem Full.cell {w:World}{g:Nat}{zs:List ByteArray}(h:Full w g zs)(j:Nat)(hj:j < zs.length):w.cell? ⟨g,j,none⟩=some (.string (zs.getD j ByteArray.empty)):=by
 simp [World.cell?,h.hg,List.getD,hj]
theorem Full.free {w:World}{g:Nat}{zs:List ByteArray}(h:Full w g zs)(j:Nat):w.frozen? ⟨g,j,none⟩=false:=by
 simp [World.frozen?,h.hg]
theorem Full.set {w:World}{g:Nat}{zs:List ByteArray}(h:Full w g zs)(j:Nat)(m:ByteArray)(h1:m.size<=maxLen):Full (w.setCell ⟨g,j,none⟩ (.string m)) g (zs.set j m):=by
 refine ⟨?_,fun x hx=>?_⟩
 ·rw [hSt h.hg]
  congr 2
  simp [List.map_set]
 ·rcases List.mem_or_eq_of_mem_set hx with q | q
  ·exact h.by_ x q
  ·subst q;exact h1
theorem Full.row {w:World}{g:Nat}{zs:List ByteArray}(h:Full w g zs):StrRow w (some ⟨g,0,none⟩) zs :=
 fun _=>⟨g,0,rfl,lt_of_block h.hg,fun i hi=>by rw [Nat.zero_add];exact h.cell i hi⟩
theorem Full.later {w w':World}{g:Nat}{zs:List ByteArray}(h:Full w g zs)(hb:w'.heap[g]?=w.heap[g]?):Full w' g zs:=⟨hb.trans h.hg,h.by_⟩
theorem full_of_made {w:World}{g n:Nat}{vs:List Value}(h:w.ownsRow 0 9 1 (.slice (some ⟨g,0,none⟩) n n) n vs)(hv:vs=(madeCells (Value.string ⟨#[]⟩).cells (n*1)).toList):∃ zs:List ByteArray,zs.length=n/\Full w g zs:=by
 rcases h.2 with ⟨e,_⟩ | ⟨g',cap,cur,e,_,hg,_,_,hs,ht⟩
 ·cases e
 ·cases e
  refine ⟨List.replicate n ⟨#[]⟩,by simp,⟨?_,fun x hx=>?_⟩⟩
  ·rw [hg]
   have hc:cur.toList=vs:=by rw [<- ht,List.take_of_length_le (by simp;omega)]
   congr 2
   apply Array.toList_inj.1
   rw [hc,hv]
   apply List.ext_getElem
   ·simp [madeCells]
   ·intro k h1 h2
    simp [madeCells,Value.cells,Nat.mod_one]
  ·have:=List.eq_of_mem_replicate hx;subst this;exact Nat.zero_le _
structure GE where
 g:Nat
 N:Nat
 a:Option Addr
 M:Nat
 c:Nat
 zs:List ByteArray
section
variable {w w':World} {q:Nat} {L W L' W':Value} {ss tt:List Value} {es:List GE}
end
theorem cell_new (w:World)(x:Value)(t:TypeId):(w.alloc (.cells #[x] t)).cell? ⟨w.heap.size,0,none⟩=some x:=by
 have:=heap_alloc_new w (.cells #[x] t)
 simp only [World.cell?,this];rfl
def HL (t:TypeId)(w:World)(v:Value)(ss:List Value):Prop:=w.ownsRow 0 t 1 v ss.length ss
def SliceInfo (t:TypeId):Prop:=∃ i,Tryz.prog.info? t=some i/\i.zero=some (.slice none 0 0)/\i.size=1/\i.bytes=24
theorem sliceInfo_of {t:TypeId}(h:(Tryz.prog.info? t).map (fun i=>(i.zero,i.size,i.bytes))=some (some (.slice none 0 0),1,24)):SliceInfo t:=by
 unfold SliceInfo
 cases e:Tryz.prog.info? t with
 | none=>rw [e] at h;cases h
 | some i=>rw [e] at h;simp at h;exact ⟨i,rfl,h⟩
section
variable {t:TypeId} {w w':World} {v:Value} {ss:List Value}
theorem HL.kept (h:HL t w v ss)(hb:∀ k,v.ownBlock=some k->w'.heap[k]?=w.heap[k]?):HL t w' v ss:=by
 refine ⟨h.1,?_⟩
 rcases h.2 with q | ⟨g,cap,cur,rfl,h1,h2,h3⟩
 ·exact .inl q
 ·exact .inr ⟨g,cap,cur,rfl,h1,(hb g rfl).trans h2,h3⟩
theorem HL.lt (h:HL t w v ss):∀ k,v.ownBlock=some k->k < w.heap.size:=fun k hk=>(World.ownsRow.lt h k hk).2
theorem HL.later (h:HL t w v ss)(hb:Below w.heap.size w w'):HL t w' v ss:=h.kept fun k hk=>hb.block k (h.lt k hk)
theorem HL.ne (h:HL t w v ss){b:Nat}{C:Array Value}{t':TypeId}(hb:w.heap[b]?=some (.cells C t' (0,0)))(ht:t'≠t):some b≠v.ownBlock:=by
 intro e
 rcases h.2 with ⟨rfl,_⟩ | ⟨g,cap,cur,rfl,_,hg,_⟩
 ·simp [Value.ownBlock] at e
 ·simp [Value.ownBlock] at e
  subst e
  rw [hb] at hg;simp at hg;exact ht hg.2
theorem HL.nil (t:TypeId)(w:World):HL t w (.slice none 0 0) []:=World.ownsRow_nil w 0 t 1
theorem HL.slice (h:HL t w v ss):∃ a c,v=.slice a ss.length c:=by
 rcases h.2 with ⟨rfl,h0⟩ | ⟨g,cap,cur,rfl,_⟩
 ·exact ⟨none,0,by rw [h0]⟩
 ·exact ⟨_,_,rfl⟩
theorem HL.slice3 (h:HL t w v ss):∃ a N c,v=.slice a N c:=by
 obtain ⟨a,c,e⟩:=h.slice
 exact ⟨a,_,c,e⟩
theorem HL.at (h:HL t w v ss)(i:Nat)(x:Value)(hx:ss[i]?=some x):∃ g c,v=.slice (some ⟨g,0,none⟩) ss.length c/\w.cell? ⟨g,i,none⟩=some x:=by
 have hi:i < ss.length:=(List.getElem?_eq_some_iff.1 hx).1
 rcases h.2 with ⟨rfl,h0⟩ | ⟨g,cap,cur,rfl,hb,hg,hle,hm,hs,ht⟩
 ·omega
 ·refine ⟨g,cap,rfl,?_⟩
  have:=World.ownsRow.cells h (g:=g) rfl i x hx
  rwa [aNn,Nat.zero_add] at this
end
theorem run_hl_append {tt tl:TypeId}(hu:Tryz.prog.underlying tt=some (.slice tl))(hI:SliceInfo tl)(w:World)(ty:TypeId)(v:Value)(ss:List Value)(h:HL tl w v ss)(b c:Nat)(x:Value)(hx:w.cell? ⟨b,0,none⟩=some x)(h1:x.oneCell'=true)(hlen:ss.length<=5864062014720) :
  ∃ v' w',(Builtin.append_ #[tt,tt] ty #[v,.slice (some ⟨b,0,none⟩) 1 c]).run Tryz.prog w=.ok v' w'/\HL tl w' v' (ss++[x])/\Grew w w' v v':=by
 obtain ⟨i0,hi,hz0,hz1,hz2⟩:=hI
 have hnews:∀ j u,[x][j]?=some u->w.cell? ((⟨b,0,none⟩:Addr).add j)=some u:=by
  intro j u hu
  match j with
  | 0=>simp at hu;subst hu;rw [aNn];exact hx
  | j+1=>simp at hu
 have h1':∀ u∈[x],u.oneCell'=true:=by intro u hu;simp at hu;subst hu;exact h1
 obtain ⟨v',w',hrun,hown,hgrow,hnil⟩:=run_append_own (P:=Tryz.prog) w 0 tt ty tl i0 (.slice none 0 0) 1 24 hu hi hz0 hz1 hz2 rfl (by decide) v ss.length ss h ⟨b,0,none⟩ 1 c [x] (by simp) hnews h1' (by unfold maxLen;omega) (by omega) (Nat.zero_le _)
 refine ⟨v',w',hrun,by unfold HL;simpa using hown,⟨hgrow,?_⟩⟩
 rcases h.2 with ⟨rfl,hn0⟩ | ⟨g,cap,cur,rfl,hbg,hg,hnc,hcm,hcs,htake⟩
 ·obtain rfl:ss=[]:=List.eq_nil_of_length_eq_zero hn0
  have hr2:=run_append_nil (P:=Tryz.prog) w tt ty tl i0 (.slice none 0 0) hu hi hz0 ⟨b,0,none⟩ 1 c [x] (by rw [hz1];simp) hnews (by omega) (by omega) (by rw [hz2];omega)
  have e:=hrun.symm.trans hr2
  right
  simp only [Result.ok.injEq] at e
  rw [e.1]
  exact ⟨w.heap.size,rfl,Nat.le_refl _⟩
 ·by_cases hroom:ss.length+1<=cap
  ·have hr2:=run_append_room (P:=Tryz.prog) w tt ty tl i0 hu hi g ss.length cap cur hg ⟨b,0,none⟩ 1 c [x] (by rw [hz1];simp) hnews h1' hroom (by rw [hz1];simp;omega)
   have e:=hrun.symm.trans hr2
   simp only [Result.ok.injEq] at e
   left
   rw [e.1];rfl
  ·have hr2:=run_append_grow (P:=Tryz.prog) w tt ty tl i0 (.slice none 0 0) hu hi hz0 ⟨g,0,none⟩ ss.length cap ss (by rw [hz1];simp) (World.ownsRow.cells h (g:=g) rfl) ⟨b,0,none⟩ 1 c [x] (by rw [hz1];simp) hnews (by omega) (by omega) (growslice_fits (by omega) (by rw [hz2];omega))
   have e:=hrun.symm.trans hr2
   simp only [Result.ok.injEq] at e
   right
   rw [e.1]
   exact ⟨w.heap.size,rfl,Nat.le_refl _⟩
theorem wpList_hl_append {tt tl:TypeId}(hu:Tryz.prog.underlying tt=some (.slice tl))(hI:SliceInfo tl){ops:Array Oper}{rest:List Oper}{o:Oper}{a:Act}{Q:Exit->Act->World->Prop}{w:World}(hgd:o.guard=none)(s x:Operand)
  (ho:o.op=.call { callee:=.builtin .append,args:=#[s,x],argTypes:=#[tt,tt] })
  (v:Value) (ss:List Value) (hs:a.eval s=v) (h:HL tl w v ss) (b c:Nat) (y:Value) (hx:a.eval x=.slice (some ⟨b,0,none⟩) 1 c) (hy:w.cell? ⟨b,0,none⟩=some y) (h1:y.oneCell'=true) (hlen:ss.length<=5864062014720)
  (hK:∀ v' w',HL tl w' v' (ss++[y])->Grew w w' v v'->wpList Tryz.prog ops Q rest (a.put o.dst v') w'):wpList Tryz.prog ops Q (o :: rest) a w:=by
 refine wpList_plain hgd fun K hK'=>?_
 obtain ⟨v',w',hrun,h2,h3⟩:=run_hl_append hu hI w o.type v ss h b c y hy h1 hlen
 unfold Oper.wp execOp
 simp only [ho,resolve,invoke,builtin,Sem.run_bind,Sem.run_pure,Result.andThen_ok,List.map_toArray,List.map_cons,List.map_nil,hs,hx,hrun]
 exact hK' _ _ (hK v' w' h2 h3)
theorem step_hl_append {tt tl:TypeId}(hu:Tryz.prog.underlying tt=some (.slice tl))(hI:SliceInfo tl){ops:Array Oper}{o:Oper}{a:Act}{w:World}{K:Act->World->Prop}{Q:Exit->Act->World->Prop}{E:Prop}
  (hg:o.guard=none) (s x:Operand) (hop:o.op=Op.call { callee:=Callee.builtin Builtin.append,args:=#[s,x],argTypes:=#[tt,tt] })
  (v:Value) (ss:List Value) (hs:a.eval s=v) (h:HL tl w v ss) (b c:Nat) (y:Value) (hx:a.eval x=.slice (some ⟨b,0,none⟩) 1 c) (hy:w.cell? ⟨b,0,none⟩=some y) (h1:y.oneCell'=true) (hlen:ss.length<=5864062014720)
  (hK:∀ v' w',HL tl w' v' (ss++[y])->Grew w w' v v'->K (a.put o.dst v') w') :
  if Region.wanted o (yielded ops a.tmps)=true then Oper.wp Tryz.prog o a w K Q else E:=by
 have hw:Region.wanted o (yielded ops a.tmps)=true:=by simp [Region.wanted,hg]
 rw [if_pos hw]
 obtain ⟨v',w',hrun,r1,r2⟩:=run_hl_append hu hI w o.type v ss h b c y hy h1 hlen
 unfold Oper.wp
 simp [execOp,hop,resolve,invoke,builtin,hs,hx,hrun,Result.andThen]
 exact hK v' w' r1 r2
structure HE where
 t:TypeId
 sz:Nat
 g:Nat
 N:Nat
 a:Option Addr
 c:Nat
 cs:List Value
def HE.fst (e:HE):Value:=.slice (some ⟨e.g,0,none⟩) e.N e.N
def HE.snd (e:HE):Value:=.slice e.a e.N e.c
structure HE.At (w:World)(e:HE):Prop where
 len:e.cs.length=e.N*e.sz
 lim:e.N<=140737488355328
 hg:w.heap[e.g]?=some (.cells e.cs.toArray e.t (0,0))
 own:w.ownsRow 0 e.t e.sz (.slice e.a e.N e.c) e.N e.cs
theorem row_kept {t:TypeId}{sz:Nat}{w w':World}{v:Value}{n:Nat}{cs:List Value}(h:w.ownsRow 0 t sz v n cs)(hb:∀ k C,v.ownBlock=some k->w.heap[k]?=some (.cells C t (0,0))->w'.heap[k]?=w.heap[k]?):w'.ownsRow 0 t sz v n cs:=by
 refine ⟨h.1,?_⟩
 rcases h.2 with q | ⟨g,cap,cur,rfl,h1,h2,h3⟩
 ·exact .inl q
 ·exact .inr ⟨g,cap,cur,rfl,h1,(hb g _ rfl h2).trans h2,h3⟩
theorem HE.At.keptBy {w w':World}{e:HE}(h:e.At w)(hb:∀ (k:Nat) (C:Array Value),w.heap[k]?=some (.cells C e.t (0,0))->w'.heap[k]?=w.heap[k]?):e.At w' :=
 ⟨h.len,h.lim,(hb _ _ h.hg).trans h.hg,row_kept h.own fun k C _ hk=>hb k C hk⟩
theorem HE.At.later {w w':World}{e:HE}(h:e.At w)(hb:Below w.heap.size w w'):e.At w':=h.keptBy fun k _ hk=>hb.block k (lt_of_block hk)
abbrev hNil:Value:=.slice none 0 0
def updV (V:Nat->Value)(i:Nat)(v:Value):Nat->Value:=fun j=>if j=i then v else V j
def updS (S:Nat->List Value)(i:Nat)(s:List Value):Nat->List Value:=fun j=>if j=i then s else S j
def hArr (V:Nat->Value):Array Value:=((List.range 22).map V).toArray
theorem hArr_get (V:Nat->Value){i:Nat}(hi:i < 22):(hArr V)[i]?=some (V i):=by simp [hArr,hi]
theorem hArr_set (V:Nat->Value){i:Nat}(v:Value):(hArr V).setIfInBounds i v=hArr (updV V i v):=by
 unfold hArr
 apply Array.toList_inj.1
 simp only [Array.toList_setIfInBounds]
 apply List.ext_getElem
 ·simp
 ·intro k h1 h2
  simp only [List.getElem_set,List.getElem_map,List.getElem_range,updV]
  by_cases e:i=k
  ·simp [e]
  ·have e':¬ k=i:=fun q=>e q.symm
   simp [e,e']
structure HI (w:World)(q:Nat)(V:Nat->Value)(ty:Nat->TypeId)(S:Nat->List Value)(E:Nat->List HE):Prop where
 hq:w.heap[q]?=some (.cells (hArr V) 38 (0,0))
 row:∀ i,HL (ty i) w (V i) (S i)
 apart:∀ i j k,i≠j->(V i).ownBlock=some k->(V j).ownBlock≠some k
 at_:∀ κ,∀ e∈E κ,e.At w
 tq:∀ i,38≠ty i
 te:∀ κ,∀ e∈E κ,e.t≠38/\∀ i,e.t≠ty i
 nl:∀ i,S i=[]->V i=hNil
structure HF (w w':World)(q:Nat)(V V':Nat->Value):Prop where
 os:w'.os=w.os
 tape:w'.tape=w.tape
 output:w'.output=w.output
 size:w.heap.size<=w'.heap.size
 block:∀ k,k < w.heap.size->k≠q->(∀ i,some k≠(V i).ownBlock)->w'.heap[k]?=w.heap[k]?
 mv:∀ i k,(V' i).ownBlock=some k->(V i).ownBlock=some k∨w.heap.size<=k
theorem HF.trans {w w1 w2:World}{q:Nat}{V V1 V2:Nat->Value}(h:HF w w1 q V V1)(k:HF w1 w2 q V1 V2):HF w w2 q V V2:=by
 refine ⟨k.os.trans h.os,k.tape.trans h.tape,k.output.trans h.output,Nat.le_trans h.size k.size,fun z hz hq hv=>?_,fun i z hz=>?_⟩
 ·refine (k.block z (Nat.lt_of_lt_of_le hz h.size) hq (fun i e=>?_)).trans (h.block z hz hq hv)
  rcases h.mv i z e.symm with r | r
  ·exact hv i r.symm
  ·omega
 ·rcases k.mv i z hz with r | r
  ·exact h.mv i z r
  ·exact .inr (Nat.le_trans h.size r)
theorem HF.ofBelow {w w':World}{q:Nat}{V:Nat->Value}(h:Below w.heap.size w w'):HF w w' q V V:=⟨h.os,h.tape,h.output,h.size,fun k hk _ _=>h.block k hk,fun _ _ e=>.inl e⟩
theorem HF.below {w w':World}{q B:Nat}{V V':Nat->Value}(h:HF w w' q V V')(hB:B<=w.heap.size)(hq:B<=q)(hv:∀ i k,(V i).ownBlock=some k->B<=k):Below B w w' :=
 ⟨h.os,h.tape,h.output,h.size,fun k hk=>h.block k (by omega) (by omega) (fun i e=>by have:=hv i k e.symm;omega)⟩
section
variable {w w':World} {q:Nat} {V V':Nat->Value} {ty:Nat->TypeId} {S:Nat->List Value} {E:Nat->List HE}
theorem HI.cell (h:HI w q V ty S E){i:Nat}(hi:i < 22):w.cell? ⟨q,i,none⟩=some (V i):=by
 simp only [World.cell?,h.hq]
 exact hArr_get V hi
theorem HI.ne (h:HI w q V ty S E)(i:Nat):some q≠(V i).ownBlock:=(h.row i).ne h.hq (h.tq i)
theorem HI.later (h:HI w q V ty S E)(hb:Below w.heap.size w w'):HI w' q V ty S E :=
 ⟨(hb.block q (lt_of_block h.hq)).trans h.hq,fun i=>(h.row i).later hb,h.apart,fun κ e he=>(h.at_ κ e he).later hb,h.tq,h.te,h.nl⟩
theorem HI.other (h:HI w q V ty S E)(hf:HF w w' q V V'){b:Nat}{C:Array Value}{t:TypeId}(hb:w.heap[b]?=some (.cells C t (0,0)))(ht:t≠38/\∀ i,t≠ty i):w'.heap[b]?=w.heap[b]? :=
 hf.block b (lt_of_block hb) (fun e=>by have:=h.hq;rw [<- e,hb] at this;simp at this;exact ht.1 this.2) (fun i=>(h.row i).ne hb (ht.2 i))
theorem HI.store {i:Nat}{v':Value}{s':List Value}(h:HI w q V ty S E)(hg:Grew w w' (V i) v')(hl:HL (ty i) w' v' s')(hs:s'=[]->v'=hNil:=by intro h;simp at h):HI (w'.setCell ⟨q,i,none⟩ v') q (updV V i v') ty (updS S i s') E/\HF w (w'.setCell ⟨q,i,none⟩ v') q V (updV V i v'):=by
 have b:w'.heap[q]?=some (.cells (hArr V) 38 (0,0)):=(hg.grown.block q (lt_of_block h.hq) (h.ne i)).trans h.hq
 have hf:HF w (w'.setCell ⟨q,i,none⟩ v') q V (updV V i v'):=by
  refine ⟨hg.grown.os,hg.grown.tape,hg.grown.output,by have:=hg.grown.size;simpa [World.setCell] using this,fun k hk hq hv=>by rw [Below.heap_setCell _ _ _ _ hq];exact hg.grown.block k hk (hv i),fun j k hk=>?_⟩
  unfold updV at hk
  split at hk
  ·rename_i e
   subst e
   rcases hg.moved with r | ⟨m,r,hm⟩
   ·exact .inl (r ▸ hk)
   ·rw [hk] at r;have:=Option.some.inj r;exact .inr (by omega)
  ·exact .inl hk
 refine ⟨⟨by rw [hSt b,hArr_set],fun j=>?_,fun j j' k hne hk hk'=>?_,fun κ e he=>(h.at_ κ e he).keptBy fun k C hk=>h.other hf hk (h.te κ e he),h.tq,h.te,fun j hj=>?_⟩,hf⟩
 ·unfold updV updS
  split
  ·rename_i e
   subst e
   exact hl.kept fun k hk=>Below.heap_setCell _ _ _ _ (fun e=>hl.ne b (h.tq j) (by rw [hk,e]))
  ·rename_i hj
   exact (h.row j).kept fun k hk=>by
    rw [Below.heap_setCell _ _ _ _ (fun e=>h.ne j (by rw [hk,e]))]
    exact hg.grown.block k ((h.row j).lt k hk) (fun e=>h.apart j i k hj hk e.symm)
 ·have mvd:∀ k,v'.ownBlock=some k->∀ j,j≠i->(V j).ownBlock≠some k:=fun k hk j hj hjk=>by
   rcases hg.moved with r | ⟨m,r,hm⟩
   ·exact h.apart j i k hj hjk (r ▸ hk)
   ·rw [hk] at r;have:=Option.some.inj r;have:=(h.row j).lt k hjk;omega
  unfold updV at hk hk'
  split at hk
  ·rename_i e1
   split at hk'
   ·rename_i e2;exact hne (e1.trans e2.symm)
   ·rename_i e2;exact mvd k hk j' e2 hk'
  ·rename_i e1
   split at hk'
   ·rename_i e2;exact mvd k hk' j e1 hk
   ·exact h.apart j j' k hne hk hk'
 ·unfold updV updS at *
  split at hj
  ·rename_i e1
   rw [if_pos e1]
   exact hs hj
  ·rename_i e1
   rw [if_neg e1]
   exact h.nl j hj
end
def hS (E:Nat->List HE):Nat->List Value:=fun i=>if i % 2=0 then (E (i / 2)).map HE.fst else (E (i / 2)).map HE.snd
abbrev HInv (w:World)(q:Nat)(V:Nat->Value)(ty:Nat->TypeId)(E:Nat->List HE):Prop:=HI w q V ty (hS E) E
def updE (E:Nat->List HE)(κ:Nat)(e:HE):Nat->List HE:=fun j=>if j=κ then E j++[e] else E j
theorem hS_upd (E:Nat->List HE)(κ:Nat)(e:HE):updS (updS (hS E) (2*κ) ((E κ).map HE.fst++[e.fst])) (2*κ+1) ((E κ).map HE.snd++[e.snd])=hS (updE E κ e):=by
 funext i
 unfold updS hS updE
 by_cases h1:i=2*κ+1
 ·subst h1
  have a:(2*κ+1) % 2=1:=by omega
  have b:(2*κ+1) / 2=κ:=by omega
  simp [a,b]
 ·by_cases h2:i=2*κ
  ·subst h2
   have a:(2*κ) % 2=0:=by omega
   have b:(2*κ) / 2=κ:=by omega
   simp [a,b]
  ·rw [if_neg h1,if_neg h2]
   by_cases h3:i % 2=0
   ·have:i / 2≠κ:=by omega
    simp [h3,this]
   ·have:i / 2≠κ:=by omega
    simp [h3,this]
theorem HI.add {w:World}{q:Nat}{V:Nat->Value}{ty:Nat->TypeId}{E:Nat->List HE}{κ:Nat}{e:HE}(h:HI w q V ty (updS (updS (hS E) (2*κ) ((E κ).map HE.fst++[e.fst])) (2*κ+1) ((E κ).map HE.snd++[e.snd])) E)(he:e.At w)(ht:e.t≠38/\∀ i,e.t≠ty i):HInv w q V ty (updE E κ e):=by
 rw [hS_upd] at h
 refine ⟨h.hq,h.row,h.apart,fun j x hx=>?_,h.tq,fun j x hx=>?_,h.nl⟩
 ·unfold updE at hx
  split at hx
  ·rcases List.mem_append.1 hx with r | r
   ·exact h.at_ j x r
   ·simp at r;subst r;exact he
  ·exact h.at_ j x hx
 ·unfold updE at hx
  split at hx
  ·rcases List.mem_append.1 hx with r | r
   ·exact h.te j x r
   ·simp at r;subst r;exact ht
  ·exact h.te j x hx
theorem hnew (w:World)(ty:Nat->TypeId)(hty:∀ i,38≠ty i):HInv (w.alloc (.cells #[hNil,hNil,hNil,hNil,hNil,hNil,hNil,hNil,hNil,hNil,hNil,hNil,hNil,hNil,hNil,hNil,hNil,hNil,hNil,hNil,hNil,hNil] 38)) w.heap.size (fun _=>hNil) ty (fun _=>[]) :=
 ⟨heap_alloc_new w _,fun i=>(by unfold hS;simp;exact HL.nil _ _),fun i j k _ hk=>(by simp [Value.ownBlock] at hk),fun κ e he=>(by cases he),hty,fun κ e he=>(by cases he),fun _ _=>rfl⟩
theorem take_set_step2 {zs xs:List ByteArray}{j:Nat}(h:zs.take j=xs.take j)(hx:j < xs.length)(hz:j < zs.length):(zs.set j (xs.getD j ByteArray.empty)).take (j+1)=xs.take (j+1):=by
 rw [List.take_succ_eq_append_getElem hx,<- h,List.take_succ_eq_append_getElem (by simpa using hz),List.take_set_of_le (Nat.le_refl _)]
 simp [List.getD,hx]
theorem gs_cnt2 {w:World}{a:Option Addr}{n c:Nat}{ss:List ByteArray}(h:GS w (.slice a n c) ss):n=ss.length:=by
 obtain ⟨a',c',e⟩:=gs_len h
 simp at e
 exact e.2.1
theorem enter_copy (args:Array Value)(w:World):(callFunc 82 args).run Tryz.prog w=.ok (.enter 82 args) w:=by kernel_rfl
theorem step_copy {ops:Array Oper}{o:Oper}{a:Act}{w:World}{K:Act->World->Prop}{Q:Exit->Act->World->Prop}{E:Prop}
  (hg:o.guard=none) (x:Operand) (hop:o.op=Op.call { callee:=Callee.value (Operand.func 82),args:=#[x],argTypes:=#[59] })
  (b off N cap:Nat) (xs:List ByteArray) (hx:a.eval x=.slice (some ⟨b,off,none⟩) N cap) (hN:N=xs.length) (hl:xs.length<=8796093022208) (hr:StrRow w (some ⟨b,off,none⟩) xs)
  (hK:∀ a' N' c' w',GS w' (.slice a' N' c') xs->Below w.heap.size w w'->K (a.put o.dst (.slice a' N' c')) w') :
  if Region.wanted o (yielded ops a.tmps)=true then Oper.wp Tryz.prog o a w K Q else E:=by
 have hw:Region.wanted o (yielded ops a.tmps)=true:=by simp [Region.wanted,hg]
 rw [if_pos hw]
 have hf:a.eval (Operand.func 82)=.func (.func 82) #[] #[]:=rfl
 have hcf:=enter_copy #[.slice (some ⟨b,off,none⟩) N cap] w
 have e:(execOp a.eval o).run Tryz.prog w=.ok (.enter 82 #[.slice (some ⟨b,off,none⟩) N cap]) w:=by
  simp [execOp,hop,resolve,invoke,hx,hf,Deferred.ofValue,hcf]
 show o.upon Tryz.prog a K Q ((execOp a.eval o).run Tryz.prog w)
 rw [e,Oper.upon_enter]
 subst hN
 refine (copystr_any b off cap xs w hl hr).mono ?_
 rintro e w' ⟨a',N',c',rfl,ho,_,hb⟩
 exact hK a' N' c' w' ho hb
theorem infoSS2:SliceInfo 59:=sliceInfo_of (by kernel_rfl)
set_option maxRecDepth 100000 in
set_option maxHeartbeats 2000000 in
theorem hstrings (q:Nat)(V:Nat->Value)(ty:Nat->TypeId)(E:Nat->List HE)(ao:Option Addr)(N cap:Nat)(xs:List ByteArray)(w:World)(hN:N=xs.length)(hl:xs.length<=8796093022000)(hsz:∀ s∈xs,s.size<=maxLen)(hr:StrRow w ao xs)(hG:HInv w q V ty E)(hes:(E 2).length<=4900000000000)(t4:ty 4=59)(t5:ty 5=59)(ht:9≠38/\∀ i,9≠ty i) :
  Calls Tryz.prog 63 #[.pointer (some ⟨q,0,none⟩),.slice ao N cap] w fun e w'=>e=.returned (.slice (some ⟨w.heap.size,0,none⟩) xs.length (xs.length+3))/\∃ V' x,HInv w' q V' ty (updE E 2 x)/\x.g=w.heap.size/\x.t=9/\x.sz=1/\(∃ zs:List ByteArray,x.cs=zs.map Value.string/\zs.take xs.length=xs)/\HF w w' q V V':=by
 subst hN
 obtain ⟨i0,hi,hz0,hz1,hz2⟩:=infoStr_parts
 have HB2:Hid (i0.bytes*(xs.length+3)<=281474976710656):=by show _<=_;rw [hz2];omega
 have HB3:Hid (xs.length+3<=maxLen):=by show _<=_;unfold maxLen;omega
 go_enter Tryz.func63,Tryz.ntmps63
 go_wp2_with (at_make;refine wpList_make_full _ rfl _ _ 59 rfl 0 9 i0 (.string ⟨#[]⟩) 1 Tryz.underlying59 hi hz0 hz1 _ _ _ _ (xs.length+3) rfl rfl (by omega) (by omega) HB2.out HB3.out (Nat.zero_le _) ?_;intro w0 hown0 hgrow0)
 have hb0:Below w.heap.size w w0:=(Below.refl _ _).grown hgrow0 (Nat.le_refl _) (fun k h=>by cases h)
 obtain ⟨zs0,hzl0,hF0⟩:=full_of_made hown0 rfl
 clear hown0 hgrow0
 go_loopw [6] (fun i wr=>∃ (j:Nat) (zs:List ByteArray),i=.int .i64 j/\j<=xs.length+3/\zs.length=xs.length+3/\Full wr w.heap.size zs/\Below w.heap.size w wr) (fun i _=>xs.length+3 - (intOf i).toNat)
 case atStart=>exact ⟨0,zs0,rfl,by omega,hzl0,hF0,hb0⟩
 case round =>
  obtain ⟨j,zs,rfl,hj,hzl,hF,hb⟩:=hrel
  clear hb0 hF0 hzl0
  by_cases hlt:j < xs.length+3
  ·have ck:=hF.cell j (by omega)
   have fk:=hF.free j
   go_wp2_with (go_at_call 81;refine (markstr_any j wr (by omega)).mono ?_;rintro e w4 ⟨m,rfl,hm,hb4⟩;have hF4:=hF.later (hb4.block _ (lt_of_block hF.hg));have ck4:=hF4.cell j (by omega);have fk4:=hF4.free j)
   go_roundw
   case rel=>exact ⟨j+1,zs.set j m,by go_num,by omega,by simp;omega,hF4.set j m (by unfold maxLen;omega),(hb.trans (hb4.mono hb.size)).setCell (Nat.le_refl _) _⟩
   case measure=>simp [intOf];omega
  ·go_wp2
   clear hlt hj
   go_loopw [7] (fun i wr=>∃ (j:Nat) (zs:List ByteArray),i=.int .i64 j/\j<=xs.length/\zs.length=xs.length+3/\zs.take j=xs.take j/\Full wr w.heap.size zs/\Below w.heap.size w wr) (fun i _=>xs.length - (intOf i).toNat)
   case atStart=>exact ⟨0,zs,rfl,by omega,hzl,rfl,hF,hb⟩
   case round =>
    clear hF hzl hb
    obtain ⟨j,zs,rfl,hj,hzl,hzt,hF,hb⟩:=hrel
    by_cases hlt:j < xs.length
    ·obtain ⟨b,off,rfl,hbl,hc⟩:=hr (fun e=>by subst e;simp at hlt)
     have hcj:=(hb.cell (p:=⟨b,off+j,none⟩) hbl).trans (hc j hlt)
     have hbj:(xs.getD j ByteArray.empty).size<=maxLen:=hsz _ (by simp [List.getD,hlt])
     have ck:=hF.cell j (by omega)
     have fk:=hF.free j
     have FS:Hid _:=hF.set j
     have HT:Hid ((zs.set j (xs.getD j ByteArray.empty)).take (j+1)=xs.take (j+1)):=take_set_step2 hzt hlt (by omega)
     clear hc hzt
     generalize hx:xs.getD j ByteArray.empty=x at *
     clear hx
     go_wp2
     go_roundw
     case rel=>exact ⟨j+1,zs.set j x,by go_num,by omega,by simp;omega,HT.out,FS.out x hbj,hb.setCell (Nat.le_refl _) _⟩
     case measure=>simp [intOf];omega
    ·obtain rfl:j=xs.length:=by omega
     rw [List.take_length] at hzt
     have HZT:Hid (zs.take xs.length=xs):=hzt
     clear hzt hj
     have hG2:=hG.later hb
     have hA:=hG2.later (bAl wr (.cells #[Value.slice (some ⟨w.heap.size,0,none⟩) (xs.length+3) (xs.length+3)] 59))
     have HLF:Hid (((E 2).map HE.fst).length<=5864062014720):=by show _<=_;simp;omega
     have HLN:Hid (((E 2).map HE.snd).length<=5864062014720):=by show _<=_;simp;omega
     have R4:Hid (HL 59 (wr.alloc (.cells #[Value.slice (some ⟨w.heap.size,0,none⟩) (xs.length+3) (xs.length+3)] 59)) (V 4) ((E 2).map HE.fst)):=by have:=hA.row 4;rw [t4] at this;exact this
     have c0:=hG2.cell (i:=4) (by omega)
     have AF0:Hid (∀ w5 L5,Grew (wr.alloc (.cells #[Value.slice (some ⟨w.heap.size,0,none⟩) (xs.length+3) (xs.length+3)] 59)) w5 (V 4) L5->w5.cell? ⟨q,4,none⟩=some (V 4)/\w5.frozen? ⟨q,4,none⟩=false):=fun w5 L5 hg=>by
      have b:=(hg.grown.block q (lt_of_block hA.hq) (hA.ne 4)).trans hA.hq
      exact ⟨by simp only [World.cell?,b];exact hArr_get V (by omega),by simp [World.frozen?,b]⟩
     have HA:Hid _:=hA
     clear hA hG2
     generalize hV4:V 4=L at *
     go_wp2_with (at_builtin;refine wpList_hl_append Tryz.underlying29 infoSS2 rfl _ _ rfl L ((E 2).map HE.fst) rfl R4.out wr.heap.size 1 (.slice (some ⟨w.heap.size,0,none⟩) (xs.length+3) (xs.length+3)) rfl (cell_new wr _ _) rfl HLF.out ?_;intro L5 w5 hl5 hg5;obtain ⟨a5,N5,c5,rfl⟩:=hl5.slice3;obtain ⟨d1,d2⟩:=AF0.out w5 _ hg5)
     obtain ⟨hG6,hf6⟩:=HA.out.store (i:=4) (v':=.slice a5 N5 c5) (s':=(E 2).map HE.fst++[.slice (some ⟨w.heap.size,0,none⟩) (xs.length+3) (xs.length+3)]) (by rw [hV4];exact hg5) (by rw [t4];exact hl5)
     have hF6:=(hF.later ((bAl wr (.cells #[Value.slice (some ⟨w.heap.size,0,none⟩) (xs.length+3) (xs.length+3)] 59)).block _ (lt_of_block hF.hg)))
     have hF7:=hF6.later (HA.out.other hf6 hF6.hg ht)
     have HF6:Hid _:=hf6
     clear hF6 d1 d2 hl5 hg5 c0 AF0 R4 hf6
     generalize (Value.slice a5 N5 c5)=L6 at *
     generalize w5.setCell ⟨q,4,none⟩ L6=w6 at *
     have hGd:=hG6.later (Below.refl _ _).drew
     have e1:w6.cell? ⟨q,5,none⟩=some (V 5):=hG6.cell (i:=5) (by omega)
     have hR6:=hF7.row
     have HZ:Hid (zs.length<=8796093022208):=by show _<=_;omega
     have AF:Hid (∀ w1 o,Below w6.drew.heap.size w6.drew w1->w1.cell? ⟨q,5,none⟩=some (V 5)/\(w1.alloc o).cell? ⟨q,5,none⟩=some (V 5)/\HL 59 (w1.alloc o) (V 5) ((E 2).map HE.snd)):=fun w1 o hb=>by
      have r1:=hGd.later hb
      have r2:=r1.later (bAl w1 o)
      refine ⟨r1.cell (i:=5) (by omega),r2.cell (i:=5) (by omega),?_⟩
      have:=r2.row 5
      rw [t5] at this
      exact this
     have AF2:Hid (∀ w1 o w2 W2,Below w6.drew.heap.size w6.drew w1->Grew (w1.alloc o) w2 (V 5) W2->w2.cell? ⟨q,5,none⟩=some (V 5)/\w2.frozen? ⟨q,5,none⟩=false):=fun w1 o w2 W2 hb hg=>by
      have h1:=(hGd.later hb).later (bAl _ o)
      have b:=(hg.grown.block q (lt_of_block h1.hq) (h1.ne 5)).trans h1.hq
      exact ⟨by simp only [World.cell?,b];exact hArr_get _ (by omega),by simp [World.frozen?,b]⟩
     have HGd:Hid _:=hGd
     have HG6:Hid _:=hG6
     clear hGd hG6
     generalize hV5:V 5=W at *
     go_region_law (first
      | (refine step_copy (by rfl) _ (by rfl) w.heap.size 0 (xs.length+3) (xs.length+3) zs (by rfl) hzl.symm HZ.out hR6 ?_;intro a8 N8 c8 w8 ho8 hb8;obtain ⟨f0,f1,f2⟩:=AF.out w8 (.cells #[.slice a8 N8 c8] 59) hb8)
      | (refine step_hl_append Tryz.underlying29 infoSS2 (by rfl) _ _ (by rfl) W ((E 2).map HE.snd) (by rfl) f2 w8.heap.size 1 (.slice a8 N8 c8) (by rfl) (cell_new w8 _ _) (by rfl) HLN.out ?_;intro W9 w9 hl9 hg9;obtain ⟨a9,N9,c9,rfl⟩:=hl9.slice3;obtain ⟨m0,m1⟩:=AF2.out w8 _ w9 _ hb8 hg9))
     all_goals go_wp2
     all_goals go_ret
     all_goals
      have hN8:=gs_cnt2 ho8
      subst hN8
      have hI8:=(HGd.out.later hb8).later (bAl w8 (.cells #[.slice a8 zs.length c8] 59))
      obtain ⟨hG9,hf9⟩:=hI8.store (i:=5) (v':=.slice a9 N9 c9) (s':=(E 2).map HE.snd++[.slice a8 zs.length c8]) (by show Grew _ _ (V 5) _;rw [hV5];exact hg9) (by rw [t5];exact hl9)
      have hfa:HF w6 (w8.alloc (.cells #[.slice a8 zs.length c8] 59)) q (updV V 4 L6) (updV V 4 L6):=HF.ofBelow ((Below.refl _ _).drew.trans (hb8.trans ((bAl w8 _).mono hb8.size)))
      have hfx:=hfa.trans hf9
      have hF9:=hF7.later (HG6.out.other hfx hF7.hg ht)
      have ho9:=row_kept (ho8.later (bAl _ _)) (w':=w9.setCell ⟨q,5,none⟩ (.slice a9 N9 c9)) fun k C _ hk=>hI8.other hf9 hk ht
      have hend:=(HF.ofBelow hb).trans ((HF.ofBelow (bAl wr _)).trans (HF6.out.trans hfx))
      refine ⟨rfl,_,⟨9,1,w.heap.size,zs.length,a8,c8,zs.map Value.string⟩,HI.add (κ:=2) (by rw [<- hzl] at hG9;exact hG9) ⟨by simp,by show zs.length<=_;omega,hF9.hg,by show World.ownsRow _ _ _ _ _ _ _;simpa using ho9⟩ ht,rfl,rfl,rfl,⟨zs,rfl,HZT.out⟩,hend⟩
set_option maxRecDepth 100000 in
set_option maxHeartbeats 1000000 in
theorem marksym_any (k:Nat)(w:World)(hk:k<=140737488355400) :
  Calls Tryz.prog 83 #[.int .i64 987,.int .i64 k] w fun e w'=>∃ m:Int,e=.returned (.agg #[.int .i64 0,.int .i64 m])/\Below w.heap.size w w':=by
 go_enter Tryz.func83,Tryz.ntmps83
 go_wp2
 go_returns
 exact ⟨_,rfl,by go_grown⟩
theorem SymRow.cells {w:World}{b off:Nat}{zs:List (Int×Int)}(hr:SymRow w (some ⟨b,off,none⟩) zs)(j:Nat)(u:Value)(hu:(sCl zs)[j]?=some u):w.cell? ⟨b,off+j,none⟩=some u:=by
 have hj:j < zs.length*2:=by have:=(List.getElem?_eq_some_iff.1 hu).1;rwa [symCells_len] at this
 obtain ⟨b',off',e,_,hc⟩:=hr (by intro h;subst h;simp at hj)
 simp at e
 obtain ⟨rfl,rfl⟩:=e
 obtain ⟨c1,c2⟩:=hc (j / 2) (by omega)
 obtain ⟨g1,g2⟩:=symCells_get zs (j / 2) (by omega)
 by_cases h:j % 2=0
 ·have e:j / 2*2=j:=by omega
  rw [e] at c1 g1
  rw [c1,<- hu,g1]
 ·have e:j / 2*2+1=j:=by omega
  rw [e] at g2
  rw [show off+j / 2*2+1=off+j by omega] at c2
  rw [c2,<- hu,g2]
theorem wpList_sy_copy {ops:Array Oper}{rest:List Oper}{o:Oper}{a:Act}{Q:Exit->Act->World->Prop}{w:World}(hgd:o.guard=none)(s x:Operand)
  (ho:o.op=.call { callee:=.builtin .append,args:=#[s,x],argTypes:=#[100,100] })
  (hs:a.eval s=.slice none 0 0) (b off c:Nat) (zs:List (Int×Int)) (hx:a.eval x=.slice (some ⟨b,off,none⟩) zs.length c) (hr:SymRow w (some ⟨b,off,none⟩) zs) (hlen:zs.length<=8796093022208)
  (hK:∀ a' n' c' w',SY w' (.slice a' n' c') zs->Grew w w' (.slice none 0 0) (.slice a' n' c')->wpList Tryz.prog ops Q rest (a.put o.dst (.slice a' n' c')) w'):wpList Tryz.prog ops Q (o :: rest) a w:=by
 obtain ⟨i0,hi,hz0,hz1,hz2⟩:=infoSym_parts
 refine wpList_append_own_at w hgd s x 100 ho 0 82 i0 (.agg #[.int .i64 0,.int .i64 0]) 2 16 Tryz.underlying100 hi hz0 hz1 hz2 rfl (by decide) (.slice none 0 0) 0 [] hs (World.ownsRow_nil w 0 82 2) ⟨b,off,none⟩ zs.length c (sCl zs) hx (symCells_len zs) ?_ ?_ (by unfold maxLen;omega) (by omega) (Nat.zero_le _) ?_
 ·intro j u hu
  rw [aNn]
  exact hr.cells j u hu
 ·intro u hu
  simp only [sCl,List.mem_flatMap] at hu
  obtain ⟨y,_,hu⟩:=hu
  simp at hu
  rcases hu with rfl | rfl<;>rfl
 ·intro v' w' h2 h3 _ h5
  have h6:SY w' v' zs:=by unfold SY;simpa using h2
  obtain ⟨a',c',rfl⟩:=sy_len h6
  exact hK _ _ _ w' h6 ⟨h3,h5.imp id fun e=>⟨_,e,Nat.le_refl _⟩⟩
set_option maxRecDepth 100000 in
set_option maxHeartbeats 1000000 in
theorem copysym_any (b off cap:Nat)(zs:List (Int×Int))(w:World)(hl:zs.length<=8796093022208)(hr:SymRow w (some ⟨b,off,none⟩) zs) :
  Calls Tryz.prog 84 #[.slice (some ⟨b,off,none⟩) zs.length cap] w fun e w'=>∃ a N c,e=.returned (.slice a N c)/\SY w' (.slice a N c) zs/\(∀ k,(Value.slice a N c).ownBlock=some k->w.heap.size<=k)/\Below w.heap.size w w':=by
 go_enter Tryz.func84,Tryz.ntmps84
 go_wp2_with (at_builtin;refine wpList_sy_copy rfl _ _ rfl rfl b off cap zs rfl hr hl ?_;intro a2 n2 c2 w2 ho2 hg2)
 go_ret
 refine ⟨a2,n2,c2,rfl,ho2,fun k hk=>?_,⟨hg2.grown.os,hg2.grown.tape,hg2.grown.output,hg2.grown.size,fun k hk=>hg2.grown.block k hk (by simp [Value.ownBlock])⟩⟩
 rcases hg2.moved with e | ⟨j,e,hj⟩
 ·rw [e] at hk;simp [Value.ownBlock] at hk
 ·rw [e] at hk;simp at hk;omega
structure FullS (w:World)(g:Nat)(zs:List (Int×Int)):Prop where
 hg:w.heap[g]?=some (.cells (sCl zs).toArray 82 (0,0))
theorem FullS.cell {w:World}{g:Nat}{zs:List (Int×Int)}(h:FullS w g zs)(j:Nat)(hj:j < zs.length):w.cell? ⟨g,j*2,none⟩=some (.int .i64 (zs.getD j (0,0)).1)/\w.cell? ⟨g,j*2+1,none⟩=some (.int .i64 (zs.getD j (0,0)).2):=by
 obtain ⟨g1,g2⟩:=symCells_get zs j hj
 simp only [World.cell?,h.hg]
 exact ⟨by simpa using g1,by simpa using g2⟩
theorem FullS.free {w:World}{g:Nat}{zs:List (Int×Int)}(h:FullS w g zs)(j:Nat):w.frozen? ⟨g,j,none⟩=false:=by
 simp [World.frozen?,h.hg]
theorem symCells_set:∀ (zs:List (Int×Int)) (j:Nat) (k n:Int),((sCl zs).set (j*2) (.int .i64 k)).set (j*2+1) (.int .i64 n)=sCl (zs.set j (k,n))
 | [],j,k,n=>by simp [sCl]
 | q :: r,0,k,n=>by simp [sCl]
 | q :: r,j+1,k,n=>by
  have e:∀ q r,sCl (q :: r)=.int .i64 q.1 :: .int .i64 q.2 :: sCl r:=fun _ _=>rfl
  rw [List.set_cons_succ,e,e,<- symCells_set r j k n,show (j+1)*2=j*2+1+1 by omega]
  rfl
theorem FullS.set {w:World}{g:Nat}{zs:List (Int×Int)}(h:FullS w g zs)(j:Nat)(k n:Int):FullS ((w.setCell ⟨g,j*2,none⟩ (.int .i64 k)).setCell ⟨g,j*2+1,none⟩ (.int .i64 n)) g (zs.set j (k,n)):=by
 refine ⟨?_⟩
 rw [hSt (hSt h.hg _ _)]
 congr 2
 rw [<- symCells_set]
 simp
theorem FullS.later {w w':World}{g:Nat}{zs:List (Int×Int)}(h:FullS w g zs)(hb:w'.heap[g]?=w.heap[g]?):FullS w' g zs:=⟨hb.trans h.hg⟩
theorem FullS.row {w:World}{g:Nat}{zs:List (Int×Int)}(h:FullS w g zs):SymRow w (some ⟨g,0,none⟩) zs :=
 fun _=>⟨g,0,rfl,lt_of_block h.hg,fun i hi=>by rw [Nat.zero_add];exact h.cell i hi⟩
theorem FullS.rowTake {w:World}{g:Nat}{zs xs:List (Int×Int)}(h:FullS w g zs)(hx:zs.take xs.length=xs):SymRow w (some ⟨g,0,none⟩) xs:=by
 refine fun _=>⟨g,0,rfl,lt_of_block h.hg,fun i hi=>?_⟩
 have hz:i < zs.length:=by have:=congrArg List.length hx;simp at this;omega
 have:xs.getD i (0,0)=zs.getD i (0,0):=by rw [<- hx];simp [List.getD,hi]
 rw [Nat.zero_add,this]
 exact h.cell i hz
theorem fullS_of_made {w:World}{g n:Nat}{vs:List Value}(h:w.ownsRow 0 82 2 (.slice (some ⟨g,0,none⟩) n n) n vs)(hv:vs=(madeCells (Value.agg #[.int .i64 0,.int .i64 0]).cells (n*2)).toList):∃ zs:List (Int×Int),zs.length=n/\FullS w g zs:=by
 rcases h.2 with ⟨e,_⟩ | ⟨g',cap,cur,e,_,hg,_,_,hs,ht⟩
 ·cases e
 ·cases e
  refine ⟨List.replicate n (0,0),by simp,⟨?_⟩⟩
  rw [hg]
  have hc:cur.toList=vs:=by rw [<- ht,List.take_of_length_le (by simp;omega)]
  congr 2
  apply Array.toList_inj.1
  rw [hc,hv]
  apply List.ext_getElem
  ·simp [madeCells,symCells_len]
  ·intro k h1 h2
   have hk:k < n*2:=by have:=h2;rw [List.toList_toArray,symCells_len] at this;simpa using this
   obtain ⟨g1,g2⟩:=symCells_get (List.replicate n (0,0)) (k / 2) (by simp;omega)
   have e0:(List.replicate n ((0:Int),(0:Int))).getD (k / 2) (0,0)=(0,0):=by simp [List.getD,List.getElem?_replicate];split<;>rfl
   rw [e0] at g1 g2
   have hr:(sCl (List.replicate n (0,0)))[k]?=some (.int .i64 0):=by
    by_cases hm:k % 2=0
    ·rwa [show k / 2*2=k by omega] at g1
    ·rwa [show k / 2*2+1=k by omega] at g2
   have hr2:(sCl (List.replicate n (0,0))).toArray.toList[k]=.int .i64 0:=by
    have:=List.getElem?_eq_getElem (l:=sCl (List.replicate n ((0:Int),(0:Int)))) (i:=k) (by rw [symCells_len];simpa using hk)
    rw [hr] at this
    simpa using this.symm
   rw [hr2]
   rcases Nat.mod_two_eq_zero_or_one k with e | e<;>simp [madeCells,Value.cells,e]
theorem take_set_stepY {zs xs:List (Int×Int)}{j:Nat}(h:zs.take j=xs.take j)(hx:j < xs.length)(hz:j < zs.length):(zs.set j (xs.getD j (0,0))).take (j+1)=xs.take (j+1):=by
 rw [List.take_succ_eq_append_getElem hx,<- h,List.take_succ_eq_append_getElem (by simpa using hz),List.take_set_of_le (Nat.le_refl _)]
 simp [List.getD,hx]
theorem sy_cnt {w:World}{a:Option Addr}{n c:Nat}{l:List (Int×Int)}(h:SY w (.slice a n c) l):n=l.length:=by
 obtain ⟨a',c',e⟩:=sy_len h
 simp at e
 exact e.2.1
theorem enter_copyY (args:Array Value)(w:World):(callFunc 84 args).run Tryz.prog w=.ok (.enter 84 args) w:=by kernel_rfl
theorem step_copyY {ops:Array Oper}{o:Oper}{a:Act}{w:World}{K:Act->World->Prop}{Q:Exit->Act->World->Prop}{E:Prop}
  (hg:o.guard=none) (x:Operand) (hop:o.op=Op.call { callee:=Callee.value (Operand.func 84),args:=#[x],argTypes:=#[100] })
  (b off N cap:Nat) (xs:List (Int×Int)) (hx:a.eval x=.slice (some ⟨b,off,none⟩) N cap) (hN:N=xs.length) (hl:xs.length<=8796093022208) (hr:SymRow w (some ⟨b,off,none⟩) xs)
  (hK:∀ a' N' c' w',SY w' (.slice a' N' c') xs->Below w.heap.size w w'->K (a.put o.dst (.slice a' N' c')) w') :
  if Region.wanted o (yielded ops a.tmps)=true then Oper.wp Tryz.prog o a w K Q else E:=by
 have hw:Region.wanted o (yielded ops a.tmps)=true:=by simp [Region.wanted,hg]
 rw [if_pos hw]
 have hf:a.eval (Operand.func 84)=.func (.func 84) #[] #[]:=rfl
 have hcf:=enter_copyY #[.slice (some ⟨b,off,none⟩) N cap] w
 have e:(execOp a.eval o).run Tryz.prog w=.ok (.enter 84 #[.slice (some ⟨b,off,none⟩) N cap]) w:=by
  simp [execOp,hop,resolve,invoke,hx,hf,Deferred.ofValue,hcf]
 show o.upon Tryz.prog a K Q ((execOp a.eval o).run Tryz.prog w)
 rw [e,Oper.upon_enter]
 subst hN
 refine (copysym_any b off cap xs w hl hr).mono ?_
 rintro e w' ⟨a',N',c',rfl,ho,_,hb⟩
 exact hK a' N' c' w' ho hb
theorem infoYY2:SliceInfo 100:=sliceInfo_of (by kernel_rfl)
set_option maxRecDepth 100000 in
set_option maxHeartbeats 2000000 in
theorem hsyms (q:Nat)(V:Nat->Value)(ty:Nat->TypeId)(E:Nat->List HE)(ao:Option Addr)(N cap:Nat)(xs:List (Int×Int))(w:World)(hN:N=xs.length)(hl:xs.length<=8796093022000)(hr:SymRow w ao xs)(hG:HInv w q V ty E)(hes:(E 4).length<=4900000000000)(t4:ty 8=100)(t5:ty 9=100)(ht:82≠38/\∀ i,82≠ty i) :
  Calls Tryz.prog 64 #[.pointer (some ⟨q,0,none⟩),.slice ao N cap] w fun e w'=>e=.returned (.slice (some ⟨w.heap.size,0,none⟩) xs.length (xs.length+3))/\∃ V' x,HInv w' q V' ty (updE E 4 x)/\x.g=w.heap.size/\x.t=82/\x.sz=2/\(∃ zs:List (Int×Int),x.cs=sCl zs/\zs.take xs.length=xs)/\HF w w' q V V':=by
 subst hN
 obtain ⟨i0,hi,hz0,hz1,hz2⟩:=infoSym_parts
 have HB2:Hid (i0.bytes*(xs.length+3)<=281474976710656):=by show _<=_;rw [hz2];omega
 have HB3:Hid (xs.length+3<=maxLen):=by show _<=_;unfold maxLen;omega
 go_enter Tryz.func64,Tryz.ntmps64
 go_wp2_with (at_make;refine wpList_make_full _ rfl _ _ 100 rfl 0 82 i0 (.agg #[.int .i64 0,.int .i64 0]) 2 Tryz.underlying100 hi hz0 hz1 _ _ _ _ (xs.length+3) rfl rfl (by omega) (by omega) HB2.out HB3.out (Nat.zero_le _) ?_;intro w0 hown0 hgrow0)
 have hb0:Below w.heap.size w w0:=(Below.refl _ _).grown hgrow0 (Nat.le_refl _) (fun k h=>by cases h)
 obtain ⟨zs0,hzl0,hF0⟩:=fullS_of_made hown0 rfl
 clear hown0 hgrow0
 go_loopw [6] (fun i wr=>∃ (j:Nat) (zs:List (Int×Int)),i=.int .i64 j/\j<=xs.length+3/\zs.length=xs.length+3/\FullS wr w.heap.size zs/\Below w.heap.size w wr) (fun i _=>xs.length+3 - (intOf i).toNat)
 case atStart=>exact ⟨0,zs0,rfl,by omega,hzl0,hF0,hb0⟩
 case round =>
  obtain ⟨j,zs,rfl,hj,hzl,hF,hb⟩:=hrel
  clear hb0 hF0 hzl0
  by_cases hlt:j < xs.length+3
  ·obtain ⟨ck,ck'⟩:=hF.cell j (by omega)
   have fk:=hF.free (j*2)
   have fk':=hF.free (j*2+1)
   go_wp2_with (go_at_call 83;refine (marksym_any j wr (by omega)).mono ?_;rintro e w4 ⟨m,rfl,hb4⟩;have hF4:=hF.later (hb4.block _ (lt_of_block hF.hg));obtain ⟨ck4,ck5⟩:=hF4.cell j (by omega);have fk4:=hF4.free (j*2);have fk5:=hF4.free (j*2+1))
   go_roundw
   case rel=>exact ⟨j+1,zs.set j (0,m),by go_num,by omega,by simp;omega,hF4.set j 0 m,((hb.trans (hb4.mono hb.size)).setCell (Nat.le_refl _) _).setCell (Nat.le_refl _) _⟩
   case measure=>simp [intOf];omega
  ·go_wp2
   clear hlt hj
   go_loopw [7] (fun i wr=>∃ (j:Nat) (zs:List (Int×Int)),i=.int .i64 j/\j<=xs.length/\zs.length=xs.length+3/\zs.take j=xs.take j/\FullS wr w.heap.size zs/\Below w.heap.size w wr) (fun i _=>xs.length - (intOf i).toNat)
   case atStart=>exact ⟨0,zs,rfl,by omega,hzl,rfl,hF,hb⟩
   case round =>
    clear hF hzl hb
    obtain ⟨j,zs,rfl,hj,hzl,hzt,hF,hb⟩:=hrel
    by_cases hlt:j < xs.length
    ·obtain ⟨b,off,rfl,hbl,hc⟩:=hr (fun e=>by subst e;simp at hlt)
     have hcj:=(hb.cell (p:=⟨b,off+j*2,none⟩) hbl).trans (hc j hlt).1
     have hcj':=(hb.cell (p:=⟨b,off+j*2+1,none⟩) hbl).trans (hc j hlt).2
     obtain ⟨ck,ck'⟩:=hF.cell j (by omega)
     have fk:=hF.free (j*2)
     have fk':=hF.free (j*2+1)
     have FS:Hid _:=hF.set j
     have HT:Hid ((zs.set j (xs.getD j (0,0))).take (j+1)=xs.take (j+1)):=take_set_stepY hzt hlt (by omega)
     clear hc hzt
     generalize hx:xs.getD j (0,0)=x at *
     obtain ⟨x1,x2⟩:=x
     simp only at hcj hcj'
     clear hx
     go_wp2
     go_roundw
     case rel=>exact ⟨j+1,zs.set j (x1,x2),by go_num,by omega,by simp;omega,HT.out,FS.out x1 x2,(hb.setCell (Nat.le_refl _) _).setCell (Nat.le_refl _) _⟩
     case measure=>simp [intOf];omega
    ·obtain rfl:j=xs.length:=by omega
     rw [List.take_length] at hzt
     have HZT:Hid (zs.take xs.length=xs):=hzt
     clear hzt hj
     have hG2:=hG.later hb
     have hA:=hG2.later (bAl wr (.cells #[Value.slice (some ⟨w.heap.size,0,none⟩) (xs.length+3) (xs.length+3)] 100))
     have HLF:Hid (((E 4).map HE.fst).length<=5864062014720):=by show _<=_;simp;omega
     have HLN:Hid (((E 4).map HE.snd).length<=5864062014720):=by show _<=_;simp;omega
     have R4:Hid (HL 100 (wr.alloc (.cells #[Value.slice (some ⟨w.heap.size,0,none⟩) (xs.length+3) (xs.length+3)] 100)) (V 8) ((E 4).map HE.fst)):=by have:=hA.row 8;rw [t4] at this;exact this
     have c0:=hG2.cell (i:=8) (by omega)
     have AF0:Hid (∀ w5 L5,Grew (wr.alloc (.cells #[Value.slice (some ⟨w.heap.size,0,none⟩) (xs.length+3) (xs.length+3)] 100)) w5 (V 8) L5->w5.cell? ⟨q,8,none⟩=some (V 8)/\w5.frozen? ⟨q,8,none⟩=false):=fun w5 L5 hg=>by
      have b:=(hg.grown.block q (lt_of_block hA.hq) (hA.ne 8)).trans hA.hq
      exact ⟨by simp only [World.cell?,b];exact hArr_get V (by omega),by simp [World.frozen?,b]⟩
     have HA:Hid _:=hA
     clear hA hG2
     generalize hV4:V 8=L at *
     go_wp2_with (at_builtin;refine wpList_hl_append Tryz.underlying31 infoYY2 rfl _ _ rfl L ((E 4).map HE.fst) rfl R4.out wr.heap.size 1 (.slice (some ⟨w.heap.size,0,none⟩) (xs.length+3) (xs.length+3)) rfl (cell_new wr _ _) rfl HLF.out ?_;intro L5 w5 hl5 hg5;obtain ⟨a5,N5,c5,rfl⟩:=hl5.slice3;obtain ⟨d1,d2⟩:=AF0.out w5 _ hg5)
     obtain ⟨hG6,hf6⟩:=HA.out.store (i:=8) (v':=.slice a5 N5 c5) (s':=(E 4).map HE.fst++[.slice (some ⟨w.heap.size,0,none⟩) (xs.length+3) (xs.length+3)]) (by rw [hV4];exact hg5) (by rw [t4];exact hl5)
     have hF6:=(hF.later ((bAl wr (.cells #[Value.slice (some ⟨w.heap.size,0,none⟩) (xs.length+3) (xs.length+3)] 100)).block _ (lt_of_block hF.hg)))
     have hF7:=hF6.later (HA.out.other hf6 hF6.hg ht)
     have HF6:Hid _:=hf6
     clear hF6 d1 d2 hl5 hg5 c0 AF0 R4 hf6
     generalize (Value.slice a5 N5 c5)=L6 at *
     generalize w5.setCell ⟨q,8,none⟩ L6=w6 at *
     have hGd:=hG6.later (Below.refl _ _).drew
     have e1:w6.cell? ⟨q,9,none⟩=some (V 9):=hG6.cell (i:=9) (by omega)
     have hR6:=hF7.row
     have HZ:Hid (zs.length<=8796093022208):=by show _<=_;omega
     have AF:Hid (∀ w1 o,Below w6.drew.heap.size w6.drew w1->w1.cell? ⟨q,9,none⟩=some (V 9)/\(w1.alloc o).cell? ⟨q,9,none⟩=some (V 9)/\HL 100 (w1.alloc o) (V 9) ((E 4).map HE.snd)):=fun w1 o hb=>by
      have r1:=hGd.later hb
      have r2:=r1.later (bAl w1 o)
      refine ⟨r1.cell (i:=9) (by omega),r2.cell (i:=9) (by omega),?_⟩
      have:=r2.row 9
      rw [t5] at this
      exact this
     have AF2:Hid (∀ w1 o w2 W2,Below w6.drew.heap.size w6.drew w1->Grew (w1.alloc o) w2 (V 9) W2->w2.cell? ⟨q,9,none⟩=some (V 9)/\w2.frozen? ⟨q,9,none⟩=false):=fun w1 o w2 W2 hb hg=>by
      have h1:=(hGd.later hb).later (bAl _ o)
      have b:=(hg.grown.block q (lt_of_block h1.hq) (h1.ne 9)).trans h1.hq
      exact ⟨by simp only [World.cell?,b];exact hArr_get _ (by omega),by simp [World.frozen?,b]⟩
     have HGd:Hid _:=hGd
     have HG6:Hid _:=hG6
     clear hGd hG6
     generalize hV5:V 9=W at *
     go_region_law (first
      | (refine step_copyY (by rfl) _ (by rfl) w.heap.size 0 (xs.length+3) (xs.length+3) zs (by rfl) hzl.symm HZ.out hR6 ?_;intro a8 N8 c8 w8 ho8 hb8;obtain ⟨f0,f1,f2⟩:=AF.out w8 (.cells #[.slice a8 N8 c8] 100) hb8)
      | (refine step_hl_append Tryz.underlying31 infoYY2 (by rfl) _ _ (by rfl) W ((E 4).map HE.snd) (by rfl) f2 w8.heap.size 1 (.slice a8 N8 c8) (by rfl) (cell_new w8 _ _) (by rfl) HLN.out ?_;intro W9 w9 hl9 hg9;obtain ⟨a9,N9,c9,rfl⟩:=hl9.slice3;obtain ⟨m0,m1⟩:=AF2.out w8 _ w9 _ hb8 hg9))
     all_goals go_wp2
     all_goals go_ret
     all_goals
      have hN8:=sy_cnt ho8
      subst hN8
      have hI8:=(HGd.out.later hb8).later (bAl w8 (.cells #[.slice a8 zs.length c8] 100))
      obtain ⟨hG9,hf9⟩:=hI8.store (i:=9) (v':=.slice a9 N9 c9) (s':=(E 4).map HE.snd++[.slice a8 zs.length c8]) (by show Grew _ _ (V 9) _;rw [hV5];exact hg9) (by rw [t5];exact hl9)
      have hfa:HF w6 (w8.alloc (.cells #[.slice a8 zs.length c8] 100)) q (updV V 8 L6) (updV V 8 L6):=HF.ofBelow ((Below.refl _ _).drew.trans (hb8.trans ((bAl w8 _).mono hb8.size)))
      have hfx:=hfa.trans hf9
      have hF9:=hF7.later (HG6.out.other hfx hF7.hg ht)
      have ho9:=row_kept (ho8.later (bAl _ _)) (w':=w9.setCell ⟨q,9,none⟩ (.slice a9 N9 c9)) fun k C _ hk=>hI8.other hf9 hk ht
      have hend:=(HF.ofBelow hb).trans ((HF.ofBelow (bAl wr _)).trans (HF6.out.trans hfx))
      refine ⟨rfl,_,⟨82,2,w.heap.size,zs.length,a8,c8,sCl zs⟩,HI.add (κ:=4) (by rw [<- hzl] at hG9;exact hG9) ⟨symCells_len zs,by show zs.length<=_;omega,hF9.hg,ho9⟩ ht,rfl,rfl,rfl,⟨zs,rfl,HZT.out⟩,hend⟩
theorem cell_newI (w:World)(x:Value)(t:TypeId):(w.alloc (.cells #[x] t)).cell? ⟨w.heap.size,0,none⟩=some x:=by
 have:=heap_alloc_new w (.cells #[x] t)
 simp only [World.cell?,this];rfl
set_option maxRecDepth 100000 in
set_option maxHeartbeats 1000000 in
theorem markint_any (k:Nat)(w:World)(hk:k<=140737488355400) :
  Calls Tryz.prog 65 #[.int .i64 987,.int .i64 k] w fun e w'=>∃ m:Int,e=.returned (.int .i64 m)/\Below w.heap.size w w':=by
 go_enter Tryz.func65,Tryz.ntmps65
 go_wp2
 go_ret
 exact ⟨_,rfl,by go_grown⟩
theorem wpList_il_copy {ops:Array Oper}{rest:List Oper}{o:Oper}{a:Act}{Q:Exit->Act->World->Prop}{w:World}(hgd:o.guard=none)(s x:Operand)
  (ho:o.op=.call { callee:=.builtin .append,args:=#[s,x],argTypes:=#[55,55] })
  (hs:a.eval s=.slice none 0 0) (b off c:Nat) (zs:List Int) (hx:a.eval x=.slice (some ⟨b,off,none⟩) zs.length c) (hr:InRow w (some ⟨b,off,none⟩) zs) (hlen:zs.length<=17592186044416)
  (hK:∀ a' n' c' w',IL w' (.slice a' n' c') zs->Grew w w' (.slice none 0 0) (.slice a' n' c')->wpList Tryz.prog ops Q rest (a.put o.dst (.slice a' n' c')) w'):wpList Tryz.prog ops Q (o :: rest) a w:=by
 obtain ⟨i0,hi,hz0,hz1,hz2⟩:=infoInt_parts
 refine wpList_append_own_at w hgd s x 55 ho 0 3 i0 (.int .i64 0) 1 8 Tryz.underlying55 hi hz0 hz1 hz2 rfl (by decide) (.slice none 0 0) 0 [] hs (World.ownsRow_nil w 0 3 1) ⟨b,off,none⟩ zs.length c (zs.map (.int .i64 ·)) hx (by simp) ?_ ?_ (by unfold maxLen;omega) (by omega) (Nat.zero_le _) ?_
 ·intro j u hu
  have hj:j < zs.length:=by have:=(List.getElem?_eq_some_iff.1 hu).1;simpa using this
  obtain ⟨b',off',e,_,hc⟩:=hr (by intro h;subst h;simp at hj)
  simp at e
  obtain ⟨rfl,rfl⟩:=e
  rw [aNn,hc j hj,<- hu]
  simp [List.getD,hj]
 ·intro u hu;simp at hu;obtain ⟨y,_,rfl⟩:=hu;rfl
 ·intro v' w' h2 h3 _ h5
  have h6:IL w' v' zs:=by unfold IL;simpa using h2
  obtain ⟨a',c',rfl⟩:=il_len h6
  exact hK _ _ _ w' h6 ⟨h3,h5.imp id fun e=>⟨_,e,Nat.le_refl _⟩⟩
set_option maxRecDepth 100000 in
set_option maxHeartbeats 1000000 in
theorem copyint_any (b off cap:Nat)(zs:List Int)(w:World)(hl:zs.length<=17592186044416)(hr:InRow w (some ⟨b,off,none⟩) zs) :
  Calls Tryz.prog 66 #[.slice (some ⟨b,off,none⟩) zs.length cap] w fun e w'=>∃ a N c,e=.returned (.slice a N c)/\IL w' (.slice a N c) zs/\Below w.heap.size w w':=by
 go_enter Tryz.func66,Tryz.ntmps66
 go_wp2_with (at_builtin;refine wpList_il_copy rfl _ _ rfl rfl b off cap zs rfl hr hl ?_;intro a2 n2 c2 w2 ho2 hg2)
 go_ret
 exact ⟨a2,n2,c2,rfl,ho2,⟨hg2.grown.os,hg2.grown.tape,hg2.grown.output,hg2.grown.size,fun k hk=>hg2.grown.block k hk (by simp [Value.ownBlock])⟩⟩
structure FullI (w:World)(g:Nat)(zs:List Int):Prop where
 hg:w.heap[g]?=some (.cells (zs.map (.int .i64 ·)).toArray 3 (0,0))
theorem FullI.cell {w:World}{g:Nat}{zs:List Int}(h:FullI w g zs)(j:Nat)(hj:j < zs.length):w.cell? ⟨g,j,none⟩=some (.int .i64 (zs.getD j 0)):=by
 simp [World.cell?,h.hg,List.getD,hj]
theorem FullI.free {w:World}{g:Nat}{zs:List Int}(h:FullI w g zs)(j:Nat):w.frozen? ⟨g,j,none⟩=false:=by
 simp [World.frozen?,h.hg]
theorem FullI.set {w:World}{g:Nat}{zs:List Int}(h:FullI w g zs)(j:Nat)(m:Int):FullI (w.setCell ⟨g,j,none⟩ (.int .i64 m)) g (zs.set j m):=by
 refine ⟨?_⟩
 rw [hSt h.hg]
 congr 2
 simp [List.map_set]
theorem FullI.later {w w':World}{g:Nat}{zs:List Int}(h:FullI w g zs)(hb:w'.heap[g]?=w.heap[g]?):FullI w' g zs:=⟨hb.trans h.hg⟩
theorem FullI.row {w:World}{g:Nat}{zs:List Int}(h:FullI w g zs):InRow w (some ⟨g,0,none⟩) zs :=
 fun _=>⟨g,0,rfl,lt_of_block h.hg,fun i hi=>by rw [Nat.zero_add];exact h.cell i hi⟩
theorem fullI_of_made {w:World}{g n:Nat}{vs:List Value}(h:w.ownsRow 0 3 1 (.slice (some ⟨g,0,none⟩) n n) n vs)(hv:vs=(madeCells (Value.int .i64 0).cells (n*1)).toList):∃ zs:List Int,zs.length=n/\FullI w g zs:=by
 rcases h.2 with ⟨e,_⟩ | ⟨g',cap,cur,e,_,hg,_,_,hs,ht⟩
 ·cases e
 ·cases e
  refine ⟨List.replicate n 0,by simp,⟨?_⟩⟩
  rw [hg]
  have hc:cur.toList=vs:=by rw [<- ht,List.take_of_length_le (by simp;omega)]
  congr 2
  apply Array.toList_inj.1
  rw [hc,hv]
  apply List.ext_getElem
  ·simp [madeCells]
  ·intro k h1 h2
   simp [madeCells,Value.cells,Nat.mod_one]
theorem take_set_stepI {zs xs:List Int}{j:Nat}(h:zs.take j=xs.take j)(hx:j < xs.length)(hz:j < zs.length):(zs.set j (xs.getD j 0)).take (j+1)=xs.take (j+1):=by
 rw [List.take_succ_eq_append_getElem hx,<- h,List.take_succ_eq_append_getElem (by simpa using hz),List.take_set_of_le (Nat.le_refl _)]
 simp [List.getD,hx]
theorem il_cnt {w:World}{a:Option Addr}{n c:Nat}{l:List Int}(h:IL w (.slice a n c) l):n=l.length:=by
 obtain ⟨a',c',e⟩:=il_len h
 simp at e
 exact e.2.1
theorem enter_copyI (args:Array Value)(w:World):(callFunc 66 args).run Tryz.prog w=.ok (.enter 66 args) w:=by kernel_rfl
theorem step_copyI {ops:Array Oper}{o:Oper}{a:Act}{w:World}{K:Act->World->Prop}{Q:Exit->Act->World->Prop}{E:Prop}
  (hg:o.guard=none) (x:Operand) (hop:o.op=Op.call { callee:=Callee.value (Operand.func 66),args:=#[x],argTypes:=#[55] })
  (b off N cap:Nat) (xs:List Int) (hx:a.eval x=.slice (some ⟨b,off,none⟩) N cap) (hN:N=xs.length) (hl:xs.length<=17592186044416) (hr:InRow w (some ⟨b,off,none⟩) xs)
  (hK:∀ a' N' c' w',IL w' (.slice a' N' c') xs->Below w.heap.size w w'->K (a.put o.dst (.slice a' N' c')) w') :
  if Region.wanted o (yielded ops a.tmps)=true then Oper.wp Tryz.prog o a w K Q else E:=by
 have hw:Region.wanted o (yielded ops a.tmps)=true:=by simp [Region.wanted,hg]
 rw [if_pos hw]
 have hf:a.eval (Operand.func 66)=.func (.func 66) #[] #[]:=rfl
 have hcf:=enter_copyI #[.slice (some ⟨b,off,none⟩) N cap] w
 have e:(execOp a.eval o).run Tryz.prog w=.ok (.enter 66 #[.slice (some ⟨b,off,none⟩) N cap]) w:=by
  simp [execOp,hop,resolve,invoke,hx,hf,Deferred.ofValue,hcf]
 show o.upon Tryz.prog a K Q ((execOp a.eval o).run Tryz.prog w)
 rw [e,Oper.upon_enter]
 subst hN
 refine (copyint_any b off cap xs w hl hr).mono ?_
 rintro e w' ⟨a',N',c',rfl,ho,hb⟩
 exact hK a' N' c' w' ho hb
theorem infoII2:SliceInfo 55:=sliceInfo_of (by kernel_rfl)
set_option maxRecDepth 100000 in
set_option maxHeartbeats 2000000 in
theorem hints (q:Nat)(V:Nat->Value)(ty:Nat->TypeId)(E:Nat->List HE)(ao:Option Addr)(N cap:Nat)(xs:List Int)(w:World)(hN:N=xs.length)(hl:xs.length<=17592186044000)(hr:InRow w ao xs)(hG:HInv w q V ty E)(hes:(E 1).length<=5864062014700)(t4:ty 2=55)(t5:ty 3=55)(ht:3≠38/\∀ i,3≠ty i) :
  Calls Tryz.prog 26 #[.pointer (some ⟨q,0,none⟩),.slice ao N cap] w fun e w'=>e=.returned (.slice (some ⟨w.heap.size,0,none⟩) xs.length (xs.length+3))/\∃ V' x,HInv w' q V' ty (updE E 1 x)/\x.g=w.heap.size/\x.t=3/\x.sz=1/\(∃ zs:List Int,x.cs=zs.map (.int .i64 ·)/\zs.take xs.length=xs)/\HF w w' q V V':=by
 subst hN
 obtain ⟨i0,hi,hz0,hz1,hz2⟩:=infoInt_parts
 have HB2:Hid (i0.bytes*(xs.length+3)<=281474976710656):=by show _<=_;rw [hz2];omega
 have HB3:Hid (xs.length+3<=maxLen):=by show _<=_;unfold maxLen;omega
 go_enter Tryz.func26,Tryz.ntmps26
 go_wp2_with (at_make;refine wpList_make_full _ rfl _ _ 55 rfl 0 3 i0 (.int .i64 0) 1 Tryz.underlying55 hi hz0 hz1 _ _ _ _ (xs.length+3) rfl rfl (by omega) (by omega) HB2.out HB3.out (Nat.zero_le _) ?_;intro w0 hown0 hgrow0)
 have hb0:Below w.heap.size w w0:=(Below.refl _ _).grown hgrow0 (Nat.le_refl _) (fun k h=>by cases h)
 obtain ⟨zs0,hzl0,hF0⟩:=fullI_of_made hown0 rfl
 clear hown0 hgrow0
 go_loopw [6] (fun i wr=>∃ (j:Nat) (zs:List Int),i=.int .i64 j/\j<=xs.length+3/\zs.length=xs.length+3/\FullI wr w.heap.size zs/\Below w.heap.size w wr) (fun i _=>xs.length+3 - (intOf i).toNat)
 case atStart=>exact ⟨0,zs0,rfl,by omega,hzl0,hF0,hb0⟩
 case round =>
  obtain ⟨j,zs,rfl,hj,hzl,hF,hb⟩:=hrel
  clear hb0 hF0 hzl0
  by_cases hlt:j < xs.length+3
  ·have ck:=hF.cell j (by omega)
   have fk:=hF.free j
   go_wp2_with (go_at_call 65;refine (markint_any j wr (by omega)).mono ?_;rintro e w4 ⟨m,rfl,hb4⟩;have hF4:=hF.later (hb4.block _ (lt_of_block hF.hg));have ck4:=hF4.cell j (by omega);have fk4:=hF4.free j)
   go_roundw
   case rel=>exact ⟨j+1,zs.set j m,by go_num,by omega,by simp;omega,hF4.set j m,(hb.trans (hb4.mono hb.size)).setCell (Nat.le_refl _) _⟩
   case measure=>simp [intOf];omega
  ·go_wp2
   clear hlt hj
   go_loopw [7] (fun i wr=>∃ (j:Nat) (zs:List Int),i=.int .i64 j/\j<=xs.length/\zs.length=xs.length+3/\zs.take j=xs.take j/\FullI wr w.heap.size zs/\Below w.heap.size w wr) (fun i _=>xs.length - (intOf i).toNat)
   case atStart=>exact ⟨0,zs,rfl,by omega,hzl,rfl,hF,hb⟩
   case round =>
    clear hF hzl hb
    obtain ⟨j,zs,rfl,hj,hzl,hzt,hF,hb⟩:=hrel
    by_cases hlt:j < xs.length
    ·obtain ⟨b,off,rfl,hbl,hc⟩:=hr (fun e=>by subst e;simp at hlt)
     have hcj:=(hb.cell (p:=⟨b,off+j,none⟩) hbl).trans (hc j hlt)
     have ck:=hF.cell j (by omega)
     have fk:=hF.free j
     have FS:Hid _:=hF.set j
     have HT:Hid ((zs.set j (xs.getD j 0)).take (j+1)=xs.take (j+1)):=take_set_stepI hzt hlt (by omega)
     clear hc hzt
     generalize hx:xs.getD j 0=x at *
     clear hx
     go_wp2
     go_roundw
     case rel=>exact ⟨j+1,zs.set j x,by go_num,by omega,by simp;omega,HT.out,FS.out x,hb.setCell (Nat.le_refl _) _⟩
     case measure=>simp [intOf];omega
    ·obtain rfl:j=xs.length:=by omega
     rw [List.take_length] at hzt
     have HZT:Hid (zs.take xs.length=xs):=hzt
     clear hzt hj
     have hG2:=hG.later hb
     have hA:=hG2.later (bAl wr (.cells #[Value.slice (some ⟨w.heap.size,0,none⟩) (xs.length+3) (xs.length+3)] 55))
     have HLF:Hid (((E 1).map HE.fst).length<=5864062014720):=by show _<=_;simp;omega
     have HLN:Hid (((E 1).map HE.snd).length<=5864062014720):=by show _<=_;simp;omega
     have R4:Hid (HL 55 (wr.alloc (.cells #[Value.slice (some ⟨w.heap.size,0,none⟩) (xs.length+3) (xs.length+3)] 55)) (V 2) ((E 1).map HE.fst)):=by have:=hA.row 2;rw [t4] at this;exact this
     have c0:=hG2.cell (i:=2) (by omega)
     have AF0:Hid (∀ w5 L5,Grew (wr.alloc (.cells #[Value.slice (some ⟨w.heap.size,0,none⟩) (xs.length+3) (xs.length+3)] 55)) w5 (V 2) L5->w5.cell? ⟨q,2,none⟩=some (V 2)/\w5.frozen? ⟨q,2,none⟩=false):=fun w5 L5 hg=>by
      have b:=(hg.grown.block q (lt_of_block hA.hq) (hA.ne 2)).trans hA.hq
      exact ⟨by simp only [World.cell?,b];exact hArr_get V (by omega),by simp [World.frozen?,b]⟩
     have HA:Hid _:=hA
     clear hA hG2
     generalize hV4:V 2=L at *
     go_wp2_with (at_builtin;refine wpList_hl_append Tryz.underlying28 infoII2 rfl _ _ rfl L ((E 1).map HE.fst) rfl R4.out wr.heap.size 1 (.slice (some ⟨w.heap.size,0,none⟩) (xs.length+3) (xs.length+3)) rfl (cell_newI wr _ _) rfl HLF.out ?_;intro L5 w5 hl5 hg5;obtain ⟨a5,N5,c5,rfl⟩:=hl5.slice3;obtain ⟨d1,d2⟩:=AF0.out w5 _ hg5)
     obtain ⟨hG6,hf6⟩:=HA.out.store (i:=2) (v':=.slice a5 N5 c5) (s':=(E 1).map HE.fst++[.slice (some ⟨w.heap.size,0,none⟩) (xs.length+3) (xs.length+3)]) (by rw [hV4];exact hg5) (by rw [t4];exact hl5)
     have hF6:=(hF.later ((bAl wr (.cells #[Value.slice (some ⟨w.heap.size,0,none⟩) (xs.length+3) (xs.length+3)] 55)).block _ (lt_of_block hF.hg)))
     have hF7:=hF6.later (HA.out.other hf6 hF6.hg ht)
     have HF6:Hid _:=hf6
     clear hF6 d1 d2 hl5 hg5 c0 AF0 R4 hf6
     generalize (Value.slice a5 N5 c5)=L6 at *
     generalize w5.setCell ⟨q,2,none⟩ L6=w6 at *
     have hGd:=hG6.later (Below.refl _ _).drew
     have e1:w6.cell? ⟨q,3,none⟩=some (V 3):=hG6.cell (i:=3) (by omega)
     have hR6:=hF7.row
     have HZ:Hid (zs.length<=17592186044416):=by show _<=_;omega
     have AF:Hid (∀ w1 o,Below w6.drew.heap.size w6.drew w1->w1.cell? ⟨q,3,none⟩=some (V 3)/\(w1.alloc o).cell? ⟨q,3,none⟩=some (V 3)/\HL 55 (w1.alloc o) (V 3) ((E 1).map HE.snd)):=fun w1 o hb=>by
      have r1:=hGd.later hb
      have r2:=r1.later (bAl w1 o)
      refine ⟨r1.cell (i:=3) (by omega),r2.cell (i:=3) (by omega),?_⟩
      have:=r2.row 3
      rw [t5] at this
      exact this
     have AF2:Hid (∀ w1 o w2 W2,Below w6.drew.heap.size w6.drew w1->Grew (w1.alloc o) w2 (V 3) W2->w2.cell? ⟨q,3,none⟩=some (V 3)/\w2.frozen? ⟨q,3,none⟩=false):=fun w1 o w2 W2 hb hg=>by
      have h1:=(hGd.later hb).later (bAl _ o)
      have b:=(hg.grown.block q (lt_of_block h1.hq) (h1.ne 3)).trans h1.hq
      exact ⟨by simp only [World.cell?,b];exact hArr_get _ (by omega),by simp [World.frozen?,b]⟩
     have HGd:Hid _:=hGd
     have HG6:Hid _:=hG6
     clear hGd hG6
     generalize hV5:V 3=W at *
     go_region_law (first
      | (refine step_copyI (by rfl) _ (by rfl) w.heap.size 0 (xs.length+3) (xs.length+3) zs (by rfl) hzl.symm HZ.out hR6 ?_;intro a8 N8 c8 w8 ho8 hb8;obtain ⟨f0,f1,f2⟩:=AF.out w8 (.cells #[.slice a8 N8 c8] 55) hb8)
      | (refine step_hl_append Tryz.underlying28 infoII2 (by rfl) _ _ (by rfl) W ((E 1).map HE.snd) (by rfl) f2 w8.heap.size 1 (.slice a8 N8 c8) (by rfl) (cell_newI w8 _ _) (by rfl) HLN.out ?_;intro W9 w9 hl9 hg9;obtain ⟨a9,N9,c9,rfl⟩:=hl9.slice3;obtain ⟨m0,m1⟩:=AF2.out w8 _ w9 _ hb8 hg9))
     all_goals go_wp2
     all_goals go_ret
     all_goals
      have hN8:=il_cnt ho8
      subst hN8
      have hI8:=(HGd.out.later hb8).later (bAl w8 (.cells #[.slice a8 zs.length c8] 55))
      obtain ⟨hG9,hf9⟩:=hI8.store (i:=3) (v':=.slice a9 N9 c9) (s':=(E 1).map HE.snd++[.slice a8 zs.length c8]) (by show Grew _ _ (V 3) _;rw [hV5];exact hg9) (by rw [t5];exact hl9)
      have hfa:HF w6 (w8.alloc (.cells #[.slice a8 zs.length c8] 55)) q (updV V 2 L6) (updV V 2 L6):=HF.ofBelow ((Below.refl _ _).drew.trans (hb8.trans ((bAl w8 _).mono hb8.size)))
      have hfx:=hfa.trans hf9
      have hF9:=hF7.later (HG6.out.other hfx hF7.hg ht)
      have ho9:=row_kept (ho8.later (bAl _ _)) (w':=w9.setCell ⟨q,3,none⟩ (.slice a9 N9 c9)) fun k C _ hk=>hI8.other hf9 hk ht
      have hend:=(HF.ofBelow hb).trans ((HF.ofBelow (bAl wr _)).trans (HF6.out.trans hfx))
      refine ⟨rfl,_,⟨3,1,w.heap.size,zs.length,a8,c8,zs.map (.int .i64 ·)⟩,HI.add (κ:=1) (by rw [<- hzl] at hG9;exact hG9) ⟨by simp,by show zs.length<=_;omega,hF9.hg,by show World.ownsRow _ _ _ _ _ _ _;simpa using ho9⟩ ht,rfl,rfl,rfl,⟨zs,rfl,HZT.out⟩,hend⟩
end Go.Proofs.YteciabdjkaackaaGreat
