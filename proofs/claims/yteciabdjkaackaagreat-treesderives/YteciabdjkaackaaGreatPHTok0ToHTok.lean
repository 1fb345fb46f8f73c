import Derived.Test.YteciabdjkaackaaGreatPSGiven0ToHInt
import Derived.Test.YteciabdjkaackaaGreatPTCnToTS3
namespace Go.Proofs.YteciabdjkaackaaGreat
set_option linter.unusedVariables false
open Go.RowKit Go.Maps
def tkcP (l:List (Int×ByteArray)):List Value:=l.flatMap fun q=>[.int .i64 q.1,.string q.2]
theorem tkcP_len (l:List (Int×ByteArray)):(tkcP l).length=l.length*2:=by
 induction l with
 | nil=>rfl
 | cons q r ih=>simp [tkcP] at ih ⊢;omega
theorem tkcP_get:∀ (l:List (Int×ByteArray)) (i:Nat),i < l.length->(tkcP l)[i*2]?=some (.int .i64 (l.getD i (0,ByteArray.empty)).1)/\(tkcP l)[i*2+1]?=some (.string (l.getD i (0,ByteArray.empty)).2)
 | [],i,h=>by simp at h
 | q :: r,0,_=>by simp [tkcP]
 | q :: r,i+1,h=>by
  have:=tkcP_get r i (by simpa using h)
  have e:tkcP (q :: r)=.int .i64 q.1 :: .string q.2 :: tkcP r:=rfl
  rw [e,show (i+1)*2=i*2+1+1 by omega]
  simpa using this
def TYo (w:World)(v:Value)(l:List (Int×ByteArray)):Prop:=w.ownsRow 0 23 2 v l.length (tkcP l)
theorem infoTokP:(Tryz.prog.info? 23).map (fun i=>(i.zero,i.size,i.bytes))=some (some (.agg #[.int .i64 0,.string ByteArray.empty]),2,24):=by kernel_rfl
theorem infoTokP_parts:∃ i,Tryz.prog.info? 23=some i/\i.zero=some (.agg #[.int .i64 0,.string ByteArray.empty])/\i.size=2/\i.bytes=24:=by
 have h:=infoTokP
 cases e:Tryz.prog.info? 23 with
 | none=>rw [e] at h;cases h
 | some i=>rw [e] at h;simp at h;exact ⟨i,rfl,h⟩
theorem tyo_len {w:World}{v:Value}{l:List (Int×ByteArray)}(h:TYo w v l):∃ a c,v=.slice a l.length c:=by
 rcases h.2 with ⟨rfl,h0⟩ | ⟨g,cap,cur,rfl,_⟩
 ·exact ⟨none,0,by rw [h0]⟩
 ·exact ⟨_,_,rfl⟩
theorem TYo.lt {w:World}{v:Value}{l:List (Int×ByteArray)}(h:TYo w v l):∀ k,v.ownBlock=some k->k < w.heap.size:=fun k hk=>(World.ownsRow.lt h k hk).2
theorem TYo.kept {w w':World}{v:Value}{l:List (Int×ByteArray)}(h:TYo w v l)(hb:∀ k,v.ownBlock=some k->w'.heap[k]?=w.heap[k]?):TYo w' v l:=by
 refine ⟨h.1,?_⟩
 rcases h.2 with q | ⟨g,cap,cur,rfl,h1,h2,h3⟩
 ·exact .inl q
 ·exact .inr ⟨g,cap,cur,rfl,h1,(hb g rfl).trans h2,h3⟩
theorem TYo.later {w w':World}{v:Value}{l:List (Int×ByteArray)}(h:TYo w v l)(hb:Below w.heap.size w w'):TYo w' v l:=h.kept fun k hk=>hb.block k (h.lt k hk)
theorem TYo.row {w:World}{a:Option Addr}{n c:Nat}{l:List (Int×ByteArray)}(h:TYo w (.slice a n c) l):TkRow w a l:=by
 intro hne
 rcases h.2 with ⟨e,h0⟩ | ⟨g,cap,cur,e,h1,h2,h3⟩
 ·exact absurd (List.eq_nil_of_length_eq_zero h0) hne
 ·have hc:=fun j x hx=>World.ownsRow.cells h (g:=g) (by rw [e];rfl) j x hx
  cases e
  refine ⟨g,0,rfl,lt_of_block h2,fun i hi=>?_⟩
  obtain ⟨q1,q2⟩:=tkcP_get l i hi
  have r1:=hc _ _ q1
  have r2:=hc _ _ q2
  rw [aNn] at r1 r2
  exact ⟨r1,r2⟩
set_option maxRecDepth 100000 in
set_option maxHeartbeats 1000000 in
theorem marktok_any (k:Nat)(w:World)(hk:k<=140737488355400) :
  Calls Tryz.prog 67 #[.int .i64 987,.int .i64 k] w fun e w'=>∃ m:Int,e=.returned (.agg #[.int .i64 m,.string ByteArray.empty])/\Below w.heap.size w w':=by
 go_enter Tryz.func67,Tryz.ntmps67
 go_wp2
 go_returns
 exact ⟨_,rfl,by go_grown⟩
theorem TkRow.cells {w:World}{b off:Nat}{zs:List (Int×ByteArray)}(hr:TkRow w (some ⟨b,off,none⟩) zs)(j:Nat)(u:Value)(hu:(tkcP zs)[j]?=some u):w.cell? ⟨b,off+j,none⟩=some u:=by
 have hj:j < zs.length*2:=by have:=(List.getElem?_eq_some_iff.1 hu).1;rwa [tkcP_len] at this
 obtain ⟨b',off',e,_,hc⟩:=hr (by intro h;subst h;simp at hj)
 simp at e
 obtain ⟨rfl,rfl⟩:=e
 obtain ⟨c1,c2⟩:=hc (j / 2) (by omega)
 obtain ⟨g1,g2⟩:=tkcP_get zs (j / 2) (by omega)
 by_cases h:j % 2=0
 ·have e:j / 2*2=j:=by omega
  rw [e] at c1 g1
  rw [c1,<- hu,g1]
 ·have e:j / 2*2+1=j:=by omega
  rw [e] at g2
  rw [show off+j / 2*2+1=off+j by omega] at c2
  rw [c2,<- hu,g2]
theorem wpList_tyo_copy {ops:Array Oper}{rest:List Oper}{o:Oper}{a:Act}{Q:Exit->Act->World->Prop}{w:World}(hgd:o.guard=none)(s x:Operand)
  (ho:o.op=.call { callee:=.builtin .append,args:=#[s,x],argTypes:=#[52,52] })
  (hs:a.eval s=.slice none 0 0) (b off c:Nat) (zs:List (Int×ByteArray)) (hx:a.eval x=.slice (some ⟨b,off,none⟩) zs.length c) (hr:TkRow w (some ⟨b,off,none⟩) zs) (hlen:zs.length<=5864062014720)
  (hK:∀ a' n' c' w',TYo w' (.slice a' n' c') zs->Grew w w' (.slice none 0 0) (.slice a' n' c')->wpList Tryz.prog ops Q rest (a.put o.dst (.slice a' n' c')) w'):wpList Tryz.prog ops Q (o :: rest) a w:=by
 obtain ⟨i0,hi,hz0,hz1,hz2⟩:=infoTokP_parts
 refine wpList_append_own_at w hgd s x 52 ho 0 23 i0 (.agg #[.int .i64 0,.string ByteArray.empty]) 2 24 Tryz.underlying52 hi hz0 hz1 hz2 rfl (by decide) (.slice none 0 0) 0 [] hs (World.ownsRow_nil w 0 23 2) ⟨b,off,none⟩ zs.length c (tkcP zs) hx (tkcP_len zs) ?_ ?_ (by unfold maxLen;omega) (by omega) (Nat.zero_le _) ?_
 ·intro j u hu
  rw [aNn]
  exact hr.cells j u hu
 ·intro u hu
  simp only [tkcP,List.mem_flatMap] at hu
  obtain ⟨y,_,hu⟩:=hu
  simp at hu
  rcases hu with rfl | rfl<;>rfl
 ·intro v' w' h2 h3 _ h5
  have h6:TYo w' v' zs:=by unfold TYo;simpa using h2
  obtain ⟨a',c',rfl⟩:=tyo_len h6
  exact hK _ _ _ w' h6 ⟨h3,h5.imp id fun e=>⟨_,e,Nat.le_refl _⟩⟩
set_option maxRecDepth 100000 in
set_option maxHeartbeats 1000000 in
theorem copytok_any (b off cap:Nat)(zs:List (Int×ByteArray))(w:World)(hl:zs.length<=5864062014720)(hr:TkRow w (some ⟨b,off,none⟩) zs) :
  Calls Tryz.prog 68 #[.slice (some ⟨b,off,none⟩) zs.length cap] w fun e w'=>∃ a N c,e=.returned (.slice a N c)/\TYo w' (.slice a N c) zs/\(∀ k,(Value.slice a N c).ownBlock=some k->w.heap.size<=k)/\Below w.heap.size w w':=by
 go_enter Tryz.func68,Tryz.ntmps68
 go_wp2_with (at_builtin;refine wpList_tyo_copy rfl _ _ rfl rfl b off cap zs rfl hr hl ?_;intro a2 n2 c2 w2 ho2 hg2)
 go_ret
 refine ⟨a2,n2,c2,rfl,ho2,fun k hk=>?_,⟨hg2.grown.os,hg2.grown.tape,hg2.grown.output,hg2.grown.size,fun k hk=>hg2.grown.block k hk (by simp [Value.ownBlock])⟩⟩
 rcases hg2.moved with e | ⟨j,e,hj⟩
 ·rw [e] at hk;simp [Value.ownBlock] at hk
 ·rw [e] at hk;simp at hk;omega
structure FullT (w:World)(g:Nat)(zs:List (Int×ByteArray)):Prop where
 hg:w.heap[g]?=some (.cells (tkcP zs).toArray 23 (0,0))
theorem FullT.cell {w:World}{g:Nat}{zs:List (Int×ByteArray)}(h:FullT w g zs)(j:Nat)(hj:j < zs.length):w.cell? ⟨g,j*2,none⟩=some (.int .i64 (zs.getD j (0,ByteArray.empty)).1)/\w.cell? ⟨g,j*2+1,none⟩=some (.string (zs.getD j (0,ByteArray.empty)).2):=by
 obtain ⟨g1,g2⟩:=tkcP_get zs j hj
 simp only [World.cell?,h.hg]
 exact ⟨by simpa using g1,by simpa using g2⟩
theorem FullT.free {w:World}{g:Nat}{zs:List (Int×ByteArray)}(h:FullT w g zs)(j:Nat):w.frozen? ⟨g,j,none⟩=false:=by
 simp [World.frozen?,h.hg]
theorem tkcP_set:∀ (zs:List (Int×ByteArray)) (j:Nat) (k:Int) (n:ByteArray),((tkcP zs).set (j*2) (.int .i64 k)).set (j*2+1) (.string n)=tkcP (zs.set j (k,n))
 | [],j,k,n=>by simp [tkcP]
 | q :: r,0,k,n=>by simp [tkcP]
 | q :: r,j+1,k,n=>by
  have e:∀ q r,tkcP (q :: r)=.int .i64 q.1 :: .string q.2 :: tkcP r:=fun _ _=>rfl
  rw [List.set_cons_succ,e,e,<- tkcP_set r j k n,show (j+1)*2=j*2+1+1 by omega]
  rfl
theorem FullT.set {w:World}{g:Nat}{zs:List (Int×ByteArray)}(h:FullT w g zs)(j:Nat)(k:Int)(n:ByteArray):FullT ((w.setCell ⟨g,j*2,none⟩ (.int .i64 k)).setCell ⟨g,j*2+1,none⟩ (.string n)) g (zs.set j (k,n)):=by
 refine ⟨?_⟩
 rw [hSt (hSt h.hg _ _)]
 congr 2
 rw [<- tkcP_set]
 simp
theorem FullT.later {w w':World}{g:Nat}{zs:List (Int×ByteArray)}(h:FullT w g zs)(hb:w'.heap[g]?=w.heap[g]?):FullT w' g zs:=⟨hb.trans h.hg⟩
theorem FullT.row {w:World}{g:Nat}{zs:List (Int×ByteArray)}(h:FullT w g zs):TkRow w (some ⟨g,0,none⟩) zs :=
 fun _=>⟨g,0,rfl,lt_of_block h.hg,fun i hi=>by rw [Nat.zero_add];exact h.cell i hi⟩
theorem FullT.rowTake {w:World}{g:Nat}{zs xs:List (Int×ByteArray)}(h:FullT w g zs)(hx:zs.take xs.length=xs):TkRow w (some ⟨g,0,none⟩) xs:=by
 refine fun _=>⟨g,0,rfl,lt_of_block h.hg,fun i hi=>?_⟩
 have hz:i < zs.length:=by have:=congrArg List.length hx;simp at this;omega
 have:xs.getD i (0,ByteArray.empty)=zs.getD i (0,ByteArray.empty):=by rw [<- hx];simp [List.getD,hi]
 rw [Nat.zero_add,this]
 exact h.cell i hz
theorem fullT_of_made {w:World}{g n:Nat}{vs:List Value}(h:w.ownsRow 0 23 2 (.slice (some ⟨g,0,none⟩) n n) n vs)(hv:vs=(madeCells (Value.agg #[.int .i64 0,.string ByteArray.empty]).cells (n*2)).toList):∃ zs:List (Int×ByteArray),zs.length=n/\FullT w g zs:=by
 rcases h.2 with ⟨e,_⟩ | ⟨g',cap,cur,e,_,hg,_,_,hs,ht⟩
 ·cases e
 ·cases e
  refine ⟨List.replicate n (0,ByteArray.empty),by simp,⟨?_⟩⟩
  rw [hg]
  have hc:cur.toList=vs:=by rw [<- ht,List.take_of_length_le (by simp;omega)]
  congr 2
  apply Array.toList_inj.1
  rw [hc,hv]
  apply List.ext_getElem
  ·simp [madeCells,tkcP_len]
  ·intro k h1 h2
   have hk:k < n*2:=by have:=h2;rw [List.toList_toArray,tkcP_len] at this;simpa using this
   obtain ⟨g1,g2⟩:=tkcP_get (List.replicate n (0,ByteArray.empty)) (k / 2) (by simp;omega)
   have e0:(List.replicate n ((0:Int),ByteArray.empty)).getD (k / 2) (0,ByteArray.empty)=(0,ByteArray.empty):=by simp [List.getD,List.getElem?_replicate];split<;>rfl
   rw [e0] at g1 g2
   have hin:(tkcP (List.replicate n ((0:Int),ByteArray.empty))).toArray.toList[k]?=(tkcP (List.replicate n (0,ByteArray.empty)))[k]?:=by simp
   have hl2:=List.getElem?_eq_getElem h2
   rw [hin] at hl2
   rcases Nat.mod_two_eq_zero_or_one k with e | e
   ·rw [show k / 2*2=k by omega] at g1
    rw [g1] at hl2
    rw [<- Option.some.inj hl2]
    simp [madeCells,Value.cells,e]
   ·rw [show k / 2*2+1=k by omega] at g2
    rw [g2] at hl2
    rw [<- Option.some.inj hl2]
    simp [madeCells,Value.cells,e]
open Go.RowKit
theorem take_set_stepT {zs xs:List (Int×ByteArray)}{j:Nat}(h:zs.take j=xs.take j)(hx:j < xs.length)(hz:j < zs.length):(zs.set j (xs.getD j (0,ByteArray.empty))).take (j+1)=xs.take (j+1):=by
 rw [List.take_succ_eq_append_getElem hx,<- h,List.take_succ_eq_append_getElem (by simpa using hz),List.take_set_of_le (Nat.le_refl _)]
 simp [List.getD,hx]
theorem tyo_cnt {w:World}{a:Option Addr}{n c:Nat}{l:List (Int×ByteArray)}(h:TYo w (.slice a n c) l):n=l.length:=by
 obtain ⟨a',c',e⟩:=tyo_len h
 simp at e
 exact e.2.1
theorem enter_copyT (args:Array Value)(w:World):(callFunc 68 args).run Tryz.prog w=.ok (.enter 68 args) w:=by kernel_rfl
theorem step_copyT {ops:Array Oper}{o:Oper}{a:Act}{w:World}{K:Act->World->Prop}{Q:Exit->Act->World->Prop}{E:Prop}
  (hg:o.guard=none) (x:Operand) (hop:o.op=Op.call { callee:=Callee.value (Operand.func 68),args:=#[x],argTypes:=#[52] })
  (b off N cap:Nat) (xs:List (Int×ByteArray)) (hx:a.eval x=.slice (some ⟨b,off,none⟩) N cap) (hN:N=xs.length) (hl:xs.length<=5864062014720) (hr:TkRow w (some ⟨b,off,none⟩) xs)
  (hK:∀ a' N' c' w',TYo w' (.slice a' N' c') xs->Below w.heap.size w w'->K (a.put o.dst (.slice a' N' c')) w') :
  if Region.wanted o (yielded ops a.tmps)=true then Oper.wp Tryz.prog o a w K Q else E:=by
 have hw:Region.wanted o (yielded ops a.tmps)=true:=by simp [Region.wanted,hg]
 rw [if_pos hw]
 have hf:a.eval (Operand.func 68)=.func (.func 68) #[] #[]:=rfl
 have hcf:=enter_copyT #[.slice (some ⟨b,off,none⟩) N cap] w
 have e:(execOp a.eval o).run Tryz.prog w=.ok (.enter 68 #[.slice (some ⟨b,off,none⟩) N cap]) w:=by
  simp [execOp,hop,resolve,invoke,hx,hf,Deferred.ofValue,hcf]
 show o.upon Tryz.prog a K Q ((execOp a.eval o).run Tryz.prog w)
 rw [e,Oper.upon_enter]
 subst hN
 refine (copytok_any b off cap xs w hl hr).mono ?_
 rintro e w' ⟨a',N',c',rfl,ho,_,hb⟩
 exact hK a' N' c' w' ho hb
theorem infoTT2:SliceInfo 52:=sliceInfo_of (by kernel_rfl)
set_option maxRecDepth 100000 in
set_option maxHeartbeats 2000000 in
theorem htokens (q:Nat)(V:Nat->Value)(ty:Nat->TypeId)(E:Nat->List HE)(ao:Option Addr)(N cap:Nat)(xs:List (Int×ByteArray))(w:World)(hN:N=xs.length)(hl:xs.length<=5864062014000)(hr:TkRow w ao xs)(hG:HInv w q V ty E)(hes:(E 9).length<=4900000000000)(t4:ty 18=52)(t5:ty 19=52)(ht:23≠38/\∀ i,23≠ty i) :
  Calls Tryz.prog 27 #[.pointer (some ⟨q,0,none⟩),.slice ao N cap] w fun e w'=>e=.returned (.slice (some ⟨w.heap.size,0,none⟩) xs.length (xs.length+3))/\∃ V' x,HInv w' q V' ty (updE E 9 x)/\x.g=w.heap.size/\x.t=23/\x.sz=2/\(∃ zs:List (Int×ByteArray),x.cs=tkcP zs/\zs.take xs.length=xs)/\HF w w' q V V':=by
 subst hN
 obtain ⟨i0,hi,hz0,hz1,hz2⟩:=infoTokP_parts
 have HB2:Hid (i0.bytes*(xs.length+3)<=281474976710656):=by show _<=_;rw [hz2];omega
 have HB3:Hid (xs.length+3<=maxLen):=by show _<=_;unfold maxLen;omega
 go_enter Tryz.func27,Tryz.ntmps27
 go_wp2_with (at_make;refine wpList_make_full _ rfl _ _ 52 rfl 0 23 i0 (.agg #[.int .i64 0,.string ⟨#[]⟩]) 2 Tryz.underlying52 hi hz0 hz1 _ _ _ _ (xs.length+3) rfl rfl (by omega) (by omega) HB2.out HB3.out (Nat.zero_le _) ?_;intro w0 hown0 hgrow0)
 have hb0:Below w.heap.size w w0:=(Below.refl _ _).grown hgrow0 (Nat.le_refl _) (fun k h=>by cases h)
 obtain ⟨zs0,hzl0,hF0⟩:=fullT_of_made hown0 rfl
 clear hown0 hgrow0
 go_loopw [6] (fun i wr=>∃ (j:Nat) (zs:List (Int×ByteArray)),i=.int .i64 j/\j<=xs.length+3/\zs.length=xs.length+3/\FullT wr w.heap.size zs/\Below w.heap.size w wr) (fun i _=>xs.length+3 - (intOf i).toNat)
 case atStart=>exact ⟨0,zs0,rfl,by omega,hzl0,hF0,hb0⟩
 case round =>
  obtain ⟨j,zs,rfl,hj,hzl,hF,hb⟩:=hrel
  clear hb0 hF0 hzl0
  by_cases hlt:j < xs.length+3
  ·obtain ⟨ck,ck'⟩:=hF.cell j (by omega)
   have fk:=hF.free (j*2)
   have fk':=hF.free (j*2+1)
   go_wp2_with (go_at_call 67;refine (marktok_any j wr (by omega)).mono ?_;rintro e w4 ⟨m,rfl,hb4⟩;have hF4:=hF.later (hb4.block _ (lt_of_block hF.hg));obtain ⟨ck4,ck5⟩:=hF4.cell j (by omega);have fk4:=hF4.free (j*2);have fk5:=hF4.free (j*2+1))
   go_roundw
   case rel=>exact ⟨j+1,zs.set j (m,ByteArray.empty),by go_num,by omega,by simp;omega,hF4.set j m ByteArray.empty,((hb.trans (hb4.mono hb.size)).setCell (Nat.le_refl _) _).setCell (Nat.le_refl _) _⟩
   case measure=>simp [intOf];omega
  ·go_wp2
   clear hlt hj
   go_loopw [7] (fun i wr=>∃ (j:Nat) (zs:List (Int×ByteArray)),i=.int .i64 j/\j<=xs.length/\zs.length=xs.length+3/\zs.take j=xs.take j/\FullT wr w.heap.size zs/\Below w.heap.size w wr) (fun i _=>xs.length - (intOf i).toNat)
   case atStart=>exact ⟨0,zs,rfl,by omega,hzl,rfl,hF,hb⟩
   case round =>
    clear hF hzl hb
    obtain ⟨j,zs,rfl,hj,hzl,hzt,hF,hb⟩:=hrel
    by_cases hlt:j < xs.length
    ·obtain ⟨b,off,rfl,hbl,hc⟩:=hr (fun e=>by subst e;simp at hlt)
     have hcj:=(hb.cell (p:=⟨b,off+j*2,none⟩) hbl).trans (hc j hlt).1
     have hcj':=(hb.cell (p:=⟨b,off+j*2+1,none⟩) hbl).trans (hc j hlt).2
     obtain ⟨ck,ck'⟩:=hF.cell j (by omega)
     have fk:=hF.free (j*2)
     have fk':=hF.free (j*2+1)
     have FS:Hid _:=hF.set j
     have HT:Hid ((zs.set j (xs.getD j (0,ByteArray.empty))).take (j+1)=xs.take (j+1)):=take_set_stepT hzt hlt (by omega)
     clear hc hzt
     generalize hx:xs.getD j (0,ByteArray.empty)=x at *
     obtain ⟨x1,x2⟩:=x
     simp only at hcj hcj'
     clear hx
     go_wp2
     go_roundw
     case rel=>exact ⟨j+1,zs.set j (x1,x2),by go_num,by omega,by simp;omega,HT.out,FS.out x1 x2,(hb.setCell (Nat.le_refl _) _).setCell (Nat.le_refl _) _⟩
     case measure=>simp [intOf];omega
    ·obtain rfl:j=xs.length:=by omega
     rw [List.take_length] at hzt
     have HZT:Hid (zs.take xs.length=xs):=hzt
     clear hzt hj
     have hG2:=hG.later hb
     have hA:=hG2.later (bAl wr (.cells #[Value.slice (some ⟨w.heap.size,0,none⟩) (xs.length+3) (xs.length+3)] 52))
     have HLF:Hid (((E 9).map HE.fst).length<=5864062014720):=by show _<=_;simp;omega
     have HLN:Hid (((E 9).map HE.snd).length<=5864062014720):=by show _<=_;simp;omega
     have R4:Hid (HL 52 (wr.alloc (.cells #[Value.slice (some ⟨w.heap.size,0,none⟩) (xs.length+3) (xs.length+3)] 52)) (V 18) ((E 9).map HE.fst)):=by have:=hA.row 18;rw [t4] at this;exact this
     have c0:=hG2.cell (i:=18) (by omega)
     have AF0:Hid (∀ w5 L5,Grew (wr.alloc (.cells #[Value.slice (some ⟨w.heap.size,0,none⟩) (xs.length+3) (xs.length+3)] 52)) w5 (V 18) L5->w5.cell? ⟨q,18,none⟩=some (V 18)/\w5.frozen? ⟨q,18,none⟩=false):=fun w5 L5 hg=>by
      have b:=(hg.grown.block q (lt_of_block hA.hq) (hA.ne 18)).trans hA.hq
      exact ⟨by simp only [World.cell?,b];exact hArr_get V (by omega),by simp [World.frozen?,b]⟩
     have HA:Hid _:=hA
     clear hA hG2
     generalize hV4:V 18=L at *
     go_wp2_with (at_builtin;refine wpList_hl_append Tryz.underlying36 infoTT2 rfl _ _ rfl L ((E 9).map HE.fst) rfl R4.out wr.heap.size 1 (.slice (some ⟨w.heap.size,0,none⟩) (xs.length+3) (xs.length+3)) rfl (cell_new wr _ _) rfl HLF.out ?_;intro L5 w5 hl5 hg5;obtain ⟨a5,N5,c5,rfl⟩:=hl5.slice3;obtain ⟨d1,d2⟩:=AF0.out w5 _ hg5)
     obtain ⟨hG6,hf6⟩:=HA.out.store (i:=18) (v':=.slice a5 N5 c5) (s':=(E 9).map HE.fst++[.slice (some ⟨w.heap.size,0,none⟩) (xs.length+3) (xs.length+3)]) (by rw [hV4];exact hg5) (by rw [t4];exact hl5)
     have hF6:=(hF.later ((bAl wr (.cells #[Value.slice (some ⟨w.heap.size,0,none⟩) (xs.length+3) (xs.length+3)] 52)).block _ (lt_of_block hF.hg)))
     have hF7:=hF6.later (HA.out.other hf6 hF6.hg ht)
     have HF6:Hid _:=hf6
     clear hF6 d1 d2 hl5 hg5 c0 AF0 R4 hf6
     generalize (Value.slice a5 N5 c5)=L6 at *
     generalize w5.setCell ⟨q,18,none⟩ L6=w6 at *
     have hGd:=hG6.later (Below.refl _ _).drew
     have e1:w6.cell? ⟨q,19,none⟩=some (V 19):=hG6.cell (i:=19) (by omega)
     have hR6:=hF7.row
     have HZ:Hid (zs.length<=5864062014720):=by show _<=_;omega
     have AF:Hid (∀ w1 o,Below w6.drew.heap.size w6.drew w1->w1.cell? ⟨q,19,none⟩=some (V 19)/\(w1.alloc o).cell? ⟨q,19,none⟩=some (V 19)/\HL 52 (w1.alloc o) (V 19) ((E 9).map HE.snd)):=fun w1 o hb=>by
      have r1:=hGd.later hb
      have r2:=r1.later (bAl w1 o)
      refine ⟨r1.cell (i:=19) (by omega),r2.cell (i:=19) (by omega),?_⟩
      have:=r2.row 19
      rw [t5] at this
      exact this
     have AF2:Hid (∀ w1 o w2 W2,Below w6.drew.heap.size w6.drew w1->Grew (w1.alloc o) w2 (V 19) W2->w2.cell? ⟨q,19,none⟩=some (V 19)/\w2.frozen? ⟨q,19,none⟩=false):=fun w1 o w2 W2 hb hg=>by
      have h1:=(hGd.later hb).later (bAl _ o)
      have b:=(hg.grown.block q (lt_of_block h1.hq) (h1.ne 19)).trans h1.hq
      exact ⟨by simp only [World.cell?,b];exact hArr_get _ (by omega),by simp [World.frozen?,b]⟩
     have HGd:Hid _:=hGd
     have HG6:Hid _:=hG6
     clear hGd hG6
     generalize hV5:V 19=W at *
     go_region_law (first
      | (refine step_copyT (by rfl) _ (by rfl) w.heap.size 0 (xs.length+3) (xs.length+3) zs (by rfl) hzl.symm HZ.out hR6 ?_;intro a8 N8 c8 w8 ho8 hb8;obtain ⟨f0,f1,f2⟩:=AF.out w8 (.cells #[.slice a8 N8 c8] 52) hb8)
      | (refine step_hl_append Tryz.underlying36 infoTT2 (by rfl) _ _ (by rfl) W ((E 9).map HE.snd) (by rfl) f2 w8.heap.size 1 (.slice a8 N8 c8) (by rfl) (cell_new w8 _ _) (by rfl) HLN.out ?_;intro W9 w9 hl9 hg9;obtain ⟨a9,N9,c9,rfl⟩:=hl9.slice3;obtain ⟨m0,m1⟩:=AF2.out w8 _ w9 _ hb8 hg9))
     all_goals go_wp2
     all_goals go_ret
     all_goals
      have hN8:=tyo_cnt ho8
      subst hN8
      have hI8:=(HGd.out.later hb8).later (bAl w8 (.cells #[.slice a8 zs.length c8] 52))
      obtain ⟨hG9,hf9⟩:=hI8.store (i:=19) (v':=.slice a9 N9 c9) (s':=(E 9).map HE.snd++[.slice a8 zs.length c8]) (by show Grew _ _ (V 19) _;rw [hV5];exact hg9) (by rw [t5];exact hl9)
      have hfa:HF w6 (w8.alloc (.cells #[.slice a8 zs.length c8] 52)) q (updV V 18 L6) (updV V 18 L6):=HF.ofBelow ((Below.refl _ _).drew.trans (hb8.trans ((bAl w8 _).mono hb8.size)))
      have hfx:=hfa.trans hf9
      have hF9:=hF7.later (HG6.out.other hfx hF7.hg ht)
      have ho9:=row_kept (ho8.later (bAl _ _)) (w':=w9.setCell ⟨q,19,none⟩ (.slice a9 N9 c9)) fun k C _ hk=>hI8.other hf9 hk ht
      have hend:=(HF.ofBelow hb).trans ((HF.ofBelow (bAl wr _)).trans (HF6.out.trans hfx))
      refine ⟨rfl,_,⟨23,2,w.heap.size,zs.length,a8,c8,tkcP zs⟩,HI.add (κ:=9) (by rw [<- hzl] at hG9;exact hG9) ⟨tkcP_len zs,by show zs.length<=_;omega,hF9.hg,ho9⟩ ht,rfl,rfl,rfl,⟨zs,rfl,HZT.out⟩,hend⟩
end Go.Proofs.YteciabdjkaackaaGreat
