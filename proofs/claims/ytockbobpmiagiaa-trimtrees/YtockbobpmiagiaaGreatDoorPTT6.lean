import Derived.Test.YtockbobpmiagiaaGreatDoorPTT1ToTT4
namespace Go.Proofs.YtockbobpmiagiaaGreatDoor
set_option linter.unusedVariables false
open Go.RowKit
def tkCells (x:SP):List Value:=[.int .i64 x.t.kind,.string x.t.tx]
theorem rkTok:RK 28 45 2 tkCells:=by
 refine ⟨Tryz.underlying45,?_,by decide,fun _=>rfl,fun x u hu=>?_⟩
 ·have h:(Tryz.prog.info? 28).map (fun i=>(i.zero,i.size,i.bytes))=some (some (.agg #[.int .i64 0,.string ByteArray.empty]),2,24):=by kernel_rfl
  cases e:Tryz.prog.info? 28 with
  | none=>rw [e] at h;cases h
  | some i =>
   rw [e] at h
   simp at h
   exact ⟨i,_,rfl,h.1,h.2.1,by rw [h.2.2];decide,rfl⟩
 ·simp [tkCells] at hu
  rcases hu with rfl | rfl<;>rfl
abbrev TKo:=RO 28 2 tkCells
def leafs (l:List SP):List SP:=l.filter fun x=>decide (x.t.prod=-1)
theorem leafs_lv (l:List SP):(leafs l).map (·.t.kind)=lv l:=rfl
theorem leafs_take {l:List SP}{k:Nat}{x:SP}(h:l[k]?=some x):leafs (l.take (k+1))=leafs (l.take k)++if x.t.prod=-1 then [x] else []:=by
 rw [List.take_add_one,h]
 unfold leafs
 rw [List.filter_append]
 congr 1
 by_cases q:x.t.prod=-1
 ·rw [if_pos q];simp [q]
 ·rw [if_neg q];simp [q]
structure YWs (w:World)(P O:List SP)(vp vo:Value)(wr:World):Prop where
 p:SPo wr vp P
 o:TKo wr vo O
 po:∀ j,vp.ownBlock=some j->w.heap.size < j
 oo:∀ j,vo.ownBlock=some j->w.heap.size < j
 ne:∀ j,vp.ownBlock=some j->vo.ownBlock≠some j
 big:w.heap.size < wr.heap.size
 bel:Below w.heap.size w wr
theorem YWs.any {w wr w':World}{P O:List SP}{vp vo:Value}(h:YWs w P O vp vo wr)(hb:Below wr.heap.size wr w'):YWs w P O vp vo w' :=
 ⟨h.p.later hb,h.o.later hb,h.po,h.oo,h.ne,Nat.lt_of_lt_of_le h.big hb.size,h.bel.trans (hb.mono (Nat.le_of_lt h.big))⟩
theorem YWs.out {w wr w1 w4:World}{P O:List SP}{vp vo v':Value}{y:SP}(h:YWs w P O vp vo wr)(hb:Below wr.heap.size wr w1)(hg:Grew w1 w4 vo v')(hi:TKo w4 v' (O++[y])):YWs w P (O++[y]) vp v' w4:=by
 have h1:=h.any hb
 have hbig:=h1.big
 refine ⟨h1.p.kept (fun j hj=>hg.grown.block j (h1.p.lt j hj) (fun e=>h.ne j hj e.symm)),hi,h.po,fun j hj=>hg.own (n:=w.heap.size+1) hbig h.oo j hj,fun j hj e=>?_,Nat.lt_of_lt_of_le hbig hg.grown.size,hg.below h1.bel (Nat.le_refl _) (fun j hj=>Nat.le_of_lt (h.oo j hj))⟩
 rcases hg.moved with q | ⟨i,q,hq⟩
 ·exact h.ne j hj (by rw [<- q];exact e)
 ·rw [q] at e
  have:=h1.p.lt j hj
  simp at e
  omega
set_option linter.unusedSimpArgs false in
set_option maxRecDepth 100000 in
set_option maxHeartbeats 8000000 in
theorem yield_S (t:TV)(w:World)(ht:TAt w t)(hsz:(plT 0 t).length<=100000000):Calls Tryz.prog 10 #[t.val] w fun e w'=>∃ a c,e=.returned (.slice a (leafs (plT 0 t)).length c)/\TKo w' (.slice a (leafs (plT 0 t)).length c) (leafs (plT 0 t))/\Below w.heap.size w w':=by
 have PC:Hid (Calls Tryz.prog 25 #[t.val] (w.alloc (tBox t)) fun e w'=>∃ a c,e=.returned (.slice a (plT 0 t).length c)/\SPo w' (.slice a (plT 0 t).length c) (plT 0 t)/\(∀ j,(Value.slice a (plT 0 t).length c).ownBlock=some j->(w.alloc (tBox t)).heap.size < j)/\Below (w.alloc (tBox t)).heap.size (w.alloc (tBox t)) w'):=places_S t _ (ht.later (bAl _ _)) hsz
 have BA:Hid (Below w.heap.size w (w.alloc (tBox t))):=bAl _ _
 have HZ:Hid ((w.alloc (tBox t)).heap.size=w.heap.size+1):=by simp [Hid]
 have HSZ:Hid ((plT 0 t).length<=100000000):=hsz
 generalize plT 0 t=P at *
 clear ht
 go_enter Tryz.func10,Tryz.ntmps10
 go_wp2_with (go_at_call 25;refine PC.out.mono ?_;rintro e w1 ⟨pa,pc,rfl,hp1,ho1,b1⟩;have W1:Hid (YWs w P [] (.slice pa P.length pc) (.slice none 0 0) w1):=⟨hp1,RO.nil _,fun j hj=>by have:=ho1 j hj;have:=HZ.out;omega,fun j hj=>by simp [Value.ownBlock] at hj,fun j _ e=>by simp [Value.ownBlock] at e,by have:=b1.size;have:=HZ.out;omega,BA.out.trans (b1.mono BA.out.size)⟩;clear hp1 ho1 b1)
 clear PC BA HZ
 go_loopw [3,5] (fun vo z wr=>∃ k:Nat,k<=P.length/\z=.int .i64 k/\YWs w P (leafs (P.take k)) (.slice pa P.length pc) vo wr) (fun _ z _=>P.length - (intOf z).toNat)
 case atStart=>exact ⟨0,Nat.zero_le _,rfl,by rw [List.take_zero];exact W1.out⟩
 case round =>
  clear W1
  obtain ⟨k,hk,rfl,hF⟩:=hrel
  obtain ⟨oa,oc,rfl,_⟩:=hF.o.len
  by_cases hlt:k < P.length
  ·have klt:(k:Int) < (P.length:Int):=by omega
   obtain ⟨b,c,hv,hc,hcell⟩:=RO.cell (f:=spCells) (fun _=>rfl) hF.p hlt
   simp only [Value.slice.injEq,true_and] at hv
   obtain ⟨hpa,-⟩:=hv
   obtain ⟨x,hx⟩:∃ x,P[k]=x:=⟨_,rfl⟩
   rw [hx] at hcell
   have c0:=hcell 0 (by omega)
   have c1:=hcell 1 (by omega)
   have c2:=hcell 2 (by omega)
   simp only [spCells,List.getElem?_cons_zero,List.getElem?_cons_succ,Nat.add_zero] at c0 c1 c2
   have hPk:P[k]?=some x:=by rw [<- hx];exact List.getElem?_eq_getElem hlt
   have HT:Hid (leafs (P.take (k+1))=leafs (P.take k)++if x.t.prod=-1 then [x] else []):=leafs_take hPk
   have HTL:Hid ((leafs (P.take k)).length<=1000000000):=by
    have h1:=List.length_filter_le (fun x:SP=>decide (x.t.prod=-1)) (P.take k)
    have h2:=HSZ.out
    rw [List.length_take] at h1
    show (List.filter _ _).length<=_
    omega
   have HF:Hid (YWs w P (leafs (P.take k)) (.slice pa P.length pc) (.slice oa (leafs (P.take k)).length oc) wr):=hF
   have hsz2:=HSZ.out
   clear hF hcell hc hx hPk
   subst hpa
   by_cases hp:x.t.prod=-1
   ·have e0:(x.t.prod == -1)=true:=by simpa using hp
    rw [if_pos hp] at HT
    have HNX:Hid (∀ j u,(tkCells x)[j]?=some u->(wr.alloc (.cells #[.int .i64 x.t.kind,.string x.t.tx] 28)).cell? ⟨wr.heap.size,j,none⟩=some u):=fun j u hu=>by
     rw [cQa (heap_alloc_new wr (.cells #[.int .i64 x.t.kind,.string x.t.tx] 28)),<- hu]
     simp [tkCells]
    clear hp
    generalize leafs (P.take k)=T at *
    go_wp2_with (at_builtin;refine wpList_ro_append rkTok rfl _ _ rfl (.slice oa T.length oc) T rfl (HF.out.o.later (bAl _ _)) wr.heap.size 1 x rfl HNX.out HTL.out ?_;intro a5 n5 c5 w5 ho5 hg5;have W5:Hid (YWs w P (T++[x]) (.slice (some ⟨b,0,none⟩) P.length pc) (.slice a5 n5 c5) w5):=HF.out.out (bAl _ _) hg5 ho5;clear ho5 hg5 c0 c1 c2)
    go_roundw
    case rel=>exact ⟨k+1,by omega,by go_num,by rw [HT.out];exact W5.out⟩
    case measure=>simp [intOf];omega
   ·have e0:(x.t.prod == -1)=false:=by simpa using hp
    rw [if_neg hp,List.append_nil] at HT
    clear hp
    go_wp2
    go_roundw
    case rel=>exact ⟨k+1,by omega,by go_num,by rw [HT.out];exact HF.out⟩
    case measure=>simp [intOf];omega
  ·obtain rfl:k=P.length:=by omega
   rw [List.take_length] at hF
   have HF:Hid (TKo wr (.slice oa (leafs P).length oc) (leafs P)/\Below w.heap.size w wr):=⟨hF.o,hF.bel⟩
   have klt:¬ (P.length:Int) < (P.length:Int):=by omega
   clear hF
   go_wp2
   go_ret
   exact ⟨oa,oc,by simp,HF.out⟩
end Go.Proofs.YtockbobpmiagiaaGreatDoor
