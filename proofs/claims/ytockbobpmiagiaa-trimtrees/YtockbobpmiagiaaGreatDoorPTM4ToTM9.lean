import Derived.Test.YtockbobpmiagiaaGreatDoorPTM1ToTM3
namespace Go.Proofs.YtockbobpmiagiaaGreatDoor
set_option linter.unusedVariables false
set_option maxRecDepth 100000
set_option maxHeartbeats 16000000
open Go.RowKit
theorem vanish_P (na:Option Addr)(nc:Nat)(N:List Bool)(la:Option Addr)(lc:Nat)(l:List (Int×Int))(w:World)(hN:BRow w na N)(hl:SymRow w la l)(hll:l.length<=1048576)(hnl:N.length<=1048576)(hr:∀ s∈l,s.1=2->0<=s.2/\s.2 < N.length) :
  Calls Tryz.prog 59 #[.slice na N.length nc,.slice la l.length lc] w fun e w'=>e=.returned (.bool (allN N l))/\Below w.heap.size w w':=by
 have HK:Hid (∀ w',Below w.heap.size w w'->BRow w' na N):=fun w' hb=>hN.later hb
 have HL:Hid (∀ w',Below w.heap.size w w'->SymRow w' la l):=fun w' hb=>hl.later (Nat.le_refl _) hb
 have HR:Hid (∀ s∈l,s.1=2->0<=s.2/\s.2 < N.length):=hr
 have HF:Hid (∀ k,k < l.length->null1 N (l.getD k (0,0))=false->allN N l=false):=fun k hk h=>all_no hk h
 have HY:Hid ((∀ k,k < l.length->null1 N (l.getD k (0,0))=true)->allN N l=true):=all_yes
 clear hN hl hr
 generalize hX:allN N l=X at *
 clear hX
 go_enter Tryz.func59,Tryz.ntmps59
 go_wp2
 go_loopw [9] (fun z wr=>∃ k:Nat,k<=l.length/\z=.int .i64 k/\(∀ j,j < k->null1 N (l.getD j (0,0))=true)/\Below w.heap.size w wr) (fun z _=>l.length - (intOf z).toNat)
 case atStart=>exact ⟨0,Nat.zero_le _,rfl,fun j hj=>absurd hj (Nat.not_lt_zero j),Below.refl _ _⟩
 case round =>
  obtain ⟨k,hk,rfl,hf,hb⟩:=hrel
  by_cases hlt:k < l.length
  ·obtain ⟨b,o,rfl,hbl,hc⟩:=(HL.out wr hb) (by intro e;rw [e] at hlt;simp at hlt)
   obtain ⟨c0,c1⟩:=hc k hlt
   have hm:l.getD k (0,0)∈l:=by simp [List.getD,hlt]
   have hin:=HR.out _ hm
   have HN:Hid (null1 N (l.getD k (0,0))=false->X=false):=HF.out k hlt
   have HB:Hid (Below w.heap.size w wr):=hb
   have klt:(k:Int) < (l.length:Int):=by omega
   have HS:Hid (∀ x,l.getD k (0,0)=x->null1 N x=true->∀ j,j < k+1->null1 N (l.getD j (0,0))=true):=fun x hx h j hj=>by
    by_cases e:j=k
    ·subst e;rw [hx];exact h
    ·exact hf j (by omega)
   generalize hx:l.getD k (0,0)=x at *
   obtain ⟨x1,x2⟩:=x
   simp only at c0 c1 hin
   by_cases h2:x1=2
   ·obtain ⟨i0,i1⟩:=hin h2
    subst h2
    obtain ⟨m,rfl⟩:∃ m:Nat,x2=(m:Int):=⟨x2.toNat,by omega⟩
    have hm2:m < N.length:=by omega
    obtain ⟨nb,no,rfl,hnb,hnc⟩:=((HK.out wr hb).later (bAl wr (.cells #[.int .i64 2,.int .i64 (m:Int)] 49))) (by intro e;rw [e] at hm2;simp at hm2)
    have kc:=hnc m hm2
    have e2:((2:Int) != 2)=false:=by decide
    have V:Hid (null1 N (2,(m:Int))=N.getD m false):=by show _=_;simp [null1]
    generalize hv:N.getD m false=v at *
    cases v
    ·have R:Hid (X=false):=HN.out V.out
     clear hc hb hf hm hx hv hnc
     go_wp2
     go_ret
     exact ⟨by rw [R.out];rfl,HB.out.trans ((bAl _ _).mono HB.out.size)⟩
    ·have R:Hid (∀ j,j < k+1->null1 N (l.getD j (0,0))=true):=HS.out _ rfl V.out
     clear hc hb hf hm hx hv hnc
     go_wp2
     go_roundw
     case rel=>exact ⟨k+1,by omega,by go_num,R.out,HB.out.trans ((bAl _ _).mono HB.out.size)⟩
     case measure=>simp [intOf];omega
   ·have e2:(x1 != 2)=true:=by simp [h2]
    have R:Hid (X=false):=HN.out (by simp [null1,h2])
    clear hc hb hf hm hx
    go_wp2
    go_ret
    exact ⟨by rw [R.out];rfl,HB.out.trans ((bAl _ _).mono HB.out.size)⟩
  ·obtain rfl:k=l.length:=by omega
   have R:Hid (X=true):=HY.out hf
   have HB:Hid (Below w.heap.size w wr):=hb
   clear hb hf
   go_wp2
   go_ret
   exact ⟨by rw [R.out];rfl,HB.out⟩
theorem fruitList_P (na:Option Addr)(nc:Nat)(N:List Bool)(la:Option Addr)(lc:Nat)(l:List (Int×Int))(w:World)(hN:BRow w na N)(hl:SymRow w la l)(hll:l.length<=1048576)(hnl:N.length<=1048576)(hr:∀ s∈l,s.1=2->0<=s.2/\s.2 < N.length) :
  Calls Tryz.prog 54 #[.slice na N.length nc,.slice la l.length lc] w fun e w'=>e=.returned (.bool (wU_ true N l))/\Below w.heap.size w w':=by
 have HK:Hid (∀ w',Below w.heap.size w w'->BRow w' na N):=fun w' hb=>hN.later hb
 have HL:Hid (∀ w',Below w.heap.size w w'->SymRow w' la l):=fun w' hb=>hl.later (Nat.le_refl _) hb
 have HR:Hid (∀ s∈l,s.1=2->0<=s.2/\s.2 < N.length):=hr
 have HF:Hid (∀ k,k < l.length->wh1 true N (l.getD k (0,0))=false->wU_ true N l=false):=fun k hk h=>all_no hk h
 have HY:Hid ((∀ k,k < l.length->wh1 true N (l.getD k (0,0))=true)->wU_ true N l=true):=all_yes
 clear hN hl hr
 generalize hX:wU_ true N l=X at *
 clear hX
 go_enter Tryz.func54,Tryz.ntmps54
 go_wp2
 go_loopw [9] (fun z wr=>∃ k:Nat,k<=l.length/\z=.int .i64 k/\(∀ j,j < k->wh1 true N (l.getD j (0,0))=true)/\Below w.heap.size w wr) (fun z _=>l.length - (intOf z).toNat)
 case atStart=>exact ⟨0,Nat.zero_le _,rfl,fun j hj=>absurd hj (Nat.not_lt_zero j),Below.refl _ _⟩
 case round =>
  obtain ⟨k,hk,rfl,hf,hb⟩:=hrel
  by_cases hlt:k < l.length
  ·obtain ⟨b,o,rfl,hbl,hc⟩:=(HL.out wr hb) (by intro e;rw [e] at hlt;simp at hlt)
   obtain ⟨c0,c1⟩:=hc k hlt
   have hm:l.getD k (0,0)∈l:=by simp [List.getD,hlt]
   have hin:=HR.out _ hm
   have HN:Hid (wh1 true N (l.getD k (0,0))=false->X=false):=HF.out k hlt
   have HB:Hid (Below w.heap.size w wr):=hb
   have klt:(k:Int) < (l.length:Int):=by omega
   have HS:Hid (∀ x,l.getD k (0,0)=x->wh1 true N x=true->∀ j,j < k+1->wh1 true N (l.getD j (0,0))=true):=fun x hx h j hj=>by
    by_cases e:j=k
    ·subst e;rw [hx];exact h
    ·exact hf j (by omega)
   generalize hx:l.getD k (0,0)=x at *
   obtain ⟨x1,x2⟩:=x
   simp only at c0 c1 hin
   by_cases h2:x1=2
   ·obtain ⟨i0,i1⟩:=hin h2
    subst h2
    obtain ⟨m,rfl⟩:∃ m:Nat,x2=(m:Int):=⟨x2.toNat,by omega⟩
    have hm2:m < N.length:=by omega
    obtain ⟨nb,no,rfl,hnb,hnc⟩:=((HK.out wr hb).later (bAl wr (.cells #[.int .i64 2,.int .i64 (m:Int)] 49))) (by intro e;rw [e] at hm2;simp at hm2)
    have kc:=hnc m hm2
    have e2:((2:Int) == 2)=true:=by decide
    have V:Hid (wh1 true N (2,(m:Int))=N.getD m false):=by show _=_;simp [wh1]
    generalize hv:N.getD m false=v at *
    cases v
    ·have R:Hid (X=false):=HN.out V.out
     clear hc hb hf hm hx hv hnc
     go_wp2
     go_ret
     exact ⟨by rw [R.out];rfl,HB.out.trans ((bAl _ _).mono HB.out.size)⟩
    ·have R:Hid (∀ j,j < k+1->wh1 true N (l.getD j (0,0))=true):=HS.out _ rfl V.out
     clear hc hb hf hm hx hv hnc
     go_wp2
     go_roundw
     case rel=>exact ⟨k+1,by omega,by go_num,R.out,HB.out.trans ((bAl _ _).mono HB.out.size)⟩
     case measure=>simp [intOf];omega
   ·have e2:(x1 == 2)=false:=by simp [h2]
    have R:Hid (∀ j,j < k+1->wh1 true N (l.getD j (0,0))=true):=HS.out _ rfl (by simp [wh1,h2])
    clear hc hb hf hm hx
    go_wp2
    go_roundw
    case rel=>exact ⟨k+1,by omega,by go_num,R.out,HB.out.trans ((bAl _ _).mono HB.out.size)⟩
    case measure=>simp [intOf];omega
  ·obtain rfl:k=l.length:=by omega
   have R:Hid (X=true):=HY.out hf
   have HB:Hid (Below w.heap.size w wr):=hb
   clear hb hf
   go_wp2
   go_ret
   exact ⟨by rw [R.out];rfl,HB.out⟩
open Go.RowKit Go.Shelf
theorem alU_len (N:List Bool):∀ ps:List PV,(∀ p∈ps,p.right.length<=16)->(alU N ps).length<=16*ps.length
 | [],_=>by simp [alU]
 | p :: ps,h=>by
  have ih:=alU_len N ps fun q hq=>h q (List.mem_cons_of_mem _ hq)
  have h1:=alK_len N p p.right.length
  have h2:=h p (List.mem_cons_self ..)
  unfold alU at ih ⊢
  rw [List.flatMap_cons,List.length_append,List.length_cons]
  have h3:(alP N p).length<=16:=by unfold alP;omega
  omega
theorem ro_len7 {w:World}{v:Value}{l:List (Int×Int)}(h:PRo w v l):∃ a c,v=.slice a l.length c:=by
 rcases h.2 with ⟨rfl,h0⟩ | ⟨g,cap,cur,rfl,_⟩
 ·exact ⟨none,0,by rw [h0]⟩
 ·exact ⟨_,_,rfl⟩
theorem alone_P (g:GV)(w:World)(hfg:FG w g)(hcap:∀ p∈g.ps,p.right.length<=p.rc)(na:Option Addr)(nc:Nat)(N:List Bool)(hN:BRow w na N)(hNl:N.length=g.ns.length) :
  Calls Tryz.prog 38 #[g.val,.slice na N.length nc] w fun e w'=>∃ v,e=.returned v/\PlW w (alU N g.ps) v w':=by
 have X0:Hid ((w.alloc (gBox g)).heap[w.heap.size]?=some (gBox g)):=heap_alloc_new _ _
 have HFG:Hid (∀ w',Below w.heap.size w w'->FG w' g):=fun w' hb=>hfg.later hb
 have HCP:Hid (∀ p∈g.ps,p.right.length<=p.rc):=hcap
 have HBN:Hid (∀ w',Below w.heap.size w w'->BRow w' na N):=fun w' hb=>hN.later hb
 have HAL:Hid (∀ k,(alU N (g.ps.take k)).length<=4096):=fun k=>by
  have h1:=alU_len N (g.ps.take k) fun p hp=>hfg.rl p (List.mem_of_mem_take hp)
  have h2:=hfg.pl
  rw [List.length_take] at h1
  omega
 have hpl:=hfg.pl
 have hnl:=hfg.nl.2
 obtain ⟨x0,x1,x2,x3,x4⟩:=gbc X0.out
 have P0:Hid (PlW w (alU N (g.ps.take 0)) (.slice none 0 0) (w.alloc (gBox g))):=⟨RO.nil _,fun j hj=>by simp [Value.ownBlock] at hj,bAl _ _⟩
 have HNL:Hid (N.length=g.ns.length):=hNl
 clear hfg hcap hN hNl
 obtain ⟨nl,hnl2⟩:∃ nl,N.length=nl:=⟨_,rfl⟩
 have HN2:Hid (N.length=nl):=hnl2
 rw [hnl2]
 clear hnl2
 go_enter Tryz.func38,Tryz.ntmps38
 go_wp2
 clear x0 x1 x2 x3 x4
 go_loopw [5,13] (fun v i wr=>∃ k:Nat,k<=g.ps.length/\i=.int .i64 k/\PlW w (alU N (g.ps.take k)) v wr) (fun _ i _=>g.ps.length - (intOf i).toNat)
 case atStart=>exact ⟨0,Nat.zero_le _,rfl,P0.out⟩
 case round =>
  clear P0 X0
  obtain ⟨k,hk,rfl,hP⟩:=hrel
  obtain ⟨va,vc,rfl⟩:=ro_len7 hP.ro
  have HP:Hid (PlW w (alU N (g.ps.take k)) (.slice va (alU N (g.ps.take k)).length vc) wr):=hP
  by_cases hlt:k < g.ps.length
  ·have klt:(k:Int) < (g.ps.length:Int):=by omega
   have hmem:g.ps.getD k .none∈g.ps:=by simp [List.getD,hlt]
   obtain ⟨p,hp⟩:∃ p,g.ps.getD k .none=p:=⟨_,rfl⟩
   obtain ⟨pb,po,hpa,hbl,hc⟩:=(HFG.out _ hP.bel).p.cells (by intro e;rw [e] at hlt;simp at hlt)
   obtain ⟨c0,c1,c2⟩:=hc k hlt
   rw [hp] at c0 c1 c2 hmem
   have HTK:Hid (alU N (g.ps.take (k+1))=alU N (g.ps.take k)++alK N p p.right.length):=al_take hlt hp
   have HRO:Hid (∀ w',Below w.heap.size w w'->SymRow w' p.ra p.right):=fun w' hb=>(HFG.out _ hb).p.rows _ hmem
   have hrc:=HCP.out _ hmem
   have hrl:=(HFG.out _ hP.bel).rl _ hmem
   have HSY:Hid (∀ s∈p.right,(s.1=1/\0<=s.2/\s.2 < g.ts.length)∨(s.1=2/\0<=s.2/\s.2 < g.ns.length)):=(HFG.out _ hP.bel).sym _ hmem
   rw [hpa] at *
   obtain ⟨bp,hbp⟩:∃ bp,wr.heap.size=bp:=⟨_,rfl⟩
   have Q0:Hid (PlW w (alU N (g.ps.take k)++alK N p 0) (.slice va (alU N (g.ps.take k)).length vc) (wr.alloc (.cells #[.int .i64 p.left,.slice p.ra p.right.length p.rc,.int .i64 p.prec] 44))/\(wr.alloc (.cells #[.int .i64 p.left,.slice p.ra p.right.length p.rc,.int .i64 p.prec] 44)).heap[bp]?=some (.cells #[.int .i64 p.left,.slice p.ra p.right.length p.rc,.int .i64 p.prec] 44)):=by
    have e:alK N p 0=[]:=rfl
    rw [e,List.append_nil,<- hbp]
    exact ⟨hP.any (bAl _ _),heap_alloc_new _ _⟩
   clear hc hmem hp hpa hP HP
   generalize p.ra=pra at *
   obtain ⟨wy,rfl⟩:∃ wy:World,wy=wr:=⟨_,rfl⟩
   go_wp2
   clear c0 c1 c2 hbp
   go_loopw [5,20] (fun v i wr=>∃ q:Nat,q<=p.right.length/\i=.int .i64 q/\PlW w (alU N (g.ps.take k)++alK N p q) v wr/\wr.heap[bp]?=some (.cells #[.int .i64 p.left,.slice pra p.right.length p.rc,.int .i64 p.prec] 44)) (fun _ i _=>p.right.length - (intOf i).toNat)
   case atStart=>exact ⟨0,Nat.zero_le _,rfl,Q0.out.1,Q0.out.2⟩
   case round =>
    clear Q0
    obtain ⟨q,hq,rfl,hP,hB⟩:=hrel
    obtain ⟨va2,vc2,rfl⟩:=ro_len7 hP.ro
    by_cases hql:q < p.right.length
    ·have qlt:(q:Int) < (p.right.length:Int):=by omega
     obtain ⟨sb,so,hpr,hsl,hsc⟩:=HRO.out _ hP.bel (by intro e;rw [e] at hql;simp at hql)
     subst hpr
     obtain ⟨c0,c1⟩:=hsc q hql
     have hs1:=slice_toS sb so p.rc p.right.length q (by omega)
     obtain ⟨o2,cc2,hs2,hr2⟩:=slice_froS sb so p.rc p.right.length (q+1) (by omega) hrc
     simp only [show ((q+1:Nat):Int)=(q:Int)+1 from rfl] at hs2
     have hxm:p.right.getD q (0,0)∈p.right:=by simp [List.getD,hql]
     have HST:Hid (alK N p (q+1)=alK N p q++if (p.right.getD q (0,0)).1=2/\vanU N (p.right.take q)=true/\vanU N (p.right.drop (q+1))=true then [(p.left,(p.right.getD q (0,0)).2)] else []):=alK_succ N p q
     have HVR:Hid (∀ s∈p.right,s.1=2->0<=s.2/\s.2 < N.length):=fun s hs e=>by
      rw [HNL.out]
      rcases HSY.out s hs with z | z
      ·omega
      ·exact z.2
     have VC:Hid (∀ w',Hid (Below wr.heap.size wr w')->∀ (y:Value) (r:Bool),(y=Value.slice (some ⟨sb,so,none⟩) q p.rc/\r=vanU N (p.right.take q))∨(y=Value.slice (some ⟨sb,o2,none⟩) (p.right.length - (q+1)) cc2/\r=vanU N (p.right.drop (q+1)))->Calls Tryz.prog 59 #[.slice na nl nc,y] w' fun e w''=>e=.returned (.bool r)/\Hid (Below wr.heap.size wr w'')/\Hid (Below w'.heap.size w' w'')):=fun w' hb y r hy=>by
      have hbw:Below w.heap.size w w':=hP.bel.trans (hb.out.mono hP.bel.size)
      have hrow:SymRow w' (some ⟨sb,so,none⟩) p.right:=HRO.out w' hbw
      rcases hy with ⟨rfl,rfl⟩ | ⟨rfl,rfl⟩
      ·have:=vanish_P na nc N (some ⟨sb,so,none⟩) p.rc (p.right.take q) w' (HBN.out w' hbw) (hrow.takeS q) (by rw [List.length_take];omega) (by rw [HNL.out];omega) (fun s hs=>HVR.out s (List.mem_of_mem_take hs))
       rw [HN2.out,List.length_take,Nat.min_eq_left (by omega)] at this
       exact this.mono fun e w'' ⟨z1,z2⟩=>⟨z1,hb.out.trans (z2.mono hb.out.size),z2⟩
      ·have:=vanish_P na nc N (some ⟨sb,o2,none⟩) cc2 (p.right.drop (q+1)) w' (HBN.out w' hbw) (hr2 w' _ rfl hrow) (by rw [List.length_drop];omega) (by rw [HNL.out];omega) (fun s hs=>HVR.out s (List.mem_of_mem_drop hs))
       rw [HN2.out,List.length_drop] at this
       exact this.mono fun e w'' ⟨z1,z2⟩=>⟨z1,hb.out.trans (z2.mono hb.out.size),z2⟩
     have HBX:Hid (∀ w',Below wr.heap.size wr w'->w'.cell? ⟨bp,0,none⟩=some (.int .i64 p.left)/\w'.cell? ⟨bp,1,none⟩=some (.slice (some ⟨sb,so,none⟩) p.right.length p.rc)):=fun w' hb=>⟨(cQa ((hb.block _ (lt_of_block hB)).trans hB)).trans rfl,(cQa ((hb.block _ (lt_of_block hB)).trans hB)).trans rfl⟩
     have HLN:Hid ((alU N (g.ps.take k)++alK N p q).length<=1000000000):=by
      have h1:=HAL.out k
      have h2:=alK_len N p q
      show _<=_
      rw [List.length_append]
      omega
     have HP:Hid (PlW w (alU N (g.ps.take k)++alK N p q) (.slice va2 (alU N (g.ps.take k)++alK N p q).length vc2) wr/\wr.heap[bp]?=some (.cells #[.int .i64 p.left,.slice (some ⟨sb,so,none⟩) p.right.length p.rc,.int .i64 p.prec] 44)):=⟨hP,hB⟩
     generalize p.right.getD q (0,0)=x at *
     obtain ⟨y1,y2⟩:=x
     simp only at c0 c1 HST
     generalize vanU N (p.right.take q)=v1 at *
     generalize vanU N (p.right.drop (q+1))=v2 at *
     have SB:Hid (∀ w',Below (wr.alloc (.cells #[.int .i64 y1,.int .i64 y2] 49)).heap.size (wr.alloc (.cells #[.int .i64 y1,.int .i64 y2] 49)) w'->w'.cell? ⟨wr.heap.size,0,none⟩=some (.int .i64 y1)/\w'.cell? ⟨wr.heap.size,1,none⟩=some (.int .i64 y2)):=fun w' hb=>by
      have h0:=heap_alloc_new wr (.cells #[.int .i64 y1,.int .i64 y2] 49)
      exact ⟨(cQa ((hb.block _ (lt_of_block h0)).trans h0)).trans rfl,(cQa ((hb.block _ (lt_of_block h0)).trans h0)).trans rfl⟩
     have T1:Hid (Below wr.heap.size wr (wr.alloc (.cells #[.int .i64 y1,.int .i64 y2] 49))):=bAl _ _
     have SAME:Hid (alK N p (q+1)=alK N p q->∀ w',Below wr.heap.size wr w'->PlW w (alU N (g.ps.take k)++alK N p (q+1)) (.slice va2 (alU N (g.ps.take k)++alK N p q).length vc2) w'/\w'.heap[bp]?=some (.cells #[.int .i64 p.left,.slice (some ⟨sb,so,none⟩) p.right.length p.rc,.int .i64 p.prec] 44)):=fun e w' hb=>by
      rw [e]
      exact ⟨HP.out.1.any hb,(hb.block _ (lt_of_block HP.out.2)).trans HP.out.2⟩
     clear hP hB hsc hsl hr2 hxm HVR
     generalize hA:(alU N (g.ps.take k)++alK N p q).length=al at *
     by_cases h2:y1=2
     ·subst h2
      cases v1
      ·have R:Hid (alK N p (q+1)=alK N p q):=by show _=_;rw [HST.out,if_neg (fun z=>by cases z.2.1),List.append_nil]
       clear HST
       obtain ⟨d0,d1⟩:=HBX.out _ T1.out
       go_wp2_with (go_at_call 59;refine (VC.out _ T1 _ _ (by first | (with_reducible exact Or.inl ⟨rfl,rfl⟩) | (with_reducible exact Or.inr ⟨rfl,rfl⟩))).mono ?_;rintro e w5 ⟨rfl,T2,_⟩)
       have RR:Hid _:=SAME.out R.out _ T2.out
       go_roundw
       case rel=>exact ⟨q+1,by omega,by go_num,RR.out.1,RR.out.2⟩
       case measure=>simp [intOf];omega
      ·cases v2
       ·have R:Hid (alK N p (q+1)=alK N p q):=by show _=_;rw [HST.out,if_neg (fun z=>by cases z.2.2),List.append_nil]
        clear HST
        obtain ⟨d0,d1⟩:=HBX.out _ T1.out
        go_wp2_with (go_at_call 59;refine (VC.out _ T1 _ _ (by first | (with_reducible exact Or.inl ⟨rfl,rfl⟩) | (with_reducible exact Or.inr ⟨rfl,rfl⟩))).mono ?_;clear d0 d1 T1;rintro e w5 ⟨rfl,T1,_⟩;obtain ⟨d0,d1⟩:=HBX.out _ T1.out)
        have RR:Hid _:=SAME.out R.out _ T1.out
        go_roundw
        case rel=>exact ⟨q+1,by omega,by go_num,RR.out.1,RR.out.2⟩
        case measure=>simp [intOf];omega
       ·have R:Hid (alK N p (q+1)=alK N p q++[(p.left,y2)]):=by show _=_;rw [HST.out,if_pos ⟨rfl,rfl,rfl⟩]
        clear HST SAME
        obtain ⟨d0,d1⟩:=HBX.out _ T1.out
        have T0:Hid (Below (wr.alloc (.cells #[.int .i64 2,.int .i64 y2] 49)).heap.size (wr.alloc (.cells #[.int .i64 2,.int .i64 y2] 49)) (wr.alloc (.cells #[.int .i64 2,.int .i64 y2] 49))):=Below.refl _ _
        obtain ⟨s0,s1⟩:=SB.out _ T0.out
        go_wp2_with (first
         | (go_at_call 59;refine (VC.out _ T1 _ _ (by first | (with_reducible exact Or.inl ⟨rfl,rfl⟩) | (with_reducible exact Or.inr ⟨rfl,rfl⟩))).mono ?_;clear d0 d1 s0 s1;rintro e w5 ⟨rfl,T2,Z2⟩;have T3:Hid (Below (wr.alloc (.cells #[.int .i64 2,.int .i64 y2] 49)).heap.size (wr.alloc (.cells #[.int .i64 2,.int .i64 y2] 49)) w5):=T0.out.trans (Z2.out.mono T0.out.size);clear T1 T0 Z2;obtain ⟨d0,d1⟩:=HBX.out _ T2.out;obtain ⟨s0,s1⟩:=SB.out _ T3.out;have T1:=T2;have T0:=T3;clear T2 T3)
         | (at_builtin;refine wpList_ro_append rkPr rfl _ _ rfl (.slice va2 al vc2) (alU N (g.ps.take k)++alK N p q) rfl ((HP.out.1.any T1.out).ro.later (bAl _ _)) _ 1 (p.left,y2) rfl (pr_cell _ (p.left,y2) _) (by rw [hA];exact HLN.out) ?_;intro a4 n4 c4 w7 ho4 hg4))
        have W7:Hid (PlW w (alU N (g.ps.take k)++alK N p (q+1)) (.slice a4 n4 c4) w7/\w7.heap[bp]?=some (.cells #[.int .i64 p.left,.slice (some ⟨sb,so,none⟩) p.right.length p.rc,.int .i64 p.prec] 44)):=by
         show _/\_
         rw [R.out,<- List.append_assoc]
         have p1:=HP.out.1.any T1.out
         have ba:=bAl w5 (.cells #[.int .i64 p.left,.int .i64 y2] 84)
         have hb:=(T1.out.block _ (lt_of_block HP.out.2)).trans HP.out.2
         have hz:=p1.bel.size
         have hz2:=ba.size
         have hb2:=(ba.block _ (lt_of_block hb)).trans hb
         refine ⟨⟨ho4,hg4.own (by omega) p1.own,hg4.below (p1.bel.trans (ba.mono hz)) (Nat.le_refl _) p1.own⟩,?_⟩
         rw [hg4.grown.block bp (lt_of_block hb2) ((p1.ro.later ba).neR hb2 (by decide))]
         exact hb2
        clear ho4 hg4 R
        go_wp2
        go_roundw
        case rel=>exact ⟨q+1,by omega,by go_num,W7.out.1,W7.out.2⟩
        case measure=>simp [intOf];omega
     ·have t2:(y1 == 2)=false:=by simp [h2]
      have R:Hid _:=SAME.out (by rw [HST.out,if_neg (fun z=>h2 z.1),List.append_nil]) _ T1.out
      clear h2 SAME HST
      go_wp2
      go_roundw
      case rel=>exact ⟨q+1,by omega,by go_num,R.out.1,R.out.2⟩
      case measure=>simp [intOf];omega
    ·have qlt:¬ (q:Int) < (p.right.length:Int):=by omega
     have R:Hid (PlW w (alU N (g.ps.take (k+1))) (.slice va2 (alU N (g.ps.take k)++alK N p q).length vc2) wr):=by
      show PlW _ _ _ _
      rw [HTK.out]
      obtain rfl:q=p.right.length:=by omega
      exact hP
     clear hP hB
     go_wp2
     go_roundw
     case rel=>exact ⟨k+1,by omega,by go_num,R.out⟩
     case measure=>simp [intOf];omega
  ·have klt:¬ (k:Int) < (g.ps.length:Int):=by omega
   have R:Hid (PlW w (alU N g.ps) (.slice va (alU N (g.ps.take k)).length vc) wr):=by
    have e:g.ps.take k=g.ps:=List.take_of_length_le (by omega)
    have:=HP.out
    rw [e] at this ⊢
    exact this
   clear hP HP
   go_wp2
   go_ret
   exact ⟨_,rfl,R.out⟩
end Go.Proofs.YtockbobpmiagiaaGreatDoor
