import Derived.Test.YtockbobpmiagiaaGreatDoorPRegXToFThy2
namespace Go.Proofs.YtockbobpmiagiaaGreatDoor
set_option linter.unusedVariables false
set_option maxRecDepth 100000
set_option maxHeartbeats 16000000
open Go.RowKit
def wh1 (t:Bool)(M:List Bool)(s:Int×Int):Bool:=!(decide (s.1=2) && !M.getD s.2.toNat false || decide (s.1=1) && !t)
def wU_ (t:Bool)(M:List Bool)(l:List (Int×Int)):Bool:=l.all (wh1 t M)
def ClM (ps:List PV)(t:Bool)(C:Nat->Prop):Prop:=∀ p∈ps,(∀ s∈p.right,(s.1=2->C s.2.toNat)/\(s.1=1->t=true))->C p.left.toNat
structure MLst (ps:List PV)(n:Nat)(t:Bool)(M:List Bool):Prop where
 len:M.length=n
 clo:∀ p∈ps,wU_ t M p.right=true->M.getD p.left.toNat false=true
 lst:∀ C,ClM ps t C->∀ i,M.getD i false=true->C i
def fU_:List Bool->Nat
 | []=>0
 | b :: l=>(if b then 0 else 1)+fU_ l
theorem falseU_set:∀ (M:List Bool) (i:Nat),i < M.length->M.getD i false=false->fU_ (M.set i true)+1=fU_ M
 | [],i,h,_=>by simp at h
 | b :: l,0,_,h0=>by
  simp only [List.getD_cons_zero] at h0
  subst h0
  simp [fU_,Nat.add_comm]
 | b :: l,i+1,h,h0=>by
  simp only [List.getD_cons_succ] at h0
  have:=falseU_set l i (by simpa using h) h0
  simp only [List.set_cons_succ,fU_]
  omega
def falseC:List Value->Nat
 | []=>0
 | .bool b :: l=>(if b then 0 else 1)+falseC l
 | _ :: l=>falseC l
theorem falseC_map:∀ M:List Bool,falseC (M.map Value.bool)=fU_ M
 | []=>rfl
 | b :: l=>by rw [List.map_cons,falseC,fU_,falseC_map l]
def mesB (b:Nat)(w:World):Nat:=match w.heap[b]? with
 | some (.cells C _ _)=>falseC C.toList
 | _=>0
theorem mesB_of {w:World}{b:Nat}{M:List Bool}(h:BB w b M):mesB b w=fU_ M:=by
 unfold mesB
 rw [show w.heap[b]?=_ from h]
 exact falseC_map M
theorem getD_set_b {M:List Bool}{i j:Nat}{v:Bool}:(M.set i v).getD j false=if i=j/\j < M.length then v else M.getD j false:=by
 simp only [List.getD,List.getElem?_set]
 by_cases h1:i=j
 ·subst h1
  by_cases h2:i < M.length
  ·simp [h2]
  ·simp [h2]
 ·simp [h1]
theorem whole_in {t:Bool}{M:List Bool}{l:List (Int×Int)}(h:wU_ t M l=true):∀ s∈l,(s.1=2->M.getD s.2.toNat false=true)/\(s.1=1->t=true):=fun s hs=>by
 have:=List.all_eq_true.1 h s hs
 unfold wh1 at this
 constructor
 ·intro e
  rw [e] at this
  cases q:M.getD s.2.toNat false
  ·rw [q] at this;simp at this
  ·rfl
 ·intro e
  rw [e] at this
  cases t
  ·simp at this
  ·rfl
theorem sound_set {ps:List PV}{t:Bool}{M:List Bool}{p:PV}(hp:p∈ps)(hM:∀ C,ClM ps t C->∀ i,M.getD i false=true->C i)(hw:wU_ t M p.right=true):∀ C,ClM ps t C->∀ i,(M.set p.left.toNat true).getD i false=true->C i:=fun C hC i hi=>by
 rw [getD_set_b] at hi
 split at hi
 ·rename_i q
  rw [<- q.1]
  exact hC p hp fun s hs=>⟨fun e=>hM C hC _ ((whole_in hw s hs).1 e),(whole_in hw s hs).2⟩
 ·exact hM C hC i hi
def tOf:Value->Nat
 | .bool true=>1
 | _=>0
structure MW (g:GV)(t:Bool)(w:World)(mb:Nat)(M:List Bool)(wr:World):Prop where
 len:M.length=g.ns.length
 lst:∀ C,ClM g.ps t C->∀ i,M.getD i false=true->C i
 bb:BB wr mb M
 box:wr.heap[w.heap.size]?=some (gBox g)
 bel:Below w.heap.size w wr
theorem MW.set {g:GV}{t:Bool}{w wr:World}{mb:Nat}{M:List Bool}(h:MW g t w mb M wr){p:PV}(hp:p∈g.ps)(hw:wU_ t M p.right=true)(hmb:w.heap.size < mb):MW g t w mb (M.set p.left.toNat true) (wr.setCell ⟨mb,p.left.toNat,none⟩ (.bool true)) :=
 ⟨by rw [List.length_set];exact h.len,sound_set hp h.lst hw,h.bb.set _ _,(Below.heap_setCell _ _ _ _ (by show w.heap.size≠mb;omega)).trans h.box,h.bel.setCell (p:=⟨mb,p.left.toNat,none⟩) (by show w.heap.size<=mb;omega) _⟩
structure GB (g:GV)(w wr:World):Prop where
 at_:GAt 140737488355328 wr g
 g0:wr.cell? ⟨w.heap.size,0,none⟩=some (.slice g.ta g.ts.length g.tc)
 g1:wr.cell? ⟨w.heap.size,1,none⟩=some (.slice g.na g.ns.length g.nc)
 g2:wr.cell? ⟨w.heap.size,2,none⟩=some (.int .i64 g.start)
 g3:wr.cell? ⟨w.heap.size,3,none⟩=some (.slice g.pa g.ps.length g.pc)
 g4:wr.cell? ⟨w.heap.size,4,none⟩=some (.slice g.la g.ls.length g.lc)
 lt0:w.heap.size < wr.heap.size
theorem GB.new {g:GV}{w:World}(h:GAt 140737488355328 w g){t:TypeId}:GB g w (w.alloc (.cells #[.slice g.ta g.ts.length g.tc,.slice g.na g.ns.length g.nc,.int .i64 g.start,.slice g.pa g.ps.length g.pc,.slice g.la g.ls.length g.lc] t)):=by
 have e1:=heap_alloc_new w (.cells #[.slice g.ta g.ts.length g.tc,.slice g.na g.ns.length g.nc,.int .i64 g.start,.slice g.pa g.ps.length g.pc,.slice g.la g.ls.length g.lc] t)
 refine ⟨h.later (bAl w _),?_,?_,?_,?_,?_,lt_of_block e1⟩
 ·rw [cQa e1];rfl
 ·rw [cQa e1];rfl
 ·rw [cQa e1];rfl
 ·rw [cQa e1];rfl
 ·rw [cQa e1];rfl
theorem GB.later {g:GV}{w wr w':World}(h:GB g w wr)(hb:Below wr.heap.size wr w'):GB g w w':=by
 have e0:∀ j,w'.cell? ⟨w.heap.size,j,none⟩=wr.cell? ⟨w.heap.size,j,none⟩:=fun j=>hb.cell (p:=⟨w.heap.size,j,none⟩) h.lt0
 exact ⟨h.at_.later hb,(e0 0).trans h.g0,(e0 1).trans h.g1,(e0 2).trans h.g2,(e0 3).trans h.g3,(e0 4).trans h.g4,Nat.lt_of_lt_of_le h.lt0 hb.size⟩
theorem names_b (a1 a2:Option Addr)(c1 c2:Nat)(ts ns:List ByteArray)(w:World)(er at_:Int)(he:cF_ ts ns=(er,at_))(hz1:∀ s∈ts,s.size<=maxLen)(hz2:∀ s∈ns,s.size<=maxLen)(hr1:StrRow w a1 ts)(hr2:StrRow w a2 ns) :
  Calls Tryz.prog 27 #[.slice a1 ts.length c1,.slice a2 ns.length c2] w fun e w'=>e=.returned (.tuple #[.int .i64 er,.int .i64 at_])/\Below w.heap.size w w' :=
 (refcheck_any a1 a2 c1 c2 _ _ ts ns w rfl rfl hz1 hz2 hr1 hr2).mono fun e w' ⟨_,_,h,h1,h2,hb⟩=>⟨by rw [h,h1,h2,he],hb⟩
theorem eq0_b (n:Nat):((n:Int) == 0)=decide (n=0):=by
 by_cases h:n=0
 ·simp [h]
 ·simp only [h,decide_false,beq_eq_false_iff_ne,ne_eq];omega
theorem refcheck_G (g:GV)(w:World)(h:GAt 140737488355328 w g)(er at_:Int)(hE:cG_ g (cF_ g.ts g.ns)=(er,at_)) :
  Calls Tryz.prog 20 #[g.val] w fun e w'=>e=.returned (.tuple #[.int .i64 er,.int .i64 at_])/\Below w.heap.size w w':=by
 have HB0:Hid (Below w.heap.size w (w.alloc (gBox g))):=bAl w _
 have HG:Hid (∀ wr,Below (w.alloc (gBox g)).heap.size (w.alloc (gBox g)) wr->GB g w wr):=fun wr hb=>(GB.new h).later hb
 have HF:Hid (∀ wr,Below (w.alloc (gBox g)).heap.size (w.alloc (gBox g)) wr->Below w.heap.size w wr):=fun wr hb=>HB0.out.trans (hb.mono HB0.out.size)
 have HH:Hid (GAt 140737488355328 w g):=h
 have htl:=h.tl
 have hnl:=h.nl
 have hpl:=h.pl
 have hll:=h.ll
 clear h
 have HE0:Hid (cG_ g (cF_ g.ts g.ns)=(er,at_)):=hE
 unfold cG_ at hE
 by_cases a1:g.ts.length=0∨64 < g.ts.length
 ·rw [if_pos a1] at hE
  simp only [Prod.mk.injEq] at hE
  obtain ⟨rfl,rfl⟩:=hE
  by_cases a2:g.ts.length=0
  ·have t1:((g.ts.length:Int) == 0)=true:=by rw [eq0_b];simpa using a2
   clear a1 a2
   go_enter Tryz.func20,Tryz.ntmps20
   go_wp2
   go_returns
   exact ⟨rfl,HB0.out⟩
  ·have t1:((g.ts.length:Int) == 0)=false:=by rw [eq0_b];simpa using a2
   have t2:decide ((g.ts.length:Int) > 64)=true:=by simp;omega
   clear a1 a2
   go_enter Tryz.func20,Tryz.ntmps20
   go_wp2
   go_returns
   exact ⟨rfl,HB0.out⟩
 ·rw [if_neg a1] at hE
  have t1:((g.ts.length:Int) == 0)=false:=by rw [eq0_b];simp only [decide_eq_false_iff_not];omega
  have t2:decide ((g.ts.length:Int) > 64)=false:=by simp;omega
  have k1:¬ 64 < g.ts.length:=by omega
  clear a1
  by_cases a1:g.ns.length=0∨64 < g.ns.length
  ·rw [if_pos a1] at hE
   simp only [Prod.mk.injEq] at hE
   obtain ⟨rfl,rfl⟩:=hE
   by_cases a2:g.ns.length=0
   ·have t3:((g.ns.length:Int) == 0)=true:=by rw [eq0_b];simpa using a2
    clear a1 a2
    go_enter Tryz.func20,Tryz.ntmps20
    go_wp2
    go_returns
    exact ⟨rfl,HB0.out⟩
   ·have t3:((g.ns.length:Int) == 0)=false:=by rw [eq0_b];simpa using a2
    have t4:decide ((g.ns.length:Int) > 64)=true:=by simp;omega
    clear a1 a2
    go_enter Tryz.func20,Tryz.ntmps20
    go_wp2
    go_returns
    exact ⟨rfl,HB0.out⟩
  ·rw [if_neg a1] at hE
   have t3:((g.ns.length:Int) == 0)=false:=by rw [eq0_b];simp only [decide_eq_false_iff_not];omega
   have t4:decide ((g.ns.length:Int) > 64)=false:=by simp;omega
   clear a1
   obtain ⟨ne,na,HNM⟩:∃ ne na,Hid (cF_ g.ts g.ns=(ne,na)):=⟨_,_,rfl⟩
   rw [HNM.out] at hE
   simp only at hE
   have CN:Hid (∀ wr,Below (w.alloc (gBox g)).heap.size (w.alloc (gBox g)) wr->Calls Tryz.prog 27 #[.slice g.ta g.ts.length g.tc,.slice g.na g.ns.length g.nc] wr fun e w'=>e=.returned (.tuple #[.int .i64 ne,.int .i64 na])/\Below wr.heap.size wr w'):=fun wr hb=>names_b g.ta g.na g.tc g.nc g.ts g.ns wr ne na HNM.out HH.out.tz HH.out.nz (HG.out wr hb).at_.t (HG.out wr hb).at_.n_
   by_cases a2:ne≠0
   ·rw [if_pos a2] at hE
    simp only [Prod.mk.injEq] at hE
    obtain ⟨rfl,rfl⟩:=hE
    have t5:(ne != 0)=true:=by simpa using a2
    clear a2
    go_enter Tryz.func20,Tryz.ntmps20
    go_wp2_with (go_at_call 27;refine (CN.out _ (Below.refl _ _)).mono ?_;rintro e w1 ⟨rfl,hb1⟩)
    go_returns
    exact ⟨rfl,HF.out _ hb1⟩
   ·rw [if_neg a2] at hE
    obtain rfl:ne=0:=by simpa using a2
    clear a2
    by_cases a3:inN g g.start=false
    ·rw [if_pos a3] at hE
     simp only [Prod.mk.injEq] at hE
     obtain ⟨rfl,rfl⟩:=hE
     have a4:g.start < 0∨¬ g.start < 0/\g.start ≥ g.ns.length:=by unfold inN at a3;simp at a3;omega
     clear a3
     rcases a4 with a4 | ⟨a4,a5⟩
     ·have t6:decide (g.start < 0)=true:=by simpa using a4
      go_enter Tryz.func20,Tryz.ntmps20
      go_wp2_with (go_at_call 27;refine (CN.out _ (Below.refl _ _)).mono ?_;rintro e w1 ⟨rfl,hb1⟩;have k2:=(HG.out w1 hb1).g2;have kk1:=(HG.out w1 hb1).g1)
      go_returns
      exact ⟨rfl,HF.out _ hb1⟩
     ·have t6:decide (g.start < 0)=false:=by simpa using a4
      have t7:decide (g.start ≥ (g.ns.length:Int))=true:=by simpa using a5
      go_enter Tryz.func20,Tryz.ntmps20
      go_wp2_with (go_at_call 27;refine (CN.out _ (Below.refl _ _)).mono ?_;rintro e w1 ⟨rfl,hb1⟩;have k2:=(HG.out w1 hb1).g2;have kk1:=(HG.out w1 hb1).g1)
      go_returns
      exact ⟨rfl,HF.out _ hb1⟩
    ·rw [if_neg a3] at hE
     have a4:¬ g.start < 0/\¬ g.start ≥ (g.ns.length:Int):=by simp only [Bool.not_eq_false] at a3;unfold inN at a3;simp at a3;omega
     have t6:decide (g.start < 0)=false:=by simpa using a4.1
     have t7:decide (g.start ≥ (g.ns.length:Int))=false:=by simpa using a4.2
     clear a3 a4
     by_cases a5:g.ps.length=0∨256 < g.ps.length
     ·rw [if_pos a5] at hE
      simp only [Prod.mk.injEq] at hE
      obtain ⟨rfl,rfl⟩:=hE
      by_cases a6:g.ps.length=0
      ·have t8:((g.ps.length:Int) == 0)=true:=by rw [eq0_b];simpa using a6
       clear a5 a6
       go_enter Tryz.func20,Tryz.ntmps20
       go_wp2_with (go_at_call 27;refine (CN.out _ (Below.refl _ _)).mono ?_;rintro e w1 ⟨rfl,hb1⟩;have k2:=(HG.out w1 hb1).g2;have kk1:=(HG.out w1 hb1).g1;have k3:=(HG.out w1 hb1).g3)
       go_returns
       exact ⟨rfl,HF.out _ hb1⟩
      ·have t8:((g.ps.length:Int) == 0)=false:=by rw [eq0_b];simpa using a6
       have t9:decide ((g.ps.length:Int) > 256)=true:=by simp;omega
       clear a5 a6
       go_enter Tryz.func20,Tryz.ntmps20
       go_wp2_with (go_at_call 27;refine (CN.out _ (Below.refl _ _)).mono ?_;rintro e w1 ⟨rfl,hb1⟩;have k2:=(HG.out w1 hb1).g2;have kk1:=(HG.out w1 hb1).g1;have k3:=(HG.out w1 hb1).g3)
       go_returns
       exact ⟨rfl,HF.out _ hb1⟩
     ·rw [if_neg a5] at hE
      have t8:((g.ps.length:Int) == 0)=false:=by rw [eq0_b];simp only [decide_eq_false_iff_not];omega
      have t9:decide ((g.ps.length:Int) > 256)=false:=by simp;omega
      have HEE:Hid ((if (firstU (prodU g) g.ps.length 0).1≠0 then firstU (prodU g) g.ps.length 0 else if 32 < g.ls.length then (37,0) else firstU (lU_ g) g.ls.length 0)=(er,at_)):=hE
      clear a5 hE
      have CP:Hid (∀ wr (i:Nat),Below (w.alloc (gBox g)).heap.size (w.alloc (gBox g)) wr->i < g.ps.length->Calls Tryz.prog 28 #[g.val,.int .i64 i] wr fun e w'=>e=.returned (.int .i64 (prodU g i))/\Below wr.heap.size wr w'):=fun wr i hb hi=>refprod_any g i wr (HG.out wr hb).at_ hi
      have CL:Hid (∀ wr (i:Nat),Below (w.alloc (gBox g)).heap.size (w.alloc (gBox g)) wr->i < g.ls.length->Calls Tryz.prog 29 #[g.val,.int .i64 i] wr fun e w'=>e=.returned (.int .i64 (lU_ g i))/\Below wr.heap.size wr w'):=fun wr i hb hi=>reflevel_any g i wr (HG.out wr hb).at_ hi
      go_enter Tryz.func20,Tryz.ntmps20
      go_wp2_with (go_at_call 27;refine (CN.out _ (Below.refl _ _)).mono ?_;rintro e w1 ⟨rfl,hb1⟩;have k2:=(HG.out w1 hb1).g2;have kk1:=(HG.out w1 hb1).g1;have k3:=(HG.out w1 hb1).g3)
      clear k2 kk1 k3
      generalize w.alloc (gBox g)=W at *
      go_loopw [6] (fun z wr=>∃ k:Nat,k<=g.ps.length/\z=.int .i64 k/\Below W.heap.size W wr/\Hid (∀ j,j < k->prodU g j=0)) (fun z _=>g.ps.length - (intOf z).toNat)
      case atStart=>exact ⟨0,Nat.zero_le _,rfl,hb1,fun j hj=>by omega⟩
      case round =>
       clear hb1
       obtain ⟨k,hk,rfl,hb,HA⟩:=hrel
       have HW:Hid (GB g w wr):=HG.out wr hb
       have q0:=HW.out.g0
       have q1:=HW.out.g1
       have q2:=HW.out.g2
       have q3:=HW.out.g3
       have q4:=HW.out.g4
       by_cases hlt:k < g.ps.length
       ·have HIT:Hid (prodU g k≠0->(prodU g k,(k:Int))=(er,at_)):=fun e=>by
         have h1:=firstU_hit hlt HA.out e
         have h2:=HEE.out
         rw [h1,if_pos e] at h2
         exact h2
        have HST:Hid (prodU g k=0->∀ j,j < k+1->prodU g j=0):=fun e j hj=>by
         rcases Nat.lt_succ_iff_lt_or_eq.1 hj with r | rfl
         ·exact HA.out j r
         ·exact e
        have cp:=CP.out wr k hb hlt
        have CPk:Hid (Calls Tryz.prog 28 #[g.val,.int .i64 k] wr fun e w'=>e=.returned (.int .i64 (prodU g k))/\Below wr.heap.size wr w'):=cp
        clear cp HA
        generalize prodU g k=x at *
        by_cases hx:x=0
        ·have HS1:Hid _:=HST.out hx
         subst hx
         clear HIT HST
         go_wp2_with (go_at_call 28;refine CPk.out.mono ?_;rintro e w2 ⟨rfl,hb2⟩)
         go_roundw
         case rel=>exact ⟨k+1,by omega,by go_num,hb.trans (hb2.mono hb.size),HS1.out⟩
         case measure=>simp [intOf];omega
        ·have HS1:Hid _:=HIT.out hx
         have t10:(x != 0)=true:=by simpa using hx
         clear HIT HST hx
         go_wp2_with (go_at_call 28;refine CPk.out.mono ?_;rintro e w2 ⟨rfl,hb2⟩)
         go_returns
         have:=HS1.out
         simp only [Prod.mk.injEq] at this
         obtain ⟨rfl,rfl⟩:=this
         exact ⟨rfl,HF.out _ (hb.trans (hb2.mono hb.size))⟩
       ·have HL:Hid ((if 32 < g.ls.length then (37,0) else firstU (lU_ g) g.ls.length 0)=(er,at_)):=by
         have h2:=HEE.out
         rw [firstU_none fun j hj=>HA.out j (by omega)] at h2
         exact h2
        clear HEE HA CP
        by_cases a6:32 < g.ls.length
        ·have t10:decide ((g.ls.length:Int) > 32)=true:=by simp;omega
         have HL2:=HL.out
         rw [if_pos a6] at HL2
         simp only [Prod.mk.injEq] at HL2
         obtain ⟨rfl,rfl⟩:=HL2
         clear a6
         go_wp2
         go_returns
         exact ⟨rfl,HF.out _ hb⟩
        ·have t10:decide ((g.ls.length:Int) > 32)=false:=by simp;omega
         have HL2:Hid (firstU (lU_ g) g.ls.length 0=(er,at_)):=by
          have h2:=HL.out
          rw [if_neg a6] at h2
          exact h2
         clear a6 HL
         go_wp2
         obtain ⟨wo,rfl⟩:∃ wo:World,wo=wr:=⟨_,rfl⟩
         go_loopw [7] (fun z wr=>∃ k:Nat,k<=g.ls.length/\z=.int .i64 k/\Below W.heap.size W wr/\Hid (∀ j,j < k->lU_ g j=0)) (fun z _=>g.ls.length - (intOf z).toNat)
         case atStart=>exact ⟨0,Nat.zero_le _,rfl,hb,fun j hj=>by omega⟩
         case round =>
          clear hb HW q0 q1 q2 q3 q4 hlt hk
          obtain ⟨k,hk,rfl,hb,HA⟩:=hrel
          have HW:Hid (GB g w wr):=HG.out wr hb
          have q0:=HW.out.g0
          have q1:=HW.out.g1
          have q2:=HW.out.g2
          have q3:=HW.out.g3
          have q4:=HW.out.g4
          by_cases hlt:k < g.ls.length
          ·have HIT:Hid (lU_ g k≠0->(lU_ g k,(k:Int))=(er,at_)):=fun e=>by
            have h1:=firstU_hit hlt HA.out e
            have h2:=HL2.out
            rw [h1] at h2
            exact h2
           have HST:Hid (lU_ g k=0->∀ j,j < k+1->lU_ g j=0):=fun e j hj=>by
            rcases Nat.lt_succ_iff_lt_or_eq.1 hj with r | rfl
            ·exact HA.out j r
            ·exact e
           have CPk:Hid (Calls Tryz.prog 29 #[g.val,.int .i64 k] wr fun e w'=>e=.returned (.int .i64 (lU_ g k))/\Below wr.heap.size wr w'):=CL.out wr k hb hlt
           clear HA
           generalize lU_ g k=x at *
           by_cases hx:x=0
           ·have HS1:Hid _:=HST.out hx
            subst hx
            clear HIT HST
            go_wp2_with (go_at_call 29;refine CPk.out.mono ?_;rintro e w2 ⟨rfl,hb2⟩)
            go_roundw
            case rel=>exact ⟨k+1,by omega,by go_num,hb.trans (hb2.mono hb.size),HS1.out⟩
            case measure=>simp [intOf];omega
           ·have HS1:Hid _:=HIT.out hx
            have t11:(x != 0)=true:=by simpa using hx
            clear HIT HST hx
            go_wp2_with (go_at_call 29;refine CPk.out.mono ?_;rintro e w2 ⟨rfl,hb2⟩)
            go_returns
            have:=HS1.out
            simp only [Prod.mk.injEq] at this
            obtain ⟨rfl,rfl⟩:=this
            exact ⟨rfl,HF.out _ (hb.trans (hb2.mono hb.size))⟩
          ·have HL3:=HL2.out
           rw [firstU_none fun j hj=>HA.out j (by omega)] at HL3
           simp only [Prod.mk.injEq] at HL3
           obtain ⟨rfl,rfl⟩:=HL3
           clear HA HL2
           go_wp2
           go_returns
           exact ⟨rfl,HF.out _ hb⟩
theorem refmay_G (g:GV)(w:World)(h:GAt 140737488355328 w g) :
  Calls Tryz.prog 6 #[g.val] w fun e w'=>e=.returned (.int .i64 (cG_ g (cF_ g.ts g.ns)).1)/\Below w.heap.size w w':=by
 obtain ⟨er,at_,HE⟩:∃ er at_,Hid (cG_ g (cF_ g.ts g.ns)=(er,at_)):=⟨_,_,rfl⟩
 have hx:(cG_ g (cF_ g.ts g.ns)).1=er:=by rw [HE.out]
 rw [hx]
 have HC:Hid (∀ w',Below w.heap.size w w'->Calls Tryz.prog 20 #[g.val] w' fun e w''=>e=.returned (.tuple #[.int .i64 er,.int .i64 at_])/\Below w'.heap.size w' w''):=fun w' hb=>refcheck_G g w' (h.later hb) er at_ HE.out
 have HGB:Hid (GB g w (w.alloc (gBox g))):=GB.new h
 have q0:=HGB.out.g0
 have q1:=HGB.out.g1
 have q2:=HGB.out.g2
 have q3:=HGB.out.g3
 have q4:=HGB.out.g4
 clear hx h
 go_enter Tryz.func6,Tryz.ntmps6
 go_wp2_with (go_at_call 20;refine (HC.out _ (by go_grown)).mono ?_;rintro e w2 ⟨rfl,hb2⟩)
 go_ret
 exact ⟨rfl,by first | exact hb2 | exact (bAl w _).trans (hb2.mono (bAl w _).size)⟩
def offU (v:Bool)(M:List Bool)(k:Nat):List Int:=((List.range k).filter fun i=>decide (M.getD i false=v)).map fun (i:Nat)=>(i:Int)
theorem offU_succ (v:Bool)(M:List Bool)(k:Nat):offU v M (k+1)=if M.getD k false=v then offU v M k++[(k:Int)] else offU v M k:=by
 unfold offU
 rw [List.range_succ,List.filter_append,List.map_append]
 by_cases h:M.getD k false=v
 ·have e:List.filter (fun i=>decide (M.getD i false=v)) [k]=[k]:=by rw [List.filter_cons,if_pos (decide_eq_true h)];rfl
  rw [if_pos h,e];rfl
 ·have e:List.filter (fun i=>decide (M.getD i false=v)) [k]=[]:=by rw [List.filter_cons,if_neg (by rw [decide_eq_false h];decide)];rfl
  rw [if_neg h,e];simp
theorem offU_len (v:Bool)(M:List Bool)(k:Nat):(offU v M k).length<=k:=by
 unfold offU
 rw [List.length_map]
 exact Nat.le_trans (List.length_filter_le _ _) (by simp)
def ClR (g:GV)(Ct Cn:Nat->Prop):Prop:=Cn g.start.toNat/\∀ p∈g.ps,Cn p.left.toNat->∀ s∈p.right,(s.1=1->Ct s.2.toNat)/\(s.1=2->Cn s.2.toNat)
def InM (T N:List Bool)(s:Int×Int):Prop:=(s.1=1->T.getD s.2.toNat false=true)/\(s.1=2->N.getD s.2.toNat false=true)
structure RLst (g:GV)(T N:List Bool):Prop where
 tl:T.length=g.ts.length
 nl:N.length=g.ns.length
 st:N.getD g.start.toNat false=true
 clo:∀ p∈g.ps,N.getD p.left.toNat false=true->∀ s∈p.right,InM T N s
 lst:∀ Ct Cn,ClR g Ct Cn->(∀ i,N.getD i false=true->Cn i)/\(∀ i,T.getD i false=true->Ct i)
structure RW (g:GV)(w:World)(T N:List Bool)(wr:World):Prop where
 tl:T.length=g.ts.length
 nl:N.length=g.ns.length
 st:N.getD g.start.toNat false=true
 lst:∀ Ct Cn,ClR g Ct Cn->(∀ i,N.getD i false=true->Cn i)/\(∀ i,T.getD i false=true->Ct i)
 tb:BB wr (w.heap.size+1) T
 nb:BB wr (w.heap.size+1+1) N
 box:wr.heap[w.heap.size]?=some (gBox g)
 bel:Below w.heap.size w wr
theorem RW.any {g:GV}{w wr w':World}{T N:List Bool}(h:RW g w T N wr)(hb:Below wr.heap.size wr w'):RW g w T N w' :=
 ⟨h.tl,h.nl,h.st,h.lst,h.tb.later hb,h.nb.later hb,(hb.block _ (lt_of_block h.box)).trans h.box,h.bel.trans (hb.mono h.bel.size)⟩
theorem set_true {M:List Bool}{i j:Nat}(h:M.getD j false=true):(M.set i true).getD j false=true:=by
 rw [getD_set_b]
 split
 ·rfl
 ·exact h
theorem set_self {M:List Bool}{i:Nat}(h:i < M.length):(M.set i true).getD i false=true:=by
 rw [getD_set_b,if_pos ⟨rfl,h⟩]
theorem RW.setT {g:GV}{w wr:World}{T N:List Bool}(h:RW g w T N wr){p:PV}(hp:p∈g.ps)(hl:N.getD p.left.toNat false=true){s:Int×Int}(hs:s∈p.right)(h1:s.1=1):RW g w (T.set s.2.toNat true) N (wr.setCell ⟨w.heap.size+1,s.2.toNat,none⟩ (.bool true)) :=
 ⟨by rw [List.length_set];exact h.tl,h.nl,h.st,fun Ct Cn hC=>⟨(h.lst Ct Cn hC).1,fun i hi=>by
  rw [getD_set_b] at hi
  split at hi
  ·rename_i q
   rw [<- q.1]
   exact (hC.2 p hp ((h.lst Ct Cn hC).1 _ hl) s hs).1 h1
  ·exact (h.lst Ct Cn hC).2 i hi⟩,h.tb.set _ _,h.nb.kept (Below.heap_setCell _ _ _ _ (by show w.heap.size+1+1≠w.heap.size+1;omega)),(Below.heap_setCell _ _ _ _ (by show w.heap.size≠w.heap.size+1;omega)).trans h.box,h.bel.setCell (p:=⟨w.heap.size+1,s.2.toNat,none⟩) (by show w.heap.size<=w.heap.size+1;omega) _⟩
theorem RW.setN {g:GV}{w wr:World}{T N:List Bool}(h:RW g w T N wr){p:PV}(hp:p∈g.ps)(hl:N.getD p.left.toNat false=true){s:Int×Int}(hs:s∈p.right)(h1:s.1=2):RW g w T (N.set s.2.toNat true) (wr.setCell ⟨w.heap.size+1+1,s.2.toNat,none⟩ (.bool true)) :=
 ⟨h.tl,by rw [List.length_set];exact h.nl,set_true h.st,fun Ct Cn hC=>⟨fun i hi=>by
  rw [getD_set_b] at hi
  split at hi
  ·rename_i q
   rw [<- q.1]
   exact (hC.2 p hp ((h.lst Ct Cn hC).1 _ hl) s hs).2 h1
  ·exact (h.lst Ct Cn hC).1 i hi,(h.lst Ct Cn hC).2⟩,h.tb.kept (Below.heap_setCell _ _ _ _ (by show w.heap.size+1≠w.heap.size+1+1;omega)),h.nb.set _ _,(Below.heap_setCell _ _ _ _ (by show w.heap.size≠w.heap.size+1+1;omega)).trans h.box,h.bel.setCell (p:=⟨w.heap.size+1+1,s.2.toNat,none⟩) (by show w.heap.size<=w.heap.size+1+1;omega) _⟩
theorem rep_no {n i:Nat}:(List.replicate n false).getD i false=false:=by
 simp [List.getD,List.getElem?_replicate];split<;>rfl
theorem RW.first (g:GV)(w:World)(m:Nat)(hm:g.start.toNat=m)(hl:m < g.ns.length):RW g w (List.replicate g.ts.length false) ((List.replicate g.ns.length false).set m true) (((w.alloc (gBox g)).alloc (.cells (madeCells #[.bool false] g.ts.length) 4)).alloc (.cells ((madeCells #[.bool false] g.ns.length).setIfInBounds m (.bool true)) 4)):=by
 have b1:=bAl w (gBox g)
 have z1:(w.alloc (gBox g)).heap.size=w.heap.size+1:=by simp
 have X1:(w.alloc (gBox g)).heap[w.heap.size]?=some (gBox g):=heap_alloc_new _ _
 generalize w.alloc (gBox g)=w1 at *
 have b2:=bAl w1 (.cells (madeCells #[.bool false] g.ts.length) 4)
 have z2:(w1.alloc (.cells (madeCells #[.bool false] g.ts.length) 4)).heap.size=w.heap.size+1+1:=by simp [z1]
 have X2:=BB.made w1 g.ts.length
 generalize w1.alloc (.cells (madeCells #[.bool false] g.ts.length) 4)=w2 at *
 have b3:=bAl w2 (.cells ((madeCells #[.bool false] g.ns.length).setIfInBounds m (.bool true)) 4)
 have X3:BB (w2.alloc (.cells ((madeCells #[.bool false] g.ns.length).setIfInBounds m (.bool true)) 4)) w2.heap.size ((List.replicate g.ns.length false).set m true):=by
  unfold BB
  rw [heap_alloc_new,made_listF,List.setIfInBounds_toArray,List.map_set,List.map_replicate]
 generalize w2.alloc (.cells ((madeCells #[.bool false] g.ns.length).setIfInBounds m (.bool true)) 4)=w3 at *
 rw [z1] at X2 b2
 rw [z2] at X3 b3
 refine ⟨by simp,by simp,by rw [hm];exact set_self (by simpa using hl),fun Ct Cn hC=>⟨fun i hi=>?_,fun i hi=>?_⟩,?_,X3,?_,?_⟩
 ·rw [getD_set_b] at hi
  split at hi
  ·rename_i q
   rw [<- q.1,<- hm]
   exact hC.1
  ·rw [rep_no] at hi;cases hi
 ·rw [rep_no] at hi;cases hi
 ·exact X2.later (by rw [z2];exact b3)
 ·exact (b3.block _ (by omega)).trans ((b2.block _ (by omega)).trans X1)
 ·exact (b1.trans (b2.mono (by omega))).trans (b3.mono (by omega))
def CloK (g:GV)(T N:List Bool)(k:Nat):Prop:=∀ j,j < k->N.getD (g.ps.getD j .none).left.toNat false=true->∀ s∈(g.ps.getD j .none).right,InM T N s
theorem InM.more {T N:List Bool}{s:Int×Int}(h:InM T N s)(i:Nat):InM (T.set i true) N s:=⟨fun e=>set_true (h.1 e),h.2⟩
theorem CloK.more {g:GV}{T N:List Bool}{k:Nat}(h:CloK g T N k)(i:Nat):CloK g (T.set i true) N k:=fun j hj hl s hs=>(h j hj hl s hs).more i
end Go.Proofs.YtockbobpmiagiaaGreatDoor
