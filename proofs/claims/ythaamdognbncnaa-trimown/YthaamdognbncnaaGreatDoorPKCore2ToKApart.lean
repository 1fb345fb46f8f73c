import Derived.Test.YthaamdognbncnaaGreatDoorPKBaseToKSy2
import Derived.Test.YthaamdognbncnaaGreatDoorPGUsesToGUses2
namespace Go.Proofs.YthaamdognbncnaaGreatDoor
set_option linter.unusedVariables false
set_option maxRecDepth 100000
set_option maxHeartbeats 16000000
open Go.RowKit Go.Maps
def markC (i k:Nat):Int:=-5 - 100003*((i:Int)+1) - 7*(k:Int)
def mkCore (i k:Nat):List Value:=[.int .i64 (markC i k),.int .i64 0]
theorem markcore_ik (i k:Nat)(w:World)(hi:i<=100000000)(hk:k<=1000000000) :
  Calls Tryz.prog 79 #[.int .i64 i,.int .i64 k] w fun e w'=>e=.returned (.agg #[.int .i64 (markC i k),.int .i64 0])/\Below w.heap.size w w':=by
 go_enter Tryz.func79,Tryz.ntmps79
 go_wp2
 go_returns
 exact ⟨rfl,by go_grown⟩
theorem enter_markCo (args:Array Value)(w:World):(callFunc 79 args).run Tryz.prog w=.ok (.enter 79 args) w:=by kernel_rfl
theorem step_markCo {ops:Array Oper}{o:Oper}{a:Act}{w:World}{K:Act->World->Prop}{Q:Exit->Act->World->Prop}{E:Prop}
  (hg:o.guard=none) (x y:Operand) (hop:o.op=Op.call { callee:=Callee.value (Operand.func 79),args:=#[x,y],argTypes:=#[3,3] })
  (i k:Nat) (hx:a.eval x=.int .i64 i) (hy:a.eval y=.int .i64 k) (hi:i<=100000000) (hk:k<=1000000000)
  (hK:∀ w',Below w.heap.size w w'->K (a.put o.dst (.agg #[.int .i64 (markC i k),.int .i64 0])) w') :
  if Region.wanted o (yielded ops a.tmps)=true then Oper.wp Tryz.prog o a w K Q else E:=by
 have hw:Region.wanted o (yielded ops a.tmps)=true:=by simp [Region.wanted,hg]
 rw [if_pos hw]
 have hf:a.eval (Operand.func 79)=.func (.func 79) #[] #[]:=rfl
 have hcf:=enter_markCo #[.int .i64 i,.int .i64 k] w
 have e:(execOp a.eval o).run Tryz.prog w=.ok (.enter 79 #[.int .i64 i,.int .i64 k]) w:=by
  simp [execOp,hop,resolve,invoke,hx,hy,hf,Deferred.ofValue,hcf]
 show o.upon Tryz.prog a K Q ((execOp a.eval o).run Tryz.prog w)
 rw [e,Oper.upon_enter]
 refine (markcore_ik i k w hi hk).mono ?_
 rintro e w' ⟨rfl,hb⟩
 exact hK w' hb
theorem infoCRK:SliceInfo 118:=sliceInfo_of (by kernel_rfl)
theorem mkCore_len:∀ i k,(mkCore i k).length=2:=fun _ _=>rfl
theorem apart_cores (q:Nat)(lv:Value)(L:List LE)(X:Nat->List Value)(w:World)(hq:w.cell? ⟨q,5,none⟩=some lv)(hl:HL 118 w lv (L.map LE.v))(hrow:∀ j (h:j < L.length),w.ownsRow 0 120 2 L[j].v L[j].n (X j))(hnd:∀ j j' (h:j < L.length) (h':j' < L.length),j≠j'->L[j].g≠L[j'].g)(hlen:L.length<=100000000)(hn:∀ e∈L,e.n<=100000000) :
  Calls Tryz.prog 41 #[.pointer (some ⟨q,0,none⟩)] w fun e w'=>e=.returned (.bool true)/\KFr L w w':=by
 obtain ⟨i0,hi,hz0,hz1,hz2⟩:=infoCore_parts
 have PS:Hid (P1I 120 2 mkCore w L 0 0 w):=P1I.start hrow hnd
 have NE:Hid (∀ w',KFr L w w'->HL 118 w' lv (L.map LE.v)):=fun w' hf=>hl.setK hf fun e he=>by
  obtain ⟨j,hj,rfl⟩:=List.getElem_of_mem he
  obtain ⟨cur,h1,_⟩:=row_block (hrow j hj)
  exact hl.ne h1 (by decide)
 have HN:Hid (∀ {j eg en ec:Nat},L[j]?=some ⟨eg,en,ec⟩->en<=100000000):=fun {j eg en ec} he=>hn ⟨eg,en,ec⟩ (List.mem_of_getElem? he)
 have LT:Hid (∀ z,lv.ownBlock=some z->z < w.heap.size):=hl.lt
 obtain ⟨la,lc,rfl⟩:=hl.slice
 rw [List.length_map] at hq NE LT
 clear hrow hnd hn hl
 go_enter Tryz.func41,Tryz.ntmps41
 go_wp2
 go_loopw [4] (fun i wr=>∃ j:Nat,i=.int .i64 j/\j<=L.length/\P1I 120 2 mkCore w L j 0 wr) (fun i _=>L.length - (intOf i).toNat)
 case atStart=>exact ⟨0,rfl,Nat.zero_le _,PS.out⟩
 case round =>
  clear PS hq
  obtain ⟨j,rfl,hj,hP⟩:=hrel
  by_cases hlt:j < L.length
  ·have hL:=NE.out wr hP.fr
   obtain ⟨lb,rfl⟩:∃ lb,la=some ⟨lb,0,none⟩:=by
    obtain ⟨g,c,e,_⟩:=hL.at j L[j].v (by simp [hlt])
    simp only [Value.slice.injEq] at e
    exact ⟨g,e.1⟩
   obtain ⟨eg,en,ec,HE,hcl⟩:=le_at hL hlt
   have hen:=HN.out HE.out
   go_wp2
   obtain ⟨wo,rfl⟩:∃ wo:World,wo=wr:=⟨_,rfl⟩
   go_loopw [5] (fun k wr=>∃ m:Nat,k=.int .i64 m/\m<=en/\P1I 120 2 mkCore w L j m wr) (fun k _=>en - (intOf k).toNat)
   case atStart=>exact ⟨0,rfl,Nat.zero_le _,hP⟩
   case round =>
    clear hP hL hcl
    obtain ⟨m,rfl,hm,hP⟩:=hrel
    obtain ⟨_,_,_,HE2,hcl⟩:=le_at (NE.out wr hP.fr) hlt
    have:=HE.out.symm.trans HE2.out
    simp only [Option.some.injEq,LE.mk.injEq] at this
    obtain ⟨rfl,rfl,rfl⟩:=this
    clear HE2
    by_cases hlm:m < en
    ·have HP:Hid (P1I 120 2 mkCore w L j m wr):=hP
     have AF:Hid (∀ w4,Below wr.drew.heap.size wr.drew w4->(∃ u,w4.cell? ⟨eg,m*2,none⟩=some u)/\(∃ u,w4.cell? ⟨eg,m*2+1,none⟩=some u)/\w4.frozen? ⟨eg,m*2,none⟩=false/\w4.frozen? ⟨eg,m*2+1,none⟩=false/\w4.cell? ⟨lb,j,none⟩=some (.slice (some ⟨eg,0,none⟩) en ec)):=fun w4 hb=>by
      have h4:=HP.out.later (below_step (Below.refl _ _).drew hb)
      refine ⟨h4.cellE HE.out _ (by omega),h4.cellE HE.out _ (by omega),h4.freeE HE.out _,h4.freeE HE.out _,?_⟩
      obtain ⟨_,_,_,HE2,hcl⟩:=le_at (NE.out w4 h4.fr) hlt
      have:=HE.out.symm.trans HE2.out
      simp only [Option.some.injEq,LE.mk.injEq] at this
      obtain ⟨rfl,rfl,rfl⟩:=this
      exact hcl
     obtain ⟨⟨u0,cu0⟩,⟨v0,cv0⟩,fu0,fv0,_⟩:=AF.out wr.drew (Below.refl _ _)
     clear hP
     go_wp2
     go_region_law (first
      | (refine step_markCo (by rfl) _ _ (by rfl) j m (by rfl) (by rfl) (by omega) (by omega) ?_;intro w4 hb4;obtain ⟨⟨u4,cu4⟩,⟨v4,cv4⟩,fu4,fv4,cl4⟩:=AF.out w4 hb4))
     all_goals go_wp2
     all_goals
      go_roundw
      case rel=>exact ⟨m+1,by go_num,by omega,(HP.out.later (below_step (Below.refl _ _).drew hb4)).set2E HE.out hlm _ _ rfl⟩
      case measure=>simp [intOf];omega
    ·obtain rfl:m=en:=by omega
     go_wp2
     go_roundw
     case rel=>exact ⟨j+1,by go_num,by omega,hP.nextE HE.out⟩
     case measure=>simp [intOf];omega
  ·obtain rfl:j=L.length:=by omega
   have F1:Hid (KFr L w wr):=hP.fr
   have HP2:Hid (P2 120 2 mkCore wr L [] ([]:List Value).length wr):=P2.start hP
   have NE2:Hid (∀ w',KFr L wr w'->HL 118 w' (.slice la L.length lc) (L.map LE.v)):=fun w' hf=>NE.out w' (F1.out.trans hf)
   have INF:Hid (Tryz.prog.info? 120=some i0/\i0.zero=some (.agg #[.int .i64 0,.int .i64 0])/\i0.size=2/\i0.bytes=16):=⟨hi,hz0,hz1,hz2⟩
   clear hP NE LT hlt hj hi hz0 hz1 hz2
   go_wp2
   obtain ⟨w1,rfl⟩:∃ w1:World,w1=wr:=⟨_,rfl⟩
   go_loopw [6,7] (fun gr i wr=>∃ gs:List Value,i=.int .i64 gs.length/\P2 120 2 mkCore w1 L gs gs.length wr/\HL 118 wr gr gs/\(∀ z,gr.ownBlock=some z->w1.heap.size<=z)) (fun _ i _=>L.length - (intOf i).toNat)
   case atStart=>exact ⟨[],rfl,HP2.out,HL.nil _ _,fun z hz=>by simp [Value.ownBlock] at hz⟩
   case round =>
    clear HP2
    obtain ⟨gs,rfl,hP,hG,hlo'⟩:=hrel
    have hlo:Hid _:=hlo'
    clear hlo'
    obtain ⟨ga,gc,rfl⟩:=hG.slice
    by_cases hlt:gs.length < L.length
    ·have hL:=NE2.out wr hP.fr
     obtain ⟨lb,rfl⟩:∃ lb,la=some ⟨lb,0,none⟩:=by
      obtain ⟨g,c,e,_⟩:=hL.at gs.length L[gs.length].v (by simp [hlt])
      simp only [Value.slice.injEq] at e
      exact ⟨g,e.1⟩
     obtain ⟨eg,en,ec,HE,hcl⟩:=le_at hL hlt
     have hen:=HN.out HE.out
     have HB:Hid (P2g 120 2 mkCore w1 L gs 0 (.slice (some ⟨eg,0,none⟩) en ec) wr):=hP.beginE HE.out
     clear hP hL
     go_wp2
     obtain ⟨wo,rfl⟩:∃ wo:World,wo=wr:=⟨_,rfl⟩
     go_loopw [8,9] (fun g k wr=>∃ m:Nat,k=.int .i64 m/\m<=40/\P2g 120 2 mkCore w1 L gs m g wr/\HL 118 wr (.slice ga gs.length gc) gs) (fun _ k _=>40 - (intOf k).toNat)
     case atStart=>exact ⟨0,rfl,by omega,HB.out,hG⟩
     case round =>
      clear HB hG hcl
      obtain ⟨m,rfl,hm,hg',hG'⟩:=hrel
      have hg:Hid (P2g 120 2 mkCore w1 L gs m _ wr):=hg'
      have hG:Hid (HL 118 wr (.slice ga gs.length gc) gs):=hG'
      have hcur:Hid _:=hg'.curE HE.out
      obtain ⟨ca,cc,rfl⟩:=row_slice hcur.out
      clear hg' hG'
      by_cases hlm:m < 40
      ·go_wp2_with (first
        | (go_at_call 79;refine (markcore_ik gs.length (en+m) wr (by omega) (by omega)).mono ?_;rintro e w4 ⟨rfl,hb4⟩)
        | (at_builtin;refine wpList_row_append Tryz.underlying118 INF.out.1 INF.out.2.1 INF.out.2.2.1 INF.out.2.2.2 rfl (by decide) (by decide) rfl _ _ rfl _ (en+m) _ rfl (row_later (row_later hcur.out hb4) (bAl w4 _)) w4.heap.size 1 (mkCore gs.length (en+m)) rfl rfl (two_new w4 _ _ _) (by intro u hu;simp [mkCore] at hu;rcases hu with rfl | rfl<;>rfl) (by omega) ?_;intro v5 w5 ho5 ha5))
       go_roundw
       case rel=>exact ⟨m+1,by go_num,by omega,(hg.out.later (below_step hb4 (bAl w4 _))).appE HE.out ha5 ho5,(hG.out.later (below_step hb4 (bAl w4 _))).app (row_later (row_later hcur.out hb4) (bAl w4 _)) (by decide) ha5⟩
       case measure=>simp [intOf];omega
      ·obtain rfl:m=40:=by omega
       go_wp2_with (at_builtin;refine wpList_hl_append Tryz.underlying33 infoCRK rfl _ _ rfl (.slice ga gs.length gc) gs rfl (hG.out.later (bAl wr _)) wr.heap.size 1 _ rfl (one_new wr _ _ 0 _ rfl) rfl (by omega) ?_;intro v6 w6 hl6 hg6)
       go_roundw
       case rel =>
        refine ⟨gs++[.slice ca (en+40) cc],by simp,(hg.out.later (bAl wr _)).fin (hG.out.later (bAl wr _)) (by decide) hlo.out hg6.grown,hl6,fun z hz=>?_⟩
        rcases hg6.moved with r | ⟨k,r,hk⟩
        ·exact hlo.out z (r ▸ hz)
        ·rw [hz] at r
         have:=Option.some.inj r
         have h1:=hg.out.p.fr.size
         have h2:wr.heap.size<=(wr.alloc (.cells #[.slice ca (en+40) cc] 118)).heap.size:=(bAl wr _).size
         omega
       case measure=>simp [intOf];omega
    ·have hlx:Hid (gs.length=L.length):=by have:=hP.len;show _=_;omega
     have F2:Hid (KFr L w wr):=F1.out.trans hP.fr
     have NE3:Hid (∀ w',Below wr.heap.size wr w'->HL 118 w' (.slice la L.length lc) (L.map LE.v)):=fun w' hf=>NE2.out w' (hP.fr.trans (KFr.ofBelow hf))
     have HP:Hid (∀ w',Below wr.heap.size wr w'->P2 120 2 mkCore w1 L gs gs.length w'):=fun w' hf=>hP.later hf
     have HG:Hid (∀ w',Below wr.heap.size wr w'->HL 118 w' (.slice ga gs.length gc) gs):=fun w' hf=>hG.later hf
     clear hP hG NE2 F1 hlo
     go_wp2
     clear hlt
     obtain ⟨w2,rfl⟩:∃ w2:World,w2=wr:=⟨_,rfl⟩
     go_loopw [10] (fun i wr=>∃ j:Nat,i=.int .i64 j/\j<=L.length/\Below w2.heap.size w2 wr) (fun i _=>L.length - (intOf i).toNat)
     case atStart=>exact ⟨0,rfl,Nat.zero_le _,Below.refl _ _⟩
     case round =>
      obtain ⟨j,rfl,hj,hb⟩:=hrel
      by_cases hlt:j < L.length
      ·have hL:=NE3.out wr hb
       obtain ⟨lb,rfl⟩:∃ lb,la=some ⟨lb,0,none⟩:=by
        obtain ⟨g,c,e,_⟩:=hL.at j L[j].v (by simp [hlt])
        simp only [Value.slice.injEq] at e
        exact ⟨g,e.1⟩
       obtain ⟨eg,en,ec,HE,_⟩:=le_at hL hlt
       have hen:=HN.out HE.out
       obtain ⟨xb,xc,hgs,_⟩:=(HP.out wr hb).lookE mkCore_len HE.out (by rw [hlx.out];exact hlt)
       obtain ⟨gb,gc',e,_⟩:=(HG.out wr hb).at j _ hgs
       simp only [Value.slice.injEq] at e
       obtain ⟨rfl,_,rfl⟩:=e
       have AF:Hid (∀ w',Below w2.heap.size w2 w'->w'.cell? ⟨lb,j,none⟩=some (.slice (some ⟨eg,0,none⟩) en ec)/\w'.cell? ⟨gb,j,none⟩=some (.slice (some ⟨xb,0,none⟩) (en+40) xc)/\(∀ m,m < en+40->w'.cell? ⟨xb,m*2,none⟩=some (.int .i64 (markC j m))/\w'.cell? ⟨xb,m*2+1,none⟩=some (.int .i64 0))/\(∀ m,m < en->w'.cell? ⟨eg,m*2,none⟩=some (.int .i64 (markC j m))/\w'.cell? ⟨eg,m*2+1,none⟩=some (.int .i64 0))):=fun w' hb'=>by
        obtain ⟨_,_,_,HE2,hcl⟩:=le_at (NE3.out w' hb') hlt
        have e2:=HE.out.symm.trans HE2.out
        simp only [Option.some.injEq,LE.mk.injEq] at e2
        obtain ⟨rfl,rfl,rfl⟩:=e2
        obtain ⟨xb2,xc2,hgs2,hnew⟩:=(HP.out w' hb').lookE mkCore_len HE.out (by rw [hlx.out];exact hlt)
        have e3:=hgs.symm.trans hgs2
        simp only [Option.some.injEq,Value.slice.injEq,Addr.mk.injEq] at e3
        obtain ⟨⟨rfl,_⟩,_,rfl⟩:=e3
        obtain ⟨gb2,gc2,e,hcg⟩:=(HG.out w' hb').at j _ hgs
        simp only [Value.slice.injEq,Option.some.injEq,Addr.mk.injEq] at e
        obtain ⟨⟨rfl,_⟩,_⟩:=e
        exact ⟨hcl,hcg,fun m hm=>⟨by have:=hnew m hm 0 (by omega);simpa [mkCore] using this,by have:=hnew m hm 1 (by omega);simpa [mkCore] using this⟩,fun m hm=>⟨by have:=(HP.out w' hb').lookOldE mkCore_len HE.out m hm 0 (by omega);simpa [mkCore] using this,by have:=(HP.out w' hb').lookOldE mkCore_len HE.out m hm 1 (by omega);simpa [mkCore] using this⟩⟩
       obtain ⟨k1,k2,_,_⟩:=AF.out wr hb
       have hjg:j < gs.length:=by rw [hlx.out];exact hlt
       clear hgs hL
       go_wp2
       obtain ⟨wo,rfl⟩:∃ wo:World,wo=wr:=⟨_,rfl⟩
       go_loopw [11] (fun k wr=>∃ m:Nat,k=.int .i64 m/\m<=en+40/\Below w2.heap.size w2 wr) (fun k _=>en+40 - (intOf k).toNat)
       case atStart=>exact ⟨0,rfl,Nat.zero_le _,hb⟩
       case round =>
        clear hb k1 k2
        obtain ⟨m,rfl,hm,hb⟩:=hrel
        obtain ⟨k1,k2,_,_⟩:=AF.out wr hb
        by_cases hlm:m < en+40
        ·skip
         have hd1:decide ((m:Int) < (en:Int)+40)=true:=by simp;omega
         go_wp2_with (go_at_call 79;refine (markcore_ik j m wr (by omega) (by omega)).mono ?_;rintro e w4 ⟨rfl,hb4⟩)
         have hbW:=below_step (below_step hb hb4) (bAl w4 (.cells #[.int .i64 (markC j m),.int .i64 0] 120))
         have hw0:=two_new w4 (.int .i64 (markC j m)) (.int .i64 0) 120 0 _ rfl
         have hw1:=two_new w4 (.int .i64 (markC j m)) (.int .i64 0) 120 1 _ rfl
         generalize w4.alloc (.cells #[.int .i64 (markC j m),.int .i64 0] 120)=W at *
         generalize w4.heap.size=wc at *
         obtain ⟨q1,q2,q3',q4'⟩:=AF.out W hbW
         obtain ⟨q3,q5⟩:=q3' m hlm
         have hbn:(markC j m == markC j m)=true:=by simp
         clear q3' k1 k2
         by_cases hln:m < en
         ·obtain ⟨q6,q7⟩:=q4' m hln
          clear q4'
          generalize markC j m=mn at *
          have hx1:(m:Int) < (en:Int)+40:=by omega
          have hx2:¬ ((en:Int)+40<=(m:Int)):=by omega
          have hx3:¬ (en+40<=m):=by omega
          go_quiet (fail)
          go_wp2
          go_roundw
          case rel=>exact ⟨m+1,by go_num,by omega,bDn hbW _⟩
          case measure=>simp [intOf];omega
         ·clear q4'
          generalize markC j m=mn at *
          go_quiet (fail)
          go_wp2
          go_roundw
          case rel=>exact ⟨m+1,by go_num,by omega,bDn hbW _⟩
          case measure=>simp [intOf];omega
        ·go_wp2
         go_roundw
         case rel=>exact ⟨j+1,by go_num,by omega,hb⟩
         case measure=>simp [intOf];omega
      ·go_wp2
       go_ret
       exact ⟨rfl,F2.out.trans (KFr.ofBelow hb)⟩
def markL (i k:Nat):Int:=-5 - 100003*((i:Int)+1) - 7*(k:Int)
def mkLev (i k:Nat):List Value:=[.int .i64 (markL i k),.slice none 0 0]
theorem infoLevK:(Tryz.prog.info? 90).map (fun i=>(i.zero,i.size,i.bytes))=some (some (.agg #[.int .i64 0,.slice none 0 0]),2,32):=by kernel_rfl
theorem levK_field (a:Value)(w:World):(Instr.field 90 (.agg #[a,.slice none 0 0]) 0).run Tryz.prog w=.ok a w:=by kernel_rfl
theorem infoLevK_parts:∃ i,Tryz.prog.info? 90=some i/\i.zero=some (.agg #[.int .i64 0,.slice none 0 0])/\i.size=2/\i.bytes=32:=by
 have h:=infoLevK
 cases e:Tryz.prog.info? 90 with
 | none=>rw [e] at h;cases h
 | some i=>rw [e] at h;simp at h;exact ⟨i,rfl,h⟩
theorem infoLVK:SliceInfo 24:=sliceInfo_of (by kernel_rfl)
theorem mkLev_len:∀ i k,(mkLev i k).length=2:=fun _ _=>rfl
theorem apart_levels (q:Nat)(lv:Value)(L:List LE)(X:Nat->List Value)(w:World)(hq:w.cell? ⟨q,11,none⟩=some lv)(hl:HL 24 w lv (L.map LE.v))(hrow:∀ j (h:j < L.length),w.ownsRow 0 90 2 L[j].v L[j].n (X j))(hnd:∀ j j' (h:j < L.length) (h':j' < L.length),j≠j'->L[j].g≠L[j'].g)(hlen:L.length<=100000000)(hn:∀ e∈L,e.n<=100000000) :
  Calls Tryz.prog 47 #[.pointer (some ⟨q,0,none⟩)] w fun e w'=>e=.returned (.bool true)/\KFr L w w':=by
 obtain ⟨i0,hi,hz0,hz1,hz2⟩:=infoLevK_parts
 have PS:Hid (P1I 90 2 mkLev w L 0 0 w):=P1I.start hrow hnd
 have NE:Hid (∀ w',KFr L w w'->HL 24 w' lv (L.map LE.v)):=fun w' hf=>hl.setK hf fun e he=>by
  obtain ⟨j,hj,rfl⟩:=List.getElem_of_mem he
  obtain ⟨cur,h1,_⟩:=row_block (hrow j hj)
  exact hl.ne h1 (by decide)
 have HN:Hid (∀ {j eg en ec:Nat},L[j]?=some ⟨eg,en,ec⟩->en<=100000000):=fun {j eg en ec} he=>hn ⟨eg,en,ec⟩ (List.mem_of_getElem? he)
 have LT:Hid (∀ z,lv.ownBlock=some z->z < w.heap.size):=hl.lt
 obtain ⟨la,lc,rfl⟩:=hl.slice
 rw [List.length_map] at hq NE LT
 clear hrow hnd hn hl
 go_enter Tryz.func47,Tryz.ntmps47
 go_wp2
 go_loopw [4] (fun i wr=>∃ j:Nat,i=.int .i64 j/\j<=L.length/\P1I 90 2 mkLev w L j 0 wr) (fun i _=>L.length - (intOf i).toNat)
 case atStart=>exact ⟨0,rfl,Nat.zero_le _,PS.out⟩
 case round =>
  clear PS hq
  obtain ⟨j,rfl,hj,hP⟩:=hrel
  by_cases hlt:j < L.length
  ·have hL:=NE.out wr hP.fr
   obtain ⟨lb,rfl⟩:∃ lb,la=some ⟨lb,0,none⟩:=by
    obtain ⟨g,c,e,_⟩:=hL.at j L[j].v (by simp [hlt])
    simp only [Value.slice.injEq] at e
    exact ⟨g,e.1⟩
   obtain ⟨eg,en,ec,HE,hcl⟩:=le_at hL hlt
   have hen:=HN.out HE.out
   go_wp2
   obtain ⟨wo,rfl⟩:∃ wo:World,wo=wr:=⟨_,rfl⟩
   go_loopw [5] (fun k wr=>∃ m:Nat,k=.int .i64 m/\m<=en/\P1I 90 2 mkLev w L j m wr) (fun k _=>en - (intOf k).toNat)
   case atStart=>exact ⟨0,rfl,Nat.zero_le _,hP⟩
   case round =>
    clear hP hL hcl
    obtain ⟨m,rfl,hm,hP⟩:=hrel
    obtain ⟨_,_,_,HE2,hcl⟩:=le_at (NE.out wr hP.fr) hlt
    have:=HE.out.symm.trans HE2.out
    simp only [Option.some.injEq,LE.mk.injEq] at this
    obtain ⟨rfl,rfl,rfl⟩:=this
    clear HE2
    by_cases hlm:m < en
    ·have HP:Hid (P1I 90 2 mkLev w L j m wr):=hP
     have AF:Hid (∀ w4,Below wr.heap.size wr w4->(∃ u,w4.cell? ⟨eg,m*2,none⟩=some u)/\(∃ u,w4.cell? ⟨eg,m*2+1,none⟩=some u)/\w4.frozen? ⟨eg,m*2,none⟩=false/\w4.frozen? ⟨eg,m*2+1,none⟩=false/\w4.cell? ⟨lb,j,none⟩=some (.slice (some ⟨eg,0,none⟩) en ec)):=fun w4 hb=>by
      have h4:=HP.out.later hb
      refine ⟨h4.cellE HE.out _ (by omega),h4.cellE HE.out _ (by omega),h4.freeE HE.out _,h4.freeE HE.out _,?_⟩
      obtain ⟨_,_,_,HE2,hcl⟩:=le_at (NE.out w4 h4.fr) hlt
      have:=HE.out.symm.trans HE2.out
      simp only [Option.some.injEq,LE.mk.injEq] at this
      obtain ⟨rfl,rfl,rfl⟩:=this
      exact hcl
     obtain ⟨⟨u0,cu0⟩,⟨v0,cv0⟩,fu0,fv0,_⟩:=AF.out wr (Below.refl _ _)
     clear hP
     go_wp2
     go_roundw
     case rel=>exact ⟨m+1,by go_num,by omega,HP.out.set2E HE.out hlm _ _ rfl⟩
     case measure=>simp [intOf];omega
    ·obtain rfl:m=en:=by omega
     go_wp2
     go_roundw
     case rel=>exact ⟨j+1,by go_num,by omega,hP.nextE HE.out⟩
     case measure=>simp [intOf];omega
  ·obtain rfl:j=L.length:=by omega
   have F1:Hid (KFr L w wr):=hP.fr
   have HP2:Hid (P2 90 2 mkLev wr L [] ([]:List Value).length wr):=P2.start hP
   have NE2:Hid (∀ w',KFr L wr w'->HL 24 w' (.slice la L.length lc) (L.map LE.v)):=fun w' hf=>NE.out w' (F1.out.trans hf)
   have INF:Hid (Tryz.prog.info? 90=some i0/\i0.zero=some (.agg #[.int .i64 0,.slice none 0 0])/\i0.size=2/\i0.bytes=32):=⟨hi,hz0,hz1,hz2⟩
   clear hP NE LT hlt hj hi hz0 hz1 hz2
   go_wp2
   obtain ⟨w1,rfl⟩:∃ w1:World,w1=wr:=⟨_,rfl⟩
   go_loopw [6,7] (fun gr i wr=>∃ gs:List Value,i=.int .i64 gs.length/\P2 90 2 mkLev w1 L gs gs.length wr/\HL 24 wr gr gs/\(∀ z,gr.ownBlock=some z->w1.heap.size<=z)) (fun _ i _=>L.length - (intOf i).toNat)
   case atStart=>exact ⟨[],rfl,HP2.out,HL.nil _ _,fun z hz=>by simp [Value.ownBlock] at hz⟩
   case round =>
    clear HP2
    obtain ⟨gs,rfl,hP,hG,hlo'⟩:=hrel
    have hlo:Hid _:=hlo'
    clear hlo'
    obtain ⟨ga,gc,rfl⟩:=hG.slice
    by_cases hlt:gs.length < L.length
    ·have hL:=NE2.out wr hP.fr
     obtain ⟨lb,rfl⟩:∃ lb,la=some ⟨lb,0,none⟩:=by
      obtain ⟨g,c,e,_⟩:=hL.at gs.length L[gs.length].v (by simp [hlt])
      simp only [Value.slice.injEq] at e
      exact ⟨g,e.1⟩
     obtain ⟨eg,en,ec,HE,hcl⟩:=le_at hL hlt
     have hen:=HN.out HE.out
     have HB:Hid (P2g 90 2 mkLev w1 L gs 0 (.slice (some ⟨eg,0,none⟩) en ec) wr):=hP.beginE HE.out
     clear hP hL
     go_wp2
     obtain ⟨wo,rfl⟩:∃ wo:World,wo=wr:=⟨_,rfl⟩
     go_loopw [8,9] (fun g k wr=>∃ m:Nat,k=.int .i64 m/\m<=40/\P2g 90 2 mkLev w1 L gs m g wr/\HL 24 wr (.slice ga gs.length gc) gs) (fun _ k _=>40 - (intOf k).toNat)
     case atStart=>exact ⟨0,rfl,by omega,HB.out,hG⟩
     case round =>
      clear HB hG hcl
      obtain ⟨m,rfl,hm,hg',hG'⟩:=hrel
      have hg:Hid (P2g 90 2 mkLev w1 L gs m _ wr):=hg'
      have hG:Hid (HL 24 wr (.slice ga gs.length gc) gs):=hG'
      have hcur:Hid _:=hg'.curE HE.out
      obtain ⟨ca,cc,rfl⟩:=row_slice hcur.out
      clear hg' hG'
      by_cases hlm:m < 40
      ·go_wp2_with (first
        | (at_builtin;refine wpList_row_append Tryz.underlying24 INF.out.1 INF.out.2.1 INF.out.2.2.1 INF.out.2.2.2 rfl (by decide) (by decide) rfl _ _ rfl _ (en+m) _ rfl (row_later hcur.out (bAl wr _)) wr.heap.size 1 (mkLev gs.length (en+m)) rfl rfl (two_new wr _ _ _) (by intro u hu;simp [mkLev] at hu;rcases hu with rfl | rfl<;>rfl) (by omega) ?_;intro v5 w5 ho5 ha5))
       go_roundw
       case rel=>exact ⟨m+1,by go_num,by omega,(hg.out.later (bAl wr _)).appE HE.out ha5 ho5,(hG.out.later (bAl wr _)).app (row_later hcur.out (bAl wr _)) (by decide) ha5⟩
       case measure=>simp [intOf];omega
      ·obtain rfl:m=40:=by omega
       go_wp2_with (at_builtin;refine wpList_hl_append Tryz.underlying39 infoLVK rfl _ _ rfl (.slice ga gs.length gc) gs rfl (hG.out.later (bAl wr _)) wr.heap.size 1 _ rfl (one_new wr _ _ 0 _ rfl) rfl (by omega) ?_;intro v6 w6 hl6 hg6)
       go_roundw
       case rel =>
        refine ⟨gs++[.slice ca (en+40) cc],by simp,(hg.out.later (bAl wr _)).fin (hG.out.later (bAl wr _)) (by decide) hlo.out hg6.grown,hl6,fun z hz=>?_⟩
        rcases hg6.moved with r | ⟨k,r,hk⟩
        ·exact hlo.out z (r ▸ hz)
        ·rw [hz] at r
         have:=Option.some.inj r
         have h1:=hg.out.p.fr.size
         have h2:wr.heap.size<=(wr.alloc (.cells #[.slice ca (en+40) cc] 24)).heap.size:=(bAl wr _).size
         omega
       case measure=>simp [intOf];omega
    ·have hlx:Hid (gs.length=L.length):=by have:=hP.len;show _=_;omega
     have F2:Hid (KFr L w wr):=F1.out.trans hP.fr
     have NE3:Hid (∀ w',Below wr.heap.size wr w'->HL 24 w' (.slice la L.length lc) (L.map LE.v)):=fun w' hf=>NE2.out w' (hP.fr.trans (KFr.ofBelow hf))
     have HP:Hid (∀ w',Below wr.heap.size wr w'->P2 90 2 mkLev w1 L gs gs.length w'):=fun w' hf=>hP.later hf
     have HG:Hid (∀ w',Below wr.heap.size wr w'->HL 24 w' (.slice ga gs.length gc) gs):=fun w' hf=>hG.later hf
     clear hP hG NE2 F1 hlo
     go_wp2
     clear hlt
     obtain ⟨w2,rfl⟩:∃ w2:World,w2=wr:=⟨_,rfl⟩
     go_loopw [11] (fun i wr=>∃ j:Nat,i=.int .i64 j/\j<=L.length/\Below w2.heap.size w2 wr) (fun i _=>L.length - (intOf i).toNat)
     case atStart=>exact ⟨0,rfl,Nat.zero_le _,Below.refl _ _⟩
     case round =>
      obtain ⟨j,rfl,hj,hb⟩:=hrel
      by_cases hlt:j < L.length
      ·have hL:=NE3.out wr hb
       obtain ⟨lb,rfl⟩:∃ lb,la=some ⟨lb,0,none⟩:=by
        obtain ⟨g,c,e,_⟩:=hL.at j L[j].v (by simp [hlt])
        simp only [Value.slice.injEq] at e
        exact ⟨g,e.1⟩
       obtain ⟨eg,en,ec,HE,_⟩:=le_at hL hlt
       have hen:=HN.out HE.out
       obtain ⟨xb,xc,hgs,_⟩:=(HP.out wr hb).lookE mkLev_len HE.out (by rw [hlx.out];exact hlt)
       obtain ⟨gb,gc',e,_⟩:=(HG.out wr hb).at j _ hgs
       simp only [Value.slice.injEq] at e
       obtain ⟨rfl,_,rfl⟩:=e
       have AF:Hid (∀ w',Below w2.heap.size w2 w'->w'.cell? ⟨lb,j,none⟩=some (.slice (some ⟨eg,0,none⟩) en ec)/\w'.cell? ⟨gb,j,none⟩=some (.slice (some ⟨xb,0,none⟩) (en+40) xc)/\(∀ m,m < en+40->w'.cell? ⟨xb,m*2,none⟩=some (.int .i64 (-5 - 100003*((j:Int)+1) - 7*(m:Int)))/\w'.cell? ⟨xb,m*2+1,none⟩=some (.slice none 0 0))/\(∀ m,m < en->w'.cell? ⟨eg,m*2,none⟩=some (.int .i64 (-5 - 100003*((j:Int)+1) - 7*(m:Int)))/\w'.cell? ⟨eg,m*2+1,none⟩=some (.slice none 0 0))):=fun w' hb'=>by
        obtain ⟨_,_,_,HE2,hcl⟩:=le_at (NE3.out w' hb') hlt
        have e2:=HE.out.symm.trans HE2.out
        simp only [Option.some.injEq,LE.mk.injEq] at e2
        obtain ⟨rfl,rfl,rfl⟩:=e2
        obtain ⟨xb2,xc2,hgs2,hnew⟩:=(HP.out w' hb').lookE mkLev_len HE.out (by rw [hlx.out];exact hlt)
        have e3:=hgs.symm.trans hgs2
        simp only [Option.some.injEq,Value.slice.injEq,Addr.mk.injEq] at e3
        obtain ⟨⟨rfl,_⟩,_,rfl⟩:=e3
        obtain ⟨gb2,gc2,e,hcg⟩:=(HG.out w' hb').at j _ hgs
        simp only [Value.slice.injEq,Option.some.injEq,Addr.mk.injEq] at e
        obtain ⟨⟨rfl,_⟩,_⟩:=e
        exact ⟨hcl,hcg,fun m hm=>⟨by have:=hnew m hm 0 (by omega);simpa [mkLev,markL] using this,by have:=hnew m hm 1 (by omega);simpa [mkLev,markL] using this⟩,fun m hm=>⟨by have:=(HP.out w' hb').lookOldE mkLev_len HE.out m hm 0 (by omega);simpa [mkLev,markL] using this,by have:=(HP.out w' hb').lookOldE mkLev_len HE.out m hm 1 (by omega);simpa [mkLev,markL] using this⟩⟩
       obtain ⟨k1,k2,_,_⟩:=AF.out wr hb
       have hjg:j < gs.length:=by rw [hlx.out];exact hlt
       clear hgs hL
       go_wp2
       obtain ⟨wo,rfl⟩:∃ wo:World,wo=wr:=⟨_,rfl⟩
       go_loopw [12] (fun k wr=>∃ m:Nat,k=.int .i64 m/\m<=en+40/\Below w2.heap.size w2 wr) (fun k _=>en+40 - (intOf k).toNat)
       case atStart=>exact ⟨0,rfl,Nat.zero_le _,hb⟩
       case round =>
        clear hb k1 k2
        obtain ⟨m,rfl,hm,hb⟩:=hrel
        obtain ⟨k1,k2,_,_⟩:=AF.out wr hb
        by_cases hlm:m < en+40
        ·skip
         have hd1:decide ((m:Int) < (en:Int)+40)=true:=by simp;omega
         obtain ⟨q1,q2,q3',q4'⟩:=AF.out wr hb
         obtain ⟨q3,q5⟩:=q3' m hlm
         have hbn:((-5 - 100003*((j:Int)+1) - 7*(m:Int)) != (-5 - 100003*((j:Int)+1) - 7*(m:Int)))=false:=by simp
         clear q3' k1 k2
         by_cases hln:m < en
         ·obtain ⟨q6,q7⟩:=q4' m hln
          clear q4'
          have hx3:¬ (en+40<=m):=by omega
          go_wp2
          rw [levK_field]
          go_wp2
          go_roundw
          case rel=>exact ⟨m+1,by go_num,by omega,hb⟩
          case measure=>simp [intOf];omega
         ·clear q4'
          go_wp2
          rw [levK_field]
          go_wp2
          go_roundw
          case rel=>exact ⟨m+1,by go_num,by omega,hb⟩
          case measure=>simp [intOf];omega
        ·go_wp2
         go_roundw
         case rel=>exact ⟨j+1,by go_num,by omega,hb⟩
         case measure=>simp [intOf];omega
      ·go_wp2
       go_ret
       exact ⟨rfl,F2.out.trans (KFr.ofBelow hb)⟩
def markP (i k:Nat):Int:=-5 - 100003*((i:Int)+1) - 7*(k:Int)
def mkProd (i k:Nat):List Value:=[.int .i64 (markP i k),.slice none 0 0,.int .i64 0]
theorem infoProdK:(Tryz.prog.info? 68).map (fun i=>(i.zero,i.size,i.bytes))=some (some (.agg #[.int .i64 0,.slice none 0 0,.int .i64 0]),3,40):=by kernel_rfl
theorem prodK_field (a:Value)(w:World):(Instr.field 68 (.agg #[a,.slice none 0 0,.int .i64 0]) 0).run Tryz.prog w=.ok a w:=by kernel_rfl
theorem infoProdK_parts:∃ i,Tryz.prog.info? 68=some i/\i.zero=some (.agg #[.int .i64 0,.slice none 0 0,.int .i64 0])/\i.size=3/\i.bytes=40:=by
 have h:=infoProdK
 cases e:Tryz.prog.info? 68 with
 | none=>rw [e] at h;cases h
 | some i=>rw [e] at h;simp at h;exact ⟨i,rfl,h⟩
theorem infoPDK:SliceInfo 23:=sliceInfo_of (by kernel_rfl)
theorem mkProd_len:∀ i k,(mkProd i k).length=3:=fun _ _=>rfl
theorem three_new (w:World)(x y z:Value)(t:TypeId):∀ j u,[x,y,z][j]?=some u->(w.alloc (.cells #[x,y,z] t)).cell? ⟨w.heap.size,j,none⟩=some u:=by
 intro j u hu
 rw [cQa (heap_alloc_new w _)]
 match j with
 | 0=>simp at hu ⊢;exact hu
 | 1=>simp at hu ⊢;exact hu
 | 2=>simp at hu ⊢;exact hu
 | (j+3)=>simp at hu
theorem P1I.set3 {t:TypeId}{mk:Nat->Nat->List Value}{w0 w:World}{L:List LE}{i k:Nat}(h:P1I t 3 mk w0 L i k w)(hi:i < L.length)(hk:k < L[i].n)(u v x:Value)(hu:mk i k=[u,v,x]):P1I t 3 mk w0 L i (k+1) (((w.setCell ⟨L[i].g,k*3,none⟩ u).setCell ⟨L[i].g,k*3+1,none⟩ v).setCell ⟨L[i].g,k*3+2,none⟩ x):=by
 obtain ⟨X,h⟩:=h
 have hl:(X i).length=L[i].n*3:=(h.row i hi).1
 refine ⟨fun j=>if j=i then (((X j).set (k*3) u).set (k*3+1) v).set (k*3+2) x else X j,fun j hj=>?_,h.nd,fun j hj hji=>?_,?_,((h.fr.trans (setCell_fr hi _ _)).trans (setCell_fr hi _ _)).trans (setCell_fr hi _ _)⟩
 ·by_cases e:j=i
  ·subst e
   simp only [if_pos]
   exact row_set (row_set (row_set (h.row j hj) _ u) _ v) _ x
  ·simp only [if_neg e]
   have hne:∀ z,L[j].v.ownBlock=some z->z≠L[i].g:=fun z hz e2=>by
    simp [LE.v,Value.ownBlock] at hz
    exact h.nd j i hj hi e (hz.trans e2)
   exact row_keptB (row_keptB (row_keptB (h.row j hj) fun z hz=>Below.heap_setCell _ _ _ _ (hne z hz)) fun z hz=>Below.heap_setCell _ _ _ _ (hne z hz)) fun z hz=>Below.heap_setCell _ _ _ _ (hne z hz)
 ·simp only [if_neg (show ¬ j=i by omega)]
  exact h.pre j hj hji
 ·simp only [if_pos]
  rw [show (k+1)*3=k*3+1+1+1 by omega,take_set1 (by rw [List.length_set,List.length_set];omega),take_set1 (by rw [List.length_set];omega),take_set1 (by omega),h.cur,marksC_succ,hu]
  simp
theorem P1I.set3E {t:TypeId}{mk:Nat->Nat->List Value}{w0 w:World}{L:List LE}{i k eg en ec:Nat}(h:P1I t 3 mk w0 L i k w)(he:L[i]?=some ⟨eg,en,ec⟩)(hk:k < en)(u v x:Value)(hu:mk i k=[u,v,x]):P1I t 3 mk w0 L i (k+1) (((w.setCell ⟨eg,k*3,none⟩ u).setCell ⟨eg,k*3+1,none⟩ v).setCell ⟨eg,k*3+2,none⟩ x):=by
 obtain ⟨hi,e⟩:=List.getElem?_eq_some_iff.1 he
 have:=h.set3 hi (by rw [e];exact hk) u v x hu
 rwa [e] at this
theorem apart_prods (q:Nat)(lv:Value)(L:List LE)(X:Nat->List Value)(w:World)(hq:w.cell? ⟨q,10,none⟩=some lv)(hl:HL 23 w lv (L.map LE.v))(hrow:∀ j (h:j < L.length),w.ownsRow 0 68 3 L[j].v L[j].n (X j))(hnd:∀ j j' (h:j < L.length) (h':j' < L.length),j≠j'->L[j].g≠L[j'].g)(hlen:L.length<=100000000)(hn:∀ e∈L,e.n<=100000000) :
  Calls Tryz.prog 46 #[.pointer (some ⟨q,0,none⟩)] w fun e w'=>e=.returned (.bool true)/\KFr L w w':=by
 obtain ⟨i0,hi,hz0,hz1,hz2⟩:=infoProdK_parts
 have PS:Hid (P1I 68 3 mkProd w L 0 0 w):=P1I.start hrow hnd
 have NE:Hid (∀ w',KFr L w w'->HL 23 w' lv (L.map LE.v)):=fun w' hf=>hl.setK hf fun e he=>by
  obtain ⟨j,hj,rfl⟩:=List.getElem_of_mem he
  obtain ⟨cur,h1,_⟩:=row_block (hrow j hj)
  exact hl.ne h1 (by decide)
 have HN:Hid (∀ {j eg en ec:Nat},L[j]?=some ⟨eg,en,ec⟩->en<=100000000):=fun {j eg en ec} he=>hn ⟨eg,en,ec⟩ (List.mem_of_getElem? he)
 have LT:Hid (∀ z,lv.ownBlock=some z->z < w.heap.size):=hl.lt
 obtain ⟨la,lc,rfl⟩:=hl.slice
 rw [List.length_map] at hq NE LT
 clear hrow hnd hn hl
 go_enter Tryz.func46,Tryz.ntmps46
 go_wp2
 go_loopw [4] (fun i wr=>∃ j:Nat,i=.int .i64 j/\j<=L.length/\P1I 68 3 mkProd w L j 0 wr) (fun i _=>L.length - (intOf i).toNat)
 case atStart=>exact ⟨0,rfl,Nat.zero_le _,PS.out⟩
 case round =>
  clear PS hq
  obtain ⟨j,rfl,hj,hP⟩:=hrel
  by_cases hlt:j < L.length
  ·have hL:=NE.out wr hP.fr
   obtain ⟨lb,rfl⟩:∃ lb,la=some ⟨lb,0,none⟩:=by
    obtain ⟨g,c,e,_⟩:=hL.at j L[j].v (by simp [hlt])
    simp only [Value.slice.injEq] at e
    exact ⟨g,e.1⟩
   obtain ⟨eg,en,ec,HE,hcl⟩:=le_at hL hlt
   have hen:=HN.out HE.out
   go_wp2
   obtain ⟨wo,rfl⟩:∃ wo:World,wo=wr:=⟨_,rfl⟩
   go_loopw [5] (fun k wr=>∃ m:Nat,k=.int .i64 m/\m<=en/\P1I 68 3 mkProd w L j m wr) (fun k _=>en - (intOf k).toNat)
   case atStart=>exact ⟨0,rfl,Nat.zero_le _,hP⟩
   case round =>
    clear hP hL hcl
    obtain ⟨m,rfl,hm,hP⟩:=hrel
    obtain ⟨_,_,_,HE2,hcl⟩:=le_at (NE.out wr hP.fr) hlt
    have:=HE.out.symm.trans HE2.out
    simp only [Option.some.injEq,LE.mk.injEq] at this
    obtain ⟨rfl,rfl,rfl⟩:=this
    clear HE2
    by_cases hlm:m < en
    ·have HP:Hid (P1I 68 3 mkProd w L j m wr):=hP
     have AF:Hid (∀ w4,Below wr.heap.size wr w4->(∃ u,w4.cell? ⟨eg,m*3,none⟩=some u)/\(∃ u,w4.cell? ⟨eg,m*3+1,none⟩=some u)/\(∃ u,w4.cell? ⟨eg,m*3+2,none⟩=some u)/\w4.frozen? ⟨eg,m*3,none⟩=false/\w4.frozen? ⟨eg,m*3+1,none⟩=false/\w4.frozen? ⟨eg,m*3+2,none⟩=false/\w4.cell? ⟨lb,j,none⟩=some (.slice (some ⟨eg,0,none⟩) en ec)):=fun w4 hb=>by
      have h4:=HP.out.later hb
      refine ⟨h4.cellE HE.out _ (by omega),h4.cellE HE.out _ (by omega),h4.cellE HE.out _ (by omega),h4.freeE HE.out _,h4.freeE HE.out _,h4.freeE HE.out _,?_⟩
      obtain ⟨_,_,_,HE2,hcl⟩:=le_at (NE.out w4 h4.fr) hlt
      have:=HE.out.symm.trans HE2.out
      simp only [Option.some.injEq,LE.mk.injEq] at this
      obtain ⟨rfl,rfl,rfl⟩:=this
      exact hcl
     obtain ⟨⟨u0,cu0⟩,⟨v0,cv0⟩,⟨x0,cx0⟩,fu0,fv0,fx0,_⟩:=AF.out wr (Below.refl _ _)
     clear hP
     go_wp2
     go_roundw
     case rel=>exact ⟨m+1,by go_num,by omega,HP.out.set3E HE.out hlm _ _ _ rfl⟩
     case measure=>simp [intOf];omega
    ·obtain rfl:m=en:=by omega
     go_wp2
     go_roundw
     case rel=>exact ⟨j+1,by go_num,by omega,hP.nextE HE.out⟩
     case measure=>simp [intOf];omega
  ·obtain rfl:j=L.length:=by omega
   have F1:Hid (KFr L w wr):=hP.fr
   have HP2:Hid (P2 68 3 mkProd wr L [] ([]:List Value).length wr):=P2.start hP
   have NE2:Hid (∀ w',KFr L wr w'->HL 23 w' (.slice la L.length lc) (L.map LE.v)):=fun w' hf=>NE.out w' (F1.out.trans hf)
   have INF:Hid (Tryz.prog.info? 68=some i0/\i0.zero=some (.agg #[.int .i64 0,.slice none 0 0,.int .i64 0])/\i0.size=3/\i0.bytes=40):=⟨hi,hz0,hz1,hz2⟩
   clear hP NE LT hlt hj hi hz0 hz1 hz2
   go_wp2
   obtain ⟨w1,rfl⟩:∃ w1:World,w1=wr:=⟨_,rfl⟩
   go_loopw [6,7] (fun gr i wr=>∃ gs:List Value,i=.int .i64 gs.length/\P2 68 3 mkProd w1 L gs gs.length wr/\HL 23 wr gr gs/\(∀ z,gr.ownBlock=some z->w1.heap.size<=z)) (fun _ i _=>L.length - (intOf i).toNat)
   case atStart=>exact ⟨[],rfl,HP2.out,HL.nil _ _,fun z hz=>by simp [Value.ownBlock] at hz⟩
   case round =>
    clear HP2
    obtain ⟨gs,rfl,hP,hG,hlo'⟩:=hrel
    have hlo:Hid _:=hlo'
    clear hlo'
    obtain ⟨ga,gc,rfl⟩:=hG.slice
    by_cases hlt:gs.length < L.length
    ·have hL:=NE2.out wr hP.fr
     obtain ⟨lb,rfl⟩:∃ lb,la=some ⟨lb,0,none⟩:=by
      obtain ⟨g,c,e,_⟩:=hL.at gs.length L[gs.length].v (by simp [hlt])
      simp only [Value.slice.injEq] at e
      exact ⟨g,e.1⟩
     obtain ⟨eg,en,ec,HE,hcl⟩:=le_at hL hlt
     have hen:=HN.out HE.out
     have HB:Hid (P2g 68 3 mkProd w1 L gs 0 (.slice (some ⟨eg,0,none⟩) en ec) wr):=hP.beginE HE.out
     clear hP hL
     go_wp2
     obtain ⟨wo,rfl⟩:∃ wo:World,wo=wr:=⟨_,rfl⟩
     go_loopw [8,9] (fun g k wr=>∃ m:Nat,k=.int .i64 m/\m<=40/\P2g 68 3 mkProd w1 L gs m g wr/\HL 23 wr (.slice ga gs.length gc) gs) (fun _ k _=>40 - (intOf k).toNat)
     case atStart=>exact ⟨0,rfl,by omega,HB.out,hG⟩
     case round =>
      clear HB hG hcl
      obtain ⟨m,rfl,hm,hg',hG'⟩:=hrel
      have hg:Hid (P2g 68 3 mkProd w1 L gs m _ wr):=hg'
      have hG:Hid (HL 23 wr (.slice ga gs.length gc) gs):=hG'
      have hcur:Hid _:=hg'.curE HE.out
      obtain ⟨ca,cc,rfl⟩:=row_slice hcur.out
      clear hg' hG'
      by_cases hlm:m < 40
      ·go_wp2_with (first
        | (at_builtin;refine wpList_row_append Tryz.underlying23 INF.out.1 INF.out.2.1 INF.out.2.2.1 INF.out.2.2.2 rfl (by decide) (by decide) rfl _ _ rfl _ (en+m) _ rfl (row_later hcur.out (bAl wr _)) wr.heap.size 1 (mkProd gs.length (en+m)) rfl rfl (three_new wr _ _ _ _) (by intro u hu;simp [mkProd] at hu;rcases hu with rfl | rfl | rfl<;>rfl) (by omega) ?_;intro v5 w5 ho5 ha5))
       go_roundw
       case rel=>exact ⟨m+1,by go_num,by omega,(hg.out.later (bAl wr _)).appE HE.out ha5 ho5,(hG.out.later (bAl wr _)).app (row_later hcur.out (bAl wr _)) (by decide) ha5⟩
       case measure=>simp [intOf];omega
      ·obtain rfl:m=40:=by omega
       go_wp2_with (at_builtin;refine wpList_hl_append Tryz.underlying38 infoPDK rfl _ _ rfl (.slice ga gs.length gc) gs rfl (hG.out.later (bAl wr _)) wr.heap.size 1 _ rfl (one_new wr _ _ 0 _ rfl) rfl (by omega) ?_;intro v6 w6 hl6 hg6)
       go_roundw
       case rel =>
        refine ⟨gs++[.slice ca (en+40) cc],by simp,(hg.out.later (bAl wr _)).fin (hG.out.later (bAl wr _)) (by decide) hlo.out hg6.grown,hl6,fun z hz=>?_⟩
        rcases hg6.moved with r | ⟨k,r,hk⟩
        ·exact hlo.out z (r ▸ hz)
        ·rw [hz] at r
         have:=Option.some.inj r
         have h1:=hg.out.p.fr.size
         have h2:wr.heap.size<=(wr.alloc (.cells #[.slice ca (en+40) cc] 23)).heap.size:=(bAl wr _).size
         omega
       case measure=>simp [intOf];omega
    ·have hlx:Hid (gs.length=L.length):=by have:=hP.len;show _=_;omega
     have F2:Hid (KFr L w wr):=F1.out.trans hP.fr
     have NE3:Hid (∀ w',Below wr.heap.size wr w'->HL 23 w' (.slice la L.length lc) (L.map LE.v)):=fun w' hf=>NE2.out w' (hP.fr.trans (KFr.ofBelow hf))
     have HP:Hid (∀ w',Below wr.heap.size wr w'->P2 68 3 mkProd w1 L gs gs.length w'):=fun w' hf=>hP.later hf
     have HG:Hid (∀ w',Below wr.heap.size wr w'->HL 23 w' (.slice ga gs.length gc) gs):=fun w' hf=>hG.later hf
     clear hP hG NE2 F1 hlo
     go_wp2
     clear hlt
     obtain ⟨w2,rfl⟩:∃ w2:World,w2=wr:=⟨_,rfl⟩
     go_loopw [11] (fun i wr=>∃ j:Nat,i=.int .i64 j/\j<=L.length/\Below w2.heap.size w2 wr) (fun i _=>L.length - (intOf i).toNat)
     case atStart=>exact ⟨0,rfl,Nat.zero_le _,Below.refl _ _⟩
     case round =>
      obtain ⟨j,rfl,hj,hb⟩:=hrel
      by_cases hlt:j < L.length
      ·have hL:=NE3.out wr hb
       obtain ⟨lb,rfl⟩:∃ lb,la=some ⟨lb,0,none⟩:=by
        obtain ⟨g,c,e,_⟩:=hL.at j L[j].v (by simp [hlt])
        simp only [Value.slice.injEq] at e
        exact ⟨g,e.1⟩
       obtain ⟨eg,en,ec,HE,_⟩:=le_at hL hlt
       have hen:=HN.out HE.out
       obtain ⟨xb,xc,hgs,_⟩:=(HP.out wr hb).lookE mkProd_len HE.out (by rw [hlx.out];exact hlt)
       obtain ⟨gb,gc',e,_⟩:=(HG.out wr hb).at j _ hgs
       simp only [Value.slice.injEq] at e
       obtain ⟨rfl,_,rfl⟩:=e
       have AF:Hid (∀ w',Below w2.heap.size w2 w'->w'.cell? ⟨lb,j,none⟩=some (.slice (some ⟨eg,0,none⟩) en ec)/\w'.cell? ⟨gb,j,none⟩=some (.slice (some ⟨xb,0,none⟩) (en+40) xc)/\(∀ m,m < en+40->w'.cell? ⟨xb,m*3,none⟩=some (.int .i64 (-5 - 100003*((j:Int)+1) - 7*(m:Int)))/\w'.cell? ⟨xb,m*3+1,none⟩=some (.slice none 0 0))/\(∀ m,m < en->w'.cell? ⟨eg,m*3,none⟩=some (.int .i64 (-5 - 100003*((j:Int)+1) - 7*(m:Int)))/\w'.cell? ⟨eg,m*3+1,none⟩=some (.slice none 0 0))):=fun w' hb'=>by
        obtain ⟨_,_,_,HE2,hcl⟩:=le_at (NE3.out w' hb') hlt
        have e2:=HE.out.symm.trans HE2.out
        simp only [Option.some.injEq,LE.mk.injEq] at e2
        obtain ⟨rfl,rfl,rfl⟩:=e2
        obtain ⟨xb2,xc2,hgs2,hnew⟩:=(HP.out w' hb').lookE mkProd_len HE.out (by rw [hlx.out];exact hlt)
        have e3:=hgs.symm.trans hgs2
        simp only [Option.some.injEq,Value.slice.injEq,Addr.mk.injEq] at e3
        obtain ⟨⟨rfl,_⟩,_,rfl⟩:=e3
        obtain ⟨gb2,gc2,e,hcg⟩:=(HG.out w' hb').at j _ hgs
        simp only [Value.slice.injEq,Option.some.injEq,Addr.mk.injEq] at e
        obtain ⟨⟨rfl,_⟩,_⟩:=e
        exact ⟨hcl,hcg,fun m hm=>⟨by have:=hnew m hm 0 (by omega);simpa [mkProd,markP] using this,by have:=hnew m hm 1 (by omega);simpa [mkProd,markP] using this⟩,fun m hm=>⟨by have:=(HP.out w' hb').lookOldE mkProd_len HE.out m hm 0 (by omega);simpa [mkProd,markP] using this,by have:=(HP.out w' hb').lookOldE mkProd_len HE.out m hm 1 (by omega);simpa [mkProd,markP] using this⟩⟩
       obtain ⟨k1,k2,_,_⟩:=AF.out wr hb
       have hjg:j < gs.length:=by rw [hlx.out];exact hlt
       clear hgs hL
       go_wp2
       obtain ⟨wo,rfl⟩:∃ wo:World,wo=wr:=⟨_,rfl⟩
       go_loopw [12] (fun k wr=>∃ m:Nat,k=.int .i64 m/\m<=en+40/\Below w2.heap.size w2 wr) (fun k _=>en+40 - (intOf k).toNat)
       case atStart=>exact ⟨0,rfl,Nat.zero_le _,hb⟩
       case round =>
        clear hb k1 k2
        obtain ⟨m,rfl,hm,hb⟩:=hrel
        obtain ⟨k1,k2,_,_⟩:=AF.out wr hb
        by_cases hlm:m < en+40
        ·skip
         have hd1:decide ((m:Int) < (en:Int)+40)=true:=by simp;omega
         obtain ⟨q1,q2,q3',q4'⟩:=AF.out wr hb
         obtain ⟨q3,q5⟩:=q3' m hlm
         have hbn:((-5 - 100003*((j:Int)+1) - 7*(m:Int)) != (-5 - 100003*((j:Int)+1) - 7*(m:Int)))=false:=by simp
         clear q3' k1 k2
         by_cases hln:m < en
         ·obtain ⟨q6,q7⟩:=q4' m hln
          clear q4'
          have hx3:¬ (en+40<=m):=by omega
          go_wp2
          rw [prodK_field]
          go_wp2
          go_roundw
          case rel=>exact ⟨m+1,by go_num,by omega,hb⟩
          case measure=>simp [intOf];omega
         ·clear q4'
          go_wp2
          rw [prodK_field]
          go_wp2
          go_roundw
          case rel=>exact ⟨m+1,by go_num,by omega,hb⟩
          case measure=>simp [intOf];omega
        ·go_wp2
         go_roundw
         case rel=>exact ⟨j+1,by go_num,by omega,hb⟩
         case measure=>simp [intOf];omega
      ·go_wp2
       go_ret
       exact ⟨rfl,F2.out.trans (KFr.ofBelow hb)⟩
theorem book_ints (T:KT)(hT:T.Ok)(B q:Nat)(V:Nat->Value)(E:Nat->List LE)(w:World)(a:Option Addr)(n c:Nat)(X:List Value)(hK:KI T B w q V E)(ht:T.te 1=3/\T.sz 1=1/\T.tl 1=47)(hX:n≠0->w.ownsRow 0 3 1 (.slice a n c) n X)(hlo:n≠0->∀ k,(Value.slice a n c).ownBlock=some k->B<=k/\∀ x∈E 1,x.g≠k)(hlen:(E 1).length<=100000000) :
  Calls Tryz.prog 11 #[.pointer (some ⟨q,0,none⟩),.slice a n c] w fun e w'=>e=.returned (.tuple #[])/\∃ V' E',KI T B w' q V' E'/\(∀ i,i≠1->E' i=E i)/\(E' 1=E 1∨∃ g,a=some ⟨g,0,none⟩/\n≠0/\E' 1=E 1++[⟨g,n,c⟩])/\Below B w w'/\KQ T w w':=by
 by_cases h0:n=0
 ·subst h0
  have HK:Hid (KI T B w q V E):=hK
  clear hK hX hlo
  go_enter Tryz.func11,Tryz.ntmps11
  go_wp2
  go_end0
  exact ⟨rfl,V,E,HK.out,fun _ _=>rfl,.inl rfl,Below.refl _ _,KQ.refl _ _⟩
 ·obtain ⟨g,rfl⟩:∃ g,a=some ⟨g,0,none⟩:=by
   rcases (hX h0).2 with ⟨e,h⟩ | ⟨g,cap,cur,e,_⟩
   ·exact absurd h h0
   ·simp only [Value.slice.injEq] at e
    exact ⟨g,e.1⟩
  have HK:Hid (KI T B (w.alloc (.cells #[.slice (some ⟨g,0,none⟩) n c] 47)) q V E):=hK.later (bAl w _)
  have HX:Hid ((w.alloc (.cells #[.slice (some ⟨g,0,none⟩) n c] 47)).ownsRow 0 3 1 (LE.mk g n c).v n X):=row_later (hX h0) (bAl w _)
  have HSZ:Hid (B<=w.heap.size):=hK.size
  have HO:Hid (B<=g/\∀ x∈E 1,x.g≠g):=hlo h0 g rfl
  have c0:=hK.cell (i:=1) (by omega)
  have R:Hid (HL 47 (w.alloc (.cells #[.slice (some ⟨g,0,none⟩) n c] 47)) (V 1) ((E 1).map LE.v)):=by have:=HK.out.row 1;rw [ht.2.2] at this;exact this
  have AF:Hid (∀ w5 L5,Grew (w.alloc (.cells #[.slice (some ⟨g,0,none⟩) n c] 47)) w5 (V 1) L5->w5.cell? ⟨q,1,none⟩=some (V 1)/\w5.frozen? ⟨q,1,none⟩=false):=fun w5 L5 hg=>by
   have b:=(hg.grown.block q (lt_of_block HK.out.hq) (HK.out.ne hT 1)).trans HK.out.hq
   exact ⟨by simp only [World.cell?,b];exact kArr_get V (by omega),by simp [World.frozen?,b]⟩
  have HLE:Hid (((E 1).map LE.v).length<=5864062014720):=by show _<=_;simp;omega
  have HT:Hid (T.te 1=3/\T.sz 1=1/\T.tl 1=47):=ht
  have hn:(n:Int) > 0:=by omega
  clear hK hX hlo ht hlen
  generalize hV:V 1=L at *
  go_enter Tryz.func11,Tryz.ntmps11
  go_wp2_with (at_builtin;refine wpList_hl_append Tryz.underlying29 infoINK rfl _ _ rfl L ((E 1).map LE.v) rfl R.out w.heap.size 1 (.slice (some ⟨g,0,none⟩) n c) rfl (one_new w _ _ 0 _ rfl) rfl HLE.out ?_;intro L5 w5 hl5 hg5;obtain ⟨a5,N5,c5,rfl⟩:=hl5.slice3;obtain ⟨d1,d2⟩:=AF.out w5 _ hg5)
  go_end0
  obtain ⟨r1,r2⟩:=HK.out.store (i:=1) (v':=.slice a5 N5 c5) (e:=⟨g,n,c⟩) (X:=X) hT (by rw [hV];exact hg5) (by rw [HT.out.2.2];exact hl5) (by rw [HT.out.1,HT.out.2.1];exact HX.out) HO.out.2 HO.out.1
  exact ⟨rfl,_,_,r1,fun i hi=>if_neg hi,.inr ⟨g,rfl,h0,if_pos rfl⟩,((Below.refl B w).alloc HSZ.out _).trans r2,(KQ.of (bAl w _)).trans (HK.out.storeQ hT (by rw [hV];exact hg5))⟩
theorem book_strsG (T:KT)(hT:T.Ok)(B q:Nat)(V:Nat->Value)(E:Nat->List LE)(w:World)(a:Option Addr)(n c:Nat)(X:List Value)(hK:KI T B w q V E)(ht:T.te 2=9/\T.sz 2=1/\T.tl 2=22)(hX:n≠0->w.ownsRow 0 9 1 (.slice a n c) n X)(hlo:n≠0->∀ k,(Value.slice a n c).ownBlock=some k->B<=k/\∀ x∈E 2,x.g≠k)(hlen:(E 2).length<=100000000) :
  Calls Tryz.prog 33 #[.pointer (some ⟨q,0,none⟩),.slice a n c] w fun e w'=>e=.returned (.tuple #[])/\∃ V' E',KI T B w' q V' E'/\(∀ i,i≠2->E' i=E i)/\(E' 2=E 2∨∃ g,a=some ⟨g,0,none⟩/\n≠0/\E' 2=E 2++[⟨g,n,c⟩])/\Below B w w'/\KQ T w w':=by
 by_cases h0:n=0
 ·subst h0
  have HK:Hid (KI T B w q V E):=hK
  clear hK hX hlo
  go_enter Tryz.func33,Tryz.ntmps33
  go_wp2
  go_end0
  exact ⟨rfl,V,E,HK.out,fun _ _=>rfl,.inl rfl,Below.refl _ _,KQ.refl _ _⟩
 ·obtain ⟨g,rfl⟩:∃ g,a=some ⟨g,0,none⟩:=by
   rcases (hX h0).2 with ⟨e,h⟩ | ⟨g,cap,cur,e,_⟩
   ·exact absurd h h0
   ·simp only [Value.slice.injEq] at e
    exact ⟨g,e.1⟩
  have HK:Hid (KI T B (w.alloc (.cells #[.slice (some ⟨g,0,none⟩) n c] 22)) q V E):=hK.later (bAl w _)
  have HX:Hid ((w.alloc (.cells #[.slice (some ⟨g,0,none⟩) n c] 22)).ownsRow 0 9 1 (LE.mk g n c).v n X):=row_later (hX h0) (bAl w _)
  have HSZ:Hid (B<=w.heap.size):=hK.size
  have HO:Hid (B<=g/\∀ x∈E 2,x.g≠g):=hlo h0 g rfl
  have c0:=hK.cell (i:=2) (by omega)
  have R:Hid (HL 22 (w.alloc (.cells #[.slice (some ⟨g,0,none⟩) n c] 22)) (V 2) ((E 2).map LE.v)):=by have:=HK.out.row 2;rw [ht.2.2] at this;exact this
  have AF:Hid (∀ w5 L5,Grew (w.alloc (.cells #[.slice (some ⟨g,0,none⟩) n c] 22)) w5 (V 2) L5->w5.cell? ⟨q,2,none⟩=some (V 2)/\w5.frozen? ⟨q,2,none⟩=false):=fun w5 L5 hg=>by
   have b:=(hg.grown.block q (lt_of_block HK.out.hq) (HK.out.ne hT 2)).trans HK.out.hq
   exact ⟨by simp only [World.cell?,b];exact kArr_get V (by omega),by simp [World.frozen?,b]⟩
  have HLE:Hid (((E 2).map LE.v).length<=5864062014720):=by show _<=_;simp;omega
  have HT:Hid (T.te 2=9/\T.sz 2=1/\T.tl 2=22):=ht
  have hn:(n:Int) > 0:=by omega
  clear hK hX hlo ht hlen
  generalize hV:V 2=L at *
  go_enter Tryz.func33,Tryz.ntmps33
  go_wp2_with (at_builtin;refine wpList_hl_append Tryz.underlying30 infoSSK rfl _ _ rfl L ((E 2).map LE.v) rfl R.out w.heap.size 1 (.slice (some ⟨g,0,none⟩) n c) rfl (one_new w _ _ 0 _ rfl) rfl HLE.out ?_;intro L5 w5 hl5 hg5;obtain ⟨a5,N5,c5,rfl⟩:=hl5.slice3;obtain ⟨d1,d2⟩:=AF.out w5 _ hg5)
  go_end0
  obtain ⟨r1,r2⟩:=HK.out.store (i:=2) (v':=.slice a5 N5 c5) (e:=⟨g,n,c⟩) (X:=X) hT (by rw [hV];exact hg5) (by rw [HT.out.2.2];exact hl5) (by rw [HT.out.1,HT.out.2.1];exact HX.out) HO.out.2 HO.out.1
  exact ⟨rfl,_,_,r1,fun i hi=>if_neg hi,.inr ⟨g,rfl,h0,if_pos rfl⟩,((Below.refl B w).alloc HSZ.out _).trans r2,(KQ.of (bAl w _)).trans (HK.out.storeQ hT (by rw [hV];exact hg5))⟩
theorem book_symsW (T:KT)(hT:T.Ok)(B q:Nat)(V:Nat->Value)(E:Nat->List LE)(w:World)(a:Option Addr)(n c:Nat)(X:List Value)(hK:KI T B w q V E)(ht:T.te 4=62/\T.sz 4=2/\T.tl 4=51)(hX:n≠0->w.ownsRow 0 62 2 (.slice a n c) n X)(hlo:n≠0->∀ k,(Value.slice a n c).ownBlock=some k->B<=k/\∀ x∈E 4,x.g≠k)(hlen:(E 4).length<=100000000) :
  Calls Tryz.prog 12 #[.pointer (some ⟨q,0,none⟩),.slice a n c] w fun e w'=>e=.returned (.tuple #[])/\∃ V' E',KI T B w' q V' E'/\(∀ i,i≠4->E' i=E i)/\(E' 4=E 4∨∃ g,a=some ⟨g,0,none⟩/\n≠0/\E' 4=E 4++[⟨g,n,c⟩])/\Below B w w'/\KQ T w w':=by
 by_cases h0:n=0
 ·subst h0
  have HK:Hid (KI T B w q V E):=hK
  clear hK hX hlo
  go_enter Tryz.func12,Tryz.ntmps12
  go_wp2
  go_end0
  exact ⟨rfl,V,E,HK.out,fun _ _=>rfl,.inl rfl,Below.refl _ _,KQ.refl _ _⟩
 ·obtain ⟨g,rfl⟩:∃ g,a=some ⟨g,0,none⟩:=by
   rcases (hX h0).2 with ⟨e,h⟩ | ⟨g,cap,cur,e,_⟩
   ·exact absurd h h0
   ·simp only [Value.slice.injEq] at e
    exact ⟨g,e.1⟩
  have HK:Hid (KI T B (w.alloc (.cells #[.slice (some ⟨g,0,none⟩) n c] 51)) q V E):=hK.later (bAl w _)
  have HX:Hid ((w.alloc (.cells #[.slice (some ⟨g,0,none⟩) n c] 51)).ownsRow 0 62 2 (LE.mk g n c).v n X):=row_later (hX h0) (bAl w _)
  have HSZ:Hid (B<=w.heap.size):=hK.size
  have HO:Hid (B<=g/\∀ x∈E 4,x.g≠g):=hlo h0 g rfl
  have c0:=hK.cell (i:=4) (by omega)
  have R:Hid (HL 51 (w.alloc (.cells #[.slice (some ⟨g,0,none⟩) n c] 51)) (V 4) ((E 4).map LE.v)):=by have:=HK.out.row 4;rw [ht.2.2] at this;exact this
  have AF:Hid (∀ w5 L5,Grew (w.alloc (.cells #[.slice (some ⟨g,0,none⟩) n c] 51)) w5 (V 4) L5->w5.cell? ⟨q,4,none⟩=some (V 4)/\w5.frozen? ⟨q,4,none⟩=false):=fun w5 L5 hg=>by
   have b:=(hg.grown.block q (lt_of_block HK.out.hq) (HK.out.ne hT 4)).trans HK.out.hq
   exact ⟨by simp only [World.cell?,b];exact kArr_get V (by omega),by simp [World.frozen?,b]⟩
  have HLE:Hid (((E 4).map LE.v).length<=5864062014720):=by show _<=_;simp;omega
  have HT:Hid (T.te 4=62/\T.sz 4=2/\T.tl 4=51):=ht
  have hn:(n:Int) > 0:=by omega
  clear hK hX hlo ht hlen
  generalize hV:V 4=L at *
  go_enter Tryz.func12,Tryz.ntmps12
  go_wp2_with (at_builtin;refine wpList_hl_append Tryz.underlying32 infoSYK rfl _ _ rfl L ((E 4).map LE.v) rfl R.out w.heap.size 1 (.slice (some ⟨g,0,none⟩) n c) rfl (one_new w _ _ 0 _ rfl) rfl HLE.out ?_;intro L5 w5 hl5 hg5;obtain ⟨a5,N5,c5,rfl⟩:=hl5.slice3;obtain ⟨d1,d2⟩:=AF.out w5 _ hg5)
  go_end0
  obtain ⟨r1,r2⟩:=HK.out.store (i:=4) (v':=.slice a5 N5 c5) (e:=⟨g,n,c⟩) (X:=X) hT (by rw [hV];exact hg5) (by rw [HT.out.2.2];exact hl5) (by rw [HT.out.1,HT.out.2.1];exact HX.out) HO.out.2 HO.out.1
  exact ⟨rfl,_,_,r1,fun i hi=>if_neg hi,.inr ⟨g,rfl,h0,if_pos rfl⟩,((Below.refl B w).alloc HSZ.out _).trans r2,(KQ.of (bAl w _)).trans (HK.out.storeQ hT (by rw [hV];exact hg5))⟩
theorem book_prods (T:KT)(hT:T.Ok)(B q:Nat)(V:Nat->Value)(E:Nat->List LE)(w:World)(a:Option Addr)(n c:Nat)(X:List Value)(hK:KI T B w q V E)(ht:T.te 10=68/\T.sz 10=3/\T.tl 10=23)(hX:n≠0->w.ownsRow 0 68 3 (.slice a n c) n X)(hlo:n≠0->∀ k,(Value.slice a n c).ownBlock=some k->B<=k/\∀ x∈E 10,x.g≠k)(hlen:(E 10).length<=100000000) :
  Calls Tryz.prog 73 #[.pointer (some ⟨q,0,none⟩),.slice a n c] w fun e w'=>e=.returned (.tuple #[])/\∃ V' E',KI T B w' q V' E'/\(∀ i,i≠10->E' i=E i)/\(E' 10=E 10∨∃ g,a=some ⟨g,0,none⟩/\n≠0/\E' 10=E 10++[⟨g,n,c⟩])/\Below B w w'/\KQ T w w':=by
 by_cases h0:n=0
 ·subst h0
  have HK:Hid (KI T B w q V E):=hK
  clear hK hX hlo
  go_enter Tryz.func73,Tryz.ntmps73
  go_wp2
  go_end0
  exact ⟨rfl,V,E,HK.out,fun _ _=>rfl,.inl rfl,Below.refl _ _,KQ.refl _ _⟩
 ·obtain ⟨g,rfl⟩:∃ g,a=some ⟨g,0,none⟩:=by
   rcases (hX h0).2 with ⟨e,h⟩ | ⟨g,cap,cur,e,_⟩
   ·exact absurd h h0
   ·simp only [Value.slice.injEq] at e
    exact ⟨g,e.1⟩
  have HK:Hid (KI T B (w.alloc (.cells #[.slice (some ⟨g,0,none⟩) n c] 23)) q V E):=hK.later (bAl w _)
  have HX:Hid ((w.alloc (.cells #[.slice (some ⟨g,0,none⟩) n c] 23)).ownsRow 0 68 3 (LE.mk g n c).v n X):=row_later (hX h0) (bAl w _)
  have HSZ:Hid (B<=w.heap.size):=hK.size
  have HO:Hid (B<=g/\∀ x∈E 10,x.g≠g):=hlo h0 g rfl
  have c0:=hK.cell (i:=10) (by omega)
  have R:Hid (HL 23 (w.alloc (.cells #[.slice (some ⟨g,0,none⟩) n c] 23)) (V 10) ((E 10).map LE.v)):=by have:=HK.out.row 10;rw [ht.2.2] at this;exact this
  have AF:Hid (∀ w5 L5,Grew (w.alloc (.cells #[.slice (some ⟨g,0,none⟩) n c] 23)) w5 (V 10) L5->w5.cell? ⟨q,10,none⟩=some (V 10)/\w5.frozen? ⟨q,10,none⟩=false):=fun w5 L5 hg=>by
   have b:=(hg.grown.block q (lt_of_block HK.out.hq) (HK.out.ne hT 10)).trans HK.out.hq
   exact ⟨by simp only [World.cell?,b];exact kArr_get V (by omega),by simp [World.frozen?,b]⟩
  have HLE:Hid (((E 10).map LE.v).length<=5864062014720):=by show _<=_;simp;omega
  have HT:Hid (T.te 10=68/\T.sz 10=3/\T.tl 10=23):=ht
  have hn:(n:Int) > 0:=by omega
  clear hK hX hlo ht hlen
  generalize hV:V 10=L at *
  go_enter Tryz.func73,Tryz.ntmps73
  go_wp2_with (at_builtin;refine wpList_hl_append Tryz.underlying38 infoPDK rfl _ _ rfl L ((E 10).map LE.v) rfl R.out w.heap.size 1 (.slice (some ⟨g,0,none⟩) n c) rfl (one_new w _ _ 0 _ rfl) rfl HLE.out ?_;intro L5 w5 hl5 hg5;obtain ⟨a5,N5,c5,rfl⟩:=hl5.slice3;obtain ⟨d1,d2⟩:=AF.out w5 _ hg5)
  go_end0
  obtain ⟨r1,r2⟩:=HK.out.store (i:=10) (v':=.slice a5 N5 c5) (e:=⟨g,n,c⟩) (X:=X) hT (by rw [hV];exact hg5) (by rw [HT.out.2.2];exact hl5) (by rw [HT.out.1,HT.out.2.1];exact HX.out) HO.out.2 HO.out.1
  exact ⟨rfl,_,_,r1,fun i hi=>if_neg hi,.inr ⟨g,rfl,h0,if_pos rfl⟩,((Below.refl B w).alloc HSZ.out _).trans r2,(KQ.of (bAl w _)).trans (HK.out.storeQ hT (by rw [hV];exact hg5))⟩
theorem book_levels (T:KT)(hT:T.Ok)(B q:Nat)(V:Nat->Value)(E:Nat->List LE)(w:World)(a:Option Addr)(n c:Nat)(X:List Value)(hK:KI T B w q V E)(ht:T.te 11=90/\T.sz 11=2/\T.tl 11=24)(hX:n≠0->w.ownsRow 0 90 2 (.slice a n c) n X)(hlo:n≠0->∀ k,(Value.slice a n c).ownBlock=some k->B<=k/\∀ x∈E 11,x.g≠k)(hlen:(E 11).length<=100000000) :
  Calls Tryz.prog 35 #[.pointer (some ⟨q,0,none⟩),.slice a n c] w fun e w'=>e=.returned (.tuple #[])/\∃ V' E',KI T B w' q V' E'/\(∀ i,i≠11->E' i=E i)/\(E' 11=E 11∨∃ g,a=some ⟨g,0,none⟩/\n≠0/\E' 11=E 11++[⟨g,n,c⟩])/\Below B w w'/\KQ T w w':=by
 by_cases h0:n=0
 ·subst h0
  have HK:Hid (KI T B w q V E):=hK
  clear hK hX hlo
  go_enter Tryz.func35,Tryz.ntmps35
  go_wp2
  go_end0
  exact ⟨rfl,V,E,HK.out,fun _ _=>rfl,.inl rfl,Below.refl _ _,KQ.refl _ _⟩
 ·obtain ⟨g,rfl⟩:∃ g,a=some ⟨g,0,none⟩:=by
   rcases (hX h0).2 with ⟨e,h⟩ | ⟨g,cap,cur,e,_⟩
   ·exact absurd h h0
   ·simp only [Value.slice.injEq] at e
    exact ⟨g,e.1⟩
  have HK:Hid (KI T B (w.alloc (.cells #[.slice (some ⟨g,0,none⟩) n c] 24)) q V E):=hK.later (bAl w _)
  have HX:Hid ((w.alloc (.cells #[.slice (some ⟨g,0,none⟩) n c] 24)).ownsRow 0 90 2 (LE.mk g n c).v n X):=row_later (hX h0) (bAl w _)
  have HSZ:Hid (B<=w.heap.size):=hK.size
  have HO:Hid (B<=g/\∀ x∈E 11,x.g≠g):=hlo h0 g rfl
  have c0:=hK.cell (i:=11) (by omega)
  have R:Hid (HL 24 (w.alloc (.cells #[.slice (some ⟨g,0,none⟩) n c] 24)) (V 11) ((E 11).map LE.v)):=by have:=HK.out.row 11;rw [ht.2.2] at this;exact this
  have AF:Hid (∀ w5 L5,Grew (w.alloc (.cells #[.slice (some ⟨g,0,none⟩) n c] 24)) w5 (V 11) L5->w5.cell? ⟨q,11,none⟩=some (V 11)/\w5.frozen? ⟨q,11,none⟩=false):=fun w5 L5 hg=>by
   have b:=(hg.grown.block q (lt_of_block HK.out.hq) (HK.out.ne hT 11)).trans HK.out.hq
   exact ⟨by simp only [World.cell?,b];exact kArr_get V (by omega),by simp [World.frozen?,b]⟩
  have HLE:Hid (((E 11).map LE.v).length<=5864062014720):=by show _<=_;simp;omega
  have HT:Hid (T.te 11=90/\T.sz 11=2/\T.tl 11=24):=ht
  have hn:(n:Int) > 0:=by omega
  clear hK hX hlo ht hlen
  generalize hV:V 11=L at *
  go_enter Tryz.func35,Tryz.ntmps35
  go_wp2_with (at_builtin;refine wpList_hl_append Tryz.underlying39 infoLVK rfl _ _ rfl L ((E 11).map LE.v) rfl R.out w.heap.size 1 (.slice (some ⟨g,0,none⟩) n c) rfl (one_new w _ _ 0 _ rfl) rfl HLE.out ?_;intro L5 w5 hl5 hg5;obtain ⟨a5,N5,c5,rfl⟩:=hl5.slice3;obtain ⟨d1,d2⟩:=AF.out w5 _ hg5)
  go_end0
  obtain ⟨r1,r2⟩:=HK.out.store (i:=11) (v':=.slice a5 N5 c5) (e:=⟨g,n,c⟩) (X:=X) hT (by rw [hV];exact hg5) (by rw [HT.out.2.2];exact hl5) (by rw [HT.out.1,HT.out.2.1];exact HX.out) HO.out.2 HO.out.1
  exact ⟨rfl,_,_,r1,fun i hi=>if_neg hi,.inr ⟨g,rfl,h0,if_pos rfl⟩,((Below.refl B w).alloc HSZ.out _).trans r2,(KQ.of (bAl w _)).trans (HK.out.storeQ hT (by rw [hV];exact hg5))⟩
def kG:KT:=⟨fun i=>match i with | 0=>5 | 1=>3 | 2=>9 | 4=>62 | 5=>120 | 10=>68 | 11=>90 | _=>4,fun i=>match i with | 0=>1 | 1=>1 | 2=>1 | 4=>2 | 5=>2 | 10=>3 | 11=>2 | _=>1,fun i=>match i with | 0=>112 | 1=>47 | 2=>22 | 4=>51 | 5=>118 | 10=>23 | 11=>24 | _=>47⟩
def slA (v:Value):Option Addr:=match v with | .slice a _ _=>a | _=>none
def slC (v:Value):Nat:=match v with | .slice _ _ c=>c | _=>0
structure KA (T:KT)(B:Nat)(w0:World)(q:Nat)(V:Nat->Value)(E:Nat->List LE)(n:Nat)(w:World):Prop where
 blk:w.heap[q]?=some (.cells (kArr V) 45 (0,0))
 row:∀ i,n<=i->HL (T.tl i) w (V i) ((E i).map LE.v)
 own:∀ i,n<=i->∃ X:Nat->List Value,∀ j (h:j < (E i).length),w.ownsRow 0 (T.te i) (T.sz i) (E i)[j].v (E i)[j].n (X j)
 size:B<=w.heap.size
 bel:Below B w0 w
section
variable {T:KT} {B:Nat} {w0 w w':World} {q n:Nat} {V:Nat->Value} {E:Nat->List LE}
theorem KI.toA (h:KI T B w q V E):KA T B w q V E 0 w:=⟨h.hq,fun i _=>h.row i,fun i _=>h.own i,h.size,Below.refl _ _⟩
theorem KA.skip (h:KA T B w0 q V E n w):KA T B w0 q V E (n+1) w:=⟨h.blk,fun i hi=>h.row i (by omega),fun i hi=>h.own i (by omega),h.size,h.bel⟩
theorem KA.block (h:KA T B w0 q V E n w)(hf:KFr (E n) w w'){k:Nat}{C:Array Value}{t:TypeId}(hk:w.heap[k]?=some (.cells C t (0,0)))(ht:t≠T.te n):w'.heap[k]?=w.heap[k]? :=
 hf.block k (lt_of_block hk) fun e he e2=>by
  obtain ⟨j,hj,rfl⟩:=List.getElem_of_mem he
  obtain ⟨X,hX⟩:=h.own n (Nat.le_refl _)
  obtain ⟨cur,h1,_⟩:=row_block (hX j hj)
  rw [e2,hk] at h1
  simp at h1
  exact ht h1.2
theorem KA.keep (h:KA T B w0 q V E n w)(hf:KFr (E n) w w'){t:TypeId}{sz m:Nat}{v:Value}{xs:List Value}(ho:w.ownsRow 0 t sz v m xs)(ht:t≠T.te n):w'.ownsRow 0 t sz v m xs:=row_keptB ho fun k hk=>by
 rcases ho.2 with ⟨rfl,_⟩ | ⟨g,cap,cur,rfl,_,hb,_⟩
 ·simp [Value.ownBlock] at hk
 ·simp [Value.ownBlock] at hk
  subst hk
  exact h.block hf hb ht
theorem KA.next (h:KA T B w0 q V E n w)(hT:T.Ok)(hd:∀ i,n+1<=i->T.te i≠T.te n)(hlo:∀ e∈E n,B<=e.g)(hf:KFr (E n) w w'):KA T B w0 q V E (n+1) w' :=
 ⟨(h.block hf h.blk (hT.qe n)).trans h.blk,fun i hi=>h.keep hf (h.row i (by omega)) (fun e=>hT.el n i e.symm),fun i hi=>by obtain ⟨X,hX⟩:=h.own i (by omega);exact ⟨X,fun j hj=>h.keep hf (hX j hj) (hd i hi)⟩,Nat.le_trans h.size hf.size,h.bel.trans ⟨hf.os,hf.tape,hf.output,hf.size,fun k hk=>hf.block k (Nat.lt_of_lt_of_le hk h.size) fun e he e2=>by have:=hlo e he;omega⟩⟩
theorem KA.cell (h:KA T B w0 q V E n w){i:Nat}(hi:i < 16):w.cell? ⟨q,i,none⟩=some (V i):=by
 simp only [World.cell?,h.blk]
 exact kArr_get V hi
theorem KA.nil (h:KA T B w0 q V E n w){i:Nat}(hn:n<=i)(hi:i < 16)(hE:E i=[]):w.cell? ⟨q,i,none⟩=some (.slice (slA (V i)) 0 (slC (V i))):=by
 have hr:=h.row i hn
 rw [hE] at hr
 obtain ⟨a,c,e⟩:=hr.slice
 rw [h.cell hi,e]
 rfl
end
theorem kG_ok:kG.Ok:=by
 refine ⟨fun i=>?_,fun i=>?_,fun i j=>?_⟩
 ·unfold kG;dsimp only;split<;>decide
 ·unfold kG;dsimp only;split<;>decide
 ·unfold kG;dsimp only;split<;>(split<;>decide)
theorem kG_ne (n:Nat)(hn:n∈[0,1,2,4,5,10,11]):∀ i,n+1<=i->kG.te i≠kG.te n:=by
 intro i hi
 simp at hn
 rcases hn with rfl | rfl | rfl | rfl | rfl | rfl | rfl<;>(unfold kG;dsimp only;split<;>first | decide | omega)
theorem book_apartG (B q:Nat)(V:Nat->Value)(E:Nat->List LE)(w:World)(hK:KI kG B w q V E)(hno:∀ i,i ∉ [0,1,2,4,5,10,11]->E i=[])(hl0:(E 0).length<=1000)(hl2:(E 2).length<=1000)(hl:∀ i,(E i).length<=100000000)(hn:∀ i,∀ e∈E i,e.n<=100000000) :
  Calls Tryz.prog 14 #[.pointer (some ⟨q,0,none⟩)] w fun e w'=>e=.returned (.bool true)/\Below B w w':=by
 have HK:Hid (KI kG B w q V E):=hK
 have HNO:Hid (∀ i,i ∉ [0,1,2,4,5,10,11]->E i=[]):=hno
 have HL0:Hid ((E 0).length<=1000/\(E 2).length<=1000):=⟨hl0,hl2⟩
 have HLA:Hid (∀ i,(E i).length<=100000000):=hl
 have HN:Hid (∀ i,∀ e∈E i,e.n<=100000000):=hn
 have A0:Hid (KA kG B w q V E 0 w):=hK.toA
 clear hK hno hl0 hl2 hl hn
 go_enter Tryz.func14,Tryz.ntmps14
 go_wp2_with (first
  | (go_at_call 36;obtain ⟨X0,hX0⟩:=A0.out.own 0 (Nat.le_refl _);refine (apart_bytes q (V 0) (E 0) X0 w (A0.out.cell (by omega)) (A0.out.row 0 (Nat.le_refl _)) hX0 (HK.out.nd 0) HL0.out.1 (HN.out 0)).mono ?_;rintro e w0 ⟨rfl,f0⟩;have A1:Hid (KA kG B w q V E 1 w0):=A0.out.next kG_ok (kG_ne 0 (by decide)) (HK.out.loE 0) f0;clear hX0 f0)
  | (go_at_call 37;obtain ⟨X1,hX1⟩:=A1.out.own 1 (Nat.le_refl _);refine (apart_ints q (V 1) (E 1) X1 w0 (A1.out.cell (by omega)) (A1.out.row 1 (Nat.le_refl _)) hX1 (HK.out.nd 1) (HLA.out 1) (HN.out 1)).mono ?_;rintro e w1 ⟨rfl,f1⟩;have A2:Hid (KA kG B w q V E 2 w1):=A1.out.next kG_ok (kG_ne 1 (by decide)) (HK.out.loE 1) f1;clear hX1 f1)
  | (go_at_call 38;obtain ⟨X2,hX2⟩:=A2.out.own 2 (Nat.le_refl _);refine (apart_strings q (V 2) (E 2) X2 w1 (A2.out.cell (by omega)) (A2.out.row 2 (Nat.le_refl _)) hX2 (HK.out.nd 2) HL0.out.2 (HN.out 2)).mono ?_;rintro e w2 ⟨rfl,f2⟩;have A3:Hid (KA kG B w q V E 3 w2):=A2.out.next kG_ok (kG_ne 2 (by decide)) (HK.out.loE 2) f2;clear hX2 f2)
  | (go_at_call 39;refine (apartnilBools q (slA (V 3)) (slC (V 3)) w2 (A3.out.nil (i:=3) (Nat.le_refl _) (by omega) (HNO.out 3 (by decide)))).mono ?_;rintro e w' ⟨rfl,rfl⟩;have A4:Hid (KA kG B w q V E 4 w2):=A3.out.skip)
  | (go_at_call 40;obtain ⟨X4,hX4⟩:=A4.out.own 4 (Nat.le_refl _);refine (apart_syms q (V 4) (E 4) X4 w2 (A4.out.cell (by omega)) (A4.out.row 4 (Nat.le_refl _)) hX4 (HK.out.nd 4) (HLA.out 4) (HN.out 4)).mono ?_;rintro e w4 ⟨rfl,f4⟩;have A5:Hid (KA kG B w q V E 5 w4):=A4.out.next kG_ok (kG_ne 4 (by decide)) (HK.out.loE 4) f4;clear hX4 f4)
  | (go_at_call 41;obtain ⟨X5,hX5⟩:=A5.out.own 5 (Nat.le_refl _);refine (apart_cores q (V 5) (E 5) X5 w4 (A5.out.cell (by omega)) (A5.out.row 5 (Nat.le_refl _)) hX5 (HK.out.nd 5) (HLA.out 5) (HN.out 5)).mono ?_;rintro e w5 ⟨rfl,f5⟩;have A6:Hid (KA kG B w q V E 6 w5):=A5.out.next kG_ok (kG_ne 5 (by decide)) (HK.out.loE 5) f5;clear hX5 f5)
  | (go_at_call 42;refine (apartnilActions q (slA (V 6)) (slC (V 6)) w5 (A6.out.nil (i:=6) (Nat.le_refl _) (by omega) (HNO.out 6 (by decide)))).mono ?_;rintro e w' ⟨rfl,rfl⟩;have A7:Hid (KA kG B w q V E 7 w5):=A6.out.skip)
  | (go_at_call 43;refine (apartnilEdges q (slA (V 7)) (slC (V 7)) w5 (A7.out.nil (i:=7) (Nat.le_refl _) (by omega) (HNO.out 7 (by decide)))).mono ?_;rintro e w' ⟨rfl,rfl⟩;have A8:Hid (KA kG B w q V E 8 w5):=A7.out.skip)
  | (go_at_call 44;refine (apartnilPairs q (slA (V 8)) (slC (V 8)) w5 (A8.out.nil (i:=8) (Nat.le_refl _) (by omega) (HNO.out 8 (by decide)))).mono ?_;rintro e w' ⟨rfl,rfl⟩;have A9:Hid (KA kG B w q V E 9 w5):=A8.out.skip)
  | (go_at_call 45;refine (apartnilTokens q (slA (V 9)) (slC (V 9)) w5 (A9.out.nil (i:=9) (Nat.le_refl _) (by omega) (HNO.out 9 (by decide)))).mono ?_;rintro e w' ⟨rfl,rfl⟩;have A10:Hid (KA kG B w q V E 10 w5):=A9.out.skip)
  | (go_at_call 46;obtain ⟨X10,hX10⟩:=A10.out.own 10 (Nat.le_refl _);refine (apart_prods q (V 10) (E 10) X10 w5 (A10.out.cell (by omega)) (A10.out.row 10 (Nat.le_refl _)) hX10 (HK.out.nd 10) (HLA.out 10) (HN.out 10)).mono ?_;rintro e w10 ⟨rfl,f10⟩;have A11:Hid (KA kG B w q V E 11 w10):=A10.out.next kG_ok (kG_ne 10 (by decide)) (HK.out.loE 10) f10;clear hX10 f10)
  | (go_at_call 47;obtain ⟨X11,hX11⟩:=A11.out.own 11 (Nat.le_refl _);refine (apart_levels q (V 11) (E 11) X11 w10 (A11.out.cell (by omega)) (A11.out.row 11 (Nat.le_refl _)) hX11 (HK.out.nd 11) (HLA.out 11) (HN.out 11)).mono ?_;rintro e w11 ⟨rfl,f11⟩;have A12:Hid (KA kG B w q V E 12 w11):=A11.out.next kG_ok (kG_ne 11 (by decide)) (HK.out.loE 11) f11;clear hX11 f11)
  | (go_at_call 48;refine (apartnilItems q (slA (V 12)) (slC (V 12)) w11 (A12.out.nil (i:=12) (Nat.le_refl _) (by omega) (HNO.out 12 (by decide)))).mono ?_;rintro e w' ⟨rfl,rfl⟩;have A13:Hid (KA kG B w q V E 13 w11):=A12.out.skip)
  | (go_at_call 49;refine (apartnilTrees q (slA (V 13)) (slC (V 13)) w11 (A13.out.nil (i:=13) (Nat.le_refl _) (by omega) (HNO.out 13 (by decide)))).mono ?_;rintro e w' ⟨rfl,rfl⟩;have A14:Hid (KA kG B w q V E 14 w11):=A13.out.skip)
  | (go_at_call 50;refine (apartnilRows q (slA (V 14)) (slC (V 14)) w11 (A14.out.nil (i:=14) (Nat.le_refl _) (by omega) (HNO.out 14 (by decide)))).mono ?_;rintro e w' ⟨rfl,rfl⟩;have A15:Hid (KA kG B w q V E 15 w11):=A14.out.skip)
  | (go_at_call 51;refine (apartnilConflicts q (slA (V 15)) (slC (V 15)) w11 (A15.out.nil (i:=15) (Nat.le_refl _) (by omega) (HNO.out 15 (by decide)))).mono ?_;rintro e w' ⟨rfl,rfl⟩;have A16:Hid (KA kG B w q V E 16 w11):=A15.out.skip))
 go_ret
 exact ⟨rfl,A16.out.bel⟩
end Go.Proofs.YthaamdognbncnaaGreatDoor
