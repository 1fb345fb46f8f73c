import Derived.Test.YteciabdjkaackaaGreatPGProdGToGProdC
namespace Go.Proofs.YteciabdjkaackaaGreat
set_option linter.unusedVariables false
open Go.RowKit
def levelQ (g:GV)(i:Nat)(l:LV):Int :=
 if l.assoc < 1∨3 < l.assoc∨l.terms.length=0 then 37
 else if (l.terms.any fun n=>!inT g n)=true then 4
 else if risesU l.terms=false then 7
 else if (l.terms.any fun n=>(nU_ g.ls i).contains n)=true then 6
 else 0
theorem levelQ_is (g:GV)(i:Nat):lU_ g i=levelQ g i (g.ls.getD i .none):=rfl
abbrev lBox (l:LV):Obj:=.cells #[.int .i64 l.assoc,.slice l.ta l.terms.length l.tc] 120
structure LB (g:GV)(l:LV)(w wr:World):Prop where
 at_:GAt 140737488355328 wr g
 row:InRow wr l.ta l.terms
 g0:wr.cell? ⟨w.heap.size,0,none⟩=some (.slice g.ta g.ts.length g.tc)
 g1:wr.cell? ⟨w.heap.size,1,none⟩=some (.slice g.na g.ns.length g.nc)
 g2:wr.cell? ⟨w.heap.size,2,none⟩=some (.int .i64 g.start)
 g3:wr.cell? ⟨w.heap.size,3,none⟩=some (.slice g.pa g.ps.length g.pc)
 g4:wr.cell? ⟨w.heap.size,4,none⟩=some (.slice g.la g.ls.length g.lc)
 l0:wr.cell? ⟨w.heap.size+1,0,none⟩=some (.int .i64 l.assoc)
 l1:wr.cell? ⟨w.heap.size+1,1,none⟩=some (.slice l.ta l.terms.length l.tc)
 lt0:w.heap.size < wr.heap.size
 lt1:w.heap.size+1 < wr.heap.size
theorem LB.new {g:GV}{l:LV}{w:World}(h:GAt 140737488355328 w g)(hr:InRow w l.ta l.terms):LB g l w ((w.alloc (gBox g)).alloc (lBox l)):=by
 have b1:=bAl w (gBox g)
 have b2:=bAl (w.alloc (gBox g)) (lBox l)
 have b3:Below w.heap.size w ((w.alloc (gBox g)).alloc (lBox l)):=b1.trans (b2.mono b1.size)
 have e1:((w.alloc (gBox g)).alloc (lBox l)).heap[w.heap.size]?=some (gBox g):=(b2.block _ (by rw [alloc_size];omega)).trans (heap_alloc_new w _)
 have e2:((w.alloc (gBox g)).alloc (lBox l)).heap[w.heap.size+1]?=some (lBox l):=by have:=heap_alloc_new (w.alloc (gBox g)) (lBox l);rwa [alloc_size] at this
 refine ⟨h.later b3,hr.later b3,?_,?_,?_,?_,?_,?_,?_,lt_of_block e1,lt_of_block e2⟩
 ·rw [cQa e1];rfl
 ·rw [cQa e1];rfl
 ·rw [cQa e1];rfl
 ·rw [cQa e1];rfl
 ·rw [cQa e1];rfl
 ·rw [cQa e2];rfl
 ·rw [cQa e2];rfl
theorem LB.later {g:GV}{l:LV}{w wr w':World}(h:LB g l w wr)(hb:Below wr.heap.size wr w'):LB g l w w':=by
 have e0:∀ j,w'.cell? ⟨w.heap.size,j,none⟩=wr.cell? ⟨w.heap.size,j,none⟩:=fun j=>hb.cell (p:=⟨w.heap.size,j,none⟩) h.lt0
 have e1:∀ j,w'.cell? ⟨w.heap.size+1,j,none⟩=wr.cell? ⟨w.heap.size+1,j,none⟩:=fun j=>hb.cell (p:=⟨w.heap.size+1,j,none⟩) h.lt1
 exact ⟨h.at_.later hb,h.row.later hb,(e0 0).trans h.g0,(e0 1).trans h.g1,(e0 2).trans h.g2,(e0 3).trans h.g3,(e0 4).trans h.g4,(e1 0).trans h.l0,(e1 1).trans h.l1,Nat.lt_of_lt_of_le h.lt0 hb.size,Nat.lt_of_lt_of_le h.lt1 hb.size⟩
theorem LB.ahead {g:GV}{l:LV}{w wr:World}(h:LB g l w wr){k:Nat}(hk:k < g.ls.length):∃ b off,g.la=some ⟨b,off,none⟩/\b < wr.heap.size/\wr.cell? ⟨b,off+k*2+1,none⟩=some (.slice (g.ls.getD k .none).ta (g.ls.getD k .none).terms.length (g.ls.getD k .none).tc)/\InRow wr (g.ls.getD k .none).ta (g.ls.getD k .none).terms/\(g.ls.getD k .none).terms.length<=140737488355328:=by
 obtain ⟨b,off,e,hl,hc⟩:=h.at_.l.cells (by intro e;rw [e] at hk;simp at hk)
 obtain ⟨_,c1⟩:=hc k hk
 have hm:g.ls.getD k .none∈g.ls:=by simp [List.getD,hk]
 exact ⟨b,off,e,hl,c1,h.at_.l.rows _ hm,h.at_.vl _ hm⟩
theorem getD_memI {l:List Int}{c:Nat}(h:c < l.length):l.getD c 0∈l:=by simp [List.getD,h]
theorem named_in {ls:List LV}{i b c:Nat}{x:Int}(hb:b < i)(hbl:b < ls.length)(hc:c < (ls.getD b .none).terms.length)(e:(ls.getD b .none).terms.getD c 0=x):(nU_ ls i).contains x=true:=by
 rw [List.contains_iff_mem]
 unfold nU_
 rw [List.mem_flatMap]
 refine ⟨ls.getD b .none,?_,?_⟩
 ·rw [List.mem_take_iff_getElem]
  exact ⟨b,by omega,by simp [List.getD,hbl]⟩
 ·rw [<- e];exact getD_memI hc
theorem named_out {ls:List LV}{i:Nat}{x:Int}(h:∀ b,b < i->b < ls.length->∀ c,c < (ls.getD b .none).terms.length->(ls.getD b .none).terms.getD c 0≠x):(nU_ ls i).contains x=false:=by
 cases e:(nU_ ls i).contains x with
 | false=>rfl
 | true =>
  exfalso
  rw [List.contains_iff_mem] at e
  unfold nU_ at e
  rw [List.mem_flatMap] at e
  obtain ⟨l,hl,hx⟩:=e
  rw [List.mem_take_iff_getElem] at hl
  obtain ⟨b,hb,rfl⟩:=hl
  have hbl:b < ls.length:=by omega
  obtain ⟨c,hc,hcx⟩:=List.getElem_of_mem hx
  refine h b (by omega) hbl c (by simpa [List.getD,hbl] using hc) ?_
  simp only [List.getD,List.getElem?_eq_getElem hbl,Option.getD_some,List.getElem?_eq_getElem hc]
  exact hcx
theorem rises_hit {l:List Int}{k:Nat}(h1:1<=k)(hk:k < l.length)(h:l.getD k 0<=l.getD (k - 1) 0):risesU l=false:=by
 unfold risesU
 rw [List.all_eq_false]
 refine ⟨k - 1,by simp;omega,?_⟩
 rw [show k - 1+1=k by omega]
 simp only [decide_eq_true_eq]
 omega
theorem rises_all {l:List Int}(h:∀ j,j+1 < l.length->l.getD j 0 < l.getD (j+1) 0):risesU l=true:=by
 unfold risesU
 rw [List.all_eq_true]
 intro j hj
 simp at hj
 simp only [decide_eq_true_eq]
 exact h j (by omega)
set_option maxRecDepth 100000 in
set_option maxHeartbeats 4000000 in
theorem reflevel_any (g:GV)(i:Nat)(w:World)(h:GAt 140737488355328 w g)(hi:i < g.ls.length) :
  Calls Tryz.prog 96 #[g.val,.int .i64 i] w fun e w'=>e=.returned (.int .i64 (lU_ g i))/\Below w.heap.size w w':=by
 obtain ⟨b,off,hla,hbl,hc⟩:=h.l.cells (by intro e;rw [e] at hi;simp at hi)
 obtain ⟨c0,c1⟩:=hc i hi
 have hm:g.ls.getD i .none∈g.ls:=by simp [List.getD,hi]
 have hrow:=h.l.rows _ hm
 have hrl:=h.vl _ hm
 have htl:=h.tl
 have hll:=h.ll
 rw [levelQ_is]
 have hv:g.val=.agg #[.slice g.ta g.ts.length g.tc,.slice g.na g.ns.length g.nc,.int .i64 g.start,.slice g.pa g.ps.length g.pc,.slice (some ⟨b,off,none⟩) g.ls.length g.lc]:=by unfold GV.val;rw [hla]
 have hgb:gBox g=.cells #[.slice g.ta g.ts.length g.tc,.slice g.na g.ns.length g.nc,.int .i64 g.start,.slice g.pa g.ps.length g.pc,.slice (some ⟨b,off,none⟩) g.ls.length g.lc] 63:=by unfold gBox;rw [hla]
 clear hc hm
 generalize g.ls.getD i .none=l at *
 have HP:Hid (LB g l w ((w.alloc (gBox g)).alloc (lBox l))):=LB.new h hrow
 have HB0:Hid (Below w.heap.size w ((w.alloc (gBox g)).alloc (lBox l))):=(bAl w _).trans ((bAl _ _).mono (bAl w _).size)
 clear h hrow
 rw [hgb] at HP HB0
 have HPA:Hid (g.la=some ⟨b,off,none⟩):=hla
 rw [hv]
 clear hv hgb hla
 obtain ⟨assoc,ta,tc,terms⟩:=l
 simp only at c0 c1 hrl
 by_cases hA:assoc < 1∨3 < assoc∨terms.length=0
 ·have HU:Hid (levelQ g i ⟨assoc,ta,tc,terms⟩=37):=by show _=_;unfold levelQ;rw [if_pos hA]
  by_cases h1:assoc < 1
  ·have d1:decide (assoc < 1)=true:=by simpa using h1
   clear hA h1
   go_enter Tryz.func96,Tryz.ntmps96
   go_wp2
   go_ret
   exact ⟨by rw [HU.out];rfl,HB0.out⟩
  ·have d1:decide (assoc < 1)=false:=by simpa using h1
   by_cases h2:3 < assoc
   ·have d2:decide (assoc > 3)=true:=by simpa using h2
    clear hA h1 h2
    go_enter Tryz.func96,Tryz.ntmps96
    go_wp2
    go_ret
    exact ⟨by rw [HU.out];rfl,HB0.out⟩
   ·have d2:decide (assoc > 3)=false:=by simpa using h2
    have h3:terms.length=0:=by omega
    have d3:((terms.length:Int) == 0)=true:=by simp [h3]
    clear hA h1 h2 h3
    go_enter Tryz.func96,Tryz.ntmps96
    go_wp2
    go_ret
    exact ⟨by rw [HU.out];rfl,HB0.out⟩
 ·have d1:decide (assoc < 1)=false:=by simp;omega
  have d2:decide (assoc > 3)=false:=by simp;omega
  have d3:((terms.length:Int) == 0)=false:=by simp only [beq_eq_false_iff_ne,ne_eq];omega
  have HU:Hid (levelQ g i ⟨assoc,ta,tc,terms⟩=if (terms.any fun n=>!inT g n)=true then 4 else if risesU terms=false then 7 else if (terms.any fun n=>(nU_ g.ls i).contains n)=true then 6 else 0):=by show _=_;unfold levelQ;rw [if_neg hA]
  clear hA
  go_enter Tryz.func96,Tryz.ntmps96
  go_wp2
  generalize ((w.alloc (.cells #[.slice g.ta g.ts.length g.tc,.slice g.na g.ns.length g.nc,.int .i64 g.start,.slice g.pa g.ps.length g.pc,.slice (some ⟨b,off,none⟩) g.ls.length g.lc] 63)).alloc (lBox ⟨assoc,ta,tc,terms⟩))=W at *
  have HF:Hid (∀ wr,Below W.heap.size W wr->Below w.heap.size w wr):=fun wr hb=>HB0.out.trans (hb.mono HB0.out.size)
  go_loopw [6] (fun z wr=>∃ k:Nat,k<=terms.length/\z=.int .i64 k/\Below W.heap.size W wr/\Hid (∀ j,j < k->inT g (terms.getD j 0)=true)) (fun z _=>terms.length - (intOf z).toNat)
  case atStart=>exact ⟨0,Nat.zero_le _,rfl,Below.refl _ _,fun j hj=>by omega⟩
  case round =>
   obtain ⟨k,hk,rfl,hb,HA⟩:=hrel
   have HW:Hid (LB g ⟨assoc,ta,tc,terms⟩ w wr):=HP.out.later hb
   have q1:=HW.out.l1
   have q0:=HW.out.g0
   simp only at q1
   by_cases hlt:k < terms.length
   ·obtain ⟨rb,ro,rfl,hrb,hrc⟩:=HW.out.row (by intro e;subst e;simp at hlt)
    have r0:=hrc k hlt
    simp only at r0
    clear hrc
    have HIT:Hid (inT g (terms.getD k 0)=false->(terms.any fun n=>!inT g n)=true):=fun e=>any_hit (d:=0) hlt (by show (!inT g _)=true;rw [e];rfl)
    have HST:Hid (inT g (terms.getD k 0)=true->∀ j,j < k+1->inT g (terms.getD j 0)=true):=fun e j hj=>by
     rcases Nat.lt_succ_iff_lt_or_eq.1 hj with r | rfl
     ·exact HA.out j r
     ·exact e
    generalize terms.getD k 0=x at *
    by_cases hx1:x < 0
    ·have t1:decide (x < 0)=true:=by simpa using hx1
     have HU2:Hid (levelQ g i ⟨assoc,some ⟨rb,ro,none⟩,tc,terms⟩=4):=by
      show _=_
      rw [HU.out,if_pos (HIT.out (by unfold inT;simp;omega))]
     clear HIT HST HU
     go_wp2
     go_quiet (fail)
     go_wp2
     go_ret
     exact ⟨by rw [HU2.out];rfl,HF.out _ (bDn hb _)⟩
    ·have t1:decide (x < 0)=false:=by simpa using hx1
     by_cases hx2:x ≥ g.ts.length
     ·have t2:decide (x ≥ (g.ts.length:Int))=true:=by simpa using hx2
      have HU2:Hid (levelQ g i ⟨assoc,some ⟨rb,ro,none⟩,tc,terms⟩=4):=by
       show _=_
       rw [HU.out,if_pos (HIT.out (by unfold inT;simp;omega))]
      clear HIT HST HU
      go_wp2
      go_quiet (fail)
      go_wp2
      go_ret
      exact ⟨by rw [HU2.out];rfl,HF.out _ (bDn hb _)⟩
     ·have t2:decide (x ≥ (g.ts.length:Int))=false:=by simpa using hx2
      have HS1:Hid _:=HST.out (by unfold inT;simp;omega)
      clear HIT HST
      go_wp2
      go_quiet (fail)
      go_wp2
      go_roundw
      case rel=>exact ⟨k+1,by omega,by go_num,bDn hb _,HS1.out⟩
      case measure=>simp [intOf];omega
   ·have HNA:Hid ((terms.any fun n=>!inT g n)=false):=any_none 0 fun j hj=>by show (!inT g _)=false;rw [HA.out j (by omega)];rfl
    have HU1:Hid (levelQ g i ⟨assoc,ta,tc,terms⟩=if risesU terms=false then 7 else if (terms.any fun n=>(nU_ g.ls i).contains n)=true then 6 else 0):=by
     show _=_
     rw [HU.out,HNA.out]
     rfl
    clear HU HNA HA
    go_wp2
    obtain ⟨wo,rfl⟩:∃ wo:World,wo=wr:=⟨_,rfl⟩
    go_loopw [7] (fun z wr=>∃ k:Nat,1<=k/\k<=terms.length+1/\z=.int .i64 k/\Below W.heap.size W wr/\Hid (∀ j,j+1 < k->j+1 < terms.length->terms.getD j 0 < terms.getD (j+1) 0)) (fun z _=>terms.length+1 - (intOf z).toNat)
    case atStart=>exact ⟨1,by omega,by omega,rfl,hb,fun j hj=>by omega⟩
    case round =>
     clear HW q1 q0 hb hlt hk
     obtain ⟨k,hk1,hk,rfl,hb,HA⟩:=hrel
     have HW:Hid (LB g ⟨assoc,ta,tc,terms⟩ w wr):=HP.out.later hb
     have q1:=HW.out.l1
     simp only at q1
     by_cases hlt:k < terms.length
     ·obtain ⟨rb,ro,rfl,hrb,hrc⟩:=HW.out.row (by intro e;subst e;simp at hlt)
      obtain ⟨k',rfl⟩:∃ k',k=k'+1:=⟨k - 1,by omega⟩
      have r0:=hrc (k'+1) hlt
      have r1:=hrc k' (show k' < terms.length by omega)
      simp only at r0 r1
      clear hrc
      have ei:((k'+1:Nat):Int) - 1=(k':Int):=by omega
      have HIT:Hid (terms.getD (k'+1) 0<=terms.getD k' 0->risesU terms=false):=fun e=>rises_hit (k:=k'+1) (by omega) hlt e
      have HST:Hid (terms.getD k' 0 < terms.getD (k'+1) 0->∀ j,j+1 < k'+1+1->j+1 < terms.length->terms.getD j 0 < terms.getD (j+1) 0):=fun e j hj hj2=>by
       by_cases r:j+1 < k'+1
       ·exact HA.out j r hj2
       ·obtain rfl:j=k':=by omega
        exact e
      generalize terms.getD (k'+1) 0=x at *
      generalize terms.getD k' 0=y at *
      by_cases hxy:x<=y
      ·have HU2:Hid (levelQ g i ⟨assoc,some ⟨rb,ro,none⟩,tc,terms⟩=7):=by
        show _=_
        rw [HU1.out,if_pos (HIT.out hxy)]
       have t1:decide (x<=y)=true:=by simpa using hxy
       clear HIT HST HU1
       go_wp2
       go_quiet (fail)
       go_wp2
       go_ret
       exact ⟨by rw [HU2.out];rfl,HF.out _ (bDn hb _)⟩
      ·have HS1:Hid _:=HST.out (by omega)
       have t1:decide (x<=y)=false:=by simpa using hxy
       clear HIT HST
       go_wp2
       go_quiet (fail)
       go_wp2
       go_roundw
       case rel=>exact ⟨k'+1+1,by omega,by omega,by go_num,bDn hb _,HS1.out⟩
       case measure=>simp [intOf];omega
     ·have HR:Hid (risesU terms=true):=rises_all fun j hj=>HA.out j (by omega) hj
      have HU2:Hid (levelQ g i ⟨assoc,ta,tc,terms⟩=if (terms.any fun n=>(nU_ g.ls i).contains n)=true then 6 else 0):=by
       show _=_
       rw [HU1.out,HR.out]
       rfl
      clear HU1 HR HA
      go_wp2
      obtain ⟨wo2,rfl⟩:∃ wo2:World,wo2=wr:=⟨_,rfl⟩
      go_loopw [8] (fun z wr=>∃ k:Nat,k<=terms.length/\z=.int .i64 k/\Below W.heap.size W wr/\Hid (∀ j,j < k->(nU_ g.ls i).contains (terms.getD j 0)=false)) (fun z _=>terms.length - (intOf z).toNat)
      case atStart=>exact ⟨0,Nat.zero_le _,rfl,hb,fun j hj=>by omega⟩
      case round =>
       clear HW q1 hb hlt hk1 hk
       obtain ⟨k,hk,rfl,hb,HA⟩:=hrel
       have HW:Hid (LB g ⟨assoc,ta,tc,terms⟩ w wr):=HP.out.later hb
       have q1:=HW.out.l1
       simp only at q1
       by_cases hlt:k < terms.length
       ·have HIT:Hid ((nU_ g.ls i).contains (terms.getD k 0)=true->levelQ g i ⟨assoc,ta,tc,terms⟩=6):=fun e=>by rw [HU2.out,if_pos (any_hit (d:=0) hlt e)]
        have HST:Hid ((nU_ g.ls i).contains (terms.getD k 0)=false->∀ j,j < k+1->(nU_ g.ls i).contains (terms.getD j 0)=false):=fun e j hj=>by
         rcases Nat.lt_succ_iff_lt_or_eq.1 hj with r | rfl
         ·exact HA.out j r
         ·exact e
        have HX:Hid (∀ wr,Below W.heap.size W wr->∃ rb ro,ta=some ⟨rb,ro,none⟩/\wr.cell? ⟨rb,ro+k,none⟩=some (.int .i64 (terms.getD k 0))):=fun wr hb=>by
         obtain ⟨rb,ro,e,_,hrc⟩:=(HP.out.later hb).row (by intro e;simp only at e;subst e;simp at hlt)
         exact ⟨rb,ro,e,hrc k hlt⟩
        clear HA HU2
        generalize terms.getD k 0=x at *
        go_wp2
        obtain ⟨wo3,rfl⟩:∃ wo3:World,wo3=wr:=⟨_,rfl⟩
        go_loopw [9] (fun z wr=>∃ j:Nat,j<=i/\z=.int .i64 j/\Below W.heap.size W wr/\Hid (∀ b,b < j->b < g.ls.length->∀ c,c < (g.ls.getD b .none).terms.length->(g.ls.getD b .none).terms.getD c 0≠x)) (fun z _=>i - (intOf z).toNat)
        case atStart=>exact ⟨0,Nat.zero_le _,rfl,hb,fun j hj=>by omega⟩
        case round =>
         clear HW q1 hb
         obtain ⟨j,hj,rfl,hb,HA⟩:=hrel
         have HW:Hid (LB g ⟨assoc,ta,tc,terms⟩ w wr):=HP.out.later hb
         have g4':wr.cell? ⟨w.heap.size,4,none⟩=some (.slice (some ⟨b,off,none⟩) g.ls.length g.lc):=by rw [HW.out.g4,HPA.out]
         by_cases hlj:j < i
         ·have hjl:j < g.ls.length:=by omega
          have HIN:Hid (∀ c,c < (g.ls.getD j .none).terms.length->(g.ls.getD j .none).terms.getD c 0=x->(nU_ g.ls i).contains x=true):=fun c hc e=>named_in hlj hjl hc e
          have HOUT:Hid ((∀ c,c < (g.ls.getD j .none).terms.length->(g.ls.getD j .none).terms.getD c 0≠x)->∀ b,b < j+1->b < g.ls.length->∀ c,c < (g.ls.getD b .none).terms.length->(g.ls.getD b .none).terms.getD c 0≠x):=fun e b2 hb2=>by
           rcases Nat.lt_succ_iff_lt_or_eq.1 hb2 with r | rfl
           ·exact HA.out b2 r
           ·exact fun _=>e
          have HY:Hid (∀ wr,Below W.heap.size W wr->wr.cell? ⟨w.heap.size,4,none⟩=some (.slice (some ⟨b,off,none⟩) g.ls.length g.lc)/\wr.cell? ⟨b,off+j*2+1,none⟩=some (.slice (g.ls.getD j .none).ta (g.ls.getD j .none).terms.length (g.ls.getD j .none).tc)/\InRow wr (g.ls.getD j .none).ta (g.ls.getD j .none).terms/\wr.cell? ⟨w.heap.size+1,1,none⟩=some (.slice ta terms.length tc)):=fun wr hb=>by
           have hL:=HP.out.later hb
           obtain ⟨b2,off2,e2,_,a1,arow,_⟩:=hL.ahead hjl
           rw [HPA.out] at e2
           simp only [Option.some.injEq,Addr.mk.injEq] at e2
           obtain ⟨rfl,rfl,_⟩:=e2
           exact ⟨by rw [hL.g4,HPA.out],a1,arow,hL.l1⟩
          have alen:(g.ls.getD j .none).terms.length<=140737488355328:=by
           obtain ⟨_,_,_,_,_,_,h⟩:=HW.out.ahead hjl
           exact h
          obtain ⟨_,y1,_,_⟩:=HY.out wr hb
          clear HA
          generalize g.ls.getD j .none=P at *
          obtain ⟨xs,xa,xc,xt⟩:=P
          simp only at y1 alen HIN HOUT HY
          go_wp2
          obtain ⟨wo4,rfl⟩:∃ wo4:World,wo4=wr:=⟨_,rfl⟩
          go_loopw [10] (fun z wr=>∃ m:Nat,m<=xt.length/\z=.int .i64 m/\Below W.heap.size W wr/\Hid (∀ c,c < m->xt.getD c 0≠x)) (fun z _=>xt.length - (intOf z).toNat)
          case atStart=>exact ⟨0,Nat.zero_le _,rfl,hb,fun j hj=>by omega⟩
          case round =>
           clear HW g4' hb y1
           obtain ⟨m,hm,rfl,hb,HA⟩:=hrel
           obtain ⟨y0,y1,y2,y3⟩:=HY.out wr hb
           obtain ⟨rb,ro,hta,y4⟩:=HX.out wr hb
           by_cases hlm:m < xt.length
           ·obtain ⟨tb,to,rfl,_,htc⟩:=y2 (by intro e;subst e;simp at hlm)
            have y5:=htc m hlm
            have HN:Hid (xt.getD m 0≠x->∀ c,c < m+1->xt.getD c 0≠x):=fun e c hc=>by
             rcases Nat.lt_succ_iff_lt_or_eq.1 hc with r | rfl
             ·exact HA.out c r
             ·exact e
            have HI:Hid (xt.getD m 0=x->levelQ g i ⟨assoc,ta,tc,terms⟩=6):=fun e=>HIT.out (HIN.out m hlm e)
            have HTA:Hid (ta=some ⟨rb,ro,none⟩):=hta
            rw [hta] at y3
            clear htc y2 hta HA HIN HOUT HIT HST
            generalize xt.getD m 0=y at *
            by_cases hyx:y=x
            ·have HU3:Hid (levelQ g i ⟨assoc,ta,tc,terms⟩=6):=HI.out hyx
             have t1:(y == x)=true:=by simpa using hyx
             clear HI HN
             subst hyx
             go_wp2
             go_quiet (fail)
             go_wp2
             go_ret
             exact ⟨by rw [HU3.out];rfl,HF.out _ (bDn hb _)⟩
            ·have HS1:Hid _:=HN.out hyx
             have t1:(y == x)=false:=by simpa using hyx
             clear HI HN
             go_wp2
             go_quiet (fail)
             go_wp2
             go_roundw
             case rel=>exact ⟨m+1,by omega,by go_num,bDn hb _,HS1.out⟩
             case measure=>simp [intOf];omega
           ·have HO:Hid _:=HOUT.out fun c hc=>HA.out c (by omega)
            clear HA y2
            go_wp2
            go_roundw
            case rel=>exact ⟨j+1,by omega,by go_num,hb,HO.out⟩
            case measure=>simp [intOf];omega
         ·have HS1:Hid _:=HST.out (named_out fun b2 hb2=>HA.out b2 (by omega))
          clear HA
          go_wp2
          go_roundw
          case rel=>exact ⟨k+1,by omega,by go_num,hb,HS1.out⟩
          case measure=>simp [intOf];omega
       ·have HU3:Hid (levelQ g i ⟨assoc,ta,tc,terms⟩=0):=by
         show _=_
         rw [HU2.out,any_none 0 fun j hj=>HA.out j (by omega)]
         rfl
        clear HU2 HA
        go_wp2
        go_ret
        exact ⟨by rw [HU3.out];rfl,HF.out _ hb⟩
open Go.RowKit Go.Maps
structure ISet (D:DataW Unit)(l:List Int):Prop where
 tidy:Tidy D
 has_:∀ x,Maps.has D (.int .i64 x)=l.contains x
theorem ISet.empty:ISet (.map []) []:=⟨tidy_empty,fun _=>rfl⟩
theorem int_is (x:Int):WideAt.IsKeyLit (.int .i64 x):=by unfold WideAt.IsKeyLit;trivial
theorem ISet.put {D:DataW Unit}{l:List Int}(h:ISet D l)(x:Int):ISet (D.put (.int .i64 x) (.agg [])) (l++[x]):=by
 refine ⟨h.tidy.put (int_is x) _,fun t=>?_⟩
 by_cases e:t=x
 ·subst e;rw [has_put_same h.tidy.isMap (int_is t)];simp
 ·rw [has_put_other (fun q=>e (by simpa using q)),h.has_ t]
  simp [e]
theorem lawI:Keyed Tryz.prog 3:=int_keyed Tryz.underlying3
theorem keyOf_num {x:Int}(h0:0<=x)(h1:x<=140737488355328):keyOf Tryz.prog 3 (.int .i64 x)=some (.int .i64 x):=by
 refine keyOf_int_mk Tryz.underlying3 ?_
 have e1:IntKind.i64.min=-9223372036854775808:=by decide
 have e2:IntKind.i64.max=9223372036854775807:=by decide
 simp [Lit.wf,e1,e2]
 omega
theorem zeroUnitI (w:World):(zeroValue 186).run Tryz.prog w=.ok (.agg #[]) w:=by kernel_rfl
set_option maxHeartbeats 1000000 in
theorem strangeL_c (g:GV)(gb:Nat)(n:Int)(w:World)(h1:g.ts.length<=140737488355328)(hB:BoxG g gb w) :
  Calls Tryz.prog 147 #[.int .i64 n,.pointer (some ⟨gb,0,none⟩)] w fun e w'=>e=.returned (.bool (!inT g n))/\Below w.heap.size w w':=by
 have c0:=hB.g0
 have c1:=hB.g1
 have c2:=hB.g2
 have c3:=hB.g3
 have c4:=hB.g4
 have CI:Hid (∀ z,Calls Tryz.prog 146 #[g.val,.int .i64 n] z fun e w'=>e=.returned (.bool (inT g n))/\Below z.heap.size z w'):=fun z=>isterm_any g n z h1
 clear hB
 generalize inT g n=x at *
 go_enter Tryz.func147,Tryz.ntmps147
 go_wp2_with (go_at_call 146;refine (CI.out _).mono ?_;rintro e w1 ⟨rfl,hb1⟩)
 go_ret
 exact ⟨rfl,hb1⟩
set_option maxHeartbeats 1000000 in
theorem taken_c (mb b:Nat)(D:DataW Unit)(l:List Int)(n:Int)(w:World)(h0:0<=n)(h1:n<=140737488355328)(hc:w.cell? ⟨mb,0,none⟩=some (.map (some b)))(ho:w.ownsMap Tryz.prog 3 unitElem b (Maps.size D) D)(hS:ISet D l) :
  Calls Tryz.prog 148 #[.int .i64 n,.pointer (some ⟨mb,0,none⟩)] w fun e w'=>e=.returned (.bool (l.contains n))/\Below w.heap.size w w':=by
 have HH:Hid (Maps.has D (.int .i64 n)=l.contains n):=hS.has_ n
 have HO:Hid (w.ownsMap Tryz.prog 3 unitElem b (Maps.size D) D):=ho
 clear hS ho
 go_enter Tryz.func148,Tryz.ntmps148
 go_wp2_with (at_lookup;refine wpList_lookup_own_unit _ rfl _ _ 184 rfl 3 186 lawI Tryz.underlying184 (zeroUnitI _) b _ D rfl HO.out _ _ rfl (keyOf_num h0 h1) ?_)
 go_ret
 exact ⟨by rw [<- HH.out];rfl,by go_grown⟩
set_option maxRecDepth 100000 in
set_option maxHeartbeats 2000000 in
theorem idx_strangeL (g:GV)(gb:Nat)(ao:Option Addr)(cap:Nat)(l:List Int)(w:World)(hl:l.length<=140737488355328)(hr:InRow w ao l)(h1:g.ts.length<=140737488355328)(hB:BoxG g gb w) :
  Calls Tryz.prog 160 #[.slice ao l.length cap,.func (.func 147) #[] #[.pointer (some ⟨gb,0,none⟩)]] w fun e w'=>∃ v,e=.returned (.int .i64 v)/\((l.any fun n=>!inT g n)=decide (0<=v))/\Below w.heap.size w w':=by
 have HR:Hid (InRow w ao l):=hr
 clear hr
 have HB:Hid (BoxG g gb w):=hB
 clear hB
 go_enter Tryz.func160,Tryz.ntmps160
 go_wp2
 go_loopw [8] (fun z wr=>∃ k:Nat,k<=l.length/\z=.int .i64 k/\Below w.heap.size w wr/\Hid (∀ j,j < k->(!inT g (l.getD j 0))=false)) (fun z _=>l.length - (intOf z).toNat)
 case atStart=>exact ⟨0,Nat.zero_le _,rfl,Below.refl _ _,fun j hj=>by omega⟩
 case round =>
  obtain ⟨k,hk,rfl,hb,HA⟩:=hrel
  by_cases hlt:k < l.length
  ·obtain ⟨rb,ro,rfl,hrb,hrc⟩:=(HR.out.later hb) (by intro e;subst e;simp at hlt)
   have r0:=hrc k hlt
   have hm:l.getD k 0∈l:=getD_memI hlt
   have HIT:Hid ((!inT g (l.getD k 0))=true->(l.any fun n=>!inT g n)=true):=fun e=>any_hit (d:=0) hlt e
   have HST:Hid ((!inT g (l.getD k 0))=false->∀ j,j < k+1->(!inT g (l.getD j 0))=false):=fun e j hj=>by
    rcases Nat.lt_succ_iff_lt_or_eq.1 hj with r | rfl
    ·exact HA.out j r
    ·exact e
   have CS:Hid (Calls Tryz.prog 147 #[.int .i64 (l.getD k 0),.pointer (some ⟨gb,0,none⟩)] wr fun e w'=>e=.returned (.bool (!inT g (l.getD k 0)))/\Below wr.heap.size wr w'):=strangeL_c g gb _ wr h1 (HB.out.later hb)
   have klt:(k:Int) < (l.length:Int):=by omega
   clear hrc hm HA
   generalize l.getD k 0=n at *
   cases hin:(!inT g n) with
   | true =>
    have HX:Hid _:=HIT.out hin
    have CS2:Hid (Calls Tryz.prog 147 #[.int .i64 n,.pointer (some ⟨gb,0,none⟩)] wr fun e w'=>e=.returned (.bool true)/\Below wr.heap.size wr w'):=by have:=CS.out;rw [hin] at this;exact this
    clear HIT HST hin CS
    go_wp2_with (go_at_call 147;refine CS2.out.mono ?_;rintro e w1 ⟨rfl,hb1⟩)
    go_ret
    exact ⟨_,rfl,by rw [HX.out];simp,hb.trans (hb1.mono hb.size)⟩
   | false =>
    have HX:Hid _:=HST.out hin
    have CS2:Hid (Calls Tryz.prog 147 #[.int .i64 n,.pointer (some ⟨gb,0,none⟩)] wr fun e w'=>e=.returned (.bool false)/\Below wr.heap.size wr w'):=by have:=CS.out;rw [hin] at this;exact this
    clear HIT HST hin CS
    go_wp2_with (go_at_call 147;refine CS2.out.mono ?_;rintro e w1 ⟨rfl,hb1⟩)
    go_roundw
    case rel=>exact ⟨k+1,by omega,by go_num,hb.trans (hb1.mono hb.size),HX.out⟩
    case measure=>simp [intOf];omega
  ·have HX:Hid ((l.any fun n=>!inT g n)=false):=any_none 0 fun j hj=>HA.out j (by omega)
   clear HA
   go_wp2
   go_ret
   exact ⟨-1,rfl,by rw [HX.out];rfl,hb⟩
set_option maxRecDepth 100000 in
set_option maxHeartbeats 400000 in
theorem contains_strangeL (g:GV)(gb:Nat)(ao:Option Addr)(cap:Nat)(l:List Int)(w:World)(x:Bool)(hx:(l.any fun n=>!inT g n)=x)(hl:l.length<=140737488355328)(hr:InRow w ao l)(h1:g.ts.length<=140737488355328)(hB:BoxG g gb w) :
  Calls Tryz.prog 150 #[.slice ao l.length cap,.func (.func 147) #[] #[.pointer (some ⟨gb,0,none⟩)]] w fun e w'=>e=.returned (.bool x)/\Below w.heap.size w w':=by
 have HR:Hid (InRow w ao l):=hr
 have HX:Hid ((l.any fun n=>!inT g n)=x):=hx
 have HB:Hid (BoxG g gb w):=hB
 clear hB
 clear hx hr
 go_enter Tryz.func150,Tryz.ntmps150
 go_wp2_with (go_at_call 160;refine (idx_strangeL g gb ao cap l w hl HR.out h1 HB.out).mono ?_;rintro e w1 ⟨v,rfl,hv',hb1⟩;have hv:Hid _:=hv';clear hv')
 go_ret
 exact ⟨by have h1:=hv.out;have h2:=HX.out;rw [h2] at h1;rw [h1];rfl,hb1⟩
structure BoxM (L:List Int)(mb b:Nat)(D:DataW Unit)(w:World):Prop where
 c:w.cell? ⟨mb,0,none⟩=some (.map (some b))
 lt:mb < w.heap.size
 own:w.ownsMap Tryz.prog 3 unitElem b (Maps.size D) D
 set_:ISet D L
theorem ownsMapI_kept {w w':World}{b n:Nat}{D:DataW Unit}(h:w.ownsMap Tryz.prog 3 unitElem b n D)(e:w'.heap[b]?=w.heap[b]?):w'.ownsMap Tryz.prog 3 unitElem b n D:=by
 obtain ⟨es,cl,hb,hr⟩:=h
 exact ⟨es,cl,e.trans hb,hr⟩
theorem BoxM.later {L:List Int}{mb b:Nat}{D:DataW Unit}{w w':World}(h:BoxM L mb b D w)(hb:Below w.heap.size w w'):BoxM L mb b D w' :=
 ⟨(hb.cell (p:=⟨mb,0,none⟩) h.lt).trans h.c,Nat.lt_of_lt_of_le h.lt hb.size,ownsMapI_kept h.own (hb.block _ h.own.lt),h.set_⟩
set_option maxRecDepth 100000 in
set_option maxHeartbeats 2000000 in
theorem idx_taken (L:List Int)(mb b:Nat)(D:DataW Unit)(ao:Option Addr)(cap:Nat)(l:List Int)(w:World)(hl:l.length<=140737488355328)(hr:InRow w ao l)(hb0:∀ n∈l,0<=n/\n<=140737488355328)(hB:BoxM L mb b D w) :
  Calls Tryz.prog 160 #[.slice ao l.length cap,.func (.func 148) #[] #[.pointer (some ⟨mb,0,none⟩)]] w fun e w'=>∃ v,e=.returned (.int .i64 v)/\((l.any fun n=>L.contains n)=decide (0<=v))/\Below w.heap.size w w':=by
 have HR:Hid (InRow w ao l):=hr
 clear hr
 have HB:Hid (BoxM L mb b D w/\∀ n∈l,0<=n/\n<=140737488355328):=⟨hB,hb0⟩
 clear hB hb0
 go_enter Tryz.func160,Tryz.ntmps160
 go_wp2
 go_loopw [8] (fun z wr=>∃ k:Nat,k<=l.length/\z=.int .i64 k/\Below w.heap.size w wr/\Hid (∀ j,j < k->(L.contains (l.getD j 0))=false)) (fun z _=>l.length - (intOf z).toNat)
 case atStart=>exact ⟨0,Nat.zero_le _,rfl,Below.refl _ _,fun j hj=>by omega⟩
 case round =>
  obtain ⟨k,hk,rfl,hb,HA⟩:=hrel
  by_cases hlt:k < l.length
  ·obtain ⟨rb,ro,rfl,hrb,hrc⟩:=(HR.out.later hb) (by intro e;subst e;simp at hlt)
   have r0:=hrc k hlt
   have hm:l.getD k 0∈l:=getD_memI hlt
   have HIT:Hid ((L.contains (l.getD k 0))=true->(l.any fun n=>L.contains n)=true):=fun e=>any_hit (d:=0) hlt e
   have HST:Hid ((L.contains (l.getD k 0))=false->∀ j,j < k+1->(L.contains (l.getD j 0))=false):=fun e j hj=>by
    rcases Nat.lt_succ_iff_lt_or_eq.1 hj with r | rfl
    ·exact HA.out j r
    ·exact e
   have CS:Hid (Calls Tryz.prog 148 #[.int .i64 (l.getD k 0),.pointer (some ⟨mb,0,none⟩)] wr fun e w'=>e=.returned (.bool (L.contains (l.getD k 0)))/\Below wr.heap.size wr w'):=taken_c mb b D L _ wr (HB.out.2 _ hm).1 (HB.out.2 _ hm).2 (HB.out.1.later hb).c (HB.out.1.later hb).own HB.out.1.set_
   have klt:(k:Int) < (l.length:Int):=by omega
   clear hrc hm HA
   generalize l.getD k 0=n at *
   cases hin:(L.contains n) with
   | true =>
    have HX:Hid _:=HIT.out hin
    have CS2:Hid (Calls Tryz.prog 148 #[.int .i64 n,.pointer (some ⟨mb,0,none⟩)] wr fun e w'=>e=.returned (.bool true)/\Below wr.heap.size wr w'):=by have:=CS.out;rw [hin] at this;exact this
    clear HIT HST hin CS
    go_wp2_with (go_at_call 148;refine CS2.out.mono ?_;rintro e w1 ⟨rfl,hb1⟩)
    go_ret
    exact ⟨_,rfl,by rw [HX.out];simp,hb.trans (hb1.mono hb.size)⟩
   | false =>
    have HX:Hid _:=HST.out hin
    have CS2:Hid (Calls Tryz.prog 148 #[.int .i64 n,.pointer (some ⟨mb,0,none⟩)] wr fun e w'=>e=.returned (.bool false)/\Below wr.heap.size wr w'):=by have:=CS.out;rw [hin] at this;exact this
    clear HIT HST hin CS
    go_wp2_with (go_at_call 148;refine CS2.out.mono ?_;rintro e w1 ⟨rfl,hb1⟩)
    go_roundw
    case rel=>exact ⟨k+1,by omega,by go_num,hb.trans (hb1.mono hb.size),HX.out⟩
    case measure=>simp [intOf];omega
  ·have HX:Hid ((l.any fun n=>L.contains n)=false):=any_none 0 fun j hj=>HA.out j (by omega)
   clear HA
   go_wp2
   go_ret
   exact ⟨-1,rfl,by rw [HX.out];rfl,hb⟩
set_option maxRecDepth 100000 in
set_option maxHeartbeats 400000 in
theorem contains_taken (L:List Int)(mb b:Nat)(D:DataW Unit)(ao:Option Addr)(cap:Nat)(l:List Int)(w:World)(x:Bool)(hx:(l.any fun n=>L.contains n)=x)(hl:l.length<=140737488355328)(hr:InRow w ao l)(hb0:∀ n∈l,0<=n/\n<=140737488355328)(hB:BoxM L mb b D w) :
  Calls Tryz.prog 150 #[.slice ao l.length cap,.func (.func 148) #[] #[.pointer (some ⟨mb,0,none⟩)]] w fun e w'=>e=.returned (.bool x)/\Below w.heap.size w w':=by
 have HR:Hid (InRow w ao l):=hr
 have HX:Hid ((l.any fun n=>L.contains n)=x):=hx
 have HB:Hid (BoxM L mb b D w/\∀ n∈l,0<=n/\n<=140737488355328):=⟨hB,hb0⟩
 clear hB hb0
 clear hx hr
 go_enter Tryz.func150,Tryz.ntmps150
 go_wp2_with (go_at_call 160;refine (idx_taken L mb b D ao cap l w hl HR.out HB.out.2 HB.out.1).mono ?_;rintro e w1 ⟨v,rfl,hv',hb1⟩;have hv:Hid _:=hv';clear hv')
 go_ret
 exact ⟨by have h1:=hv.out;have h2:=HX.out;rw [h2] at h1;rw [h1];rfl,hb1⟩
def assocU (a:Int):Bool:=decide (1<=a/\a<=3)
set_option maxHeartbeats 1000000 in
theorem isassoc_any (a:Int)(w:World)(b:Bool)(hb:assocU a=b):Calls Tryz.prog 149 #[.int .i64 a] w fun e w'=>e=.returned (.bool b)/\w=w':=by
 subst hb
 by_cases h1:a=1
 ·subst h1
  go_enter Tryz.func149,Tryz.ntmps149
  go_wp2
  go_ret
  exact ⟨rfl,rfl⟩
 ·have t1:(a == 1)=false:=by simpa using h1
  by_cases h2:a=2
  ·subst h2
   go_enter Tryz.func149,Tryz.ntmps149
   go_wp2
   go_ret
   exact ⟨rfl,rfl⟩
  ·have t2:(a == 2)=false:=by simpa using h2
   by_cases h3:a=3
   ·subst h3
    go_enter Tryz.func149,Tryz.ntmps149
    go_wp2
    go_ret
    exact ⟨rfl,rfl⟩
   ·have t3:(a == 3)=false:=by simpa using h3
    have HX:Hid (assocU a=false):=by show _=_;unfold assocU;simp;omega
    clear h1 h2 h3
    go_enter Tryz.func149,Tryz.ntmps149
    go_wp2
    go_ret
    exact ⟨by rw [HX.out];rfl,rfl⟩
set_option maxRecDepth 100000 in
set_option maxHeartbeats 1000000 in
theorem rises_any (ao:Option Addr)(cap:Nat)(l:List Int)(w:World)(hl:l.length<=140737488355328)(hr:InRow w ao l) :
  Calls Tryz.prog 151 #[.slice ao l.length cap] w fun e w'=>e=.returned (.bool (risesU l))/\∃ d,w'=w.drewN d:=by
 go_enter Tryz.func151,Tryz.ntmps151
 go_wp2
 go_loopw [3] (fun z wr=>∃ k d:Nat,1<=k/\k<=l.length+1/\z=.int .i64 k/\wr=w.drewN d/\Hid (∀ j,j+1 < k->j+1 < l.length->l.getD j 0 < l.getD (j+1) 0)) (fun z _=>l.length+1 - (intOf z).toNat)
 case atStart=>exact ⟨1,0,by omega,by omega,rfl,rfl,fun j hj=>by omega⟩
 case round =>
  obtain ⟨k,d,hk1,hk,rfl,rfl,HA⟩:=hrel
  by_cases hlt:k < l.length
  ·obtain ⟨rb,ro,rfl,hrb,hrc⟩:=hr (by intro e;subst e;simp at hlt)
   obtain ⟨k',rfl⟩:∃ k',k=k'+1:=⟨k - 1,by omega⟩
   have r0:=hrc (k'+1) hlt
   have r1:=hrc k' (show k' < l.length by omega)
   clear hrc hr
   have ei:((k'+1:Nat):Int) - 1=(k':Int):=by omega
   have HIT:Hid (l.getD (k'+1) 0<=l.getD k' 0->risesU l=false):=fun e=>rises_hit (k:=k'+1) (by omega) hlt e
   have HST:Hid (l.getD k' 0 < l.getD (k'+1) 0->∀ j,j+1 < k'+1+1->j+1 < l.length->l.getD j 0 < l.getD (j+1) 0):=fun e j hj hj2=>by
    by_cases r:j+1 < k'+1
    ·exact HA.out j r hj2
    ·obtain rfl:j=k':=by omega
     exact e
   generalize l.getD (k'+1) 0=x at *
   generalize l.getD k' 0=y at *
   by_cases hxy:y ≥ x
   ·have HX:Hid (risesU l=false):=HIT.out hxy
    have t1:decide (y ≥ x)=true:=by simpa using hxy
    clear HIT HST
    go_wp2
    go_quiet (fail)
    go_wp2
    go_ret
    exact ⟨by rw [HX.out];rfl,_,World.drewN_drewN _ _ _⟩
   ·have HX:Hid _:=HST.out (by omega)
    have t1:decide (y ≥ x)=false:=by simpa using hxy
    clear HIT HST
    go_wp2
    go_quiet (fail)
    go_wp2
    go_roundw
    case rel=>exact ⟨k'+1+1,_,by omega,by omega,by go_num,rfl,HX.out⟩
    case measure=>simp [intOf];omega
  ·have HX:Hid (risesU l=true):=rises_all fun j hj=>HA.out j (by omega) hj
   clear HA
   go_wp2
   go_ret
   exact ⟨by rw [HX.out];rfl,_,rfl⟩
theorem rises_b (ao:Option Addr)(cap:Nat)(l:List Int)(w:World)(b:Bool)(he:risesU l=b)(hl:l.length<=140737488355328)(hr:InRow w ao l) :
  Calls Tryz.prog 151 #[.slice ao l.length cap] w fun e w'=>e=.returned (.bool b)/\Below w.heap.size w w' :=
 (rises_any ao cap l w hl hr).mono fun e w' ⟨h1,d,h2⟩=>⟨by rw [h1,he],by rw [h2];exact bDn (Below.refl _ _) d⟩
theorem eq0_bL (n:Nat):((n:Int) == 0)=decide (n=0):=by
 by_cases h:n=0
 ·simp [h]
 ·simp only [h,decide_false,beq_eq_false_iff_ne,ne_eq];omega
structure LC (g:GV)(l:LV)(L:List Int)(b:Nat)(D:DataW Unit)(w W:World):Prop where
 bg:BoxG g w.heap.size W
 l0:W.cell? ⟨w.heap.size+1,0,none⟩=some (.int .i64 l.assoc)
 l1:W.cell? ⟨w.heap.size+1,1,none⟩=some (.slice l.ta l.terms.length l.tc)
 lt1:w.heap.size+1 < W.heap.size
 row:InRow W l.ta l.terms
 bm:BoxM L (w.heap.size+1+1) b D W
 bel:Below w.heap.size w W
theorem LC.later {g:GV}{l:LV}{L:List Int}{b:Nat}{D:DataW Unit}{w W W':World}(h:LC g l L b D w W)(hb:Below W.heap.size W W'):LC g l L b D w W' :=
 ⟨h.bg.later hb,(hb.cell (p:=⟨w.heap.size+1,0,none⟩) h.lt1).trans h.l0,(hb.cell (p:=⟨w.heap.size+1,1,none⟩) h.lt1).trans h.l1,Nat.lt_of_lt_of_le h.lt1 hb.size,h.row.later hb,h.bm.later hb,h.bel.trans (hb.mono h.bel.size)⟩
theorem LC.new {g:GV}{assoc:Int}{ta:Option Addr}{tc:Nat}{terms:List Int}{L:List Int}{b:Nat}{D:DataW Unit}{w:World}(hr:InRow w ta terms)(ho:w.ownsMap Tryz.prog 3 unitElem b (Maps.size D) D)(hS:ISet D L):LC g ⟨assoc,ta,tc,terms⟩ L b D w (((w.alloc (.cells #[.slice g.ta g.ts.length g.tc,.slice g.na g.ns.length g.nc,.int .i64 g.start,.slice g.pa g.ps.length g.pc,.slice g.la g.ls.length g.lc] 166)).alloc (.cells #[.int .i64 assoc,.slice ta terms.length tc] 120)).alloc (.cells #[.map (some b)] 184)):=by
 have b1:=bAl w (.cells #[.slice g.ta g.ts.length g.tc,.slice g.na g.ns.length g.nc,.int .i64 g.start,.slice g.pa g.ps.length g.pc,.slice g.la g.ls.length g.lc] 166)
 have n1:=BoxG.new (g:=g) (w:=w) (t:=166)
 have b2:=bAl (w.alloc (.cells #[.slice g.ta g.ts.length g.tc,.slice g.na g.ns.length g.nc,.int .i64 g.start,.slice g.pa g.ps.length g.pc,.slice g.la g.ls.length g.lc] 166)) (.cells #[.int .i64 assoc,.slice ta terms.length tc] 120)
 have e2:=heap_alloc_new (w.alloc (.cells #[.slice g.ta g.ts.length g.tc,.slice g.na g.ns.length g.nc,.int .i64 g.start,.slice g.pa g.ps.length g.pc,.slice g.la g.ls.length g.lc] 166)) (.cells #[.int .i64 assoc,.slice ta terms.length tc] 120)
 have b3:=bAl ((w.alloc (.cells #[.slice g.ta g.ts.length g.tc,.slice g.na g.ns.length g.nc,.int .i64 g.start,.slice g.pa g.ps.length g.pc,.slice g.la g.ls.length g.lc] 166)).alloc (.cells #[.int .i64 assoc,.slice ta terms.length tc] 120)) (.cells #[.map (some b)] 184)
 have e3:=heap_alloc_new ((w.alloc (.cells #[.slice g.ta g.ts.length g.tc,.slice g.na g.ns.length g.nc,.int .i64 g.start,.slice g.pa g.ps.length g.pc,.slice g.la g.ls.length g.lc] 166)).alloc (.cells #[.int .i64 assoc,.slice ta terms.length tc] 120)) (.cells #[.map (some b)] 184)
 have b4:=(b1.trans (b2.mono b1.size)).trans (b3.mono (Nat.le_trans b1.size b2.size))
 have lt2:=lt_of_block e2
 have e22:=(b3.block _ lt2).trans e2
 rw [alloc_size] at e22 lt2 e3
 rw [alloc_size] at e3
 refine ⟨(n1.later b2).later b3,?_,?_,lt_of_block e22,hr.later b4,⟨?_,lt_of_block e3,ownsMapI_kept ho (b4.block _ ho.lt),hS⟩,b4⟩
 ·rw [cQa e22];rfl
 ·rw [cQa e22];rfl
 ·rw [cQa e3];rfl
set_option maxRecDepth 100000 in
set_option maxHeartbeats 4000000 in
theorem checklevel_any (g:GV)(i:Nat)(assoc:Int)(ta:Option Addr)(tc:Nat)(terms:List Int)(b:Nat)(D:DataW Unit)(w:World)(htl:g.ts.length<=140737488355328)(hrl:terms.length<=140737488355328)(hr:InRow w ta terms)(ho:w.ownsMap Tryz.prog 3 unitElem b (Maps.size D) D)(hS:ISet D (nU_ g.ls i)) :
  Calls Tryz.prog 123 #[g.val,.agg #[.int .i64 assoc,.slice ta terms.length tc],.map (some b)] w fun e w'=>e=.returned (.int .i64 (levelQ g i ⟨assoc,ta,tc,terms⟩))/\Below w.heap.size w w':=by
 have X0:Hid (LC g ⟨assoc,ta,tc,terms⟩ (nU_ g.ls i) b D w (((w.alloc (.cells #[.slice g.ta g.ts.length g.tc,.slice g.na g.ns.length g.nc,.int .i64 g.start,.slice g.pa g.ps.length g.pc,.slice g.la g.ls.length g.lc] 166)).alloc (.cells #[.int .i64 assoc,.slice ta terms.length tc] 120)).alloc (.cells #[.map (some b)] 184))):=LC.new hr ho hS
 have q0:=X0.out.l0
 have q1:=X0.out.l1
 simp only at q0 q1
 clear hr ho hS
 have GD:Hid True:=trivial
 by_cases hA:assoc < 1∨3 < assoc∨terms.length=0
 ·have HU:Hid (levelQ g i ⟨assoc,ta,tc,terms⟩=37):=by show _=_;unfold levelQ;rw [if_pos hA]
  cases hB:assocU assoc with
  | false =>
   have hAs:Hid (assocU assoc=false):=hB
   clear hA hB
   go_enter Tryz.func123,Tryz.ntmps123
   go_wp2_with (first
    | (go_at_call 149;refine (isassoc_any assoc _ false hAs.out).mono ?_;rintro e w' ⟨rfl,rfl⟩))
   go_ret
   exact ⟨by rw [HU.out];rfl,X0.out.bel⟩
  | true =>
   have hAs:Hid (assocU assoc=true):=hB
   have h3:terms.length=0:=by unfold assocU at hB;simp at hB;omega
   have d3:((terms.length:Int) == 0)=true:=by rw [eq0_bL];simpa using h3
   clear hA hB h3
   go_enter Tryz.func123,Tryz.ntmps123
   go_wp2_with (first
    | (go_at_call 149;refine (isassoc_any assoc _ true hAs.out).mono ?_;rintro e w' ⟨rfl,rfl⟩))
   go_ret
   exact ⟨by rw [HU.out];rfl,X0.out.bel⟩
 ·have hAs:Hid (assocU assoc=true):=by show _=_;unfold assocU;simp;omega
  have d3:((terms.length:Int) == 0)=false:=by rw [eq0_bL];simp only [decide_eq_false_iff_not];omega
  have HU:Hid (levelQ g i ⟨assoc,ta,tc,terms⟩=if (terms.any fun n=>!inT g n)=true then 4 else if risesU terms=false then 7 else if (terms.any fun n=>(nU_ g.ls i).contains n)=true then 6 else 0):=by show _=_;unfold levelQ;rw [if_neg hA]
  clear hA
  generalize hW:(((w.alloc (.cells #[.slice g.ta g.ts.length g.tc,.slice g.na g.ns.length g.nc,.int .i64 g.start,.slice g.pa g.ps.length g.pc,.slice g.la g.ls.length g.lc] 166)).alloc (.cells #[.int .i64 assoc,.slice ta terms.length tc] 120)).alloc (.cells #[.map (some b)] 184))=W at *
  cases hC':(terms.any fun n=>!inT g n) with
  | true =>
   have hC:Hid ((terms.any fun n=>!inT g n)=true):=hC'
   have HU2:Hid (levelQ g i ⟨assoc,ta,tc,terms⟩=4):=by show _=_;rw [HU.out,if_pos hC']
   clear hC' HU
   subst hW
   go_enter Tryz.func123,Tryz.ntmps123
   go_wp2_with (first
    | (go_at_call 149;refine (isassoc_any assoc _ true hAs.out).mono ?_;rintro e w' ⟨rfl,rfl⟩)
    | (go_at_call 150;guard_hyp GD:Hid True;clear GD;refine (contains_strangeL g w.heap.size ta tc terms _ true hC.out hrl X0.out.row htl X0.out.bg).mono ?_;rintro e w2 ⟨rfl,hb2⟩;have X2:Hid (LC g ⟨assoc,ta,tc,terms⟩ (nU_ g.ls i) b D w w2):=X0.out.later hb2;have u1:=X2.out.l1;simp only at u1))
   go_ret
   exact ⟨by rw [HU2.out];rfl,X2.out.bel⟩
  | false =>
   have hC:Hid ((terms.any fun n=>!inT g n)=false):=hC'
   have HU2:Hid (levelQ g i ⟨assoc,ta,tc,terms⟩=if risesU terms=false then 7 else if (terms.any fun n=>(nU_ g.ls i).contains n)=true then 6 else 0):=by show _=_;rw [HU.out,hC'];rfl
   have HIN:Hid (∀ n∈terms,0<=n/\n<=140737488355328):=fun n hn=>by
    rw [List.any_eq_false] at hC'
    have:=hC' n hn
    simp only [Bool.not_eq_true,Bool.not_eq_false'] at this
    unfold inT at this
    simp at this
    omega
   clear hC' HU
   cases hR':risesU terms with
   | false =>
    have hR:Hid (risesU terms=false):=hR'
    have HU3:Hid (levelQ g i ⟨assoc,ta,tc,terms⟩=7):=by show _=_;rw [HU2.out,if_pos hR']
    clear hR' HU2
    subst hW
    go_enter Tryz.func123,Tryz.ntmps123
    go_wp2_with (first
     | (go_at_call 149;refine (isassoc_any assoc _ true hAs.out).mono ?_;rintro e w' ⟨rfl,rfl⟩)
     | (go_at_call 150;guard_hyp GD:Hid True;clear GD;refine (contains_strangeL g w.heap.size ta tc terms _ false hC.out hrl X0.out.row htl X0.out.bg).mono ?_;rintro e w2 ⟨rfl,hb2⟩;have X2:Hid (LC g ⟨assoc,ta,tc,terms⟩ (nU_ g.ls i) b D w w2):=X0.out.later hb2;have u1:=X2.out.l1;simp only at u1)
     | (go_at_call 151;refine (rises_b ta tc terms w2 false hR.out hrl X2.out.row).mono ?_;rintro e w3 ⟨rfl,hb3⟩;have X3:Hid (LC g ⟨assoc,ta,tc,terms⟩ (nU_ g.ls i) b D w w3):=X2.out.later hb3;have v1:=X3.out.l1;simp only at v1))
    go_ret
    exact ⟨by rw [HU3.out];rfl,X3.out.bel⟩
   | true =>
    have hR:Hid (risesU terms=true):=hR'
    have HU3:Hid (levelQ g i ⟨assoc,ta,tc,terms⟩=if (terms.any fun n=>(nU_ g.ls i).contains n)=true then 6 else 0):=by show _=_;rw [HU2.out,hR'];rfl
    clear hR' HU2
    cases hD':(terms.any fun n=>(nU_ g.ls i).contains n) with
    | true =>
     have hD:Hid ((terms.any fun n=>(nU_ g.ls i).contains n)=true):=hD'
     have HU4:Hid (levelQ g i ⟨assoc,ta,tc,terms⟩=6):=by show _=_;rw [HU3.out,if_pos hD']
     clear hD' HU3
     subst hW
     go_enter Tryz.func123,Tryz.ntmps123
     go_wp2_with (first
      | (go_at_call 149;refine (isassoc_any assoc _ true hAs.out).mono ?_;rintro e w' ⟨rfl,rfl⟩)
      | (go_at_call 150;guard_hyp GD:Hid True;clear GD;refine (contains_strangeL g w.heap.size ta tc terms _ false hC.out hrl X0.out.row htl X0.out.bg).mono ?_;rintro e w2 ⟨rfl,hb2⟩;have X2:Hid (LC g ⟨assoc,ta,tc,terms⟩ (nU_ g.ls i) b D w w2):=X0.out.later hb2;have u1:=X2.out.l1;simp only at u1)
      | (go_at_call 151;refine (rises_b ta tc terms w2 true hR.out hrl X2.out.row).mono ?_;rintro e w3 ⟨rfl,hb3⟩;have X3:Hid (LC g ⟨assoc,ta,tc,terms⟩ (nU_ g.ls i) b D w w3):=X2.out.later hb3;have v1:=X3.out.l1;simp only at v1)
      | (go_at_call 150;refine (contains_taken (nU_ g.ls i) (w.heap.size+1+1) b D ta tc terms w3 true hD.out hrl X3.out.row HIN.out X3.out.bm).mono ?_;rintro e w4 ⟨rfl,hb4⟩;have X4:Hid (LC g ⟨assoc,ta,tc,terms⟩ (nU_ g.ls i) b D w w4):=X3.out.later hb4))
     go_ret
     exact ⟨by rw [HU4.out];rfl,X4.out.bel⟩
    | false =>
     have hD:Hid ((terms.any fun n=>(nU_ g.ls i).contains n)=false):=hD'
     have HU4:Hid (levelQ g i ⟨assoc,ta,tc,terms⟩=0):=by show _=_;rw [HU3.out,hD'];rfl
     clear hD' HU3
     subst hW
     go_enter Tryz.func123,Tryz.ntmps123
     go_wp2_with (first
      | (go_at_call 149;refine (isassoc_any assoc _ true hAs.out).mono ?_;rintro e w' ⟨rfl,rfl⟩)
      | (go_at_call 150;guard_hyp GD:Hid True;clear GD;refine (contains_strangeL g w.heap.size ta tc terms _ false hC.out hrl X0.out.row htl X0.out.bg).mono ?_;rintro e w2 ⟨rfl,hb2⟩;have X2:Hid (LC g ⟨assoc,ta,tc,terms⟩ (nU_ g.ls i) b D w w2):=X0.out.later hb2;have u1:=X2.out.l1;simp only at u1)
      | (go_at_call 151;refine (rises_b ta tc terms w2 true hR.out hrl X2.out.row).mono ?_;rintro e w3 ⟨rfl,hb3⟩;have X3:Hid (LC g ⟨assoc,ta,tc,terms⟩ (nU_ g.ls i) b D w w3):=X2.out.later hb3;have v1:=X3.out.l1;simp only at v1)
      | (go_at_call 150;refine (contains_taken (nU_ g.ls i) (w.heap.size+1+1) b D ta tc terms w3 false hD.out hrl X3.out.row HIN.out X3.out.bm).mono ?_;rintro e w4 ⟨rfl,hb4⟩;have X4:Hid (LC g ⟨assoc,ta,tc,terms⟩ (nU_ g.ls i) b D w w4):=X3.out.later hb4))
     go_ret
     exact ⟨by rw [HU4.out];rfl,X4.out.bel⟩
end Go.Proofs.YteciabdjkaackaaGreat
