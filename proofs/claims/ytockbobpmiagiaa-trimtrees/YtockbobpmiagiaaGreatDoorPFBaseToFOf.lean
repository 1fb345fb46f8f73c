import Derived.Test.YtockbobpmiagiaaGreatDoorPGOkToSCheckR
import Derived.RangeFuncNested
import Derived.RangeFuncLeaves
import Derived.Shelf.Abstract
import Derived.OwnWalkIn
import Derived.TacticsInMore
import Derived.LoopNIn
import Derived.LoopIn
import Derived.RangeFuncCalls
namespace Go.Proofs.YtockbobpmiagiaaGreatDoor
set_option linter.unusedVariables false
set_option maxRecDepth 100000
set_option maxHeartbeats 16000000
open Go.RowKit
def KB (w:World)(b:Nat)(K:List Int):Prop:=w.heap[b]?=some (.cells (K.map (Value.int .i64 ·)).toArray 3 (0,0))
theorem KB.lt {w:World}{b:Nat}{K:List Int}(h:KB w b K):b < w.heap.size:=lt_of_block h
theorem KB.cell {w:World}{b:Nat}{K:List Int}(h:KB w b K){i:Nat}(hi:i < K.length):w.cell? ⟨b,i,none⟩=some (.int .i64 (K.getD i 0)):=by
 rw [cQa h]
 simp [List.getD,hi]
theorem KB.free {w:World}{b:Nat}{K:List Int}(h:KB w b K)(i:Nat):w.frozen? ⟨b,i,none⟩=false:=by
 unfold KB at h
 simp [World.frozen?,h]
theorem KB.set {w:World}{b:Nat}{K:List Int}(h:KB w b K)(i:Nat)(v:Int):KB (w.setCell ⟨b,i,none⟩ (.int .i64 v)) b (K.set i v):=by
 unfold KB
 rw [hSt h i (.int .i64 v),List.setIfInBounds_toArray,List.map_set]
theorem KB.kept {w w':World}{b:Nat}{K:List Int}(h:KB w b K)(hb:w'.heap[b]?=w.heap[b]?):KB w' b K:=hb.trans h
theorem KB.later {w w':World}{b:Nat}{K:List Int}(h:KB w b K)(hb:Below w.heap.size w w'):KB w' b K:=h.kept (hb.block _ h.lt)
theorem KB.row {w:World}{b:Nat}{K:List Int}(h:KB w b K):InRow w (some ⟨b,0,none⟩) K:=by
 intro _
 refine ⟨b,0,rfl,h.lt,fun i hi=>?_⟩
 have:=h.cell hi
 simpa using this
theorem made_listF (z:Value)(n:Nat):madeCells #[z] n=(List.replicate n z).toArray:=by
 apply Array.toList_inj.1
 exact toList_madeCells_one z n
theorem make_intF (n:Nat)(hn:n<=1048576)(w:World):(Instr.makeSlice 36 (.int .i64 (n:Int)) (.int .i64 (n:Int))).run Tryz.prog w=.ok (.slice (some ⟨w.heap.size,0,none⟩) n n) (w.alloc (.cells (madeCells #[.int .i64 0] n) 3)):=by
 obtain ⟨i0,hi,hz0,hz1,hz2⟩:=infoInt_parts
 have:=run_makeSlice w 36 3 i0 (.int .i64 0) Tryz.underlying36 hi hz0 .i64 .i64 (n:Int) (n:Int) (by omega) (by omega) (by rw [hz1];simp;omega) (by rw [hz2];omega) (by omega)
 rw [hz1] at this
 simpa [Value.cells] using this
theorem KB.made (w:World)(n:Nat):KB (w.alloc (.cells (madeCells #[.int .i64 0] n) 3)) w.heap.size (List.replicate n 0):=by
 unfold KB
 rw [heap_alloc_new,made_listF,List.map_replicate]
theorem gbc {g:GV}{b:Nat}{w':World}(h:w'.heap[b]?=some (gBox g)):w'.cell? ⟨b,0,none⟩=some (.slice g.ta g.ts.length g.tc)/\w'.cell? ⟨b,1,none⟩=some (.slice g.na g.ns.length g.nc)/\w'.cell? ⟨b,2,none⟩=some (.int .i64 g.start)/\w'.cell? ⟨b,3,none⟩=some (.slice g.pa g.ps.length g.pc)/\w'.cell? ⟨b,4,none⟩=some (.slice g.la g.ls.length g.lc) :=
 ⟨(cQa h).trans rfl,(cQa h).trans rfl,(cQa h).trans rfl,(cQa h).trans rfl,(cQa h).trans rfl⟩
def fit1 (K:List Int)(most:Nat)(s:Int×Int):Bool:=decide (s.1=2) && decide (K.getD s.2.toNat 0≠0) && decide (K.getD s.2.toNat 0<=(most:Int))
theorem fitU_no {K:List Int}{l:List (Int×Int)}{most k:Nat}(hk:k < l.length)(h:fit1 K most (l.getD k (0,0))=false):fitU K l most=false:=by
 unfold fitU
 rw [List.all_eq_false]
 refine ⟨l.getD k (0,0),by simp [List.getD,hk],?_⟩
 unfold fit1 at h
 simpa using h
theorem fitU_yes {K:List Int}{l:List (Int×Int)}{most:Nat}(h:∀ k,k < l.length->fit1 K most (l.getD k (0,0))=true):fitU K l most=true:=by
 unfold fitU
 rw [List.all_eq_true]
 intro s hs
 obtain ⟨k,hk,rfl⟩:=List.getElem_of_mem hs
 have:=h k hk
 simp only [List.getD,List.getElem?_eq_getElem hk,Option.getD_some] at this
 exact this
theorem fit_S (kb c:Nat)(K:List Int)(la:Option Addr)(lc:Nat)(l:List (Int×Int))(most:Nat)(w:World)(hK:KB w kb K)(hl:SymRow w la l)(hll:l.length<=1048576)(hr:∀ s∈l,s.1=2->0<=s.2/\s.2 < K.length) :
  Calls Tryz.prog 96 #[.slice (some ⟨kb,0,none⟩) K.length c,.slice la l.length lc,.int .i64 most] w fun e w'=>e=.returned (.bool (fitU K l most))/\Below w.heap.size w w':=by
 have HK:Hid (∀ w',Below w.heap.size w w'->KB w' kb K):=fun w' hb=>hK.later hb
 have HL:Hid (∀ w',Below w.heap.size w w'->SymRow w' la l):=fun w' hb=>hl.later (Nat.le_refl _) hb
 have HR:Hid (∀ s∈l,s.1=2->0<=s.2/\s.2 < K.length):=hr
 have HF:Hid (∀ k,k < l.length->fit1 K most (l.getD k (0,0))=false->fitU K l most=false):=fun k hk h=>fitU_no hk h
 have HY:Hid ((∀ k,k < l.length->fit1 K most (l.getD k (0,0))=true)->fitU K l most=true):=fitU_yes
 clear hK hl hr
 generalize hX:fitU K l most=X at *
 clear hX
 go_enter Tryz.func96,Tryz.ntmps96
 go_wp2
 go_loopw [11] (fun z wr=>∃ k:Nat,k<=l.length/\z=.int .i64 k/\(∀ j,j < k->fit1 K most (l.getD j (0,0))=true)/\Below w.heap.size w wr) (fun z _=>l.length - (intOf z).toNat)
 case atStart=>exact ⟨0,Nat.zero_le _,rfl,fun j hj=>absurd hj (Nat.not_lt_zero j),Below.refl _ _⟩
 case round =>
  obtain ⟨k,hk,rfl,hf,hb⟩:=hrel
  by_cases hlt:k < l.length
  ·obtain ⟨b,o,rfl,hbl,hc⟩:=(HL.out wr hb) (by intro e;rw [e] at hlt;simp at hlt)
   obtain ⟨c0,c1⟩:=hc k hlt
   have hm:l.getD k (0,0)∈l:=by simp [List.getD,hlt]
   have hin:=HR.out _ hm
   have HN:Hid (fit1 K most (l.getD k (0,0))=false->X=false):=HF.out k hlt
   have HB:Hid (Below w.heap.size w wr/\∀ j,j < k->fit1 K most (l.getD j (0,0))=true):=⟨hb,hf⟩
   have klt:(k:Int) < (l.length:Int):=by omega
   have HS:Hid (∀ x,l.getD k (0,0)=x->fit1 K most x=true->∀ j,j < k+1->fit1 K most (l.getD j (0,0))=true):=fun x hx h j hj=>by
    by_cases e:j=k
    ·subst e;rw [hx];exact h
    ·exact hf j (by omega)
   generalize hx:l.getD k (0,0)=x at *
   obtain ⟨x1,x2⟩:=x
   simp only at c0 c1 hin
   by_cases h2:x1=2
   ·obtain ⟨i0,i1⟩:=hin h2
    subst h2
    obtain ⟨m,rfl⟩:∃ m:Nat,x2=(m:Int):=⟨x2.toNat,by omega⟩
    have kc:=((HK.out wr hb).later (bAl wr (.cells #[.int .i64 2,.int .i64 (m:Int)] 49))).cell (i:=m) (by omega)
    have e2:((2:Int) != 2)=false:=by decide
    have V:Hid (fit1 K most (2,(m:Int))=(decide (K.getD m 0≠0) && decide (K.getD m 0<=(most:Int)))):=by show _=_;simp [fit1]
    have hm2:m < K.length:=by omega
    generalize hv:K.getD m 0=v at *
    by_cases h3:v=0
    ·have e3:(v == 0)=true:=by simp [h3]
     have R:Hid (X=false):=HN.out (by rw [V.out];simp [h3])
     clear hc hb hf hm hx hv
     go_wp2
     go_ret
     exact ⟨by rw [R.out];rfl,HB.out.1.trans ((bAl _ _).mono HB.out.1.size)⟩
    ·have e3:(v == 0)=false:=by simp [h3]
     by_cases h4:v > (most:Int)
     ·have R:Hid (X=false):=HN.out (by rw [V.out];simp [h3];omega)
      clear hc hb hf hm hx hv
      go_wp2
      go_ret
      exact ⟨by rw [R.out];rfl,HB.out.1.trans ((bAl _ _).mono HB.out.1.size)⟩
     ·have e4:¬ v > (most:Int):=h4
      have R:Hid (∀ j,j < k+1->fit1 K most (l.getD j (0,0))=true):=HS.out _ rfl (by rw [V.out];simp [h3];omega)
      clear hc hb hf hm hx hv
      go_wp2
      go_roundw
      case rel=>exact ⟨k+1,by omega,by go_num,R.out,HB.out.1.trans ((bAl _ _).mono HB.out.1.size)⟩
      case measure=>simp [intOf];omega
   ·have e2:(x1 != 2)=true:=by simp [h2]
    have R:Hid (X=false):=HN.out (by simp [fit1,h2])
    clear hc hb hf hm hx
    go_wp2
    go_ret
    exact ⟨by rw [R.out];rfl,HB.out.1.trans ((bAl _ _).mono HB.out.1.size)⟩
  ·obtain rfl:k=l.length:=by omega
   have R:Hid (X=true):=HY.out hf
   have HB:Hid (Below w.heap.size w wr):=hb
   clear hb hf
   go_wp2
   go_ret
   exact ⟨by rw [R.out];rfl,HB.out⟩
structure FG (w:World)(g:GV):Prop where
 p:PrRow w g.pa g.ps
 nl:1<=g.ns.length/\g.ns.length<=64
 pl:g.ps.length<=256
 left:∀ p∈g.ps,0<=p.left/\p.left < g.ns.length
 rl:∀ p∈g.ps,p.right.length<=16
 sym:∀ p∈g.ps,∀ s∈p.right,(s.1=1/\0<=s.2/\s.2 < g.ts.length)∨(s.1=2/\0<=s.2/\s.2 < g.ns.length)
 tl:1<=g.ts.length/\g.ts.length<=64
theorem FG.later {w w':World}{g:GV}(h:FG w g)(hb:Below w.heap.size w w'):FG w' g:=⟨h.p.later hb,h.nl,h.pl,h.left,h.rl,h.sym,h.tl⟩
theorem foldl_take_succ {α β:Type}(f:β->α->β)(l:List α)(k:Nat)(b:β)(d:α)(hk:k < l.length):(l.take (k+1)).foldl f b=f ((l.take k).foldl f b) (l.getD k d):=by
 rw [List.take_succ_eq_append_getElem hk,List.foldl_append]
 simp [List.getD,hk]
theorem heights_S (g:GV)(w:World)(h:FG w g) :
  Calls Tryz.prog 81 #[g.val] w fun e w'=>∃ kb,e=.returned (.slice (some ⟨kb,0,none⟩) g.ns.length g.ns.length)/\KB w' kb (htU g.ps g.ns.length g.ns.length)/\w.heap.size<=kb/\Below w.heap.size w w':=by
 have hmk:=make_intF g.ns.length (by have:=h.nl;omega)
 have HG:Hid (∀ w',Below w.heap.size w w'->FG w' g):=fun w' hb=>h.later hb
 have X0:Hid ((w.alloc (gBox g)).heap[w.heap.size]?=some (gBox g)):=heap_alloc_new _ _
 have K0:Hid (KB ((w.alloc (gBox g)).alloc (.cells (madeCells #[.int .i64 0] g.ns.length) 3)) (w.heap.size+1) (htU g.ps g.ns.length 0)):=by
  have:=KB.made (w.alloc (gBox g)) g.ns.length
  rwa [show (w.alloc (gBox g)).heap.size=w.heap.size+1 by simp] at this
 have B0:Hid (Below w.heap.size w ((w.alloc (gBox g)).alloc (.cells (madeCells #[.int .i64 0] g.ns.length) 3))/\((w.alloc (gBox g)).alloc (.cells (madeCells #[.int .i64 0] g.ns.length) 3)).heap[w.heap.size]?=some (gBox g)) :=
  ⟨(bAl w _).trans ((bAl _ _).mono (bAl w _).size),((bAl _ _).block _ (lt_of_block X0.out)).trans X0.out⟩
 have hnl:=h.nl
 have hpl:=h.pl
 obtain ⟨x0,x1,x2,x3,x4⟩:=gbc X0.out
 obtain ⟨y0,y1,y2,y3,y4⟩:=gbc B0.out.2
 clear h
 go_enter Tryz.func81,Tryz.ntmps81
 go_wp2
 go_loopw [14] (fun z wr=>∃ k:Nat,k<=g.ns.length/\z=.int .i64 k/\KB wr (w.heap.size+1) (htU g.ps g.ns.length k)/\wr.heap[w.heap.size]?=some (gBox g)/\Below w.heap.size w wr) (fun z _=>g.ns.length - (intOf z).toNat)
 case atStart=>exact ⟨0,Nat.zero_le _,rfl,K0.out,B0.out.2,B0.out.1⟩
 case round =>
  clear x0 x1 x2 x3 x4 y0 y1 y2 y3 y4 hmk K0 X0 B0
  obtain ⟨k,hk,rfl,hK,hX,hb⟩:=hrel
  by_cases hlt:k < g.ns.length
  ·have klt:(k:Int) < (g.ns.length:Int):=by omega
   obtain ⟨x0,x1,x2,x3,x4⟩:=gbc hX
   have H1:Hid (KB wr (w.heap.size+1) (htU g.ps g.ns.length k)/\wr.heap[w.heap.size]?=some (gBox g)/\Below w.heap.size w wr):=⟨hK,hX,hb⟩
   clear hK hX hb
   go_wp2
   go_loopw [20] (fun z wi=>∃ j:Nat,j<=g.ps.length/\z=.int .i64 j/\KB wi (w.heap.size+1) ((g.ps.take j).foldl (hStep k) (htU g.ps g.ns.length k))/\wi.heap[w.heap.size]?=some (gBox g)/\Below w.heap.size w wi) (fun z _=>g.ps.length - (intOf z).toNat)
   case atStart=>exact ⟨0,Nat.zero_le _,rfl,H1.out.1,H1.out.2.1,H1.out.2.2⟩
   case round =>
    clear H1 x0 x1 x2 x3 x4
    obtain ⟨j,hj,rfl,hK,hX,hb⟩:=hrel
    by_cases hjt:j < g.ps.length
    ·obtain ⟨b,o,hpa,hbl,hc⟩:=((HG.out _ hb).p).cells (by intro e;rw [e] at hjt;simp at hjt)
     obtain ⟨c0,c1,c2⟩:=hc j hjt
     have jlt:(j:Int) < (g.ps.length:Int):=by omega
     have hmem:g.ps.getD j .none∈g.ps:=by simp [List.getD,hjt]
     obtain ⟨l0,l1⟩:=(HG.out _ hb).left _ hmem
     have hrow:=((HG.out _ hb).p).rows _ hmem
     have hrl:=(HG.out _ hb).rl _ hmem
     have hsy:=(HG.out _ hb).sym _ hmem
     have hstep:=foldl_take_succ (hStep k) g.ps j (htU g.ps g.ns.length k) .none hjt
     have hKl:((g.ps.take j).foldl (hStep k) (htU g.ps g.ns.length k)).length=g.ns.length:=by rw [(hFold_go k _ _).len,htU_len]
     have H2:Hid (KB wr (w.heap.size+1) ((g.ps.take j).foldl (hStep k) (htU g.ps g.ns.length k))/\wr.heap[w.heap.size]?=some (gBox g)/\Below w.heap.size w wr):=⟨hK,hX,hb⟩
     generalize hKK:(g.ps.take j).foldl (hStep k) (htU g.ps g.ns.length k)=K at *
     generalize hp:g.ps.getD j .none=p at *
     obtain ⟨pl,pra,prc,pr,pp⟩:=p
     simp only at c0 c1 c2 l0 l1 hrow hrl hsy
     obtain ⟨m,rfl⟩:∃ m:Nat,pl=(m:Int):=⟨pl.toNat,by omega⟩
     have hBA:Below wr.heap.size wr (wr.alloc (.cells #[.int .i64 (m:Int),.slice pra pr.length prc,.int .i64 pp] 44)):=bAl _ _
     have hKA:=hK.later hBA
     have kc:=hKA.cell (i:=m) (by omega)
     have hml:m < K.length:=by omega
     have HA:Hid (KB (wr.alloc (.cells #[.int .i64 (m:Int),.slice pra pr.length prc,.int .i64 pp] 44)) (w.heap.size+1) K/\(wr.alloc (.cells #[.int .i64 (m:Int),.slice pra pr.length prc,.int .i64 pp] 44)).heap[w.heap.size]?=some (gBox g)/\Below w.heap.size w (wr.alloc (.cells #[.int .i64 (m:Int),.slice pra pr.length prc,.int .i64 pp] 44))):=⟨hKA,(hBA.block _ (lt_of_block hX)).trans hX,hb.trans (hBA.mono hb.size)⟩
     have HRW:Hid (SymRow (wr.alloc (.cells #[.int .i64 (m:Int),.slice pra pr.length prc,.int .i64 pp] 44)) pra pr):=hrow.later (Nat.le_refl _) hBA
     have HSY:Hid (∀ s∈pr,s.1=2->0<=s.2/\s.2 < K.length):=fun s hs e=>by
      rcases hsy s hs with q | q
      ·omega
      ·rw [hKl];exact q.2
     have HST:Hid ((g.ps.take (j+1)).foldl (hStep k) (htU g.ps g.ns.length k)=if K.getD m 0=0/\fitU K pr k=true then K.set m ((k:Int)+1) else K):=by
      show _=_
      rw [hstep]
      simp [hStep]
     have HKL:Hid (K.length=g.ns.length):=hKl
     rw [hpa]
     generalize hv:K.getD m 0=v at *
     by_cases h0:v=0
     ·have e0:(v == 0)=true:=by simp [h0]
      obtain ⟨F,hF⟩:∃ F,fitU K pr k=F:=⟨_,rfl⟩
      have HF:Hid (fitU K pr k=F):=hF
      have H0:Hid (v=0):=h0
      have FC:Hid (Calls Tryz.prog 96 #[.slice (some ⟨w.heap.size+1,0,none⟩) g.ns.length g.ns.length,.slice pra pr.length prc,.int .i64 k] (wr.alloc (.cells #[.int .i64 (m:Int),.slice pra pr.length prc,.int .i64 pp] 44)) fun e w'=>e=.returned (.bool F)/\Below (wr.alloc (.cells #[.int .i64 (m:Int),.slice pra pr.length prc,.int .i64 pp] 44)).heap.size (wr.alloc (.cells #[.int .i64 (m:Int),.slice pra pr.length prc,.int .i64 pp] 44)) w'):=by
       have:=fit_S (w.heap.size+1) g.ns.length K pra prc pr k _ HA.out.1 HRW.out (by omega) HSY.out
       rw [HKL.out,HF.out] at this
       exact this
      clear hK hX hb hc hmem hstep hKl hKK hp hrow hsy hBA hKA hpa hF hv
      cases F
      ·go_wp2_with (go_at_call 96;refine FC.out.mono ?_;rintro e w2 ⟨rfl,b2⟩;have B2:Hid (KB w2 (w.heap.size+1) K/\w2.heap[w.heap.size]?=some (gBox g)/\Below w.heap.size w w2/\w2.heap[wr.heap.size]?=some (.cells #[.int .i64 (m:Int),.slice pra pr.length prc,.int .i64 pp] 44)):=⟨HA.out.1.later b2,(b2.block _ (lt_of_block HA.out.2.1)).trans HA.out.2.1,HA.out.2.2.trans (b2.mono HA.out.2.2.size),(b2.block _ (lt_of_block (heap_alloc_new _ _))).trans (heap_alloc_new _ _)⟩;have r0:w2.cell? ⟨wr.heap.size,0,none⟩=some (.int .i64 (m:Int)):=(cQa B2.out.2.2.2).trans rfl;have r1:=B2.out.1.cell hml;have r2:=B2.out.1.free m;have r3:=B2.out.1.lt;clear b2)
       go_roundw
       case rel =>
        refine ⟨j+1,by omega,by go_num,?_,B2.out.2.1,B2.out.2.2.1⟩
        rw [HST.out,if_neg (fun q=>by rw [HF.out] at q;exact absurd q.2 (by decide))]
        exact B2.out.1
       case measure=>simp [intOf];omega
      ·go_wp2_with (go_at_call 96;refine FC.out.mono ?_;rintro e w2 ⟨rfl,b2⟩;have B2:Hid (KB w2 (w.heap.size+1) K/\w2.heap[w.heap.size]?=some (gBox g)/\Below w.heap.size w w2/\w2.heap[wr.heap.size]?=some (.cells #[.int .i64 (m:Int),.slice pra pr.length prc,.int .i64 pp] 44)):=⟨HA.out.1.later b2,(b2.block _ (lt_of_block HA.out.2.1)).trans HA.out.2.1,HA.out.2.2.trans (b2.mono HA.out.2.2.size),(b2.block _ (lt_of_block (heap_alloc_new _ _))).trans (heap_alloc_new _ _)⟩;have r0:w2.cell? ⟨wr.heap.size,0,none⟩=some (.int .i64 (m:Int)):=(cQa B2.out.2.2.2).trans rfl;have r1:=B2.out.1.cell hml;have r2:=B2.out.1.free m;have r3:=B2.out.1.lt;clear b2)
       go_roundw
       case rel =>
        refine ⟨j+1,by omega,by go_num,?_,?_,?_⟩
        ·rw [HST.out,if_pos ⟨H0.out,HF.out⟩]
         exact B2.out.1.set m _
        ·exact (Below.heap_setCell w2 ⟨w.heap.size+1,m,none⟩ _ _ (show w.heap.size≠w.heap.size+1 by omega)).trans B2.out.2.1
        ·exact B2.out.2.2.1.setCell (p:=⟨w.heap.size+1,m,none⟩) (by show w.heap.size<=w.heap.size+1;omega) _
       case measure=>simp [intOf];omega
     ·have e0:(v == 0)=false:=by simp [h0]
      have H0:Hid (v≠0):=h0
      clear hK hX hb hc hmem hstep hKl hKK hp hrow hsy hBA hKA hpa hv
      go_wp2
      go_roundw
      case rel =>
       refine ⟨j+1,by omega,by go_num,?_,HA.out.2.1,HA.out.2.2⟩
       rw [HST.out,if_neg (fun q=>H0.out q.1)]
       exact HA.out.1
      case measure=>simp [intOf];omega
    ·obtain rfl:j=g.ps.length:=by omega
     rw [List.take_length] at hK
     have H2:Hid (KB wr (w.heap.size+1) (htU g.ps g.ns.length (k+1))/\wr.heap[w.heap.size]?=some (gBox g)/\Below w.heap.size w wr):=⟨hK,hX,hb⟩
     clear hK hX hb
     go_wp2
     go_roundw
     case rel=>exact ⟨k+1,by omega,by go_num,H2.out⟩
     case measure=>simp [intOf];omega
  ·obtain rfl:k=g.ns.length:=by omega
   have H2:Hid (KB wr (w.heap.size+1) (htU g.ps g.ns.length g.ns.length)/\Below w.heap.size w wr):=⟨hK,hb⟩
   clear hK hX hb
   go_wp2
   go_ret
   exact ⟨w.heap.size+1,rfl,H2.out.1,by omega,H2.out.2⟩
def BB (w:World)(b:Nat)(L:List Bool):Prop:=w.heap[b]?=some (.cells (L.map Value.bool).toArray 4 (0,0))
theorem BB.lt {w:World}{b:Nat}{L:List Bool}(h:BB w b L):b < w.heap.size:=lt_of_block h
theorem BB.cell {w:World}{b:Nat}{L:List Bool}(h:BB w b L){i:Nat}(hi:i < L.length):w.cell? ⟨b,i,none⟩=some (.bool (L.getD i false)):=by
 rw [cQa h]
 simp [List.getD,hi]
theorem BB.free {w:World}{b:Nat}{L:List Bool}(h:BB w b L)(i:Nat):w.frozen? ⟨b,i,none⟩=false:=by
 unfold BB at h
 simp [World.frozen?,h]
theorem BB.set {w:World}{b:Nat}{L:List Bool}(h:BB w b L)(i:Nat)(v:Bool):BB (w.setCell ⟨b,i,none⟩ (.bool v)) b (L.set i v):=by
 unfold BB
 rw [hSt h i (.bool v),List.setIfInBounds_toArray,List.map_set]
theorem BB.kept {w w':World}{b:Nat}{L:List Bool}(h:BB w b L)(hb:w'.heap[b]?=w.heap[b]?):BB w' b L:=hb.trans h
theorem BB.later {w w':World}{b:Nat}{L:List Bool}(h:BB w b L)(hb:Below w.heap.size w w'):BB w' b L:=h.kept (hb.block _ h.lt)
theorem infoBool_parts:∃ i,Tryz.prog.info? 4=some i/\i.zero=some (.bool false)/\i.size=1/\i.bytes=1:=by
 have h:(Tryz.prog.info? 4).map (fun i=>(i.zero,i.size,i.bytes))=some (some (.bool false),1,1):=by kernel_rfl
 cases e:Tryz.prog.info? 4 with
 | none=>rw [e] at h;cases h
 | some i=>rw [e] at h;simp at h;exact ⟨i,rfl,h⟩
theorem make_boolF (n:Nat)(hn:n<=1048576)(w:World):(Instr.makeSlice 75 (.int .i64 (n:Int)) (.int .i64 (n:Int))).run Tryz.prog w=.ok (.slice (some ⟨w.heap.size,0,none⟩) n n) (w.alloc (.cells (madeCells #[.bool false] n) 4)):=by
 obtain ⟨i0,hi,hz0,hz1,hz2⟩:=infoBool_parts
 have:=run_makeSlice w 75 4 i0 (.bool false) Tryz.underlying75 hi hz0 .i64 .i64 (n:Int) (n:Int) (by omega) (by omega) (by rw [hz1];simp;omega) (by rw [hz2];omega) (by omega)
 rw [hz1] at this
 simpa [Value.cells] using this
theorem BB.made (w:World)(n:Nat):BB (w.alloc (.cells (madeCells #[.bool false] n) 4)) w.heap.size (List.replicate n false):=by
 unfold BB
 rw [heap_alloc_new,made_listF,List.map_replicate]
def partB (L:List Bool)(k:Nat):List Bool:=L.take k++List.replicate (L.length - k) false
theorem partB_len (L:List Bool){k:Nat}(h:k<=L.length):(partB L k).length=L.length:=by simp [partB];omega
theorem partB_succ (L:List Bool){k:Nat}(h:k < L.length):partB L (k+1)=(partB L k).set k (L.getD k false):=by
 unfold partB
 apply List.ext_getElem
 ·simp;omega
 ·intro i h1 h2
  simp only [List.getElem_set,List.getElem_append,List.length_take,List.getElem_replicate,List.getElem_take]
  simp only [List.length_append,List.length_take,List.length_replicate] at h1
  by_cases e:i=k
  ·subst e
   simp [List.getD,h,show i < min (i+1) L.length by omega]
  ·by_cases e2:i < k
   ·simp [show i < min (k+1) L.length by omega,show i < min k L.length by omega,show ¬ k=i by omega]
   ·simp [show ¬ i < min (k+1) L.length by omega,show ¬ i < min k L.length by omega,show ¬ k=i by omega]
theorem partB_all (L:List Bool):partB L L.length=L:=by simp [partB]
theorem nullU_get (ps:List PV)(n i:Nat)(hi:i < n):(nullU ps n).getD i false=decide (0 < (htU ps n n).getD i 0):=by
 unfold nullU
 have:i < (htU ps n n).length:=by rw [htU_len];exact hi
 simp [List.getD,this]
theorem nullU_len (ps:List PV)(n:Nat):(nullU ps n).length=n:=by unfold nullU;rw [List.length_map,htU_len]
theorem nullables_S (g:GV)(w:World)(h:FG w g) :
  Calls Tryz.prog 55 #[g.val] w fun e w'=>∃ nb,e=.returned (.slice (some ⟨nb,0,none⟩) g.ns.length g.ns.length)/\BB w' nb (nullU g.ps g.ns.length)/\w.heap.size<=nb/\Below w.heap.size w w':=by
 have hmk:=make_boolF g.ns.length (by have:=h.nl;omega)
 have HG:Hid (∀ w',Below w.heap.size w w'->FG w' g):=fun w' hb=>h.later hb
 have X0:Hid ((w.alloc (gBox g)).heap[w.heap.size]?=some (gBox g)):=heap_alloc_new _ _
 have N0:Hid (BB ((w.alloc (gBox g)).alloc (.cells (madeCells #[.bool false] g.ns.length) 4)) (w.heap.size+1) (partB (nullU g.ps g.ns.length) 0)):=by
  have:=BB.made (w.alloc (gBox g)) g.ns.length
  rw [show (w.alloc (gBox g)).heap.size=w.heap.size+1 by simp] at this
  show BB _ _ _
  simpa [partB,nullU_len] using this
 have B0:Hid (Below w.heap.size w ((w.alloc (gBox g)).alloc (.cells (madeCells #[.bool false] g.ns.length) 4))/\((w.alloc (gBox g)).alloc (.cells (madeCells #[.bool false] g.ns.length) 4)).heap[w.heap.size]?=some (gBox g)) :=
  ⟨(bAl w _).trans ((bAl _ _).mono (bAl w _).size),((bAl _ _).block _ (lt_of_block X0.out)).trans X0.out⟩
 have hnl:=h.nl
 have HGT:Hid (∀ i,i < g.ns.length->(nullU g.ps g.ns.length).getD i false=decide (0 < (htU g.ps g.ns.length g.ns.length).getD i 0)):=nullU_get _ _
 have HNL:Hid ((nullU g.ps g.ns.length).length=g.ns.length/\(htU g.ps g.ns.length g.ns.length).length=g.ns.length):=⟨nullU_len _ _,htU_len _ _ _⟩
 obtain ⟨x0,x1,x2,x3,x4⟩:=gbc X0.out
 obtain ⟨y0,y1,y2,y3,y4⟩:=gbc B0.out.2
 clear h
 go_enter Tryz.func55,Tryz.ntmps55
 go_wp2_with (go_at_call 81;refine (heights_S g _ (HG.out _ B0.out.1)).mono ?_;rintro e w2 ⟨kb,rfl,k2,l2,b2⟩;have B2:Hid (Below w.heap.size w w2/\BB w2 (w.heap.size+1) (partB (nullU g.ps g.ns.length) 0)/\KB w2 kb (htU g.ps g.ns.length g.ns.length)/\w.heap.size+1 < kb):=⟨B0.out.1.trans (b2.mono B0.out.1.size),N0.out.later b2,k2,Nat.lt_of_lt_of_le N0.out.lt l2⟩;clear k2 l2 b2)
 generalize hN:nullU g.ps g.ns.length=N at *
 generalize hH:htU g.ps g.ns.length g.ns.length=Hh at *
 clear x0 x1 x2 x3 x4 y0 y1 y2 y3 y4 hmk X0 N0 B0
 go_loopw [13] (fun z wr=>∃ k:Nat,k<=g.ns.length/\z=.int .i64 k/\BB wr (w.heap.size+1) (partB N k)/\KB wr kb Hh/\Below w.heap.size w wr) (fun z _=>g.ns.length - (intOf z).toNat)
 case atStart=>exact ⟨0,Nat.zero_le _,rfl,B2.out.2.1,B2.out.2.2.1,B2.out.1⟩
 case round =>
  obtain ⟨k,hk,rfl,hB,hK,hb⟩:=hrel
  have H:Hid (BB wr (w.heap.size+1) (partB N k)/\KB wr kb Hh/\Below w.heap.size w wr):=⟨hB,hK,hb⟩
  by_cases hlt:k < g.ns.length
  ·have klt:(k:Int) < (g.ns.length:Int):=by omega
   have kc:=hK.cell (i:=k) (by rw [HNL.out.2];exact hlt)
   have hpl:k < (partB N k).length:=by rw [partB_len _ (by rw [HNL.out.1];omega),HNL.out.1];exact hlt
   have bc:=hB.cell hpl
   have bf:=hB.free k
   have bz:=hB.lt
   have HV:Hid (N.getD k false=decide (0 < Hh.getD k 0)):=HGT.out k hlt
   have HPS:Hid (partB N (k+1)=(partB N k).set k (N.getD k false)):=partB_succ N (by rw [HNL.out.1];exact hlt)
   generalize Hh.getD k 0=v at *
   clear hB hK hb
   go_wp2
   go_roundw
   case rel =>
    obtain ⟨hB,hK,hb⟩:=H.out
    have hne:=B2.out.2.2.2
    refine ⟨k+1,by omega,by go_num,?_,?_,?_⟩
    ·rw [HPS.out,HV.out]
     exact hB.set k _
    ·exact hK.kept (Below.heap_setCell wr ⟨w.heap.size+1,k,none⟩ _ _ (show kb≠w.heap.size+1 by omega))
    ·exact hb.setCell (p:=⟨w.heap.size+1,k,none⟩) (by show w.heap.size<=w.heap.size+1;omega) _
   case measure=>simp [intOf];omega
  ·obtain rfl:k=g.ns.length:=by omega
   clear hB hK hb
   go_wp2
   go_ret
   refine ⟨w.heap.size+1,rfl,?_,by omega,H.out.2.2⟩
   have:=H.out.1
   rw [<- HNL.out.1,partB_all] at this
   rw [hN]
   exact this
theorem IL.inrow {w:World}{a:Option Addr}{c:Nat}{l:List Int}(h:IL w (.slice a l.length c) l):InRow w a l:=by
 intro hne
 rcases h.2 with ⟨e,h0⟩ | ⟨g,cap,cur,e,_,hb,hn,_,hs,ht⟩
 ·exact absurd (List.eq_nil_of_length_eq_zero h0) hne
 ·simp only [Value.slice.injEq] at e
  obtain ⟨rfl,_,rfl⟩:=e
  refine ⟨g,0,rfl,lt_of_block hb,fun i hi=>?_⟩
  rw [cQa hb]
  have e2:(cur.toList.take (l.length*1))[i]?=(l.map (Value.int .i64 ·))[i]?:=by rw [ht]
  rw [List.getElem?_take_of_lt (by omega)] at e2
  simp only [Array.getElem?_toList] at e2
  rw [Nat.zero_add,e2]
  simp [List.getD,hi]
def setCells (F:List BS):List Value:=F.flatMap fun s=>[.int .u64 (s.1:Int),.int .u64 (s.2:Int)]
def BRow (w:World)(ao:Option Addr)(L:List Bool):Prop:=L≠[]->∃ b off,ao=some ⟨b,off,none⟩/\b < w.heap.size/\∀ i,i < L.length->w.cell? ⟨b,off+i,none⟩=some (.bool (L.getD i false))
theorem BRow.later {w w':World}{ao:Option Addr}{L:List Bool}(h:BRow w ao L)(hb:Below w.heap.size w w'):BRow w' ao L:=by
 intro hne
 obtain ⟨b,off,e,h1,h2⟩:=h hne
 exact ⟨b,off,e,Nat.lt_of_lt_of_le h1 hb.size,fun i hi=>(hb.cell (p:=⟨b,off+i,none⟩) h1).trans (h2 i hi)⟩
theorem BB.row {w:World}{b:Nat}{L:List Bool}(h:BB w b L):BRow w (some ⟨b,0,none⟩) L:=by
 intro _
 refine ⟨b,0,rfl,h.lt,fun i hi=>?_⟩
 have:=h.cell hi
 simpa using this
def aheadS (N:List Bool)(F:List BS)(s:Int×Int)(look:BS):BS:=if s.1=1 then setS [s.2] else if N.getD s.2.toNat false=true then withS look (F.getD s.2.toNat (0,0)) else F.getD s.2.toNat (0,0)
abbrev cv (na:Option Addr)(N:List Bool)(nc fb:Nat)(fc:Nat):Value:=.agg #[.slice na N.length nc,.slice (some ⟨fb,0,none⟩) N.length fc]
def null1 (N:List Bool)(s:Int×Int):Bool:=decide (s.1=2) && N.getD s.2.toNat false
def allN (N:List Bool)(l:List (Int×Int)):Bool:=l.all (null1 N)
theorem all_no {α:Type}{p:α->Bool}{l:List α}{k:Nat}{d:α}(hk:k < l.length)(h:p (l.getD k d)=false):l.all p=false:=by
 rw [List.all_eq_false]
 exact ⟨l.getD k d,by simp [List.getD,hk],by rw [h];simp⟩
theorem all_yes {α:Type}{p:α->Bool}{l:List α}{d:α}(h:∀ k,k < l.length->p (l.getD k d)=true):l.all p=true:=by
 rw [List.all_eq_true]
 intro s hs
 obtain ⟨k,hk,rfl⟩:=List.getElem_of_mem hs
 have:=h k hk
 simpa [List.getD,hk] using this
def below1 (e:Nat)(x:Int):Bool:=decide (0<=x) && decide (x < (e:Int))
def allB (l:List Int)(e:Nat):Bool:=l.all (below1 e)
theorem sym_of {g:GV}(h:OkC g)(i:Nat)(hi:i < g.ps.length):∀ s∈(g.ps.getD i .none).right,(s.1=1/\0<=s.2/\s.2 < g.ts.length)∨(s.1=2/\0<=s.2/\s.2 < g.ns.length):=fun s hs=>by
 have:=h.inG i hi s hs
 unfold inG at this
 by_cases e1:s.1=1
 ·simp [e1,inT] at this
  exact .inl ⟨e1,this⟩
 ·by_cases e2:s.1=2
  ·simp [e2,inN] at this
   exact .inr ⟨e2,this⟩
  ·simp [e1,e2] at this
theorem OkC.fg {g:GV}(ok:OkC g){n:Nat}{w:World}(h:GAt n w g):FG w g:=by
 have each:∀ p∈g.ps,∃ i,i < g.ps.length/\g.ps.getD i .none=p:=fun p hp=>by
  obtain ⟨i,hi,rfl⟩:=List.getElem_of_mem hp
  exact ⟨i,hi,by simp [List.getD,hi]⟩
 refine ⟨h.p,ok.nl,ok.pl.2,fun p hp=>?_,fun p hp=>?_,fun p hp=>?_,ok.tl⟩
 ·obtain ⟨i,hi,rfl⟩:=each p hp
  exact ok.left i hi
 ·obtain ⟨i,hi,rfl⟩:=each p hp
  exact ok.right i hi
 ·obtain ⟨i,hi,rfl⟩:=each p hp
  exact sym_of ok i hi
theorem nullable_ok (g:GV)(w:World)(h:GAt 140737488355328 w g)(hpc:g.ps.length<=g.pc)(at_:Int)(hE:cG_ g (cF_ g.ts g.ns)=(0,at_)) :
  Calls Tryz.prog 36 #[g.val] w fun e w'=>∃ nb,e=.returned (.tuple #[.slice (some ⟨nb,0,none⟩) g.ns.length g.ns.length,.int .i64 0])/\BB w' nb (nullU g.ps g.ns.length)/\w.heap.size<=nb/\Below w.heap.size w w':=by
 have ok:OkC g:=OkC.of (by rw [hE])
 have X0:Hid ((w.alloc (gBox g)).heap[w.heap.size]?=some (gBox g)):=heap_alloc_new _ _
 have CK:Hid (Calls Tryz.prog 21 #[g.val] (w.alloc (gBox g)) fun e w'=>e=.returned (.tuple #[.int .i64 0,.int .i64 at_])/\Below (w.alloc (gBox g)).heap.size (w.alloc (gBox g)) w'):=check_G g _ (h.later (bAl _ _)) hpc 0 at_ hE
 have HFG:Hid (∀ w',Below w.heap.size w w'->FG w' g):=fun w' hb=>ok.fg (h.later hb)
 obtain ⟨x0,x1,x2,x3,x4⟩:=gbc X0.out
 have t1:((0:Int) != 0)=false:=by decide
 clear h hE ok
 go_enter Tryz.func36,Tryz.ntmps36
 go_wp2_with (first
  | (go_at_call 21;refine CK.out.mono ?_;rintro e w2 ⟨rfl,b2⟩;have B2:Hid (Below w.heap.size w w2/\w2.heap[w.heap.size]?=some (gBox g)):=⟨(bAl w _).trans (b2.mono (bAl w _).size),(b2.block _ (lt_of_block X0.out)).trans X0.out⟩;clear b2 x0 x1 x2 x3 x4;obtain ⟨x0,x1,x2,x3,x4⟩:=gbc B2.out.2)
  | (go_at_call 55;refine (nullables_S g _ (HFG.out _ B2.out.1)).mono ?_;rintro e w3 ⟨nb,rfl,n3,l3,b3⟩;have B3:Hid (BB w3 nb (nullU g.ps g.ns.length)/\w.heap.size<=nb/\Below w.heap.size w w3):=⟨n3,Nat.le_trans B2.out.1.size l3,B2.out.1.trans (b3.mono B2.out.1.size)⟩;clear n3 l3 b3))
 refine bodyPost_ret (results_tmp2 rfl _ _ _) rfl ?_
 exact ⟨nb,rfl,B3.out⟩
def riseF (l:List Int):Bool:=decide (∀ i,i < l.length - 1->l.getD i 0 < l.getD (i+1) 0)
open Go.RowKit Go.Shelf
def SymIn (n:Nat)(s:Int×Int):Prop:=(s.1=1/\0<=s.2/\s.2 < 64)∨(s.1=2/\0<=s.2/\s.2 < n)
def KpB (n₀ Bs:Nat)(W W':World):Prop:=Below n₀ W W'/\W'.heap[Bs]?=W.heap[Bs]?
def CellsAt (W:World)(B:Nat)(C:Array Value)(t:TypeId):Prop:=W.heap[B]?=some (.cells C t (0,0))
theorem CellsAt.lt {W:World}{B:Nat}{C:Array Value}{t:TypeId}(h:CellsAt W B C t):B < W.heap.size:=lt_of_block h
theorem CellsAt.kept {W W':World}{row:Option Nat}{B:Nat}{C:Array Value}{t:TypeId}(h:CellsAt W B C t)(hg:W.grownBy W' row)(hne:some B≠row):CellsAt W' B C t:=(hg.block B h.lt hne).trans h
theorem CellsAt.alloc {W:World}{B:Nat}{C:Array Value}{t:TypeId}(h:CellsAt W B C t)(o:Obj):CellsAt (W.alloc o) B C t:=((bAl W o).block _ h.lt).trans h
theorem KpB.t {n₀ Bs:Nat}{A B C:World}(h:KpB n₀ Bs A B)(k:KpB n₀ Bs B C):KpB n₀ Bs A C:=⟨h.1.trans k.1,k.2.trans h.2⟩
theorem KpB.b {n₀ Bs:Nat}{w:World}(hn:n₀<=w.heap.size)(hB:Bs < w.heap.size)(W:World)(l:Nat)(o o':Obj)(hl:w.heap.size<=l)(h:W.heap[l]?=some o)(hc:o.isCells=false)(hk:o.isWalk=false):KpB n₀ Bs W (W.putObj l o') :=
 ⟨belowK_b hn W l o o' hl h hc hk,World.putObj_heap_other (by omega)⟩
def ofS (N:List Bool)(F:List BS)(l:List (Int×Int))(look:BS):BS:=l.foldr (aheadS N F) look
theorem ahead_ok {N:List Bool}{F:List BS}{s:Int×Int}{look:BS}(hF:∀ i,OkS (F.getD i (0,0)))(hs:SymIn N.length s)(hk:OkS look):OkS (aheadS N F s look):=by
 unfold aheadS
 split
 ·rename_i h1
  refine setS_ok fun x hx=>?_
  obtain rfl:=List.mem_singleton.1 hx
  rcases hs with q | q<;>omega
 ·split
  ·exact hk.with (hF _)
  ·exact hF _
theorem ofS_ok {N:List Bool}{F:List BS}(hF:∀ i,OkS (F.getD i (0,0))):∀ (l:List (Int×Int)) (look:BS),(∀ s∈l,SymIn N.length s)->OkS look->OkS (ofS N F l look)
 | [],_,_,hk=>hk
 | s :: l,look,hs,hk=>ahead_ok hF (hs s (by simp)) (ofS_ok hF l look (fun x hx=>hs x (by simp [hx])) hk)
end Go.Proofs.YtockbobpmiagiaaGreatDoor
