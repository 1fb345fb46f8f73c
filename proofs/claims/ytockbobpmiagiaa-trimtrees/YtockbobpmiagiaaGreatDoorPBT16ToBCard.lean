import Derived.Test.YtockbobpmiagiaaGreatDoorPBT12ToBT15
import Derived.WalkMore
import Derived.Test.YtockbobpmiagiaaGreatDoorTie
import Derived.Test.YtockbobpmiagiaaGreatDoorCards
import Derived.Deep.DeepHandedRow
import Derived.Lib.LaidTab
namespace Go.Proofs.YtockbobpmiagiaaGreatDoor
set_option linter.unusedVariables false
open Go.RowKit Go.Shelf
theorem IL.atB {w:World}{v:Value}{l:List Nat}(h:IL w v (nI l)){i:Nat}(hi:i < l.length):∃ b c,v=.slice (some ⟨b,0,none⟩) l.length c/\w.cell? ⟨b,i,none⟩=some (.int .i64 (l.getD i 0:Int)):=by
 unfold IL at h
 rw [nI_len] at h
 rcases h.2 with ⟨_,h0⟩ | ⟨b,cap,cur,rfl,h1,h2,h3,h4,h5,h6⟩
 ·omega
 ·refine ⟨b,cap,rfl,?_⟩
  rw [World.ownsRow.cellAt h i (by omega)]
  simp [nI,List.getD_eq_getElem?_getD,List.getElem?_eq_getElem hi]
theorem il_lenB {w:World}{v:Value}{l:List Nat}(h:IL w v (nI l)):∃ a c,v=.slice a l.length c:=by
 unfold IL at h
 rw [nI_len] at h
 rcases h.2 with ⟨rfl,h0⟩ | ⟨g,cap,cur,rfl,_⟩
 ·exact ⟨none,0,by rw [h0]⟩
 ·exact ⟨_,_,rfl⟩
theorem bitsL_nI (N n:Nat):bitsL N n=nI (bitsU N n):=rfl
theorem bitsU_mem {N n y:Nat}:y∈bitsU N n ↔ y < n/\N.testBit y=true:=by
 unfold bitsU
 rw [List.mem_filter,List.mem_range]
structure TuB (w:World)(n:Nat)(Ms:List Nat)(wr:World):Prop where
 rw:RwB wr w.heap.size n (ksE w.heap.size n) Ms
 len:Ms.length=n
 bel:Below w.heap.size w wr
theorem TuB.any {w wr w':World}{n:Nat}{Ms:List Nat}(h:TuB w n Ms wr)(hb:Below wr.heap.size wr w'):TuB w n Ms w':=⟨h.rw.later hb,h.len,h.bel.trans (hb.mono h.bel.size)⟩
theorem getD_setV {K:List Nat}{i j v:Nat}:(K.set i v).getD j 0=if i=j/\j < K.length then v else K.getD j 0:=by
 simp only [List.getD,List.getElem?_set]
 by_cases h1:i=j
 ·subst h1
  by_cases h2:i < K.length
  ·simp [h2]
  ·simp [h2]
 ·simp [h1]
theorem TuB.turn {w wr w':World}{n y k M:Nat}{Ms:List Nat}(h:TuB w n Ms wr)(hk:(ksE w.heap.size n)[y]?=some k)(hs:SB w' k n M)(hf:FrB (·=k) wr w'):TuB w n (Ms.set y M) w':=by
 have hy:y < n:=by have:=(List.getElem?_eq_some_iff.1 hk).1;rwa [ksE_len] at this
 rw [ksE_get hy] at hk
 refine ⟨h.rw.turn (by rw [ksE_get hy];exact hk) hs hf,by rw [List.length_set];exact h.len,hf.below h.bel h.bel.size (fun j q=>?_)⟩
 have q2:j=k:=q
 have:=Option.some.inj hk
 omega
set_option maxRecDepth 100000 in
set_option maxHeartbeats 4000000 in
theorem turned_SB {w:World}{rb n:Nat}{ks Ns:List Nat}(hR:RwB w rb n ks Ns)(hn:Ns.length=n)(hm:n<=4096)(hT:TabB w)(c:Nat) :
  Calls Tryz.prog 115 #[.slice (some ⟨rb,0,none⟩) n c] w fun e w'=>∃ Ms,e=.returned (.slice (some ⟨w.heap.size,0,none⟩) n n)/\TuB w n Ms w'/\∀ x y,x < n->y < n->(Ms.getD y 0).testBit x=(Ns.getD x 0).testBit y:=by
 have HR:Hid (RwB w rb n ks Ns):=hR
 have HT:Hid (TabB w):=hT
 have HNL:Hid (Ns.length=n):=hn
 have HEM:Hid (Calls Tryz.prog 83 #[.int .i64 (n:Int),.int .i64 (n:Int)] w fun e w'=>e=.returned (.slice (some ⟨w.heap.size,0,none⟩) n n)/\RwB w' w.heap.size n (ksE w.heap.size n) (List.replicate n 0)/\Below w.heap.size w w'):=empties_SB n n hm hm w
 clear hR hT hn
 go_enter Tryz.func115,Tryz.ntmps115
 go_wp2_with (go_at_call 83;refine HEM.out.mono ?_;rintro e w1 ⟨rfl,s1,b1⟩;have S1:Hid (TuB w n (List.replicate n 0) w1):=⟨s1,by simp,b1⟩;clear s1 b1)
 clear HEM
 go_loopw [15] (fun z wr=>∃ (i:Nat) (Ms:List Nat),i<=n/\z=.int .i64 (i:Int)/\TuB w n Ms wr/\∀ x y,x < n->y < n->(Ms.getD y 0).testBit x=(decide (x < i) && (Ns.getD x 0).testBit y)) (fun z _=>n - (intOf z).toNat)
 case atStart=>exact ⟨0,_,Nat.zero_le _,rfl,S1.out,fun x y _ hy=>by simp [List.getD_eq_getElem?_getD,hy]⟩
 case round =>
  clear S1
  obtain ⟨i,Ms,hi,rfl,hU,hbit⟩:=hrel
  by_cases hlt:i < n
  ·have ilt:(i:Int) < (n:Int):=by omega
   obtain ⟨k,hk,hsk⟩:=(HR.out.later hU.bel).at (show i < Ns.length by rw [HNL.out];exact hlt)
   have ck:=(HR.out.later hU.bel).cell hk
   have LI:Hid (Calls Tryz.prog 87 #[.pointer (some ⟨k+1,0,none⟩)] wr fun e w'=>∃ v,e=.returned v/\LBs wr (bitsL (Ns.getD i 0) n) v w'):=list_SB hsk (HT.out.later hU.bel)
   have HU:Hid (TuB w n Ms wr):=hU
   have HBI:Hid (∀ x y,x < n->y < n->(Ms.getD y 0).testBit x=(decide (x < i) && (Ns.getD x 0).testBit y)):=hbit
   obtain ⟨l,hl⟩:∃ l,bitsU (Ns.getD i 0) n=l:=⟨_,rfl⟩
   have HLM:Hid (∀ y,y∈l ↔ y < n/\(Ns.getD i 0).testBit y=true):=fun y=>by rw [<- hl];exact bitsU_mem
   rw [bitsL_nI,hl] at LI
   have HLL:Hid (l.length<=4096):=by
    show _<=_
    rw [<- hl,bitsU_len]
    exact Nat.le_trans (popB_le _ _) hm
   clear hU hbit hsk hk hl
   obtain ⟨wz,rfl⟩:∃ wz:World,wz=wr:=⟨_,rfl⟩
   go_wp2_with (go_at_call 87;refine LI.out.mono ?_;rintro e w2 ⟨v,rfl,l2⟩;obtain ⟨la,lc,rfl⟩:=il_lenB l2.il;have L2:Hid (TuB w n Ms w2/\IL w2 (.slice la l.length lc) (nI l)/\∀ j,(Value.slice la l.length lc).ownBlock=some j->wz.heap.size<=j):=⟨HU.out.any (l2.bel),l2.il,l2.own⟩;clear l2 ck)
   clear LI
   have hLL:=HLL.out
   go_loopw [23] (fun z wr=>∃ (q:Nat) (Ms:List Nat),q<=l.length/\z=.int .i64 (q:Int)/\TuB w n Ms wr/\IL wr (.slice la l.length lc) (nI l)/\∀ x y,x < n->y < n->(Ms.getD y 0).testBit x=((decide (x < i) && (Ns.getD x 0).testBit y) || (decide (x=i) && decide (y∈l.take q)))) (fun z _=>l.length - (intOf z).toNat)
   case atStart=>exact ⟨0,Ms,Nat.zero_le _,rfl,L2.out.1,L2.out.2.1,fun x y hx hy=>by rw [HBI.out x y hx hy];simp⟩
   case round =>
    have HOW:Hid (∀ j,(Value.slice la l.length lc).ownBlock=some j->wz.heap.size<=j):=L2.out.2.2
    have HKL:Hid (∀ y,y < n->w.heap.size+1+2*y+1 < wz.heap.size):=fun y hy=>by
     obtain ⟨k3,hk3,hs3⟩:=HU.out.rw.at (show y < Ms.length by rw [HU.out.len];exact hy)
     rw [ksE_get hy] at hk3
     have:=Option.some.inj hk3
     have:=hs3.size
     omega
    clear L2 HBI
    obtain ⟨q,Ms2,hq,rfl,hU2,hil,hbit⟩:=hrel
    by_cases hql:q < l.length
    ·have qlt:(q:Int) < (l.length:Int):=by omega
     obtain ⟨lb,lc',he,cl⟩:=IL.atB hil hql
     simp only [Value.slice.injEq,true_and] at he
     obtain ⟨rfl,rfl⟩:=he
     obtain ⟨y,hy⟩:∃ y,l.getD q 0=y:=⟨_,rfl⟩
     rw [hy] at cl
     have hym:y∈l:=by
      rw [<- hy,List.getD_eq_getElem?_getD,List.getElem?_eq_getElem hql]
      exact List.getElem_mem hql
     have hyn:=((HLM.out y).1 hym).1
     have ylt:(y:Int) < (n:Int):=by omega
     obtain ⟨k2,hk2,hs2⟩:=hU2.rw.at (show y < Ms2.length by rw [hU2.len];exact hyn)
     have ck2:=hU2.rw.cell hk2
     have AD:Hid (Calls Tryz.prog 85 #[.pointer (some ⟨k2+1,0,none⟩),.int .i64 (i:Int)] wr fun e w''=>∃ bv,e=.returned (.bool bv)/\TuB w n (Ms2.set y (addN (Ms2.getD y 0) i)) w''/\IL w'' (.slice (some ⟨lb,0,none⟩) l.length lc) (nI l)):=(add_SB hs2 (i:Int)).mono fun e w'' ⟨q1,q2,q3⟩=>by
      have e2:addX (Ms2.getD y 0) n (i:Int)=addN (Ms2.getD y 0) i:=by unfold addX;rw [if_pos ⟨by omega,by omega⟩];rfl
      rw [e2] at q2
      refine ⟨_,q1,hU2.turn hk2 q2 q3,hil.kept (fun j hj=>q3.block j (World.ownsRow.lt hil j hj).2 (fun z=>?_))⟩
      have z2:j=k2:=z
      have h1:=HOW.out j hj
      rw [ksE_get hyn] at hk2
      have h2:=Option.some.inj hk2
      have h3:=HKL.out y hyn
      omega
     have HB2:Hid (∀ x y',x < n->y' < n->((Ms2.set y (addN (Ms2.getD y 0) i)).getD y' 0).testBit x=((decide (x < i) && (Ns.getD x 0).testBit y') || (decide (x=i) && decide (y'∈l.take (q+1))))):=fun x y' hx hy'=>by
      have ht:l.take (q+1)=l.take q++[y]:=by
       rw [List.take_add_one,List.getElem?_eq_getElem hql,<- hy,List.getD_eq_getElem?_getD,List.getElem?_eq_getElem hql]
       rfl
      rw [getD_setV,ht]
      by_cases e:y=y'
      ·subst e
       rw [if_pos ⟨rfl,by rw [hU2.len];exact hyn⟩,addN_bit,hbit x y hx hy']
       by_cases e3:i=x
       ·subst e3;simp
       ·rw [decide_eq_false e3,decide_eq_false (fun z:x=i=>e3 z.symm)]
        simp
      ·rw [if_neg (fun z=>e z.1),hbit x y' hx hy']
       have e4:(y'∈l.take q++[y])=(y'∈l.take q):=by
        rw [List.mem_append,List.mem_singleton]
        exact propext ⟨fun z=>z.elim id (fun z=>absurd z.symm e),Or.inl⟩
       simp only [e4]
     clear hU2 hbit hil hs2 hk2 hym hy
     go_wp2_with (go_at_call 85;refine AD.out.mono ?_;rintro e w3 ⟨bv,rfl,t3,i3⟩;have W3:Hid (TuB w n (Ms2.set y (addN (Ms2.getD y 0) i)) w3/\IL w3 (.slice (some ⟨lb,0,none⟩) l.length lc) (nI l)):=⟨t3,i3⟩;clear t3 i3 ck2 cl)
     go_roundw
     case rel=>exact ⟨q+1,_,by omega,by go_num,W3.out.1,W3.out.2,HB2.out⟩
     case measure=>simp [intOf];omega
    ·obtain rfl:q=l.length:=by omega
     have qlt:¬ (l.length:Int) < (l.length:Int):=by omega
     have HB3:Hid (TuB w n Ms2 wr/\∀ x y,x < n->y < n->(Ms2.getD y 0).testBit x=(decide (x < i+1) && (Ns.getD x 0).testBit y)):=⟨hU2,fun x y hx hy=>by
      rw [hbit x y hx hy,List.take_length]
      by_cases e:x=i
      ·subst e
       have e5:decide (y∈l)=(Ns.getD x 0).testBit y:=by
        rw [Bool.eq_iff_iff,decide_eq_true_iff,HLM.out y]
        exact ⟨fun z=>z.2,fun z=>⟨hy,z⟩⟩
       rw [e5]
       simp
      ·rw [decide_eq_false e,Bool.false_and,Bool.or_false]
       congr 1
       apply decide_eq_decide.2
       omega⟩
     clear hU2 hbit hil
     go_wp2
     go_roundw
     case rel=>exact ⟨i+1,Ms2,by omega,by go_num,HB3.out.1,HB3.out.2⟩
     case measure=>simp [intOf];omega
  ·obtain rfl:i=n:=by omega
   have ilt:¬ (i:Int) < (i:Int):=by omega
   have HU:Hid (TuB w i Ms wr/\∀ x y,x < i->y < i->(Ms.getD y 0).testBit x=(Ns.getD x 0).testBit y):=⟨hU,fun x y hx hy=>by rw [hbit x y hx hy,decide_eq_true hx,Bool.true_and]⟩
   clear hU hbit
   go_wp2
   go_ret
   exact ⟨rfl,Ms,HU.out.1,HU.out.2⟩
def cdB (Ns:List Nat)(n P x:Nat):Bool:=!P.testBit x && decide (lkB (mB_ (Ns.getD x 0) P) n=n)
def nxB (Ns:List Nat)(n P:Nat):Option Nat:=(List.range n).find? (cdB Ns n P)
def plcF (Ns:List Nat)(n:Nat):Nat->List Nat×Nat->List Nat×Nat
 | 0,s=>s
 | f+1,s=>match nxB Ns n s.2 with
  | none=>s
  | some x=>plcF Ns n f (s.1++[x],addN s.2 x)
def placeU (Ns:List Nat)(n:Nat):List Nat:=(plcF Ns n n ([],0)).1
theorem nxB_some {Ns:List Nat}{n P x:Nat}(hx:x < n)(hc:cdB Ns n P x=true)(hb:∀ y,y < x->cdB Ns n P y=false):nxB Ns n P=some x:=by
 unfold nxB
 rw [List.find?_eq_some_iff_append]
 refine ⟨hc,List.range x,(List.range (n - (x+1))).map (x+1+·),?_,fun y hy=>by rw [hb y (List.mem_range.1 hy)];rfl⟩
 have e:n=x+1+(n - (x+1)):=by omega
 conv=>lhs;rw [e]
 rw [List.range_add,List.range_succ,List.append_assoc]
 rfl
theorem nxB_none {Ns:List Nat}{n P:Nat}(hb:∀ y,y < n->cdB Ns n P y=false):nxB Ns n P=none:=by
 unfold nxB
 rw [List.find?_eq_none]
 intro y hy
 rw [hb y (List.mem_range.1 hy)]
 decide
theorem lack_from {N P n a r:Nat}(h:LackR (mB_ N P) n (64*(a / 64)) r)(ha:∀ j,j < a->N.testBit j=true->P.testBit j=true):r=lkB (mB_ N P) n:=by
 refine LackR.uniq (a:=0) ⟨h.le,fun q=>⟨Nat.zero_le _,(h.is q).2⟩,fun j _ hj=>?_⟩ (lkB_is _ _)
 rcases Nat.lt_or_ge j (64*(a / 64)) with q | q
 ·rw [minusB_bit]
  cases e:N.testBit j with
  | false=>rfl
  | true=>rw [ha j (by omega) e];rfl
 ·exact h.none j q hj
theorem lk_all {N P n:Nat}:∀ j,j < lkB (mB_ N P) n->N.testBit j=true->P.testBit j=true:=fun j hj hN=>by
 have:=(lkB_is (mB_ N P) n).none j (Nat.zero_le _) hj
 rw [minusB_bit,hN,Bool.true_and] at this
 simpa using this
structure PlB (w:World)(n:Nat)(l:List Nat)(P:Nat)(K:List Nat)(v:Value)(wr:World):Prop where
 il:IL wr v (nI l)
 own:∀ j,v.ownBlock=some j->j=w.heap.size∨w.heap.size+4<=j
 sb:SB wr (w.heap.size+1) n P
 kb:KbB wr (w.heap.size+3) K
 kl:K.length=n
 bel:Below w.heap.size w wr
 sz:w.heap.size+4<=wr.heap.size
theorem PlB.any {w wr w':World}{n P:Nat}{l K:List Nat}{v:Value}(h:PlB w n l P K v wr)(hb:Below wr.heap.size wr w'):PlB w n l P K v w':=⟨h.il.later hb,h.own,h.sb.later hb,h.kb.later hb,h.kl,h.bel.trans (hb.mono h.bel.size),Nat.le_trans h.sz hb.size⟩
theorem PlB.seen {w wr w':World}{n P P':Nat}{l K:List Nat}{v:Value}(h:PlB w n l P K v wr)(hs:SB w' (w.heap.size+1) n P')(hf:FrB (·=w.heap.size+1) wr w'):PlB w n l P' K v w':=by
 have hsz:=h.sz
 refine ⟨h.il.kept (fun j hj=>hf.block j (World.ownsRow.lt h.il j hj).2 (fun e=>?_)),h.own,hs,h.kb.frB hf (by omega),h.kl,hf.below h.bel (by omega) (fun j q=>by have q2:j=w.heap.size+1:=q;omega),Nat.le_trans h.sz hf.size⟩
 have e2:j=w.heap.size+1:=e
 have:=h.own j hj
 omega
theorem PlB.wait {w wr:World}{n P:Nat}{l K:List Nat}{v:Value}(h:PlB w n l P K v wr)(x r:Nat):PlB w n l P (K.set x r) v (wr.setCell ⟨w.heap.size+3,x,none⟩ (.int .i64 (r:Int))):=by
 have hsz:=h.sz
 have hf:=frB_setCell wr (w.heap.size+3) x (.int .i64 (r:Int))
 refine ⟨h.il.kept (fun j hj=>hf.block j (World.ownsRow.lt h.il j hj).2 (fun e=>?_)),h.own,h.sb.frB hf (by omega) (by omega),h.kb.set x r,by rw [List.length_set];exact h.kl,hf.below h.bel (by omega) (fun j q=>by have q2:j=w.heap.size+3:=q;omega),Nat.le_trans h.sz hf.size⟩
 have e2:j=w.heap.size+3:=e
 have:=h.own j hj
 omega
theorem PlB.app {w wr w2 w4:World}{n P x:Nat}{l K:List Nat}{v v':Value}(h:PlB w n l P K v wr)(hb:Below wr.heap.size wr w2)(hg:Grew w2 w4 v v')(hi:IL w4 v' (nI l++[(x:Int)])):PlB w n (l++[x]) P K v' w4:=by
 have h2:=h.any hb
 have hsz:=h2.sz
 have hf:FrB (fun j=>v.ownBlock=some j) w2 w4:=⟨hg.grown.os,hg.grown.tape,hg.grown.output,hg.grown.size,fun j hj hx=>hg.grown.block j hj (fun e=>hx e.symm)⟩
 refine ⟨by rw [nI_snoc];exact hi,fun j hj=>?_,h2.sb.frB hf (fun q=>?_) (fun q=>?_),h2.kb.frB hf (fun q=>?_),h.kl,hf.below h2.bel (by omega) (fun j q=>?_),Nat.le_trans h2.sz hf.size⟩
 ·rcases hg.moved with e | ⟨i,e,hi2⟩
  ·exact h.own j (by rw [<- e];exact hj)
  ·rw [e] at hj
   simp at hj
   omega
 ·have:=h.own _ q;omega
 ·have:=h.own _ q;omega
 ·have:=h.own _ q;omega
 ·have:=h.own _ q;omega
def lnB:Value->Nat
 | .slice _ n _=>n
 | _=>0
def WtB (Ns:List Nat)(n P:Nat)(K:List Nat):Prop:=∀ x,x < n->K.getD x 0<=n/\∀ j,j < K.getD x 0->(Ns.getD x 0).testBit j=true->P.testBit j=true
theorem WtB.add {Ns:List Nat}{n P x:Nat}{K:List Nat}(h:WtB Ns n P K):WtB Ns n (addN P x) K:=fun y hy=>⟨(h y hy).1,fun j h1 h2=>by rw [addN_bit,(h y hy).2 j h1 h2];rfl⟩
theorem WtB.set {Ns:List Nat}{n P x:Nat}{K:List Nat}(h:WtB Ns n P K)(hr:lkB (mB_ (Ns.getD x 0) P) n<=n):WtB Ns n P (K.set x (lkB (mB_ (Ns.getD x 0) P) n)):=fun y hy=>by
 rw [getD_setV]
 by_cases e:x=y/\y < K.length
 ·rw [if_pos e,<- e.1]
  exact ⟨hr,lk_all⟩
 ·rw [if_neg e]
  exact h y hy
set_option maxRecDepth 100000 in
set_option maxHeartbeats 8000000 in
theorem place_SB {w:World}{rb n:Nat}{ks Ns:List Nat}(hR:RwB w rb n ks Ns)(hn:Ns.length=n)(hm:n<=4096)(hT:TabB w)(c:Nat) :
  Calls Tryz.prog 105 #[.slice (some ⟨rb,0,none⟩) n c] w fun e w'=>∃ v,e=.returned v/\IL w' v (nI (placeU Ns n))/\(∀ j,v.ownBlock=some j->w.heap.size<=j)/\Below w.heap.size w w':=by
 have HR:Hid (RwB w rb n ks Ns):=hR
 have HT:Hid (TabB w):=hT
 have HNL:Hid (Ns.length=n):=hn
 have hmk:=make_cap n (by omega)
 have HMI:Hid (∀ w:World,(Instr.makeSlice 36 (.int .i64 (n:Int)) (.int .i64 (n:Int))).run Tryz.prog w=.ok (.slice (some ⟨w.heap.size,0,none⟩) n n) (w.alloc (.cells (madeCells #[.int .i64 0] n) 3))):=make_iB n (by omega)
 have HA:Hid (IL (w.alloc (.cells (madeCells #[.int .i64 0] n) 3)) (.slice (some ⟨w.heap.size,0,none⟩) 0 n) []/\Below w.heap.size w (w.alloc (.cells (madeCells #[.int .i64 0] n) 3))/\(w.alloc (.cells (madeCells #[.int .i64 0] n) 3)).heap.size=w.heap.size+1):=by
  exact ⟨IL.cap w n (by omega),bAl w _,by simp⟩
 have HEM:Hid (Calls Tryz.prog 97 #[.int .i64 (n:Int)] (w.alloc (.cells (madeCells #[.int .i64 0] n) 3)) fun e w'=>e=.returned (.pointer (some ⟨w.heap.size+1+1,0,none⟩))/\SB w' (w.heap.size+1) n 0/\Below (w.alloc (.cells (madeCells #[.int .i64 0] n) 3)).heap.size (w.alloc (.cells (madeCells #[.int .i64 0] n) 3)) w'/\w'.heap.size=w.heap.size+3):=by
  have:=empty_SB n hm (w.alloc (.cells (madeCells #[.int .i64 0] n) 3))
  rw [HA.out.2.2] at this
  rw [HA.out.2.2]
  exact this
 obtain ⟨R,hRe⟩:∃ R,plcF Ns n n ([],0)=R:=⟨_,rfl⟩
 have HRE:Hid (plcF Ns n n ([],0)=R):=hRe
 have HPU:Hid (placeU Ns n=R.1):=by show _=_;unfold placeU;rw [hRe]
 clear hR hT hn hRe
 go_enter Tryz.func105,Tryz.ntmps105
 go_wp2
 apply wp_scope_straight
 go_wp2_with (go_at_call 97;refine HEM.out.mono ?_)
 rintro e w1 ⟨rfl,s1,b1,z1⟩
 have hmi1:=HMI.out w1
 rw [z1] at hmi1
 have P1:Hid (PlB w n [] 0 (List.replicate n 0) (.slice (some ⟨w.heap.size,0,none⟩) 0 n) (w1.alloc (.cells (madeCells #[.int .i64 0] n) 3))):=by
  have k1:=KbB.made w1 n
  rw [z1] at k1
  have b2:=HA.out.2.1.trans (b1.mono HA.out.2.1.size)
  refine ⟨(HA.out.1.later b1).later (bAl _ _),fun j hj=>?_,s1.later (bAl _ _),k1,by simp,b2.trans ((bAl w1 _).mono b2.size),by simp [z1]⟩
  simp [Value.ownBlock] at hj
  exact .inl hj.symm
 clear s1 b1 z1
 go_wp2
 clear HEM hmk HMI hmi1
 apply wp_label
 go_wp2
 go_loopw [3] (fun v wr=>∃ (l:List Nat) (P:Nat) (K:List Nat),PlB w n l P K v wr/\l.length<=n/\WtB Ns n P K/\plcF Ns n (n - l.length) (l,P)=R) (fun v _=>n - lnB v)
 case atStart=>exact ⟨[],0,_,P1.out,Nat.zero_le _,fun x hx=>(by simp [List.getD_eq_getElem?_getD,hx]),HRE.out⟩
 case round =>
  clear P1 HRE
  obtain ⟨l,P,K,hP,hll,hW,hF⟩:=hrel
  obtain ⟨la,lc,rfl⟩:=il_lenB hP.il
  by_cases hfull:l.length < n
  ·have llt:(l.length:Int) < (n:Int):=by omega
   have HP0:Hid (PlB w n l P K (.slice la l.length lc) wr/\WtB Ns n P K):=⟨hP,hW⟩
   have HF:Hid (plcF Ns n (n - l.length) (l,P)=R):=hF
   clear hP hW hF
   obtain ⟨wz,rfl⟩:∃ wz:World,wz=wr:=⟨_,rfl⟩
   go_wp2
   go_loopw [3,24] (fun v z wr=>∃ (x:Nat) (K:List Nat),x<=n/\z=.int .i64 (x:Int)/\v=.slice la l.length lc/\PlB w n l P K (.slice la l.length lc) wr/\WtB Ns n P K/\∀ y,y < x->cdB Ns n P y=false) (fun _ z _=>n - (intOf z).toNat)
   case atStart=>exact ⟨0,K,Nat.zero_le _,rfl,rfl,HP0.out.1,HP0.out.2,fun y hy=>absurd hy (Nat.not_lt_zero y)⟩
   case round =>
    clear HP0
    obtain ⟨x,K2,hx,rfl,rfl,hP,hW,hcd⟩:=hrel
    by_cases hxn:x < n
    ·have xlt:(x:Int) < (n:Int):=by omega
     have HP2:Hid (PlB w n l P K2 (.slice la l.length lc) wr/\WtB Ns n P K2/\∀ y,y < x->cdB Ns n P y=false):=⟨hP,hW,hcd⟩
     obtain ⟨k,hk,hsk⟩:=(HR.out.later hP.bel).at (show x < Ns.length by rw [HNL.out];exact hxn)
     have ck:=(HR.out.later hP.bel).cell hk
     have HA2:Hid (Calls Tryz.prog 99 #[.pointer (some ⟨w.heap.size+1+1,0,none⟩),.int .i64 (x:Int)] wr fun e w'=>e=.returned (.bool (P.testBit x))/\Below wr.heap.size wr w'):=has_yes hP.sb x hxn
     by_cases hpx:P.testBit x=true
     ·rw [hpx] at HA2
      have HC2:Hid (∀ y,y < x+1->cdB Ns n P y=false):=fun y hy=>by
       by_cases e:y=x
       ·rw [e];unfold cdB;rw [hpx];rfl
       ·exact hcd y (by omega)
      clear hP hW hcd hk hsk hpx
      go_wp2_with (go_at_call 99;refine HA2.out.mono ?_;rintro e w3 ⟨rfl,b3⟩;have P3:Hid (PlB w n l P K2 (.slice la l.length lc) w3):=HP2.out.1.any b3;clear b3 ck)
      go_roundw
      case rel=>exact ⟨x+1,K2,by omega,by go_num,rfl,P3.out,HP2.out.2.1,HC2.out⟩
      case measure=>simp [intOf];omega
     ·rw [Bool.eq_false_iff.2 hpx] at HA2
      have hkx:=(hW x hxn).1
      obtain ⟨kx,hkxe⟩:∃ kx,K2.getD x 0=kx:=⟨_,rfl⟩
      obtain ⟨r,hr⟩:∃ r,lkB (mB_ (Ns.getD x 0) P) n=r:=⟨_,rfl⟩
      have hrn:r<=n:=by rw [<- hr];exact (lkB_is _ _).le
      have LK:Hid (∀ w3,Below wr.heap.size wr w3->Calls Tryz.prog 120 #[.pointer (some ⟨k+1,0,none⟩),.int .i64 (kx:Int),.pointer (some ⟨w.heap.size+1+1,0,none⟩)] w3 fun e w'=>e=.returned (.int .i64 (r:Int))/\Below w3.heap.size w3 w'):=fun w3 b3=>(lacked_SB (hsk.later b3) ((hP.any b3).sb) ((HT.out.later hP.bel).later b3) kx (by omega)).mono fun e w' ⟨r',q1,q2,q3⟩=>by
       have e1:=lack_from q2 (by rw [<- hkxe];exact (hW x hxn).2)
       rw [hr] at e1
       rw [<- e1]
       exact ⟨q1,q3⟩
      have CK:Hid (∀ w3,Below wr.heap.size wr w3->w3.cell? ⟨w.heap.size+3,x,none⟩=some (.int .i64 (kx:Int))/\w3.frozen? ⟨w.heap.size+3,x,none⟩=false):=fun w3 b3=>by
       have:=(hP.kb.later b3).cell (i:=x) (by rw [hP.kl];exact hxn)
       rw [hkxe] at this
       exact ⟨this,(hP.kb.later b3).free x⟩
      have HW3:Hid (WtB Ns n P (K2.set x r)):=by
       have:=hW.set (x:=x) (lkB_is _ _).le
       rw [hr] at this
       exact this
      have HNP:Hid (P.testBit x=false):=Bool.eq_false_iff.2 hpx
      have HRR:Hid (lkB (mB_ (Ns.getD x 0) P) n=r):=hr
      clear hP hW hcd hk hsk hpx hkxe hr
      have SC4:Hid (∀ w4:World,PlB w n l P K2 (.slice la l.length lc) w4->(w4.setCell ⟨w.heap.size+3,x,none⟩ (.int .i64 (r:Int))).cell? ⟨w.heap.size+3,x,none⟩=some (.int .i64 (r:Int))):=fun w4 h4=>by
       have:=((h4.wait x r).kb).cell (i:=x) (by rw [List.length_set,h4.kl];exact hxn)
       rw [getD_setV,if_pos ⟨rfl,by rw [h4.kl];exact hxn⟩] at this
       exact this
      by_cases hre:r=n
      ·have re1:((r:Int) == (n:Int))=true:=by rw [hre];simp
       have HNX:Hid (plcF Ns n (n - (l.length+1)) (l++[x],addN P x)=R):=by
        have e1:=HF.out
        obtain ⟨f,hf⟩:∃ f,n - l.length=f+1:=⟨n - l.length - 1,by omega⟩
        have hc:cdB Ns n P x=true:=by unfold cdB;rw [HNP.out,HRR.out,hre];simp
        rw [hf,plcF,nxB_some hxn hc HP2.out.2.2] at e1
        rw [show n - (l.length+1)=f by omega]
        exact e1
       have HWA:Hid (WtB Ns n (addN P x) (K2.set x r)):=HW3.out.add
       have HLN:Hid ((nI l).length<=100000000):=by show _<=_;rw [nI_len];omega
       have NCL:Hid (∀ w4:World,((w4.setCell ⟨w.heap.size+3,x,none⟩ (.int .i64 (r:Int))).alloc (.cells #[.int .i64 (x:Int)] 3)).cell? ⟨w4.heap.size,0,none⟩=some (.int .i64 (x:Int))):=fun w4=>by
        have:=cQa (i:=0) (heap_alloc_new (w4.setCell ⟨w.heap.size+3,x,none⟩ (.int .i64 (r:Int))) (.cells #[.int .i64 (x:Int)] 3))
        rw [show (w4.setCell ⟨w.heap.size+3,x,none⟩ (.int .i64 (r:Int))).heap.size=w4.heap.size by simp] at this
        exact this
       subst hre
       go_wp2_with (first
        | (go_at_call 99;refine HA2.out.mono ?_;rintro e w3 ⟨rfl,b3⟩;have B3:Hid (Below wr.heap.size wr w3):=b3;have P3:Hid (PlB w r l P K2 (.slice la l.length lc) w3):=HP2.out.1.any b3;obtain ⟨cw,fw⟩:=CK.out w3 b3;clear b3 ck)
        | (go_at_call 120;refine (LK.out _ B3.out).mono ?_;rintro e w4 ⟨rfl,b4⟩;have P4:Hid (PlB w r l P (K2.set x r) (.slice la l.length lc) (w4.setCell ⟨w.heap.size+3,x,none⟩ (.int .i64 (r:Int)))):=(P3.out.any b4).wait x r;obtain ⟨cw2,fw2⟩:=CK.out w4 (B3.out.trans (b4.mono B3.out.size));have cw3:=SC4.out w4 (P3.out.any b4);have NC:Hid (((w4.setCell ⟨w.heap.size+3,x,none⟩ (.int .i64 (r:Int))).alloc (.cells #[.int .i64 (x:Int)] 3)).cell? ⟨w4.heap.size,0,none⟩=some (.int .i64 (x:Int))):=NCL.out w4;clear b4 cw fw)
        | (at_builtin;refine wpList_il_append_w rfl _ _ rfl (.slice la l.length lc) (nI l) rfl (P4.out.il.later (bAl _ _)) w4.heap.size 1 (x:Int) rfl NC.out HLN.out ?_;intro a4 n4 c4 w5 ho4 hg4))
       have P5:Hid (PlB w r (l++[x]) P (K2.set x r) (.slice a4 n4 c4) w5):=P4.out.app (bAl _ _) hg4 ho4
       have hn4:Hid (n4=l.length+1):=by
        obtain ⟨q1,q2,q⟩:=il_lenB P5.out.il
        simp only [Value.slice.injEq] at q
        show _=_
        rw [q.2.1]
        simp
       clear ho4 hg4 cw2 fw2 cw3
       have AD5:Hid (Calls Tryz.prog 85 #[.pointer (some ⟨w.heap.size+1+1,0,none⟩),.int .i64 (x:Int)] w5 fun e w''=>∃ bv,e=.returned (.bool bv)/\PlB w r (l++[x]) (addN P x) (K2.set x r) (.slice a4 n4 c4) w''):=(add_SB P5.out.sb (x:Int)).mono fun e w'' ⟨q1,q2,q3⟩=>by
        have e2:addX P r (x:Int)=addN P x:=by unfold addX;rw [if_pos ⟨by omega,by omega⟩];rfl
        rw [e2] at q2
        exact ⟨_,q1,P5.out.seen q2 q3⟩
       refine AD5.out.mono ?_
       rintro e w6 ⟨bv,rfl,p6⟩
       have P6:Hid (PlB w r (l++[x]) (addN P x) (K2.set x r) (.slice a4 n4 c4) w6):=p6
       clear p6
       go_wp2
       go_roundw
       case rel=>exact ⟨l++[x],addN P x,K2.set x r,P6.out,by simp;omega,HWA.out,by rw [List.length_append];exact HNX.out⟩
       case measure=>have:=hn4.out;simp [lnB];omega
      ·have re1:((r:Int) == (n:Int))=false:=by simp;omega
       have HC2:Hid (∀ y,y < x+1->cdB Ns n P y=false):=fun y hy=>by
        by_cases e:y=x
        ·rw [e];unfold cdB;rw [HRR.out,decide_eq_false hre];simp
        ·exact HP2.out.2.2 y (by omega)
       go_wp2_with (first
        | (go_at_call 99;refine HA2.out.mono ?_;rintro e w3 ⟨rfl,b3⟩;have B3:Hid (Below wr.heap.size wr w3):=b3;have P3:Hid (PlB w n l P K2 (.slice la l.length lc) w3):=HP2.out.1.any b3;obtain ⟨cw,fw⟩:=CK.out w3 b3;clear b3 ck)
        | (go_at_call 120;refine (LK.out _ B3.out).mono ?_;rintro e w4 ⟨rfl,b4⟩;have P4:Hid (PlB w n l P (K2.set x r) (.slice la l.length lc) (w4.setCell ⟨w.heap.size+3,x,none⟩ (.int .i64 (r:Int)))):=(P3.out.any b4).wait x r;obtain ⟨cw2,fw2⟩:=CK.out w4 (B3.out.trans (b4.mono B3.out.size));have cw3:=SC4.out w4 (P3.out.any b4);clear b4 cw fw))
       go_roundw
       case rel=>exact ⟨x+1,K2.set x r,by omega,by go_num,rfl,P4.out,HW3.out,HC2.out⟩
       case measure=>simp [intOf];omega
    ·obtain rfl:x=n:=by omega
     have xlt:¬ (x:Int) < (x:Int):=by omega
     have HFin:Hid (IL wr (.slice la l.length lc) (nI R.1)/\(∀ j,(Value.slice la l.length lc).ownBlock=some j->w.heap.size<=j)/\Below w.heap.size w wr):=by
      have e1:R=(l,P):=by
       rw [<- HF.out]
       obtain ⟨f,hf⟩:∃ f,x - l.length=f+1:=⟨x - l.length - 1,by omega⟩
       rw [hf,plcF,nxB_none hcd]
      rw [e1]
      exact ⟨hP.il,fun j hj=>by have:=hP.own j hj;omega,hP.bel⟩
     clear hP hW hcd
     go_wp2
     go_ret
     exact ⟨_,rfl,by rw [HPU.out];exact HFin.out.1,HFin.out.2.1,HFin.out.2.2⟩
  ·have llt:¬ (l.length:Int) < (n:Int):=by omega
   have HFin:Hid (IL wr (.slice la l.length lc) (nI R.1)/\(∀ j,(Value.slice la l.length lc).ownBlock=some j->w.heap.size<=j)/\Below w.heap.size w wr):=by
    rw [show n - l.length=0 by omega] at hF
    have e1:R=(l,P):=hF.symm
    rw [e1]
    exact ⟨hP.il,fun j hj=>by have:=hP.own j hj;omega,hP.bel⟩
   clear hP hW hF
   go_wp2
   go_ret
   exact ⟨_,rfl,by rw [HPU.out];exact HFin.out.1,HFin.out.2.1,HFin.out.2.2⟩
def PrsB (w:World)(ao:Option Addr)(l:List (Int×Int)):Prop:=l≠[]->∃ b off,ao=some ⟨b,off,none⟩/\b < w.heap.size/\∀ i,i < l.length->w.cell? ⟨b,off+i*2,none⟩=some (.int .i64 (l.getD i (0,0)).1)/\w.cell? ⟨b,off+i*2+1,none⟩=some (.int .i64 (l.getD i (0,0)).2)
theorem PrsB.later {w w':World}{ao:Option Addr}{l:List (Int×Int)}(h:PrsB w ao l)(hb:Below w.heap.size w w'):PrsB w' ao l:=by
 intro hne
 obtain ⟨b,off,e,hl,hc⟩:=h hne
 refine ⟨b,off,e,Nat.lt_of_lt_of_le hl hb.size,fun i hi=>?_⟩
 exact ⟨(hb.cell (p:=⟨b,off+i*2,none⟩) hl).trans (hc i hi).1,(hb.cell (p:=⟨b,off+i*2+1,none⟩) hl).trans (hc i hi).2⟩
def okE (n:Nat)(p:Int×Int):Bool:=(decide (0<=p.1) && decide (p.1 < (n:Int))) && (decide (0<=p.2) && decide (p.2 < (n:Int)))
def hasE (E:List (Int×Int))(x y:Nat):Bool:=E.any fun p=>decide (p.1=(x:Int)) && decide (p.2=(y:Int))
theorem hasE_snoc (E:List (Int×Int))(p:Int×Int)(x y:Nat):hasE (E++[p]) x y=(hasE E x y || (decide (p.1=(x:Int)) && decide (p.2=(y:Int)))):=by
 unfold hasE
 rw [List.any_append]
 simp
def RoA (w:World)(n:Nat)(E:List (Int×Int))(e:Ending)(w':World):Prop:=(E.all (okE n)=false/\e=.returned (.tuple #[.slice none 0 0,.int .i64 51])/\Below w.heap.size w w')∨(E.all (okE n)=true/\∃ Ms,e=.returned (.tuple #[.slice (some ⟨w.heap.size,0,none⟩) n n,.int .i64 0])/\TuB w n Ms w'/\∀ x y,x < n->y < n->(Ms.getD x 0).testBit y=hasE E x y)
set_option maxRecDepth 100000 in
set_option maxHeartbeats 8000000 in
theorem rows_far (n:Int)(hn:(decide (0<=n) && decide (n<=4096))=false)(ea:Option Addr)(el ec:Nat)(w:World):Calls Tryz.prog 56 #[.int .i64 n,.slice ea el ec] w fun e w'=>e=.returned (.tuple #[.slice none 0 0,.int .i64 4])/\w'=w:=by
 have AL:Hid (Calls Tryz.prog 82 #[.int .i64 n] w fun e w'=>e=.returned (.bool false)/\w'=w):=by
  have:=allowed_SB n w
  rwa [hn] at this
 clear hn
 go_enter Tryz.func56,Tryz.ntmps56
 go_wp2_with (go_at_call 82;refine AL.out.mono ?_;rintro e w1 ⟨rfl,hz⟩;rw [hz];clear hz w1)
 refine bodyPost_ret (v:=.tuple #[.slice none 0 0,.int .i64 4]) (by simp [results,Tryz.results56,go_sem]) rfl ?_
 exact ⟨rfl,rfl⟩
set_option maxRecDepth 100000 in
set_option maxHeartbeats 8000000 in
theorem rows_SB {w:World}{n:Nat}(hm:n<=4096)(ea:Option Addr)(ec:Nat)(E:List (Int×Int))(hE:PrsB w ea E)(hEl:E.length<=140737488355328) :
  Calls Tryz.prog 56 #[.int .i64 (n:Int),.slice ea E.length ec] w (RoA w n E):=by
 have HE:Hid (PrsB w ea E):=hE
 have AL:Hid (Calls Tryz.prog 82 #[.int .i64 (n:Int)] w fun e w'=>e=.returned (.bool true)/\w'=w):=by
  have:=allowed_SB (n:Int) w
  rwa [decide_eq_true (show (0:Int)<=(n:Int) by omega),decide_eq_true (show (n:Int)<=4096 by omega)] at this
 have HEM:Hid (Calls Tryz.prog 83 #[.int .i64 (n:Int),.int .i64 (n:Int)] w fun e w'=>e=.returned (.slice (some ⟨w.heap.size,0,none⟩) n n)/\RwB w' w.heap.size n (ksE w.heap.size n) (List.replicate n 0)/\Below w.heap.size w w'):=empties_SB n n hm hm w
 clear hE
 go_enter Tryz.func56,Tryz.ntmps56
 go_wp2_with (first
  | (go_at_call 82;refine AL.out.mono ?_;rintro e w1 ⟨rfl,hz⟩;rw [hz];clear hz w1)
  | (go_at_call 83;refine HEM.out.mono ?_;rintro e w1 ⟨rfl,s1,b1⟩;have S1:Hid (TuB w n (List.replicate n 0) w1):=⟨s1,by simp,b1⟩;clear s1 b1))
 clear HEM AL
 go_loopw [17] (fun z wr=>∃ (i:Nat) (Ms:List Nat),i<=E.length/\z=.int .i64 (i:Int)/\TuB w n Ms wr/\(E.take i).all (okE n)=true/\∀ x y,x < n->y < n->(Ms.getD x 0).testBit y=hasE (E.take i) x y) (fun z _=>E.length - (intOf z).toNat)
 case atStart=>exact ⟨0,_,Nat.zero_le _,rfl,S1.out,rfl,fun x y hx _=>by simp [List.getD_eq_getElem?_getD,hx,hasE]⟩
 case round =>
  clear S1
  obtain ⟨i,Ms,hi,rfl,hU,hok,hbit⟩:=hrel
  by_cases hlt:i < E.length
  ·have ilt:(i:Int) < (E.length:Int):=by omega
   obtain ⟨b,off,hea,hbl,hc⟩:=(HE.out.later hU.bel) (by intro q;rw [q] at hlt;simp at hlt)
   obtain ⟨pa,pb,hpe⟩:∃ pa pb,E.getD i (0,0)=(pa,pb):=⟨_,_,rfl⟩
   obtain ⟨c0,c1⟩:=hc i hlt
   rw [hpe] at c0 c1
   have hEi:E[i]?=some (pa,pb):=by
    rw [List.getElem?_eq_getElem hlt]
    rw [List.getD_eq_getElem?_getD,List.getElem?_eq_getElem hlt] at hpe
    exact congrArg some hpe
   have htk:E.take (i+1)=E.take i++[(pa,pb)]:=by rw [List.take_add_one,hEi];rfl
   have HIN:Hid ((pa,pb)∈E):=List.mem_of_getElem? hEi
   have HU:Hid (TuB w n Ms wr):=hU
   have HBE:Hid (Below w.heap.size w wr):=hU.bel
   have BA:Hid (Calls Tryz.prog 84 #[.int .i64 pa,.int .i64 (n:Int)] (wr.alloc (.cells #[.int .i64 pa,.int .i64 pb] 84)) fun e w'=>e=.returned (.bool (decide (0<=pa) && decide (pa < (n:Int))))/\w'=(wr.alloc (.cells #[.int .i64 pa,.int .i64 pb] 84))):=below_SB pa (n:Int) _
   have BB2:Hid (Calls Tryz.prog 84 #[.int .i64 pb,.int .i64 (n:Int)] (wr.alloc (.cells #[.int .i64 pa,.int .i64 pb] 84)) fun e w'=>e=.returned (.bool (decide (0<=pb) && decide (pb < (n:Int))))/\w'=(wr.alloc (.cells #[.int .i64 pa,.int .i64 pb] 84))):=below_SB pb (n:Int) _
   subst hea
   clear hc hEi hpe
   by_cases ha:(decide (0<=pa) && decide (pa < (n:Int)))=true
   ·rw [ha] at BA
    by_cases hb:(decide (0<=pb) && decide (pb < (n:Int)))=true
    ·rw [hb] at BB2
     obtain ⟨x,rfl⟩:∃ x:Nat,pa=(x:Int):=⟨pa.toNat,by simp at ha;omega⟩
     obtain ⟨y,rfl⟩:∃ y:Nat,pb=(y:Int):=⟨pb.toNat,by simp at hb;omega⟩
     have hxn:x < n:=by simp at ha;omega
     have hyn:y < n:=by simp at hb;omega
     have xlt:(x:Int) < (n:Int):=by omega
     have HB2:Hid (∀ x' y',x' < n->y' < n->((Ms.set x (addN (Ms.getD x 0) y)).getD x' 0).testBit y'=hasE (E.take (i+1)) x' y'):=fun x' y' hx' hy'=>by
      rw [htk,hasE_snoc,getD_setV]
      by_cases e:x=x'
      ·subst e
       rw [if_pos ⟨rfl,by rw [hU.len];exact hxn⟩,addN_bit,hbit x y' hxn hy']
       congr 1
       rw [decide_eq_true (show ((x:Nat):Int)=(x:Int) from rfl),Bool.true_and]
       exact decide_eq_decide.2 (by omega)
      ·rw [if_neg (fun z=>e z.1),hbit x' y' hx' hy',decide_eq_false (fun z:((x:Nat):Int)=(x':Int)=>e (Int.ofNat_inj.1 z))]
       simp
     have HOK:Hid ((E.take (i+1)).all (okE n)=true):=by
      show _=_
      rw [htk,List.all_append,hok]
      simp only [List.all_cons,List.all_nil,Bool.and_true,Bool.true_and]
      unfold okE
      rw [ha,hb]
      rfl
     clear ha hb hok hbit htk hU
     have BAB:Hid (∀ (z:Int),z=(x:Int)∨z=(y:Int)->Calls Tryz.prog 84 #[.int .i64 z,.int .i64 (n:Int)] (wr.alloc (.cells #[.int .i64 (x:Int),.int .i64 (y:Int)] 84)) fun e w'=>e=.returned (.bool true)/\w'=(wr.alloc (.cells #[.int .i64 (x:Int),.int .i64 (y:Int)] 84))):=fun z q=>by
      rcases q with rfl | rfl
      ·exact BA.out
      ·exact BB2.out
     clear BA BB2
     go_wp2_with (go_at_call 84;refine (BAB.out _ (by first | (with_reducible exact Or.inl rfl) | (with_reducible exact Or.inr rfl))).mono ?_;rintro e w3 ⟨rfl,hz⟩;rw [hz];clear hz w3)
     obtain ⟨wd,hwd⟩:∃ wd:World,wd=(wr.alloc (.cells #[.int .i64 (x:Int),.int .i64 (y:Int)] 84)).drew:=⟨_,rfl⟩
     have UD:Hid (TuB w n Ms wd):=by rw [hwd];exact (HU.out.any (bAl _ _)).any (Below.refl _ _).drew
     have X5:wd.heap[wr.heap.size]?=some (.cells #[.int .i64 (x:Int),.int .i64 (y:Int)] 84):=by rw [hwd];exact heap_alloc_new wr _
     have d0:wd.cell? ⟨wr.heap.size,0,none⟩=some (.int .i64 (x:Int)):=(cQa X5).trans rfl
     have d1:wd.cell? ⟨wr.heap.size,1,none⟩=some (.int .i64 (y:Int)):=(cQa X5).trans rfl
     obtain ⟨k2,hk2,hs2⟩:=UD.out.rw.at (show x < Ms.length by rw [UD.out.len];exact hxn)
     have ck2:=UD.out.rw.cell hk2
     have AD:Hid (Calls Tryz.prog 85 #[.pointer (some ⟨k2+1,0,none⟩),.int .i64 (y:Int)] wd fun e w''=>∃ bv,e=.returned (.bool bv)/\TuB w n (Ms.set x (addN (Ms.getD x 0) y)) w''):=(add_SB hs2 (y:Int)).mono fun e w'' ⟨q1,q2,q3⟩=>by
      have e2:addX (Ms.getD x 0) n (y:Int)=addN (Ms.getD x 0) y:=by unfold addX;rw [if_pos ⟨by omega,by omega⟩];rfl
      rw [e2] at q2
      exact ⟨_,q1,UD.out.turn hk2 q2 q3⟩
     refine wp_region_tail_s 7 (by kernel_rfl) (by kernel_rfl) wd hwd ?_
     clear hwd X5 hk2 hs2 c0 c1 BAB
     simp only [List.take_succ_cons,List.take_zero,List.drop_succ_cons,List.drop_zero]
     refine st_yes (v:=?_) (by rfl) ?_ ?_
     rotate_left
     ·(go_simp;with_reducible rfl)
     (try simp only [Act.put,List.setIfInBounds_toArray,List.set_cons_zero,List.set_cons_succ])
     refine st_yes (v:=?_) (by rfl) ?_ ?_
     rotate_left
     ·(go_simp;with_reducible rfl)
     (try simp only [Act.put,List.setIfInBounds_toArray,List.set_cons_zero,List.set_cons_succ])
     refine st_yes (v:=?_) (by rfl) ?_ ?_
     rotate_left
     ·(go_simp;with_reducible rfl)
     (try simp only [Act.put,List.setIfInBounds_toArray,List.set_cons_zero,List.set_cons_succ])
     refine st_yes (v:=?_) (by rfl) ?_ ?_
     rotate_left
     ·(go_simp;with_reducible rfl)
     (try simp only [Act.put,List.setIfInBounds_toArray,List.set_cons_zero,List.set_cons_succ])
     refine st_yes (v:=?_) (by rfl) ?_ ?_
     rotate_left
     ·(go_simp;with_reducible rfl)
     (try simp only [Act.put,List.setIfInBounds_toArray,List.set_cons_zero,List.set_cons_succ])
     refine st_yes (v:=?_) (by rfl) ?_ ?_
     rotate_left
     ·(go_simp;with_reducible rfl)
     (try simp only [Act.put,List.setIfInBounds_toArray,List.set_cons_zero,List.set_cons_succ])
     refine st_yes (v:=?_) (by rfl) ?_ ?_
     rotate_left
     ·(go_simp;with_reducible rfl)
     (try simp only [Act.put,List.setIfInBounds_toArray,List.set_cons_zero,List.set_cons_succ])
     refine st_nil ?_
     go_wp2_with (go_at_call 85;refine AD.out.mono ?_;rintro e w4 ⟨bv,rfl,t4⟩;have T4:Hid (TuB w n (Ms.set x (addN (Ms.getD x 0) y)) w4):=t4;clear t4 ck2 d0 d1)
     go_roundw
     case rel=>exact ⟨i+1,_,by omega,by go_num,T4.out,HOK.out,HB2.out⟩
     case measure=>simp [intOf];omega
    ·have hbf:(decide (0<=pb) && decide (pb < (n:Int)))=false:=Bool.eq_false_iff.2 hb
     rw [hbf] at BB2
     have HNO:Hid (E.all (okE n)=false):=by
      show _=_
      rw [List.all_eq_false]
      exact ⟨(pa,pb),HIN.out,by unfold okE;rw [hbf];simp⟩
     have BAB:Hid (∀ (z:Int) (bv:Bool),(z=pa/\bv=true)∨(z=pb/\bv=false)->Calls Tryz.prog 84 #[.int .i64 z,.int .i64 (n:Int)] (wr.alloc (.cells #[.int .i64 pa,.int .i64 pb] 84)) fun e w'=>e=.returned (.bool bv)/\w'=(wr.alloc (.cells #[.int .i64 pa,.int .i64 pb] 84))):=fun z bv q=>by
      rcases q with ⟨rfl,rfl⟩ | ⟨rfl,rfl⟩
      ·exact BA.out
      ·exact BB2.out
     clear BA BB2 ha hb hbf hok hbit htk hU
     go_wp2_with (go_at_call 84;refine (BAB.out _ _ (by first | (with_reducible exact Or.inl ⟨rfl,rfl⟩) | (with_reducible exact Or.inr ⟨rfl,rfl⟩))).mono ?_;rintro e w3 ⟨rfl,hz⟩;rw [hz];clear hz w3)
     refine bodyPost_ret (v:=.tuple #[.slice none 0 0,.int .i64 51]) (by simp [results,Tryz.results56,go_sem]) rfl ?_
     exact Or.inl ⟨HNO.out,rfl,HBE.out.trans ((bAl _ _).mono HBE.out.size)⟩
   ·have haf:(decide (0<=pa) && decide (pa < (n:Int)))=false:=Bool.eq_false_iff.2 ha
    rw [haf] at BA
    have HNO:Hid (E.all (okE n)=false):=by
     show _=_
     rw [List.all_eq_false]
     exact ⟨(pa,pb),HIN.out,by unfold okE;rw [haf];simp⟩
    clear BB2 ha haf hok hbit htk hU
    go_wp2_with (go_at_call 84;refine BA.out.mono ?_;rintro e w3 ⟨rfl,hz⟩;rw [hz];clear hz w3)
    refine bodyPost_ret (v:=.tuple #[.slice none 0 0,.int .i64 51]) (by simp [results,Tryz.results56,go_sem]) rfl ?_
    exact Or.inl ⟨HNO.out,rfl,HBE.out.trans ((bAl _ _).mono HBE.out.size)⟩
  ·obtain rfl:i=E.length:=by omega
   have ilt:¬ (E.length:Int) < (E.length:Int):=by omega
   rw [List.take_length] at hok hbit
   have HU:Hid (TuB w n Ms wr/\E.all (okE n)=true/\∀ x y,x < n->y < n->(Ms.getD x 0).testBit y=hasE E x y):=⟨hU,hok,hbit⟩
   clear hU hok hbit
   go_wp2
   refine bodyPost_ret (v:=.tuple #[.slice (some ⟨w.heap.size,0,none⟩) n n,.int .i64 0]) (by simp [results,Tryz.results56,go_sem]) rfl ?_
   exact Or.inr ⟨HU.out.2.1,Ms,rfl,HU.out.1,HU.out.2.2⟩
open Go.ChangeShapes Go.WideShapes Go.ChangeAt Go.RowKit
theorem bcellsU8:Tryz.prog.cellsOf 5=1:=by kernel_rfl
theorem gTabB:Tryz.prog.globalNamed "math/bits.deBruijn64tab"=some 0:=by kernel_rfl
theorem gTabTypeB:(Tryz.prog.globals[0]?).map (·.type)=some 159:=by kernel_rfl
theorem bcellsTab:Tryz.prog.cellsOf 159=64:=by kernel_rfl
theorem gTabNo:tzRen.g 1=0:=by kernel_rfl
theorem tab_of {W:World}(h:laidMetH Tryz.prog [("math/bits.deBruijn64tab",Rows.laid_math_bits_deBruijn64tab)] W):TabB W:=by
 have t:Lib.TabIs Tryz.prog W "math/bits.deBruijn64tab" .u8 (Lib.deBruijn64tab.map fun (n:Nat)=>(n:Int)):=Lib.tabIs_of_head (rest:=[]) gTabB gTabTypeB Tryz.underlying159 Tryz.underlying5 bcellsU8 bcellsTab h
 intro j hj
 rw [gTabNo]
 have:=t.cell gTabB j (by rw [List.length_map];exact hj)
 rw [this]
 simp [List.getD_eq_getElem?_getD,List.getElem?_eq_getElem hj]
end Go.Proofs.YtockbobpmiagiaaGreatDoor
