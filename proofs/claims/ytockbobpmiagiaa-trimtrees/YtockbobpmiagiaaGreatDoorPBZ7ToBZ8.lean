import Derived.Test.YtockbobpmiagiaaGreatDoorPBZ5ToBZ6
namespace Go.Proofs.YtockbobpmiagiaaGreatDoor
set_option linter.unusedVariables false
open Go.RowKit Go.Shelf
def ptO:Option Nat->Value
 | none=>.pointer none
 | some k=>ptB k
structure SvM (w:World)(sb m:Nat)(ko sol:List (Option Nat)):Prop where
 row:w.heap[sb]?=some (.cells (ko.map ptO).toArray 124)
 len:ko.length=sol.length
 yes:∀ i k,ko.getD i none=some k->∃ M,sol.getD i none=some M/\SB w k m M
 no:∀ i,ko.getD i none=none->sol.getD i none=none
theorem SvM.later {w w':World}{sb m:Nat}{ko sol:List (Option Nat)}(h:SvM w sb m ko sol)(hb:Below w.heap.size w w'):SvM w' sb m ko sol:=⟨(hb.block _ (lt_of_block h.row)).trans h.row,h.len,fun i k hk=>by
 obtain ⟨M,h1,h2⟩:=h.yes i k hk
 exact ⟨M,h1,h2.later hb⟩,h.no⟩
theorem SvM.cell {w:World}{sb m:Nat}{ko sol:List (Option Nat)}(h:SvM w sb m ko sol){i:Nat}(hi:i < sol.length):w.cell? ⟨sb,i,none⟩=some (ptO (ko.getD i none)):=by
 rw [cQa h.row]
 have hk:i < ko.length:=by rw [h.len];exact hi
 simp [List.getD_eq_getElem?_getD,List.getElem?_eq_getElem hk]
theorem or_mod {N M m:Nat}(h1:N < 2 ^ m)(h2:M < 2 ^ m):(N ||| M) % 2 ^ m=N ||| M:=Nat.mod_eq_of_lt (Nat.or_lt_two_pow h1 h2)
set_option maxRecDepth 100000 in
set_option maxHeartbeats 8000000 in
theorem gather_SB {w:World}{rb fb sb n m:Nat}{ks kf Ns Fs T:List Nat}{ko sol:List (Option Nat)}(hR:RwB w rb n ks Ns)(hn:Ns.length=n)(hm:n<=4096)(hT:TabB w)(hF:RwB w fb m kf Fs)(hfn:Fs.length=n)(hS:SvM w sb m ko sol)(hsn:sol.length=n)(xa:Option Addr)(xc:Nat)(hTr:InRow w xa (nI T))(hT0:0 < T.length)(hTn:∀ x∈T,x < n)(hTl:T.length<=4096)(c1 c2 c3:Nat) :
  Calls Tryz.prog 89 #[.slice xa T.length xc,.slice (some ⟨rb,0,none⟩) n c1,.slice (some ⟨fb,0,none⟩) n c2,.slice (some ⟨sb,0,none⟩) n c3] w fun e w'=>e=.returned (.pointer (some ⟨w.heap.size+1,0,none⟩))/\SB w' w.heap.size m (gaU Ns Fs n sol T)/\Below w.heap.size w w':=by
 have HR:Hid (RwB w rb n ks Ns):=hR
 have HT:Hid (TabB w):=hT
 have HNL:Hid (Ns.length=n):=hn
 have HF:Hid (RwB w fb m kf Fs):=hF
 have HFN:Hid (Fs.length=n):=hfn
 have HS:Hid (SvM w sb m ko sol):=hS
 have HSN:Hid (sol.length=n):=hsn
 have HTR:Hid (InRow w xa (nI T)):=hTr
 have HTN:Hid (∀ x∈T,x < n):=hTn
 obtain ⟨tb,to,hxa,htl,ct⟩:=inrow_at hTr (i:=0) (x:=T.getD 0 0) (by rw [List.getD_eq_getElem?_getD,List.getElem?_eq_getElem hT0];rfl)
 have hx0:=hTn _ (getD_memN hT0)
 obtain ⟨R,hRe⟩:∃ R,gaU Ns Fs n sol T=R:=⟨_,rfl⟩
 have HRE:Hid (gaX Ns Fs n sol T (Fs.getD (T.getD 0 0) 0)=R):=hRe
 rw [hRe]
 generalize T.getD 0 0=x0 at *
 have xlt:(x0:Int) < (n:Int):=by omega
 have t0:(0:Int) < (T.length:Int):=by omega
 obtain ⟨k0,hk0,hs0⟩:=hF.at (show x0 < Fs.length by rw [hfn];exact hx0)
 have cf:=hF.cell hk0
 have CP:Hid (Calls Tryz.prog 107 #[.pointer (some ⟨k0+1,0,none⟩)] w fun e w'=>e=.returned (.pointer (some ⟨w.heap.size+1,0,none⟩))/\SB w' w.heap.size m (Fs.getD x0 0)/\Below w.heap.size w w'):=copy_SB hs0
 subst hxa
 rw [Nat.add_zero] at ct
 clear hR hT hn hF hfn hS hsn hTr hTn hRe hk0 hs0
 go_enter Tryz.func89,Tryz.ntmps89
 go_wp2_with (go_at_call 107;refine CP.out.mono ?_;rintro e w1 ⟨rfl,s1,b1⟩;have W1:Hid (SB w1 w.heap.size m (Fs.getD x0 0)/\Below w.heap.size w w1):=⟨s1,b1⟩;clear s1 b1)
 clear CP ct cf
 go_loopw [23] (fun z wr=>∃ (q N:Nat),q<=T.length/\z=.int .i64 (q:Int)/\SB wr w.heap.size m N/\Below w.heap.size w wr/\gaX Ns Fs n sol (T.drop q) N=R) (fun z _=>T.length - (intOf z).toNat)
 case atStart=>exact ⟨0,_,Nat.zero_le _,rfl,W1.out.1,W1.out.2,HRE.out⟩
 case round =>
  clear W1 HRE
  obtain ⟨q,N,hq,rfl,hs,hB,hG⟩:=hrel
  by_cases hql:q < T.length
  ·have qlt:(q:Int) < (T.length:Int):=by omega
   obtain ⟨tb',to',he,htl',cq⟩:=inrow_at (HTR.out.later hB) (i:=q) (x:=T.getD q 0) (by rw [List.getD_eq_getElem?_getD,List.getElem?_eq_getElem hql];rfl)
   simp only [Option.some.injEq,Addr.mk.injEq,and_true] at he
   obtain ⟨rfl,rfl⟩:=he
   have hxm:=getD_memN hql
   have hdr:=nat_get hql
   obtain ⟨x,hx⟩:∃ x,T.getD q 0=x:=⟨_,rfl⟩
   rw [hx] at cq hxm hdr
   rw [hdr] at hG
   have hxn:=HTN.out x hxm
   have xlt2:(x:Int) < (n:Int):=by omega
   obtain ⟨kx,hkx,hsx⟩:=(HF.out).at (show x < Fs.length by rw [HFN.out];exact hxn)
   have cx:=(HF.out.later hB).cell hkx
   have hne:kx≠w.heap.size:=by have:=hsx.size;omega
   have UN:Hid (Calls Tryz.prog 108 #[.pointer (some ⟨w.heap.size+1,0,none⟩),.pointer (some ⟨kx+1,0,none⟩)] wr fun e w'=>∃ bv,e=.returned (.bool bv)/\SB w' w.heap.size m (N ||| Fs.getD x 0)/\Below w.heap.size w w'):=(union_SB hs (hsx.later hB) hne).mono fun e w' ⟨q1,q2,q3⟩=>by
    rw [or_mod hs.lt hsx.lt] at q2
    exact ⟨_,q1,q2,q3.below hB hB.size (fun j hj=>by have h2:j=w.heap.size:=hj;omega)⟩
   obtain ⟨kr,hkr,hsr⟩:=(HR.out).at (show x < Ns.length by rw [HNL.out];exact hxn)
   have CR:Hid (∀ w',Below w.heap.size w w'->w'.cell? ⟨rb,x,none⟩=some (.pointer (some ⟨kr+1,0,none⟩))):=fun w' b'=>(HR.out.later b').cell hkr
   have LI:Hid (∀ w2,Below w.heap.size w w2->Calls Tryz.prog 87 #[.pointer (some ⟨kr+1,0,none⟩)] w2 fun e w'=>∃ v,e=.returned v/\LBs w2 (bitsL (Ns.getD x 0) n) v w'):=fun w2 b2=>list_SB (hsr.later b2) (HT.out.later b2)
   obtain ⟨l,hl⟩:∃ l,bitsU (Ns.getD x 0) n=l:=⟨_,rfl⟩
   have HLM:Hid (∀ y∈l,y < n):=fun y hy=>by rw [<- hl] at hy;exact (bitsU_mem.1 hy).1
   rw [bitsL_nI,hl] at LI
   have HG:Hid (gaX Ns Fs n sol (T.drop (q+1)) (gaY sol l (N ||| Fs.getD x 0))=R):=by rw [<- hl];exact hG
   have hLL:l.length<=4096:=by
    rw [<- hl,bitsU_len]
    exact Nat.le_trans (popB_le _ _) hm
   clear hs hB hG hdr hkx hsx hkr hsr hl hx hxm hne
   obtain ⟨wz,rfl⟩:∃ wz:World,wz=wr:=⟨_,rfl⟩
   go_wp2_with (first
    | (go_at_call 108;refine UN.out.mono ?_;rintro e w2 ⟨bv,rfl,s2,b2⟩;have W2:Hid (SB w2 w.heap.size m (N ||| Fs.getD x 0)/\Below w.heap.size w w2):=⟨s2,b2⟩;have cr:=CR.out w2 b2;clear s2 b2 cx cq)
    | (go_at_call 87;refine (LI.out _ W2.out.2).mono ?_;rintro e w3 ⟨v,rfl,l3⟩;obtain ⟨la,lc,rfl⟩:=il_lenB l3.il;have W3:Hid (SB w3 w.heap.size m (N ||| Fs.getD x 0)/\Below w.heap.size w w3/\IL w3 (.slice la l.length lc) (nI l)/\∀ j,(Value.slice la l.length lc).ownBlock=some j->w.heap.size < j):=⟨W2.out.1.later l3.bel,W2.out.2.trans (l3.bel.mono W2.out.2.size),l3.il,fun j hj=>Nat.lt_of_lt_of_le (Nat.lt_of_succ_lt W2.out.1.size) (l3.own j hj)⟩;clear l3 cr))
   clear UN CR LI W2
   go_loopw [39] (fun z wr=>∃ (p N:Nat),p<=l.length/\z=.int .i64 (p:Int)/\SB wr w.heap.size m N/\Below w.heap.size w wr/\IL wr (.slice la l.length lc) (nI l)/\gaX Ns Fs n sol (T.drop (q+1)) (gaY sol (l.drop p) N)=R) (fun z _=>l.length - (intOf z).toNat)
   case atStart=>exact ⟨0,_,Nat.zero_le _,rfl,W3.out.1,W3.out.2.1,W3.out.2.2.1,HG.out⟩
   case round =>
    have HOW:Hid (∀ j,(Value.slice la l.length lc).ownBlock=some j->w.heap.size < j):=W3.out.2.2.2
    clear W3 HG
    obtain ⟨p,N2,hp,rfl,hs,hB,hil,hG⟩:=hrel
    by_cases hpl:p < l.length
    ·have plt:(p:Int) < (l.length:Int):=by omega
     obtain ⟨lb,lc',he,cl⟩:=IL.atB hil hpl
     simp only [Value.slice.injEq,true_and] at he
     obtain ⟨rfl,rfl⟩:=he
     have hym:=getD_memN hpl
     have hdp:=nat_get hpl
     obtain ⟨y,hy⟩:∃ y,l.getD p 0=y:=⟨_,rfl⟩
     rw [hy] at cl hym hdp
     rw [hdp] at hG
     unfold gaY at hG
     have hyn:=HLM.out y hym
     have ylt:(y:Int) < (n:Int):=by omega
     have cs:=(HS.out.later hB).cell (i:=y) (by rw [HSN.out];exact hyn)
     cases hko:ko.getD y none with
     | none =>
      rw [hko] at cs
      have hso:=HS.out.no y hko
      rw [hso] at hG
      simp only [ptO] at cs
      have HN:Hid (SB wr w.heap.size m N2/\Below w.heap.size w wr/\IL wr (.slice (some ⟨lb,0,none⟩) l.length lc) (nI l)/\gaX Ns Fs n sol (T.drop (q+1)) (gaY sol (l.drop (p+1)) N2)=R):=⟨hs,hB,hil,hG⟩
      clear hs hB hil hG hdp hso hko hy hym
      go_wp2
      go_roundw
      case rel=>exact ⟨p+1,N2,by omega,by go_num,HN.out.1,HN.out.2.1,HN.out.2.2.1,HN.out.2.2.2⟩
      case measure=>simp [intOf];omega
     | some ky =>
      rw [hko] at cs
      obtain ⟨M,hso,hsy⟩:=HS.out.yes y ky hko
      rw [hso] at hG
      simp only [ptO,ptB] at cs
      have hne:ky≠w.heap.size:=by have:=hsy.size;omega
      have UN:Hid (Calls Tryz.prog 108 #[.pointer (some ⟨w.heap.size+1,0,none⟩),.pointer (some ⟨ky+1,0,none⟩)] wr fun e w'=>∃ bv,e=.returned (.bool bv)/\SB w' w.heap.size m (N2 ||| M)/\Below w.heap.size w w'/\IL w' (.slice (some ⟨lb,0,none⟩) l.length lc) (nI l)):=(union_SB hs (hsy.later hB) hne).mono fun e w' ⟨q1,q2,q3⟩=>by
       rw [or_mod hs.lt hsy.lt] at q2
       refine ⟨_,q1,q2,q3.below hB hB.size (fun j hj=>by have h2:j=w.heap.size:=hj;omega),hil.kept (fun j hj=>q3.block j (World.ownsRow.lt hil j hj).2 (fun z=>?_))⟩
       have z2:j=w.heap.size:=z
       have:=HOW.out j hj
       omega
      have HG2:Hid (gaX Ns Fs n sol (T.drop (q+1)) (gaY sol (l.drop (p+1)) (N2 ||| M))=R):=hG
      clear hs hB hil hG hdp hso hsy hko hne hy hym
      go_wp2_with (go_at_call 108;refine UN.out.mono ?_;rintro e w2 ⟨bv,rfl,s2,b2,i2⟩;have W2:Hid (SB w2 w.heap.size m (N2 ||| M)/\Below w.heap.size w w2/\IL w2 (.slice (some ⟨lb,0,none⟩) l.length lc) (nI l)):=⟨s2,b2,i2⟩;clear s2 b2 i2 cs cl)
      go_roundw
      case rel=>exact ⟨p+1,_,by omega,by go_num,W2.out.1,W2.out.2.1,W2.out.2.2,HG2.out⟩
      case measure=>simp [intOf];omega
    ·obtain rfl:p=l.length:=by omega
     have plt:¬ (l.length:Int) < (l.length:Int):=by omega
     rw [List.drop_length] at hG
     have HN:Hid (SB wr w.heap.size m N2/\Below w.heap.size w wr/\gaX Ns Fs n sol (T.drop (q+1)) N2=R):=⟨hs,hB,hG⟩
     clear hs hB hil hG
     go_wp2
     go_roundw
     case rel=>exact ⟨q+1,N2,by omega,by go_num,HN.out.1,HN.out.2.1,HN.out.2.2⟩
     case measure=>simp [intOf];omega
  ·obtain rfl:q=T.length:=by omega
   have qlt:¬ (T.length:Int) < (T.length:Int):=by omega
   rw [List.drop_length] at hG
   have hG':N=R:=hG
   subst hG'
   have HN:Hid (SB wr w.heap.size m N/\Below w.heap.size w wr):=⟨hs,hB⟩
   clear hs hB hG
   go_wp2
   go_ret
   exact ⟨rfl,HN.out.1,HN.out.2⟩
theorem SvM.ne {w:World}{sb m k M m':Nat}{ko sol:List (Option Nat)}(h:SvM w sb m ko sol)(hs:SB w k m' M):sb≠k/\sb≠k+1:=by
 refine ⟨fun e=>?_,fun e=>?_⟩
 ·have a:=h.row
  rw [e,hs.wd] at a
  simp only [Option.some.injEq,Obj.cells.injEq] at a
  exact absurd a.2.1 (by decide)
 ·have a:=h.row
  rw [e,hs.hd] at a
  simp only [Option.some.injEq,Obj.cells.injEq] at a
  exact absurd a.2.1 (by decide)
theorem getD_setO {K:List (Option Nat)}{i j:Nat}{v:Option Nat}:(K.set i v).getD j none=if i=j/\j < K.length then v else K.getD j none:=by
 simp only [List.getD,List.getElem?_set]
 by_cases h1:i=j
 ·subst h1
  by_cases h2:i < K.length
  ·simp [h2]
  ·simp [h2]
 ·simp [h1]
theorem SvM.set {w:World}{sb m k M x:Nat}{ko sol:List (Option Nat)}(h:SvM w sb m ko sol)(hs:SB w k m M):SvM (w.setCell ⟨sb,x,none⟩ (.pointer (some ⟨k+1,0,none⟩))) sb m (ko.set x (some k)) (sol.set x (some M)):=by
 have hf:=frB_setCell w sb x (.pointer (some ⟨k+1,0,none⟩))
 refine ⟨?_,by rw [List.length_set,List.length_set];exact h.len,fun i k' hk=>?_,fun i hi=>?_⟩
 ·rw [hSt h.row x _,List.setIfInBounds_toArray,List.map_set]
  rfl
 ·rw [getD_setO] at hk ⊢
  by_cases e:x=i/\i < ko.length
  ·rw [if_pos e] at hk
   cases hk
   refine ⟨M,by rw [if_pos ⟨e.1,by rw [<- h.len];exact e.2⟩],hs.frB hf (fun q=>(h.ne hs).1 q.symm) (fun q=>(h.ne hs).2 q.symm)⟩
  ·rw [if_neg e] at hk
   obtain ⟨M',h1,h2⟩:=h.yes i k' hk
   refine ⟨M',by rw [if_neg (fun q=>e ⟨q.1,by rw [h.len];exact q.2⟩)];exact h1,h2.frB hf (fun q=>(h.ne h2).1 q.symm) (fun q=>(h.ne h2).2 q.symm)⟩
 ·rw [getD_setO] at hi ⊢
  by_cases e:x=i/\i < ko.length
  ·rw [if_pos e] at hi
   cases hi
  ·rw [if_neg e] at hi
   rw [if_neg (fun q=>e ⟨q.1,by rw [h.len];exact q.2⟩)]
   exact h.no i hi
theorem SvM.made (w:World)(n m:Nat):SvM (w.alloc (.cells (madeCells #[.pointer none] n) 124)) w.heap.size m (List.replicate n none) (List.replicate n none):=by
 have hg:∀ i,(List.replicate n (none:Option Nat)).getD i none=none:=fun i=>by
  rw [List.getD_eq_getElem?_getD,List.getElem?_replicate]
  by_cases q:i < n
  ·rw [if_pos q];rfl
  ·rw [if_neg q];rfl
 refine ⟨?_,by simp,fun i k hk=>?_,fun i _=>hg i⟩
 ·rw [heap_alloc_new,made_listB,List.map_replicate]
  rfl
 ·rw [hg] at hk
  cases hk
set_option maxRecDepth 100000 in
set_option maxHeartbeats 8000000 in
theorem solve_SB {w:World}{rb fb n m:Nat}{ks kf Ns Fs:List Nat}(hR:RwB w rb n ks Ns)(hn:Ns.length=n)(hm:n<=4096)(hT:TabB w)(hkin:∀ k∈ks,k+1 < w.heap.size)(hF:RwB w fb m kf Fs)(hfn:Fs.length=n)(c1 c2:Nat) :
  Calls Tryz.prog 58 #[.slice (some ⟨rb,0,none⟩) n c1,.slice (some ⟨fb,0,none⟩) n c2] w fun e w'=>∃ ko D,e=.returned (.slice (some ⟨w.heap.size,0,none⟩) n n)/\CoB Ns n D/\SvM w' w.heap.size m ko (svC Ns Fs n D (List.replicate n none))/\Below w.heap.size w w':=by
 have HR:Hid (RwB w rb n ks Ns):=hR
 have HT:Hid (TabB w):=hT
 have HNL:Hid (Ns.length=n):=hn
 have HKI:Hid (∀ k∈ks,k+1 < w.heap.size):=hkin
 have HF:Hid (RwB w fb m kf Fs):=hF
 have HFN:Hid (Fs.length=n):=hfn
 have hmk:=make_pB n (by omega)
 obtain ⟨w1,hw1⟩:∃ w1:World,w1=w.alloc (.cells (madeCells #[.pointer none] n) 124):=⟨_,rfl⟩
 have W1:Hid (SvM w1 w.heap.size m (List.replicate n none) (List.replicate n none)/\Below w.heap.size w w1/\w1.heap.size=w.heap.size+1):=by
  rw [hw1]
  exact ⟨SvM.made w n m,bAl w _,by simp⟩
 have CM:Hid (Calls Tryz.prog 88 #[.slice (some ⟨rb,0,none⟩) n c1] w1 fun e w'=>∃ v V D,e=.returned v/\CmB w1 Ns n v V D w'):=components_SB (hR.later W1.out.2.1) hn hm (hT.later W1.out.2.1) (fun k hk=>Nat.lt_of_lt_of_le (hkin k hk) W1.out.2.1.size) c1
 clear hR hT hn hkin hF hfn
 go_enter Tryz.func58,Tryz.ntmps58
 go_wp2_with fail
 rw [<- hw1]
 clear hmk hw1
 go_wp2_with (go_at_call 88;refine CM.out.mono ?_)
 rintro e w2 ⟨v2,V,D,rfl,h2⟩
 obtain ⟨da,dc,rfl,_⟩:=h2.ls.read
 have hcnt:=h2.co.toClB.count
 have hDl:D.length<=4096:=by omega
 have HCO:Hid (CoB Ns n D):=h2.co
 have HLS:Hid (∀ wr,FrB (·=w.heap.size) w2 wr->LrB wr da V D):=fun wr f=>by
  have:=h2.ls.frB f (fun j hj=>by have q:j=w.heap.size:=hj;have:=W1.out.2.2;omega)
  obtain ⟨a',c',he,hr⟩:=this.read
  simp only [Value.slice.injEq,true_and] at he
  rw [he.1]
  exact hr
 have W2:Hid (SvM w2 w.heap.size m (List.replicate n none) (List.replicate n none)/\Below w.heap.size w w2):=⟨W1.out.1.later h2.bel,W1.out.2.1.trans (h2.bel.mono W1.out.2.1.size)⟩
 obtain ⟨R,hRe⟩:∃ R,svC Ns Fs n D (List.replicate n none)=R:=⟨_,rfl⟩
 have HRE:Hid (svC Ns Fs n D (List.replicate n none)=R):=hRe
 clear h2 hcnt CM W1 hRe
 go_wp2
 go_loopw [17] (fun z wr=>∃ (i:Nat) (ko sol:List (Option Nat)),i<=D.length/\z=.int .i64 (i:Int)/\SvM wr w.heap.size m ko sol/\sol.length=n/\Below w.heap.size w wr/\FrB (·=w.heap.size) w2 wr/\svC Ns Fs n (D.drop i) sol=R) (fun z _=>D.length - (intOf z).toNat)
 case atStart=>exact ⟨0,_,_,Nat.zero_le _,rfl,W2.out.1,by simp,W2.out.2,Below.frB (Below.refl _ _),HRE.out⟩
 case round =>
  clear W2
  obtain ⟨i,ko,sol,hi,rfl,hS,hsl,hB,hFr,hG⟩:=hrel
  by_cases hil:i < D.length
  ·have ilt:(i:Int) < (D.length:Int):=by omega
   obtain ⟨db,do_,xa,xc,hda,hdbl,ck,hrow⟩:=(HLS.out wr hFr).at hil
   have hTm:=getD_memL hil
   have hdr:=hid_get hil
   obtain ⟨T,hTe⟩:∃ T,D.getD i []=T:=⟨_,rfl⟩
   rw [hTe] at ck hrow hTm hdr
   rw [hdr] at hG
   have hT0:=HCO.out.toClB.pos hTm
   have hTl:T.length<=4096:=by have:=HCO.out.toClB.count.2.2 T hTm;omega
   have GA:Hid (Calls Tryz.prog 89 #[.slice xa T.length xc,.slice (some ⟨rb,0,none⟩) n c1,.slice (some ⟨fb,0,none⟩) n c2,.slice (some ⟨w.heap.size,0,none⟩) n n] wr fun e w'=>e=.returned (.pointer (some ⟨wr.heap.size+1,0,none⟩))/\SB w' wr.heap.size m (gaU Ns Fs n sol T)/\Below wr.heap.size wr w'):=gather_SB (HR.out.later hB) HNL.out hm (HT.out.later hB) (HF.out.later hB) HFN.out hS hsl xa xc hrow hT0 (fun x hx=>HCO.out.toClB.lt hTm hx) hTl c1 c2 n
   have HTN:Hid (∀ x∈T,x < n):=fun x hx=>HCO.out.toClB.lt hTm hx
   have HG:Hid (svC Ns Fs n (D.drop (i+1)) (svX (gaU Ns Fs n sol T) T sol)=R):=hG
   have HS:Hid (SvM wr w.heap.size m ko sol/\sol.length=n/\Below w.heap.size w wr/\FrB (·=w.heap.size) w2 wr/\InRow wr xa (nI T)):=⟨hS,hsl,hB,hFr,hrow⟩
   subst hda
   generalize gaU Ns Fs n sol T=g at *
   clear hS hsl hB hFr hG hrow hdr hTm hTe hT0
   obtain ⟨wz,rfl⟩:∃ wz:World,wz=wr:=⟨_,rfl⟩
   go_wp2_with (go_at_call 89;refine GA.out.mono ?_;rintro e w3 ⟨rfl,s3,b3⟩;have W3:Hid (SvM w3 w.heap.size m ko sol/\sol.length=n/\Below w.heap.size w w3/\FrB (·=w.heap.size) w2 w3/\InRow w3 xa (nI T)/\SB w3 wz.heap.size m g):=⟨HS.out.1.later b3,HS.out.2.1,HS.out.2.2.1.trans (b3.mono HS.out.2.2.1.size),HS.out.2.2.2.1.trans (Below.frB b3),HS.out.2.2.2.2.later b3,s3⟩;clear s3 b3 ck)
   clear GA
   have HRW:Hid (∀ wr,FrB (·=w.heap.size) w3 wr->InRow wr xa (nI T)):=fun wr f hne=>by
    obtain ⟨b,off,e,hb,hc⟩:=W3.out.2.2.2.2.1 hne
    refine ⟨b,off,e,Nat.lt_of_lt_of_le hb f.size,fun j hj=>?_⟩
    rw [<- hc j hj]
    unfold World.cell?
    rw [f.block b hb (fun q=>?_)]
    have q2:b=w.heap.size:=q
    subst q2
    have hcj:=hc 0 (by cases T with
     | nil=>exact absurd rfl hne
     | cons t T=>simp [nI])
    rw [cQa W3.out.1.row,List.getElem?_toArray,List.getElem?_map] at hcj
    cases hk:ko[off+0]? with
    | none=>rw [hk] at hcj;cases hcj
    | some k =>
     rw [hk] at hcj
     cases k with
     | none=>simp [ptO] at hcj
     | some k=>simp [ptO,ptB] at hcj
   go_loopw [28] (fun z wr=>∃ (q:Nat) (ko sol:List (Option Nat)),q<=T.length/\z=.int .i64 (q:Int)/\SvM wr w.heap.size m ko sol/\sol.length=n/\Below w.heap.size w wr/\FrB (·=w.heap.size) w3 wr/\SB wr wz.heap.size m g/\svC Ns Fs n (D.drop (i+1)) (svX g (T.drop q) sol)=R) (fun z _=>T.length - (intOf z).toNat)
   case atStart=>exact ⟨0,_,_,Nat.zero_le _,rfl,W3.out.1,W3.out.2.1,W3.out.2.2.1,Below.frB (Below.refl _ _),W3.out.2.2.2.2.2,HG.out⟩
   case round =>
    have HF3:Hid (FrB (·=w.heap.size) w2 w3):=W3.out.2.2.2.1
    clear W3 HG HS
    obtain ⟨q,ko2,sol2,hq,rfl,hS,hsl,hB,hFr,hsg,hG⟩:=hrel
    by_cases hql:q < T.length
    ·have qlt:(q:Int) < (T.length:Int):=by omega
     obtain ⟨tb,to,hxa,htl,cq⟩:=inrow_at (HRW.out wr hFr) (i:=q) (x:=T.getD q 0) (by rw [List.getD_eq_getElem?_getD,List.getElem?_eq_getElem hql];rfl)
     have hxm:=getD_memN hql
     have hdq:=nat_get hql
     obtain ⟨x,hx⟩:∃ x,T.getD q 0=x:=⟨_,rfl⟩
     rw [hx] at cq hxm hdq
     rw [hdq] at hG
     have hxn:=HTN.out x hxm
     have xlt:(x:Int) < (n:Int):=by omega
     have cs:=hS.cell (i:=x) (by rw [hsl];exact hxn)
     have fs:wr.frozen? ⟨w.heap.size,x,none⟩=false:=by simp [World.frozen?,hS.row]
     have hfs:=frB_setCell wr w.heap.size x (.pointer (some ⟨wz.heap.size+1,0,none⟩))
     have HN:Hid (SvM (wr.setCell ⟨w.heap.size,x,none⟩ (.pointer (some ⟨wz.heap.size+1,0,none⟩))) w.heap.size m (ko2.set x (some wz.heap.size)) (sol2.set x (some g))/\(sol2.set x (some g)).length=n/\Below w.heap.size w (wr.setCell ⟨w.heap.size,x,none⟩ (.pointer (some ⟨wz.heap.size+1,0,none⟩)))/\FrB (·=w.heap.size) w3 (wr.setCell ⟨w.heap.size,x,none⟩ (.pointer (some ⟨wz.heap.size+1,0,none⟩)))/\SB (wr.setCell ⟨w.heap.size,x,none⟩ (.pointer (some ⟨wz.heap.size+1,0,none⟩))) wz.heap.size m g/\svC Ns Fs n (D.drop (i+1)) (svX g (T.drop (q+1)) (sol2.set x (some g)))=R):=⟨hS.set hsg,by rw [List.length_set];exact hsl,hB.setCell (p:=⟨w.heap.size,x,none⟩) (Nat.le_refl _) _,hFr.trans hfs,hsg.frB hfs (fun z=>(hS.ne hsg).1 z.symm) (fun z=>(hS.ne hsg).2 z.symm),hG⟩
     obtain ⟨pv,hpv⟩:∃ pv,ptO (ko2.getD x none)=pv:=⟨_,rfl⟩
     rw [hpv] at cs
     subst hxa
     clear hS hsl hB hFr hsg hG hdq hx hxm hfs hpv
     go_wp2
     go_roundw
     case rel=>exact ⟨q+1,_,_,by omega,by go_num,HN.out.1,HN.out.2.1,HN.out.2.2.1,HN.out.2.2.2.1,HN.out.2.2.2.2.1,HN.out.2.2.2.2.2⟩
     case measure=>simp [intOf];omega
    ·obtain rfl:q=T.length:=by omega
     have qlt:¬ (T.length:Int) < (T.length:Int):=by omega
     rw [List.drop_length] at hG
     have HN:Hid (SvM wr w.heap.size m ko2 sol2/\sol2.length=n/\Below w.heap.size w wr/\FrB (·=w.heap.size) w2 wr/\svC Ns Fs n (D.drop (i+1)) sol2=R):=⟨hS,hsl,hB,HF3.out.trans hFr,hG⟩
     clear hS hsl hB hFr hsg hG
     go_wp2
     go_roundw
     case rel=>exact ⟨i+1,_,_,by omega,by go_num,HN.out.1,HN.out.2.1,HN.out.2.2.1,HN.out.2.2.2.1,HN.out.2.2.2.2⟩
     case measure=>simp [intOf];omega
  ·obtain rfl:i=D.length:=by omega
   have ilt:¬ (D.length:Int) < (D.length:Int):=by omega
   rw [List.drop_length] at hG
   have hG':sol=R:=hG
   subst hG'
   have HN:Hid (SvM wr w.heap.size m ko sol/\Below w.heap.size w wr):=⟨hS,hB⟩
   clear hS hsl hB hFr hG
   go_wp2
   go_ret
   have hfin:SvM wr w.heap.size m ko (svC Ns Fs n D (List.replicate n none)):=by rw [HRE.out];exact HN.out.1
   exact ⟨rfl,ko,D,HCO.out,hfin,HN.out.2⟩
end Go.Proofs.YtockbobpmiagiaaGreatDoor
