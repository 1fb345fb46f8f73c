import Derived.Test.YtockbobpmiagiaaGreatDoorPBZ1ToBZ4
namespace Go.Proofs.YtockbobpmiagiaaGreatDoor
set_option linter.unusedVariables false
open Go.RowKit Go.Shelf
theorem LsB.low {z z':Nat}{v:Value}{V:List SlV}{L:List (List Nat)}{w:World}(h:LsB z v V L w)(hz:z'<=z):LsB z' v V L w:=⟨h.row,fun j hj=>Nat.le_trans hz (h.own j hj),h.len,h.il,fun x hx j hj=>Nat.le_trans hz (h.lo x hx j hj),h.ne,h.nd⟩
theorem LsB.turn {z b i:Nat}{v:Value}{V:List SlV}{L:List (List Nat)}{w w':World}{x:SlV}{l':List Nat}(h:LsB z v V L w)(hi:V[i]?=some x)(hb:(slV x).ownBlock=some b)(hl:IL w' (slV x) (nI l'))(hf:FrB (·=b) w w'):LsB z v V (L.set i l') w':=by
 refine ⟨h.row.kept (fun j hj=>hf.block j (h.row.lt j hj) (fun q=>?_)),h.own,by rw [List.length_set];exact h.len,fun j y ly hy hly=>?_,h.lo,h.ne,h.nd⟩
 ·have q2:j=b:=q
  rw [q2] at hj
  exact h.ne x (List.mem_of_getElem? hi) b hb hj
 ·rw [List.getElem?_set] at hly
  by_cases e:i=j
  ·subst e
   rw [if_pos rfl] at hly
   have hil:i < L.length:=by rw [<- h.len];exact (List.getElem?_eq_some_iff.1 hi).1
   rw [if_pos hil] at hly
   rw [hi] at hy
   cases hy
   cases hly
   exact hl
  ·rw [if_neg e] at hly
   have q:=h.il j y ly hy hly
   refine q.kept (fun k hk=>hf.block k (World.ownsRow.lt q k hk).2 (fun q2=>?_))
   have q3:k=b:=q2
   rw [q3] at hk
   exact h.nd i j x y hi hy e b hb hk
theorem ClB.each {Ns:List Nat}{n:Nat}{C D:List (List Nat)}(h:ClB Ns n C)(hl:D.length=C.length)(hp:∀ i,i < C.length->(D.getD i []).Perm (C.getD i [])):ClB Ns n D:=by
 have inD:∀ T'∈D,∃ i,i < C.length/\D.getD i []=T'/\C.getD i []∈C:=fun T' hT'=>by
  obtain ⟨i,hi⟩:=List.getElem?_of_mem hT'
  have hil:=(List.getElem?_eq_some_iff.1 hi).1
  refine ⟨i,by omega,?_,getD_memL (by omega)⟩
  rw [List.getD_eq_getElem?_getD,hi]
  rfl
 refine ⟨fun T' hT'=>?_,?_,fun z hz=>?_⟩
 ·obtain ⟨i,hi,rfl,hm⟩:=inD T' hT'
  obtain ⟨h1,r,h2,h3⟩:=h.cls _ hm
  exact ⟨(hp i hi).nodup_iff.2 h1,r,(hp i hi).mem_iff.2 h2,fun z=>by rw [(hp i hi).mem_iff];exact h3 z⟩
 ·rw [List.pairwise_iff_getElem]
  intro i j hi hj hij x hx y hy
  have hi2:i < C.length:=by omega
  have hj2:j < C.length:=by omega
  have e1:D[i]=D.getD i []:=by rw [List.getD_eq_getElem?_getD,List.getElem?_eq_getElem hi];rfl
  have e2:D[j]=D.getD j []:=by rw [List.getD_eq_getElem?_getD,List.getElem?_eq_getElem hj];rfl
  have e3:C[i]=C.getD i []:=by rw [List.getD_eq_getElem?_getD,List.getElem?_eq_getElem hi2];rfl
  have e4:C[j]=C.getD j []:=by rw [List.getD_eq_getElem?_getD,List.getElem?_eq_getElem hj2];rfl
  rw [e1] at hx
  rw [e2] at hy
  have:=(List.pairwise_iff_getElem.1 h.dis) i j hi2 hj2 hij
  exact this x (by rw [e3];exact (hp i hi2).mem_iff.1 hx) y (by rw [e4];exact (hp j hj2).mem_iff.1 hy)
 ·obtain ⟨T,hT,hzT⟩:=h.cov z hz
  obtain ⟨i,hi⟩:=List.getElem?_of_mem hT
  have hil:=(List.getElem?_eq_some_iff.1 hi).1
  have e:C.getD i []=T:=by rw [List.getD_eq_getElem?_getD,hi];rfl
  exact ⟨D.getD i [],getD_memL (by omega),(hp i hil).mem_iff.2 (by rw [e];exact hzT)⟩
theorem ClB.pos {Ns:List Nat}{n:Nat}{C:List (List Nat)}(h:ClB Ns n C){T:List Nat}(hT:T∈C):0 < T.length:=by
 obtain ⟨_,r,hr,_⟩:=h.cls T hT
 exact List.length_pos_of_mem hr
theorem len_flat:∀ D:List (List Nat),(∀ T∈D,0 < T.length)->D.length<=D.flatten.length
 | [],_=>Nat.le_refl _
 | T :: D,hD=>by
  have h1:=len_flat D (fun T' hT'=>hD T' (List.mem_cons_of_mem _ hT'))
  have h2:=hD T List.mem_cons_self
  simp only [List.length_cons,List.flatten_cons,List.length_append]
  omega
theorem SwB.pos {Ns:List Nat}{n S:Nat}{D:List Nat}{L:List (List Nat)}(h:SwB Ns n D L S):∀ T∈L,0 < T.length:=fun T hT=>by
 obtain ⟨i,hi⟩:=List.getElem?_of_mem hT
 obtain ⟨r,_,_,_,hr,_⟩:=h.cs i T hi
 exact List.length_pos_of_mem hr
theorem rev_any {w:World}{a:Option Addr}{c:Nat}{l:List Nat}(h:IL w (.slice a l.length c) (nI l))(hl:l.length<=1048576) :
  Calls Tryz.prog 114 #[.slice a l.length c] w fun e w'=>e=.returned (.tuple #[])/\IL w' (.slice a l.length c) (nI l.reverse)/\FrB (fun j=>(Value.slice a l.length c).ownBlock=some j) w w':=by
 by_cases h0:l.length=0
 ·have e:l=[]:=List.eq_nil_of_length_eq_zero h0
  subst e
  refine (rev_ILn a c w).mono ?_
  rintro e w' ⟨rfl,rfl⟩
  exact ⟨rfl,h,Below.frB (Below.refl _ _)⟩
 ·obtain ⟨b,c',he,_⟩:=IL.atB h (by omega:0 < l.length)
  simp only [Value.slice.injEq,true_and] at he
  obtain ⟨rfl,rfl⟩:=he
  refine (rev_IL h hl).mono ?_
  rintro e w' ⟨rfl,i1,f1⟩
  exact ⟨rfl,i1,f1.mono (fun j _ q=>by have q2:j=b:=q;rw [q2];rfl)⟩
theorem ClB.count {Ns:List Nat}{n:Nat}{C:List (List Nat)}(h:ClB Ns n C):C.length<=n/\C.flatten.length<=n/\∀ T∈C,T.length<=n:=by
 have h1:C.flatten.Nodup:=List.pairwise_flatten.2 ⟨fun T hT=>(h.cls T hT).1,h.dis⟩
 have h2:C.flatten.length<=n:=nodup_le h1 (fun z hz=>by
  obtain ⟨T,hT,hzT⟩:=List.mem_flatten.1 hz
  exact h.lt hT hzT)
 exact ⟨Nat.le_trans (len_flat C (fun T hT=>h.pos hT)) h2,h2,fun T hT=>nodup_le (h.cls T hT).1 (fun x hx=>h.lt hT hx)⟩
theorem rise_lt {T:List Nat}(h1:T.Pairwise (·<=·))(h2:T.Nodup):T.Pairwise (· < ·):=(List.pairwise_and_iff.2 ⟨h1,h2⟩).imp (fun q=>Nat.lt_of_le_of_ne q.1 q.2)
theorem ClB.heads {Ns:List Nat}{n:Nat}{C:List (List Nat)}(h:ClB Ns n C)(hp:C.Pairwise (fun T T'=>T.getD 0 0<=T'.getD 0 0)):C.Pairwise (fun T T'=>T.getD 0 0 < T'.getD 0 0):=by
 refine (List.pairwise_and_iff.2 ⟨hp,h.dis⟩).imp_of_mem (fun {T T'} hT hT' q=>Nat.lt_of_le_of_ne q.1 ?_)
 exact q.2 _ (getD_memN (h.pos hT)) _ (getD_memN (h.pos hT'))
structure CsB (w:World)(Ns:List Nat)(n:Nat)(v:Value)(V:List SlV)(C:List (List Nat))(w':World):Prop where
 ls:LsB w.heap.size v V C w'
 cl:ClB Ns n C
 rise:∀ T∈C,T.Pairwise (· < ·)
 hd:C.Pairwise fun T T'=>T.getD 0 0 < T'.getD 0 0
 bel:Below w.heap.size w w'
structure StB (w:World)(z:Nat)(v:Value)(V:List SlV)(L:List (List Nat))(i:Nat)(D:List (List Nat))(wr:World):Prop where
 ls:LsB z v V D wr
 zl:w.heap.size<=z
 len:D.length=L.length
 pm:∀ j,j < L.length->(D.getD j []).Perm (L.getD j [])
 so:∀ j,j < i->j < L.length->(D.getD j []).Pairwise (·<=·)
 bel:Below w.heap.size w wr
theorem getD_setL {K:List (List Nat)}{i j:Nat}{v:List Nat}:(K.set i v).getD j []=if i=j/\j < K.length then v else K.getD j []:=by
 simp only [List.getD,List.getElem?_set]
 by_cases h1:i=j
 ·subst h1
  by_cases h2:i < K.length
  ·simp [h2]
  ·simp [h2]
 ·simp [h1]
theorem StB.next {w wr w':World}{z i b c:Nat}{v:Value}{V:List SlV}{L D:List (List Nat)}{l':List Nat}(h:StB w z v V L i D wr)(hi:i < L.length)(hV:V[i]?=some (some ⟨b,0,none⟩,(D.getD i []).length,c))(hp:l'.Perm (D.getD i []))(hs:l'.Pairwise (·<=·))(hl:IL w' (.slice (some ⟨b,0,none⟩) (D.getD i []).length c) (nI l'))(hf:FrB (·=b) wr w'):StB w z v V L (i+1) (D.set i l') w':=by
 have hb:(slV (some ⟨b,0,none⟩,(D.getD i []).length,c)).ownBlock=some b:=rfl
 refine ⟨h.ls.turn hV hb hl hf,h.zl,by rw [List.length_set];exact h.len,fun j hj=>?_,fun j hj hjl=>?_,hf.below h.bel h.bel.size (fun j q=>?_)⟩
 ·rw [getD_setL]
  by_cases e:i=j
  ·subst e
   rw [if_pos ⟨rfl,by rw [h.len];exact hi⟩]
   exact hp.trans (h.pm i hi)
  ·rw [if_neg (fun q=>e q.1)]
   exact h.pm j hj
 ·rw [getD_setL]
  by_cases e:i=j
  ·subst e
   rw [if_pos ⟨rfl,by rw [h.len];exact hi⟩]
   exact hs
  ·rw [if_neg (fun q=>e q.1)]
   exact h.so j (by omega) hjl
 ·have q2:j=b:=q
  have:=h.ls.lo _ (List.mem_of_getElem? hV) b hb
  have:=h.zl
  omega
set_option maxRecDepth 100000 in
set_option maxHeartbeats 8000000 in
theorem classesOf_SB {w:World}{rb n:Nat}{ks Ns:List Nat}(hR:RwB w rb n ks Ns)(hn:Ns.length=n)(hm:n<=4096)(hT:TabB w)(hkin:∀ k∈ks,k+1 < w.heap.size)(c:Nat) :
  Calls Tryz.prog 104 #[.slice (some ⟨rb,0,none⟩) n c] w fun e w'=>∃ v V C,e=.returned v/\CsB w Ns n v V C w':=by
 have HR:Hid (RwB w rb n ks Ns):=hR
 have HT:Hid (TabB w):=hT
 have HNL:Hid (Ns.length=n):=hn
 have HKI:Hid (∀ k∈ks,k+1 < w.heap.size):=hkin
 have UP:Hid (Calls Tryz.prog 113 #[.int .i64 (n:Int)] w fun e w'=>e=.returned (.slice (some ⟨w.heap.size,0,none⟩) n n)/\KbB w' w.heap.size (List.range n)/\Below w.heap.size w w'):=upTo_SB n hm w
 have S1:Hid (∀ w1,KbB w1 w.heap.size (List.range n)->Below w.heap.size w w1->Calls Tryz.prog 112 #[.slice (some ⟨rb,0,none⟩) n c,.slice (some ⟨w.heap.size,0,none⟩) n n] w1 fun e w'=>∃ v V,e=.returned v/\LsB (w1.heap.size+2) v V (srU Ns n (List.range n) ([],0)).1 w'/\Below w1.heap.size w1 w'):=fun w1 k1 b1=>by
  have:=search_SB (roots:=List.range n) (HR.out.later b1) HNL.out hm (HT.out.later b1) (fun k hk=>Nat.lt_of_lt_of_le (HKI.out k hk) b1.size) (some ⟨w.heap.size,0,none⟩) n c k1.row (fun r hr=>List.mem_range.1 hr) (by rw [List.length_range];omega)
  rw [List.length_range] at this
  exact this
 have F1:=SwB.run (Ns:=Ns) (n:=n) (List.range n) [] [] 0 (fun r hr=>List.mem_range.1 hr) .first
 have HFL:Hid ((srU Ns n (List.range n) ([],0)).1.flatten.length<=n/\(∀ r∈(srU Ns n (List.range n) ([],0)).1.flatten,r < n)/\(srU Ns n (List.range n) ([],0)).1.length<=(srU Ns n (List.range n) ([],0)).1.flatten.length):=⟨nodup_le F1.nd F1.lt,F1.lt,len_flat _ F1.pos⟩
 clear F1
 obtain ⟨L1,hL1⟩:∃ L1,(srU Ns n (List.range n) ([],0)).1=L1:=⟨_,rfl⟩
 have HMK:Hid (∀ Ms:List Nat,(∀ x y,x < n->y < n->(Ms.getD y 0).testBit x=(Ns.getD x 0).testBit y)->ClB Ns n (srU Ms n L1.flatten.reverse ([],0)).1):=fun Ms hMs=>by rw [<- hL1];exact ClB.made hMs
 rw [hL1] at S1 HFL
 clear hR hT hn hkin hL1
 go_enter Tryz.func104,Tryz.ntmps104
 go_wp2_with (first
  | (go_at_call 113;refine UP.out.mono ?_;rintro e w1 ⟨rfl,k1,b1⟩;have K1:Hid (KbB w1 w.heap.size (List.range n)/\Below w.heap.size w w1):=⟨k1,b1⟩;clear k1 b1)
  | (go_at_call 112;refine (S1.out _ K1.out.1 K1.out.2).mono ?_))
 rintro e w2 ⟨v2,V2,rfl,l2,b2⟩
 obtain ⟨a2,c2,rfl,_⟩:=l2.read
 have hL1l:L1.length<=1048576:=by have:=HFL.out.1;have:=HFL.out.2.2;omega
 have hL1f:L1.flatten.length<=1048576:=by have:=HFL.out.1;omega
 have B2:Hid (Below w.heap.size w w2):=K1.out.2.trans (b2.mono K1.out.2.size)
 have CO:Hid (Calls Tryz.prog 111 #[.slice a2 L1.length c2] w2 fun e w'=>∃ v,e=.returned v/\IL w' v (nI L1.flatten)/\(∀ j,v.ownBlock=some j->w2.heap.size<=j)/\Below w2.heap.size w2 w'):=concat_B l2 hL1f hL1l
 clear l2 b2 UP S1 K1
 go_wp2_with (go_at_call 111;refine CO.out.mono ?_)
 rintro e w3 ⟨v3,rfl,i3,o3,b3⟩
 obtain ⟨a3,c3,rfl⟩:=il_lenB i3
 have hFn:=HFL.out.1
 have HFM:Hid (∀ r∈L1.flatten,r < n):=HFL.out.2.1
 generalize L1.flatten=F at *
 have RV:Hid (Calls Tryz.prog 114 #[.slice a3 F.length c3] w3 fun e w'=>e=.returned (.tuple #[])/\IL w' (.slice a3 F.length c3) (nI F.reverse)/\FrB (fun j=>(Value.slice a3 F.length c3).ownBlock=some j) w3 w'):=rev_any i3 (by omega)
 have W3:Hid ((∀ j,(Value.slice a3 F.length c3).ownBlock=some j->w.heap.size<=j)/\Below w.heap.size w w3):=⟨fun j hj=>Nat.le_trans B2.out.size (o3 j hj),B2.out.trans (b3.mono B2.out.size)⟩
 clear i3 o3 b3 CO hL1l hL1f HFL B2
 go_wp2_with (go_at_call 114;refine RV.out.mono ?_)
 rintro e w4 ⟨rfl,i4,f4⟩
 have W4:Hid (IL w4 (.slice a3 F.length c3) (nI F.reverse)/\Below w.heap.size w w4):=⟨i4,f4.below W3.out.2 W3.out.2.size W3.out.1⟩
 have TU:Hid (Calls Tryz.prog 115 #[.slice (some ⟨rb,0,none⟩) n c] w4 fun e w'=>∃ Ms,e=.returned (.slice (some ⟨w4.heap.size,0,none⟩) n n)/\TuB w4 n Ms w'/\∀ x y,x < n->y < n->(Ms.getD y 0).testBit x=(Ns.getD x 0).testBit y):=turned_SB (HR.out.later W4.out.2) HNL.out hm (HT.out.later W4.out.2) c
 clear i4 f4 RV W3
 go_wp2_with (go_at_call 115;refine TU.out.mono ?_)
 rintro e w5 ⟨Ms,rfl,t5,hMs⟩
 have S2:Hid (Calls Tryz.prog 112 #[.slice (some ⟨w4.heap.size,0,none⟩) n n,.slice a3 F.length c3] w5 fun e w'=>∃ v V,e=.returned v/\LsB (w5.heap.size+2) v V (srU Ms n F.reverse ([],0)).1 w'/\Below w5.heap.size w5 w'):=by
  have i5:=W4.out.1.later t5.bel
  obtain ⟨a',c',he,hrow⟩:=IL.rowB i5
  rw [List.length_reverse] at he
  simp only [Value.slice.injEq,true_and] at he
  obtain ⟨rfl,rfl⟩:=he
  have:=search_SB (roots:=F.reverse) t5.rw t5.len hm ((HT.out.later W4.out.2).later t5.bel) (fun k hk=>by
   obtain ⟨i,hi⟩:=List.getElem?_of_mem hk
   have hil:i < n:=by have:=(List.getElem?_eq_some_iff.1 hi).1;rwa [ksE_len] at this
   obtain ⟨k',hk',hs'⟩:=t5.rw.at (show i < Ms.length by rw [t5.len];exact hil)
   rw [hi] at hk'
   cases hk'
   exact hs'.size) a3 c3 n hrow (fun r hr=>HFM.out r (List.mem_reverse.1 hr)) (by rw [List.length_reverse];omega)
  rw [List.length_reverse] at this
  exact this
 have HCL:=HMK.out Ms hMs
 have B5:Hid (Below w.heap.size w w5):=W4.out.2.trans (t5.bel.mono W4.out.2.size)
 generalize (srU Ms n F.reverse ([],0)).1=L2 at *
 have HC2:Hid (ClB Ns n L2):=HCL
 clear t5 hMs TU W4 HMK HCL
 go_wp2_with (go_at_call 112;refine S2.out.mono ?_)
 rintro e w6 ⟨v6,V6,rfl,l6,b6⟩
 obtain ⟨a6,c6,rfl,_⟩:=l6.read
 have W6:Hid (StB w (w5.heap.size+2) (.slice a6 L2.length c6) V6 L2 0 L2 w6):=⟨l6,by have:=B5.out.size;omega,rfl,fun j _=>List.Perm.refl _,fun j hj=>absurd hj (Nat.not_lt_zero j),B5.out.trans (b6.mono B5.out.size)⟩
 have hL2:=HC2.out.count
 have hL2n:L2.length<=4096:=by omega
 clear l6 b6 S2 B5 HFM hL2
 go_wp2
 go_loopw [21] (fun z wr=>∃ (i:Nat) (D:List (List Nat)),i<=L2.length/\z=.int .i64 (i:Int)/\StB w (w5.heap.size+2) (.slice a6 L2.length c6) V6 L2 i D wr) (fun z _=>L2.length - (intOf z).toNat)
 case atStart=>exact ⟨0,L2,Nat.zero_le _,rfl,W6.out⟩
 case round =>
  clear W6
  obtain ⟨i,D,hi,rfl,hS⟩:=hrel
  by_cases hil:i < L2.length
  ·have ilt:(i:Int) < (L2.length:Int):=by omega
   have hiD:i < D.length:=by rw [hS.len];exact hil
   have hpos:0 < (D.getD i []).length:=by
    rw [(hS.pm i hil).length_eq]
    exact HC2.out.pos (getD_memL hil)
   have hcnt:(D.getD i []).length<=1048576:=by
    rw [(hS.pm i hil).length_eq]
    have:=HC2.out.count.2.2 _ (getD_memL hil)
    omega
   have hiV:i < V6.length:=by rw [hS.ls.len];exact hiD
   have hIL:=hS.ls.il i V6[i] (D.getD i []) (List.getElem?_eq_getElem hiV) (getD_someL hiD)
   obtain ⟨b,c',he,_⟩:=IL.atB hIL hpos
   have hV:V6[i]?=some (some ⟨b,0,none⟩,(D.getD i []).length,c'):=by
    rw [List.getElem?_eq_getElem hiV]
    simp only [slV,Value.slice.injEq] at he
    congr 1
    exact Prod.ext he.1 (Prod.ext he.2.1 he.2.2)
   rw [he] at hIL
   obtain ⟨a',c2',he2,hr⟩:=hS.ls.read
   rw [hS.len] at he2
   simp only [Value.slice.injEq,true_and] at he2
   obtain ⟨rfl,rfl⟩:=he2
   obtain ⟨rb2,ro2,ha6,hrl2,hcell⟩:=hr.row (fun q=>by rw [q] at hiV;simp at hiV)
   have ck:=hcell i _ hV
   simp only [slV] at ck
   have SO:Hid (Calls Tryz.prog 116 #[.slice (some ⟨b,0,none⟩) (D.getD i []).length c'] wr fun e w'=>e=.returned (.tuple #[])/\(∃ l',l'.Perm (D.getD i [])/\l'.Pairwise (·<=·)/\IL w' (.slice (some ⟨b,0,none⟩) (D.getD i []).length c') (nI l'))/\FrB (·=b) wr w'):=sort_IL hIL hcnt
   have HS:Hid (∀ (l':List Nat) (w':World),l'.Perm (D.getD i [])->l'.Pairwise (·<=·)->IL w' (.slice (some ⟨b,0,none⟩) (D.getD i []).length c') (nI l')->FrB (·=b) wr w'->StB w (w5.heap.size+2) (.slice a6 L2.length c6) V6 L2 (i+1) (D.set i l') w'):=fun l' w' q1 q2 q3 q4=>hS.next hil hV q1 q2 q3 q4
   subst ha6
   clear hS hIL he hV hr hcell hpos hcnt hiD hiV
   generalize D.getD i []=T at *
   generalize T.length=tl at *
   go_wp2_with (go_at_call 116;refine SO.out.mono ?_;rintro e w7 ⟨rfl,⟨l',p7,s7,i7⟩,f7⟩;have W7:Hid (StB w (w5.heap.size+2) (.slice (some ⟨rb2,ro2,none⟩) L2.length c6) V6 L2 (i+1) (D.set i l') w7):=HS.out l' w7 p7 s7 i7 f7;clear p7 s7 i7 f7 ck)
   go_roundw
   case rel=>exact ⟨i+1,_,by omega,by go_num,W7.out⟩
   case measure=>simp [intOf];omega
  ·obtain rfl:i=L2.length:=by omega
   have ilt:¬ (L2.length:Int) < (L2.length:Int):=by omega
   have hD:ClB Ns n D:=HC2.out.each hS.len hS.pm
   have SF:Hid (Calls Tryz.prog 117 #[.slice a6 L2.length c6,.func (.func 118) #[] #[]] wr fun e w'=>e=.returned (.tuple #[])/\∃ V C,CsB w Ns n (.slice a6 L2.length c6) V C w'):=(sortf_B hS.ls (fun T hT=>hD.pos hT) (by have:=hS.len;omega)).mono fun e w' ⟨q1,⟨V',C',q2,q3,q4⟩,q5⟩=>by
    have hC:=hD.perm q2
    refine ⟨q1,V',C',q4.low hS.zl,hC,fun T hT=>?_,hC.heads q3,q5.below hS.bel hS.bel.size (fun j hj=>Nat.le_trans hS.zl (hS.ls.own j hj))⟩
    have hTD:=q2.mem_iff.1 hT
    obtain ⟨k,hk⟩:=List.getElem?_of_mem hTD
    have hkl:=(List.getElem?_eq_some_iff.1 hk).1
    have e1:D.getD k []=T:=by rw [List.getD_eq_getElem?_getD,hk];rfl
    have:=hS.so k (by rw [<- hS.len];exact hkl) (by rw [<- hS.len];exact hkl)
    rw [e1] at this
    exact rise_lt this (hC.cls T hT).1
   clear hS hD
   go_wp2_with (go_at_call 117;refine SF.out.mono ?_;rintro e w7 ⟨rfl,V7,C7,h7⟩;have H7:Hid (CsB w Ns n (.slice a6 L2.length c6) V7 C7 w7):=h7;clear h7)
   go_ret
   first | exact ⟨_,V7,C7,rfl,H7.out⟩ | exact ⟨_,rfl,⟨V7,C7,H7.out⟩⟩ | exact ⟨V7,C7,H7.out⟩
theorem make_slB (c:Nat)(hc:c<=1048576)(w:World):(Instr.makeSlice 127 (.int .i64 0) (.int .i64 (c:Int))).run Tryz.prog w=.ok (.slice (some ⟨w.heap.size,0,none⟩) 0 c) (w.alloc (.cells (madeCells #[.slice none 0 0] c) 36)):=by
 have h:(Tryz.prog.info? 36).map (fun i=>(i.zero,i.size,i.bytes))=some (some (.slice none 0 0),1,24):=by kernel_rfl
 cases e:Tryz.prog.info? 36 with
 | none=>rw [e] at h;cases h
 | some i0 =>
  rw [e] at h
  simp at h
  obtain ⟨hz0,hz1,hz2⟩:=h
  have:=run_makeSlice w 127 36 i0 (.slice none 0 0) Tryz.underlying127 e hz0 .i64 .i64 (0:Int) (c:Int) (by omega) (by omega) (by rw [hz1];simp;omega) (by rw [hz2];omega) (by omega)
  rw [hz1] at this
  simpa [Value.cells] using this
theorem SLo.cap (w:World)(c:Nat)(hc:c<=1048576):SLo (w.alloc (.cells (madeCells #[.slice none 0 0] c) 36)) (.slice (some ⟨w.heap.size,0,none⟩) 0 c) [] :=
 World.ownsRow_made w _ c (Nat.zero_le _) (by unfold maxLen;omega) (by rw [made_listB];simp)
def slZ:SlV:=(none,0,0)
structure CmB (w:World)(Ns:List Nat)(n:Nat)(v:Value)(V:List SlV)(D:List (List Nat))(w':World):Prop where
 ls:LsB w.heap.size v V D w'
 co:CoB Ns n D
 rise:∀ T∈D,T.Pairwise (· < ·)
 from_:∃ C,ClB Ns n C/\(C.Pairwise fun T T'=>T.getD 0 0 < T'.getD 0 0)/\D=orU C Ns n
 bel:Below w.heap.size w w'
theorem getD_mapV {P:List Nat}{V:List SlV}{i:Nat}{x:SlV}(h:(P.map fun a=>V.getD a slZ)[i]?=some x):∃ a,P[i]?=some a/\x=V.getD a slZ:=by
 rw [List.getElem?_map] at h
 cases e:P[i]? with
 | none=>rw [e] at h;cases h
 | some a=>rw [e] at h;simp at h;exact ⟨a,rfl,h.symm⟩
theorem getD_V {V:List SlV}{a:Nat}(h:a < V.length):V[a]?=some (V.getD a slZ):=by
 rw [List.getD_eq_getElem?_getD,List.getElem?_eq_getElem h]
 rfl
theorem CsB.chosen {w w2 w':World}{Ns:List Nat}{n:Nat}{v v':Value}{V:List SlV}{C:List (List Nat)}{P:List Nat}(h:CsB w Ns n v V C w2)(hP:P=placeU (btU C Ns n) C.length)(hr:SLo w' v' (P.map fun a=>V.getD a slZ))(ho:∀ j,v'.ownBlock=some j->w2.heap.size<=j)(hb:Below w2.heap.size w2 w'):CmB w Ns n v' (P.map fun a=>V.getD a slZ) (orU C Ns n) w':=by
 obtain ⟨Q,hQ,_⟩:=place_is (btU C Ns n) C.length
 rw [<- hP] at hQ
 have hlt:∀ a∈P,a < V.length:=fun a ha=>by rw [h.ls.len];exact hQ.lt a ha
 have mem:∀ x∈P.map (fun a=>V.getD a slZ),x∈V:=fun x hx=>by
  obtain ⟨a,ha,rfl⟩:=List.mem_map.1 hx
  exact List.mem_of_getElem? (getD_V (hlt a ha))
 have hor:orU C Ns n=P.map fun a=>C.getD a []:=by rw [hP];rfl
 have hinner:∀ x∈V,∀ j,(slV x).ownBlock=some j->j < w2.heap.size:=fun x hx j hj=>by
  obtain ⟨i,hi⟩:=List.getElem?_of_mem hx
  have hl:i < C.length:=by rw [<- h.ls.len];exact (List.getElem?_eq_some_iff.1 hi).1
  exact (World.ownsRow.lt (h.ls.il i x _ hi (getD_someL hl)) j hj).2
 refine ⟨⟨hr,fun j hj=>Nat.le_trans h.bel.size (ho j hj),by rw [hor];simp,fun i x l hx hl=>?_,fun x hx=>h.ls.lo x (mem x hx),fun x hx j hj q=>?_,fun i i' x x' hx hx' hii j hj=>?_⟩,h.cl.order,fun T hT=>?_,⟨C,h.cl,h.hd,rfl⟩,h.bel.trans (hb.mono h.bel.size)⟩
 ·obtain ⟨a,ha,rfl⟩:=getD_mapV hx
  rw [hor,List.getElem?_map,ha] at hl
  simp at hl
  subst hl
  have ha2:=hlt a (List.mem_of_getElem? ha)
  have:=h.ls.il a _ _ (getD_V ha2) (getD_someL (by rw [<- h.ls.len];exact ha2))
  have hr2:=this.later hb
  simpa using hr2
 ·have h1:=hinner x (mem x hx) j hj
  have h2:=ho j q
  omega
 ·obtain ⟨a,ha,rfl⟩:=getD_mapV hx
  obtain ⟨a',ha',rfl⟩:=getD_mapV hx'
  refine h.ls.nd a a' _ _ (getD_V (hlt a (List.mem_of_getElem? ha))) (getD_V (hlt a' (List.mem_of_getElem? ha'))) (fun q=>hii ?_) j hj
  subst q
  obtain ⟨h3,h4⟩:=List.getElem?_eq_some_iff.1 ha
  obtain ⟨h5,h6⟩:=List.getElem?_eq_some_iff.1 ha'
  exact (List.getElem_inj hQ.nd).1 (h4.trans h6.symm)
 ·rw [hor] at hT
  obtain ⟨a,ha,rfl⟩:=List.mem_map.1 hT
  exact h.rise _ (getD_memL (hQ.lt a ha))
set_option maxRecDepth 100000 in
set_option maxHeartbeats 8000000 in
theorem components_SB {w:World}{rb n:Nat}{ks Ns:List Nat}(hR:RwB w rb n ks Ns)(hn:Ns.length=n)(hm:n<=4096)(hT:TabB w)(hkin:∀ k∈ks,k+1 < w.heap.size)(c:Nat) :
  Calls Tryz.prog 88 #[.slice (some ⟨rb,0,none⟩) n c] w fun e w'=>∃ v V D,e=.returned v/\CmB w Ns n v V D w':=by
 have HR:Hid (RwB w rb n ks Ns):=hR
 have HT:Hid (TabB w):=hT
 have HNL:Hid (Ns.length=n):=hn
 have CL:Hid (Calls Tryz.prog 104 #[.slice (some ⟨rb,0,none⟩) n c] w fun e w'=>∃ v V C,e=.returned v/\CsB w Ns n v V C w'):=classesOf_SB hR hn hm hT hkin c
 clear hR hT hn hkin
 go_enter Tryz.func88,Tryz.ntmps88
 go_wp2_with (go_at_call 104;refine CL.out.mono ?_)
 rintro e w2 ⟨v2,V,C,rfl,h2⟩
 obtain ⟨ca,cc,rfl,hread⟩:=h2.ls.read
 have hcnt:=h2.cl.count
 have hCl:C.length<=4096:=by omega
 have hmk:=make_slB C.length (by omega) w2
 have H2:Hid (CsB w Ns n (.slice ca C.length cc) V C w2):=h2
 have HRD:Hid (LrB w2 ca V C):=hread
 have A0:Hid (SLo (w2.alloc (.cells (madeCells #[.slice none 0 0] C.length) 36)) (.slice (some ⟨w2.heap.size,0,none⟩) 0 C.length) []/\Below w2.heap.size w2 (w2.alloc (.cells (madeCells #[.slice none 0 0] C.length) 36))):=⟨SLo.cap w2 _ (by omega),bAl w2 _⟩
 have BT:Hid (∀ w3,Below w2.heap.size w2 w3->Calls Tryz.prog 106 #[.slice ca C.length cc,.slice (some ⟨rb,0,none⟩) n c] w3 fun e w'=>∃ ob kso,e=.returned (.slice (some ⟨ob,0,none⟩) C.length C.length)/\RwB w' ob C.length kso (btU C Ns n)/\Below w3.heap.size w3 w'):=fun w3 b3=>by
  have b0:=H2.out.bel.trans (b3.mono H2.out.bel.size)
  refine between_SB (HR.out.later b0) HNL.out hm (HT.out.later b0) (HRD.out.later b3) hCl (fun T hT x hx=>H2.out.cl.lt hT hx) (fun T hT=>by have:=hcnt.2.2 T hT;omega) (fun hn0=>?_) cc c
  obtain ⟨T,hT,_⟩:=H2.out.cl.cov 0 hn0
  exact List.length_pos_of_mem hT
 have PL:Hid (∀ w4 ob kso,RwB w4 ob C.length kso (btU C Ns n)->Below w2.heap.size w2 w4->Calls Tryz.prog 105 #[.slice (some ⟨ob,0,none⟩) C.length C.length] w4 fun e w'=>∃ v,e=.returned v/\IL w' v (nI (placeU (btU C Ns n) C.length))/\(∀ j,v.ownBlock=some j->w4.heap.size<=j)/\Below w4.heap.size w4 w'):=fun w4 ob kso r4 b4=>by
  have b0:=H2.out.bel.trans (b4.mono H2.out.bel.size)
  exact place_SB r4 (by simp [btU]) hCl (HT.out.later b0) C.length
 obtain ⟨P,hP⟩:∃ P,placeU (btU C Ns n) C.length=P:=⟨_,rfl⟩
 have HP:Hid (P=placeU (btU C Ns n) C.length):=hP.symm
 have HPL:Hid ((∀ a∈P,a < C.length)/\P.length<=4096):=by
  obtain ⟨Q,hQ,_⟩:=place_is (btU C Ns n) C.length
  rw [hP] at hQ
  exact ⟨hQ.lt,by have:=nodup_le hQ.nd hQ.lt;omega⟩
 have HVL:Hid (V.length=C.length):=h2.ls.len
 rw [hP] at PL
 clear h2 hread hP CL hcnt
 go_wp2_with (first
  | (go_at_call 106;refine (BT.out _ A0.out.2).mono ?_;rintro e w3 ⟨ob,kso,rfl,r3,b3⟩;have W3:Hid (RwB w3 ob C.length kso (btU C Ns n)/\SLo w3 (.slice (some ⟨w2.heap.size,0,none⟩) 0 C.length) []/\Below w2.heap.size w2 w3):=⟨r3,A0.out.1.later b3,A0.out.2.trans (b3.mono A0.out.2.size)⟩;clear r3 b3)
  | (go_at_call 105;refine (PL.out _ _ _ W3.out.1 W3.out.2.2).mono ?_))
 rintro e w4 ⟨v4,rfl,i4,o4,b4⟩
 obtain ⟨pa,pc,rfl⟩:=il_lenB i4
 have W4:Hid (IL w4 (.slice pa P.length pc) (nI P)/\SLo w4 (.slice (some ⟨w2.heap.size,0,none⟩) 0 C.length) []/\Below w2.heap.size w2 w4/\∀ j,(Value.slice pa P.length pc).ownBlock=some j->w2.heap.size < j):=⟨i4,W3.out.2.1.later b4,W3.out.2.2.trans (b4.mono W3.out.2.2.size),fun j hj=>by
  have h1:=o4 j hj
  have h2:=W3.out.2.1.lt w2.heap.size rfl
  omega⟩
 clear i4 o4 b4
 clear BT PL W3 A0 hmk
 have hPl:=HPL.out.2
 go_wp2
 go_loopw [4,17] (fun v z wr=>∃ (i:Nat),i<=P.length/\z=.int .i64 (i:Int)/\SLo wr v ((P.take i).map fun a=>V.getD a slZ)/\(∀ j,v.ownBlock=some j->w2.heap.size<=j)/\Below w2.heap.size w2 wr/\IL wr (.slice pa P.length pc) (nI P)/\(∀ j,v.ownBlock=some j->(Value.slice pa P.length pc).ownBlock≠some j)) (fun _ z _=>P.length - (intOf z).toNat)
 case atStart=>exact ⟨0,Nat.zero_le _,rfl,W4.out.2.1,fun j hj=>by simp [Value.ownBlock] at hj;omega,W4.out.2.2.1,W4.out.1,fun j hj q=>by
  have:=W4.out.2.2.2 j q
  simp [Value.ownBlock] at hj
  omega⟩
 case round =>
  clear W4
  obtain ⟨i,hi,rfl,hS,hO,hB,hI,hN⟩:=hrel
  by_cases hil:i < P.length
  ·have ilt:(i:Int) < (P.length:Int):=by omega
   obtain ⟨pb,pc',he,cp⟩:=IL.atB hI hil
   simp only [Value.slice.injEq,true_and] at he
   obtain ⟨rfl,rfl⟩:=he
   have ham:=getD_memN hil
   have htk:(P.take (i+1)).map (fun a=>V.getD a slZ)=(P.take i).map (fun a=>V.getD a slZ)++[V.getD (P.getD i 0) slZ]:=by
    rw [List.take_add_one,List.getElem?_eq_getElem hil,List.getD_eq_getElem?_getD (l:=P),List.getElem?_eq_getElem hil,List.map_append]
    rfl
   obtain ⟨a,ha⟩:∃ a,P.getD i 0=a:=⟨_,rfl⟩
   rw [ha] at cp ham htk
   have hac:=HPL.out.1 a ham
   have alt:(a:Int) < (C.length:Int):=by omega
   have haV:a < V.length:=by rw [HVL.out];exact hac
   obtain ⟨cb,co,hca,hcbl,hcell⟩:=HRD.out.row (fun q=>by rw [q] at haV;simp at haV)
   have ck:=cellL (hcell a _ (getD_V haV)) hB
   obtain ⟨xa,xl,xc,hx⟩:∃ xa xl xc,V.getD a slZ=(xa,xl,xc):=⟨_,_,_,rfl⟩
   rw [hx] at ck htk
   simp only [slV] at ck
   have HS:Hid (SLo wr u4 ((P.take i).map fun a=>V.getD a slZ)/\(∀ j,u4.ownBlock=some j->w2.heap.size<=j)/\Below w2.heap.size w2 wr/\IL wr (.slice (some ⟨pb,0,none⟩) P.length pc) (nI P)/\(∀ j,u4.ownBlock=some j->(Value.slice (some ⟨pb,0,none⟩) P.length pc).ownBlock≠some j)):=⟨hS,hO,hB,hI,hN⟩
   have HLN:Hid (((P.take i).map fun a=>V.getD a slZ).length<=1000000000):=by show _<=_;simp;omega
   have HTK:Hid ((P.take (i+1)).map (fun a=>V.getD a slZ)=(P.take i).map (fun a=>V.getD a slZ)++[(xa,xl,xc)]):=htk
   subst hca
   clear hS hO hB hI hN hcell htk hx ham ha
   generalize (P.take i).map (fun a=>V.getD a slZ)=A at *
   go_wp2_with (at_builtin;refine wpList_ro_append rkSl rfl _ _ rfl u4 A rfl (HS.out.1.later (bAl _ _)) wr.heap.size 1 (xa,xl,xc) rfl (one_cellB wr (xa,xl,xc) _) HLN.out ?_)
   intro a4 n4 c4 w5 ho4 hg4
   have W5:Hid (SLo w5 (.slice a4 n4 c4) (A++[(xa,xl,xc)])/\(∀ j,(Value.slice a4 n4 c4).ownBlock=some j->w2.heap.size<=j)/\Below w2.heap.size w2 w5/\IL w5 (.slice (some ⟨pb,0,none⟩) P.length pc) (nI P)/\(∀ j,(Value.slice a4 n4 c4).ownBlock=some j->(Value.slice (some ⟨pb,0,none⟩) P.length pc).ownBlock≠some j)):=by
    have ba:=bAl wr (.cells #[.slice xa xl xc] 36)
    have hz:=HS.out.2.2.1.size
    have hz2:=ba.size
    refine ⟨ho4,hg4.own (by omega) HS.out.2.1,hg4.below (HS.out.2.2.1.trans (ba.mono hz)) (Nat.le_refl _) HS.out.2.1,?_,fun j hj q=>?_⟩
    ·refine HS.out.2.2.2.1.kept (fun j hj=>?_)
     have hl:=(World.ownsRow.lt HS.out.2.2.2.1 j hj).2
     rw [hg4.grown.block j (by omega) (fun e=>HS.out.2.2.2.2 j e.symm hj),ba.block j hl]
    ·rcases hg4.moved with e | ⟨k,e,hk⟩
     ·exact HS.out.2.2.2.2 j (by rw [<- e];exact hj) q
     ·have hl:=(World.ownsRow.lt HS.out.2.2.2.1 j q).2
      rw [e] at hj
      simp at hj
      omega
   clear ho4 hg4
   go_wp2
   go_roundw
   case rel=>exact ⟨i+1,by omega,by go_num,by rw [HTK.out];exact W5.out.1,W5.out.2.1,W5.out.2.2.1,W5.out.2.2.2.1,W5.out.2.2.2.2⟩
   case measure=>simp [intOf];omega
  ·obtain rfl:i=P.length:=by omega
   have ilt:¬ (P.length:Int) < (P.length:Int):=by omega
   rw [List.take_length] at hS
   have HF:Hid (CmB w Ns n u4 (P.map fun a=>V.getD a slZ) (orU C Ns n) wr):=H2.out.chosen HP.out hS hO hB
   clear hS hO hB hI hN
   go_wp2
   go_ret
   first | exact ⟨_,_,_,rfl,HF.out⟩ | exact ⟨_,rfl,⟨_,_,HF.out⟩⟩ | exact ⟨_,_,HF.out⟩
end Go.Proofs.YtockbobpmiagiaaGreatDoor
