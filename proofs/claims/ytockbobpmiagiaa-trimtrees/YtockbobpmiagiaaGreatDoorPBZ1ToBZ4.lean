import Derived.Test.YtockbobpmiagiaaGreatDoorPBY0ToBY4
import Derived.Shelf.SortM.Plain
import Derived.Shelf.SortM.SortNone
import Derived.Lib.SlKeysI
import Derived.Shelf.SlicesG.Reverse
import Derived.Shelf.Spec.SlicesGrow
import Derived.Laws.AppendOwnNone
import Derived.Shelf.SlSortCmp.Whole1
import Derived.Shelf.SlSortCmp.NoneTotal
namespace Go.Proofs.YtockbobpmiagiaaGreatDoor
set_option linter.unusedVariables false
open Go.RowKit Go.Shelf
theorem IL.rowB {w:World}{v:Value}{l:List Nat}(h:IL w v (nI l)):∃ a c,v=.slice a l.length c/\InRow w a (nI l):=by
 obtain ⟨a,c,rfl⟩:=il_lenB h
 refine ⟨a,c,rfl,fun hne=>?_⟩
 have hl:0 < l.length:=by
  cases l with
  | nil=>exact absurd rfl hne
  | cons x l=>simp
 obtain ⟨b,c',he,_⟩:=IL.atB h hl
 simp only [Value.slice.injEq,true_and] at he
 obtain ⟨rfl,rfl⟩:=he
 refine ⟨b,0,rfl,(World.ownsRow.lt h b rfl).2,fun i hi=>?_⟩
 rw [nI_len] at hi
 obtain ⟨b',c2,he2,hc⟩:=IL.atB h hi
 simp only [Value.slice.injEq,true_and,Option.some.injEq,Addr.mk.injEq] at he2
 obtain ⟨⟨rfl,-⟩,-⟩:=he2
 rw [Nat.zero_add,hc]
 simp [nI,List.getD_eq_getElem?_getD,List.getElem?_eq_getElem hi]
structure LrB (w:World)(a:Option Addr)(V:List SlV)(L:List (List Nat)):Prop where
 len:V.length=L.length
 row:V≠[]->∃ b off,a=some ⟨b,off,none⟩/\b < w.heap.size/\∀ (i:Nat) (x:SlV),V[i]?=some x->w.cell? ⟨b,off+i,none⟩=some (slV x)
 il:∀ (i:Nat) (x:SlV) (l:List Nat),V[i]?=some x->L[i]?=some l->x.2.1=l.length/\InRow w x.1 (nI l)
theorem cellL {w w':World}{p:Addr}{v:Value}(h:w.cell? p=some v)(hb:Below w.heap.size w w'):w'.cell? p=some v:=by
 have hl:p.block < w.heap.size:=World.block_lt_of_cell? w _ h
 rw [<- h]
 unfold World.cell?
 rw [hb.block _ hl]
theorem belN (w:World)(k:Nat):Below w.heap.size w (w.drewN k):=⟨rfl,rfl,rfl,Nat.le_refl _,fun _ _=>rfl⟩
theorem LrB.later {w w':World}{a:Option Addr}{V:List SlV}{L:List (List Nat)}(h:LrB w a V L)(hb:Below w.heap.size w w'):LrB w' a V L:=by
 refine ⟨h.len,fun hV=>?_,fun i x l hx hl=>⟨(h.il i x l hx hl).1,(h.il i x l hx hl).2.later hb⟩⟩
 obtain ⟨b,off,e,hl,hc⟩:=h.row hV
 refine ⟨b,off,e,Nat.lt_of_lt_of_le hl hb.size,fun i x hx=>?_⟩
 exact cellL (hc i x hx) hb
theorem LrB.at {w:World}{a:Option Addr}{V:List SlV}{L:List (List Nat)}(h:LrB w a V L){i:Nat}(hi:i < L.length):∃ b off xa xc,a=some ⟨b,off,none⟩/\b < w.heap.size/\w.cell? ⟨b,off+i,none⟩=some (.slice xa (L.getD i []).length xc)/\InRow w xa (nI (L.getD i [])):=by
 have hv:i < V.length:=by rw [h.len];exact hi
 obtain ⟨b,off,e,hl,hc⟩:=h.row (fun q=>by rw [q] at hv;simp at hv)
 have h1:=hc i _ (List.getElem?_eq_getElem hv)
 have h2:=h.il i _ _ (List.getElem?_eq_getElem hv) (getD_someL hi)
 refine ⟨b,off,V[i].1,V[i].2.2,e,hl,?_,h2.2⟩
 rw [h1,slV,h2.1]
theorem LsB.read {z:Nat}{v:Value}{V:List SlV}{L:List (List Nat)}{w:World}(h:LsB z v V L w):∃ a c,v=.slice a L.length c/\LrB w a V L:=by
 obtain ⟨a,c,rfl,_⟩:=h.row.len
 refine ⟨a,c,by rw [h.len],h.len,fun hV=>?_,fun i x l hx hl=>?_⟩
 ·have h0:0 < V.length:=List.length_pos_iff.2 hV
  obtain ⟨b,c',he,_,_⟩:=h.row.cell rkSl.len h0
  simp only [Value.slice.injEq,true_and] at he
  obtain ⟨rfl,rfl⟩:=he
  refine ⟨b,0,rfl,h.row.lt b rfl,fun i x hx=>?_⟩
  obtain ⟨hi,hv⟩:=List.getElem?_eq_some_iff.1 hx
  obtain ⟨b',c2,he2,_,hc⟩:=h.row.cell rkSl.len hi
  simp only [Value.slice.injEq,true_and,Option.some.injEq,Addr.mk.injEq] at he2
  obtain ⟨⟨rfl,-⟩,-⟩:=he2
  have:=hc 0 (by decide)
  rw [Nat.mul_one,Nat.add_zero] at this
  rw [Nat.zero_add,this,hv]
  rfl
 ·obtain ⟨a',c',he,hr⟩:=(h.il i x l hx hl).rowB
  simp only [slV,Value.slice.injEq] at he
  exact ⟨he.2.1,by rw [he.1];exact hr⟩
structure BtS (w:World)(c:Nat)(H Ms:List Nat)(wr:World):Prop where
 kb:KbB wr w.heap.size H
 rw:RwB wr (w.heap.size+1) c (ksE (w.heap.size+1) c) Ms
 len:Ms.length=c
 bel:Below w.heap.size w wr
theorem BtS.any {w wr w':World}{c:Nat}{H Ms:List Nat}(h:BtS w c H Ms wr)(hb:Below wr.heap.size wr w'):BtS w c H Ms w':=⟨h.kb.later hb,h.rw.later hb,h.len,h.bel.trans (hb.mono h.bel.size)⟩
theorem BtS.turn {w wr w':World}{c y k M:Nat}{H Ms:List Nat}(h:BtS w c H Ms wr)(hk:(ksE (w.heap.size+1) c)[y]?=some k)(hs:SB w' k c M)(hf:FrB (·=k) wr w'):BtS w c H (Ms.set y M) w':=by
 have hy:y < c:=by have:=(List.getElem?_eq_some_iff.1 hk).1;rwa [ksE_len] at this
 rw [ksE_get hy] at hk
 have hk2:=Option.some.inj hk
 refine ⟨h.kb.frB hf (by omega),h.rw.turn (by rw [ksE_get hy];exact hk) hs hf,by rw [List.length_set];exact h.len,hf.below h.bel h.bel.size (fun j q=>?_)⟩
 have q2:j=k:=q
 omega
theorem hid_get {C:List (List Nat)}{i:Nat}(h:i < C.length):C.drop i=C.getD i [] :: C.drop (i+1):=by
 rw [List.drop_eq_getElem_cons h,List.getD_eq_getElem?_getD,List.getElem?_eq_getElem h]
 rfl
theorem nat_get {l:List Nat}{i:Nat}(h:i < l.length):l.drop i=l.getD i 0 :: l.drop (i+1):=by
 rw [List.drop_eq_getElem_cons h,List.getD_eq_getElem?_getD,List.getElem?_eq_getElem h]
 rfl
theorem getD_memN {l:List Nat}{i:Nat}(h:i < l.length):l.getD i 0∈l:=by
 rw [List.getD_eq_getElem?_getD,List.getElem?_eq_getElem h]
 exact List.getElem_mem h
theorem getD_memL {l:List (List Nat)}{i:Nat}(h:i < l.length):l.getD i []∈l:=by
 rw [List.getD_eq_getElem?_getD,List.getElem?_eq_getElem h]
 exact List.getElem_mem h
theorem take_memB {l:List Nat}{q y:Nat}(h:q < l.length):y∈l.take (q+1) ↔ y∈l.take q∨y=l.getD q 0:=by
 rw [List.take_add_one,List.getElem?_eq_getElem h,List.getD_eq_getElem?_getD,List.getElem?_eq_getElem h,List.mem_append]
 simp only [Option.toList,List.mem_singleton,Option.getD_some]
set_option maxRecDepth 100000 in
set_option maxHeartbeats 8000000 in
theorem between_SB {w:World}{rb n:Nat}{ks Ns:List Nat}{ca:Option Addr}{V:List SlV}{C:List (List Nat)}(hR:RwB w rb n ks Ns)(hn:Ns.length=n)(hm:n<=4096)(hT:TabB w)(hC:LrB w ca V C)(hcl:C.length<=4096)(hlt:∀ T∈C,∀ x∈T,x < n)(hTl:∀ T∈C,T.length<=4096)(hpos:0 < n->0 < C.length)(cc c:Nat) :
  Calls Tryz.prog 106 #[.slice ca C.length cc,.slice (some ⟨rb,0,none⟩) n c] w fun e w'=>∃ ob kso,e=.returned (.slice (some ⟨ob,0,none⟩) C.length C.length)/\RwB w' ob C.length kso (btU C Ns n)/\Below w.heap.size w w':=by
 have HR:Hid (RwB w rb n ks Ns):=hR
 have HT:Hid (TabB w):=hT
 have HNL:Hid (Ns.length=n):=hn
 have HC:Hid (LrB w ca V C):=hC
 have HLT:Hid (∀ T∈C,∀ x∈T,x < n):=hlt
 have HTL:Hid (∀ T∈C,T.length<=4096):=hTl
 have HPO:Hid (0 < n->0 < C.length):=hpos
 have hmk:=make_iB n (by omega)
 obtain ⟨H,hH⟩:∃ H,hmC C 0 (List.replicate n 0)=H:=⟨_,rfl⟩
 have HHL:Hid (H.length=n):=by show _=_;rw [<- hH,hmC_len,List.length_replicate]
 have HHB:Hid (∀ x,x < n->H.getD x 0 < C.length):=fun x hx=>by
  have h1:H.getD x 0∈H:=getD_memN (by rw [HHL.out];exact hx)
  rw [<- hH] at h1 ⊢
  exact hmC_lt (c:=C.length) C 0 _ (by omega) (fun y hy=>by rw [List.eq_of_mem_replicate hy];exact hpos (by omega)) _ h1
 have HBU:Hid (btU C Ns n=(List.range C.length).map fun a=>mkN (btF H Ns n a) C.length):=by show _=_;unfold btU;rw [hH]
 have HH0:Hid (hmC C 0 (List.replicate n 0)=H):=hH
 have K0:Hid (KbB (w.alloc (.cells (madeCells #[.int .i64 0] n) 3)) w.heap.size (List.replicate n 0)/\Below w.heap.size w (w.alloc (.cells (madeCells #[.int .i64 0] n) 3))/\(w.alloc (.cells (madeCells #[.int .i64 0] n) 3)).heap.size=w.heap.size+1):=⟨KbB.made w n,bAl w _,by simp⟩
 clear hR hT hn hC hlt hTl hpos hH
 go_enter Tryz.func106,Tryz.ntmps106
 go_wp2
 clear hmk
 go_loopw [20] (fun z wr=>∃ (i:Nat) (K:List Nat),i<=C.length/\z=.int .i64 (i:Int)/\KbB wr w.heap.size K/\K.length=n/\Below w.heap.size w wr/\wr.heap.size=w.heap.size+1/\hmC (C.drop i) i K=H) (fun z _=>C.length - (intOf z).toNat)
 case atStart=>exact ⟨0,_,Nat.zero_le _,rfl,K0.out.1,by simp,K0.out.2.1,K0.out.2.2,HH0.out⟩
 case round =>
  clear K0 HH0
  obtain ⟨i,K,hi,rfl,hK,hKl,hB,hsz,hF⟩:=hrel
  by_cases hil:i < C.length
  ·have ilt:(i:Int) < (C.length:Int):=by omega
   obtain ⟨b,off,xa,xc,hca,hbl,ck0,hrow⟩:=HC.out.at hil
   have ck:=cellL ck0 hB
   clear ck0
   have hTm:=getD_memL hil
   have hdr:=hid_get hil
   obtain ⟨T,hTe⟩:∃ T,C.getD i []=T:=⟨_,rfl⟩
   rw [hTe] at ck hrow hTm hdr
   rw [hdr] at hF
   have hTn:=HTL.out T hTm
   have hTx:=HLT.out T hTm
   have HF:Hid (hmC (C.drop (i+1)) (i+1) (hmL i T K)=H):=hF
   have HK:Hid (KbB wr w.heap.size K/\K.length=n/\Below w.heap.size w wr/\wr.heap.size=w.heap.size+1):=⟨hK,hKl,hB,hsz⟩
   have HROW:Hid (InRow w xa (nI T)):=hrow
   have HTX:Hid (∀ x∈T,x < n):=hTx
   subst hca
   clear hF hK hKl hB hsz hrow hTx hTm hdr hTe
   obtain ⟨wz,rfl⟩:∃ wz:World,wz=wr:=⟨_,rfl⟩
   go_wp2
   go_loopw [27] (fun z wr=>∃ (q:Nat) (K:List Nat),q<=T.length/\z=.int .i64 (q:Int)/\KbB wr w.heap.size K/\K.length=n/\Below w.heap.size w wr/\wr.heap.size=w.heap.size+1/\hmC (C.drop (i+1)) (i+1) (hmL i (T.drop q) K)=H) (fun z _=>T.length - (intOf z).toNat)
   case atStart=>exact ⟨0,K,Nat.zero_le _,rfl,HK.out.1,HK.out.2.1,HK.out.2.2.1,HK.out.2.2.2,HF.out⟩
   case round =>
    clear HK HF ck
    obtain ⟨q,K2,hq,rfl,hK,hKl,hB,hsz,hF⟩:=hrel
    by_cases hql:q < T.length
    ·have qlt:(q:Int) < (T.length:Int):=by omega
     obtain ⟨rb2,ro2,hxa,hrl2,cq⟩:=inrow_at (HROW.out.later hB) (i:=q) (x:=T.getD q 0) (by rw [List.getD_eq_getElem?_getD,List.getElem?_eq_getElem hql];rfl)
     have hxm:=getD_memN hql
     have hdq:=nat_get hql
     obtain ⟨x,hx⟩:∃ x,T.getD q 0=x:=⟨_,rfl⟩
     rw [hx] at cq hxm hdq
     rw [hdq] at hF
     have hxn:=HTX.out x hxm
     have xlt:(x:Int) < (n:Int):=by omega
     have cx:=hK.cell (i:=x) (by rw [hKl];exact hxn)
     have fx:=hK.free x
     obtain ⟨kx,hkx⟩:∃ kx,K2.getD x 0=kx:=⟨_,rfl⟩
     rw [hkx] at cx
     have HN:Hid (KbB (wr.setCell ⟨w.heap.size,x,none⟩ (.int .i64 (i:Int))) w.heap.size (K2.set x i)/\(K2.set x i).length=n/\Below w.heap.size w (wr.setCell ⟨w.heap.size,x,none⟩ (.int .i64 (i:Int)))/\(wr.setCell ⟨w.heap.size,x,none⟩ (.int .i64 (i:Int))).heap.size=w.heap.size+1/\hmC (C.drop (i+1)) (i+1) (hmL i (T.drop (q+1)) (K2.set x i))=H):=by
      refine ⟨hK.set x i,by rw [List.length_set];exact hKl,hB.setCell (p:=⟨w.heap.size,x,none⟩) (Nat.le_refl _) _,by simp [hsz],hF⟩
     subst hxa
     clear hK hKl hB hsz hF hdq hx hxm hkx
     go_wp2
     go_roundw
     case rel=>exact ⟨q+1,_,by omega,by go_num,HN.out.1,HN.out.2.1,HN.out.2.2.1,HN.out.2.2.2.1,HN.out.2.2.2.2⟩
     case measure=>simp [intOf];omega
    ·obtain rfl:q=T.length:=by omega
     have qlt:¬ (T.length:Int) < (T.length:Int):=by omega
     rw [List.drop_length] at hF
     have HN:Hid (KbB wr w.heap.size K2/\K2.length=n/\Below w.heap.size w wr/\wr.heap.size=w.heap.size+1/\hmC (C.drop (i+1)) (i+1) K2=H):=⟨hK,hKl,hB,hsz,hF⟩
     clear hK hKl hB hsz hF
     go_wp2
     go_roundw
     case rel=>exact ⟨i+1,_,by omega,by go_num,HN.out.1,HN.out.2.1,HN.out.2.2.1,HN.out.2.2.2.1,HN.out.2.2.2.2⟩
     case measure=>simp [intOf];omega
  ·obtain rfl:i=C.length:=by omega
   have ilt:¬ (C.length:Int) < (C.length:Int):=by omega
   rw [List.drop_length] at hF
   have hF':K=H:=hF
   subst hF'
   have HK:Hid (KbB wr w.heap.size K/\Below w.heap.size w wr/\wr.heap.size=w.heap.size+1):=⟨hK,hB,hsz⟩
   have HEM:Hid (Calls Tryz.prog 83 #[.int .i64 (C.length:Int),.int .i64 (C.length:Int)] wr fun e w'=>e=.returned (.slice (some ⟨w.heap.size+1,0,none⟩) C.length C.length)/\RwB w' (w.heap.size+1) C.length (ksE (w.heap.size+1) C.length) (List.replicate C.length 0)/\Below wr.heap.size wr w'):=by
    have:=empties_SB C.length C.length hcl hcl wr
    rw [hsz] at this
    rw [hsz]
    exact this
   clear hK hKl hB hsz hF
   go_wp2_with (go_at_call 83;refine HEM.out.mono ?_;rintro e w1 ⟨rfl,s1,b1⟩;have S1:Hid (BtS w C.length K (List.replicate C.length 0) w1):=⟨HK.out.1.later b1,s1,by simp,HK.out.2.1.trans (b1.mono HK.out.2.1.size)⟩;clear s1 b1)
   clear HEM HK
   go_loopw [44] (fun z wr=>∃ (i:Nat) (Ms:List Nat),i<=n/\z=.int .i64 (i:Int)/\BtS w C.length K Ms wr/\∀ a b,a < C.length->b < C.length->((Ms.getD a 0).testBit b=true ↔ a≠b/\∃ x y,x < i/\K.getD x 0=a/\K.getD y 0=b/\EdB Ns n x y)) (fun z _=>n - (intOf z).toNat)
   case atStart=>exact ⟨0,_,Nat.zero_le _,rfl,S1.out,fun a b ha _=>by
    rw [repl_get]
    simp⟩
   case round =>
    clear S1
    obtain ⟨x,Ms,hx,rfl,hU,hbit⟩:=hrel
    by_cases hxl:x < n
    ·have xlt:(x:Int) < (n:Int):=by omega
     obtain ⟨k,hk,hsk⟩:=(HR.out.later hU.bel).at (show x < Ns.length by rw [HNL.out];exact hxl)
     have ck:=(HR.out.later hU.bel).cell hk
     have LI:Hid (Calls Tryz.prog 87 #[.pointer (some ⟨k+1,0,none⟩)] wr fun e w'=>∃ v,e=.returned v/\LBs wr (bitsL (Ns.getD x 0) n) v w'):=list_SB hsk (HT.out.later hU.bel)
     have HU:Hid (BtS w C.length K Ms wr):=hU
     have HBI:Hid (∀ a b,a < C.length->b < C.length->((Ms.getD a 0).testBit b=true ↔ a≠b/\∃ x' y,x' < x/\K.getD x' 0=a/\K.getD y 0=b/\EdB Ns n x' y)):=hbit
     obtain ⟨l,hl⟩:∃ l,bitsU (Ns.getD x 0) n=l:=⟨_,rfl⟩
     have HLM:Hid (∀ y,y∈l ↔ y < n/\(Ns.getD x 0).testBit y=true):=fun y=>by rw [<- hl];exact bitsU_mem
     rw [bitsL_nI,hl] at LI
     have HLL:Hid (l.length<=4096):=by
      show _<=_
      rw [<- hl,bitsU_len]
      exact Nat.le_trans (popB_le _ _) hm
     have HKL:Hid (∀ y,y < C.length->w.heap.size+1+1+2*y+1 < wr.heap.size):=fun y hy=>by
      obtain ⟨k3,hk3,hs3⟩:=hU.rw.at (show y < Ms.length by rw [hU.len];exact hy)
      rw [ksE_get hy] at hk3
      have:=Option.some.inj hk3
      have:=hs3.size
      omega
     clear hU hbit hsk hk hl
     obtain ⟨wz,rfl⟩:∃ wz:World,wz=wr:=⟨_,rfl⟩
     go_wp2_with (go_at_call 87;refine LI.out.mono ?_;rintro e w2 ⟨v,rfl,l2⟩;obtain ⟨la,lc,rfl⟩:=il_lenB l2.il;have L2:Hid (BtS w C.length K Ms w2/\IL w2 (.slice la l.length lc) (nI l)/\∀ j,(Value.slice la l.length lc).ownBlock=some j->wz.heap.size<=j):=⟨HU.out.any (l2.bel),l2.il,l2.own⟩;clear l2 ck)
     clear LI
     have hLL:=HLL.out
     go_loopw [52] (fun z wr=>∃ (q:Nat) (Ms:List Nat),q<=l.length/\z=.int .i64 (q:Int)/\BtS w C.length K Ms wr/\IL wr (.slice la l.length lc) (nI l)/\∀ a b,a < C.length->b < C.length->((Ms.getD a 0).testBit b=true ↔ a≠b/\∃ x' y,(x' < x∨x'=x/\y∈l.take q)/\K.getD x' 0=a/\K.getD y 0=b/\EdB Ns n x' y)) (fun z _=>l.length - (intOf z).toNat)
     case atStart=>exact ⟨0,Ms,Nat.zero_le _,rfl,L2.out.1,L2.out.2.1,fun a b ha hb=>by rw [HBI.out a b ha hb];simp⟩
     case round =>
      have HOW:Hid (∀ j,(Value.slice la l.length lc).ownBlock=some j->wz.heap.size<=j):=L2.out.2.2
      clear L2 HBI HU
      obtain ⟨q,Ms2,hq,rfl,hU2,hil,hbit⟩:=hrel
      by_cases hql:q < l.length
      ·have qlt:(q:Int) < (l.length:Int):=by omega
       obtain ⟨lb,lc',he,cl⟩:=IL.atB hil hql
       simp only [Value.slice.injEq,true_and] at he
       obtain ⟨rfl,rfl⟩:=he
       obtain ⟨y,hy⟩:∃ y,l.getD q 0=y:=⟨_,rfl⟩
       rw [hy] at cl
       have hym:y∈l:=by rw [<- hy];exact getD_memN hql
       obtain ⟨hyn,hyb⟩:=(HLM.out y).1 hym
       have ylt:(y:Int) < (n:Int):=by omega
       have hax:=HHB.out x hxl
       have hay:=HHB.out y hyn
       have cx:=hU2.kb.cell (i:=x) (by rw [HHL.out];exact hxl)
       have cy:=hU2.kb.cell (i:=y) (by rw [HHL.out];exact hyn)
       have HXK:Hid (∃ a,K.getD x 0=a):=⟨_,rfl⟩
       obtain ⟨a,hae⟩:=HXK.out
       obtain ⟨b2,hbe⟩:∃ b2,K.getD y 0=b2:=⟨_,rfl⟩
       rw [hae] at cx hax
       rw [hbe] at cy hay
       have htm:∀ z,z∈l.take (q+1) ↔ z∈l.take q∨z=y:=fun z=>by rw [take_memB hql,hy]
       have ee:EdB Ns n x y:=⟨hxl,hyn,hyb⟩
       by_cases hab:a=b2
       ·have HB2:Hid (BtS w C.length K Ms2 wr/\IL wr (.slice (some ⟨lb,0,none⟩) l.length lc) (nI l)/\∀ a b,a < C.length->b < C.length->((Ms2.getD a 0).testBit b=true ↔ a≠b/\∃ x' y,(x' < x∨x'=x/\y∈l.take (q+1))/\K.getD x' 0=a/\K.getD y 0=b/\EdB Ns n x' y)):=⟨hU2,hil,fun a' b' ha' hb'=>by
         rw [hbit a' b' ha' hb']
         constructor
         ·rintro ⟨h1,x',y',h2,h3⟩
          exact ⟨h1,x',y',h2.imp id (fun z=>⟨z.1,(htm y').2 (.inl z.2)⟩),h3⟩
         ·rintro ⟨h1,x',y',h2,h3,h4,h5⟩
          rcases h2 with h2 | ⟨rfl,h2⟩
          ·exact ⟨h1,x',y',.inl h2,h3,h4,h5⟩
          ·rcases (htm y').1 h2 with h2 | rfl
           ·exact ⟨h1,x',y',.inr ⟨rfl,h2⟩,h3,h4,h5⟩
           ·exfalso
            apply h1
            rw [<- h3,<- h4,hae,hbe,hab]⟩
        subst hab
        clear hU2 hil hbit hym hyb hy hae hbe htm ee
        go_wp2
        go_quiet (fail)
        go_wp2
        go_roundw
        case rel=>exact ⟨q+1,Ms2,by omega,by go_num,HB2.out.1.any (belN _ _),HB2.out.2.1.later (belN _ _),HB2.out.2.2⟩
        case measure=>simp [intOf];omega
       ·have abn:((a:Int) == (b2:Int))=false:=by
         rw [beq_eq_false_iff_ne]
         omega
        have hAB:a≠b2:=hab
        have HB2:Hid (∀ a' b',a' < C.length->b' < C.length->(((Ms2.set a (addN (Ms2.getD a 0) b2)).getD a' 0).testBit b'=true ↔ a'≠b'/\∃ x' y,(x' < x∨x'=x/\y∈l.take (q+1))/\K.getD x' 0=a'/\K.getD y 0=b'/\EdB Ns n x' y)):=fun a' b' ha' hb'=>by
         have hs:((Ms2.set a (addN (Ms2.getD a 0) b2)).getD a' 0).testBit b'=true ↔ (Ms2.getD a' 0).testBit b'=true∨a=a'/\b2=b':=by
          rw [getD_setV]
          by_cases e:a=a'
          ·subst e
           rw [if_pos ⟨rfl,by rw [hU2.len];exact ha'⟩,addN_bit,Bool.or_eq_true,decide_eq_true_iff]
           simp
          ·rw [if_neg (fun z=>e z.1)]
           simp [e]
         rw [hs,hbit a' b' ha' hb']
         constructor
         ·rintro (⟨h1,x',y',h2,h3⟩ | ⟨rfl,rfl⟩)
          ·exact ⟨h1,x',y',h2.imp id (fun z=>⟨z.1,(htm y').2 (.inl z.2)⟩),h3⟩
          ·exact ⟨hAB,x,y,.inr ⟨rfl,(htm y).2 (.inr rfl)⟩,hae,hbe,ee⟩
         ·rintro ⟨h1,x',y',h2,h3,h4,h5⟩
          rcases h2 with h2 | ⟨rfl,h2⟩
          ·exact .inl ⟨h1,x',y',.inl h2,h3,h4,h5⟩
          ·rcases (htm y').1 h2 with h2 | rfl
           ·exact .inl ⟨h1,x',y',.inr ⟨rfl,h2⟩,h3,h4,h5⟩
           ·exact .inr ⟨hae.symm.trans h3,hbe.symm.trans h4⟩
        have HU3:Hid (BtS w C.length K Ms2 wr/\IL wr (.slice (some ⟨lb,0,none⟩) l.length lc) (nI l)):=⟨hU2,hil⟩
        have HCX:Hid (∀ w',Below wr.heap.size wr w'->w'.cell? ⟨w.heap.size,x,none⟩=some (.int .i64 (a:Int))/\w'.cell? ⟨w.heap.size,y,none⟩=some (.int .i64 (b2:Int))):=fun w' b'=>⟨cellL cx b',cellL cy b'⟩
        have AD:Hid (∀ wd,Below wr.heap.size wr wd->∃ k2,wd.cell? ⟨w.heap.size+1,a,none⟩=some (.pointer (some ⟨k2+1,0,none⟩))/\Calls Tryz.prog 85 #[.pointer (some ⟨k2+1,0,none⟩),.int .i64 (b2:Int)] wd fun e w''=>∃ bv,e=.returned (.bool bv)/\BtS w C.length K (Ms2.set a (addN (Ms2.getD a 0) b2)) w''/\IL w'' (.slice (some ⟨lb,0,none⟩) l.length lc) (nI l)):=fun wd bd=>by
         have U3:=HU3.out.1.any bd
         have I3:=HU3.out.2.later bd
         obtain ⟨k2,hk2,hs2⟩:=U3.rw.at (show a < Ms2.length by rw [U3.len];exact hax)
         refine ⟨k2,U3.rw.cell hk2,(add_SB hs2 (b2:Int)).mono fun e w'' ⟨q1,q2,q3⟩=>?_⟩
         have e2:addX (Ms2.getD a 0) C.length (b2:Int)=addN (Ms2.getD a 0) b2:=by unfold addX;rw [if_pos ⟨by omega,by omega⟩];rfl
         rw [e2] at q2
         refine ⟨_,q1,U3.turn hk2 q2 q3,I3.kept (fun j hj=>q3.block j (World.ownsRow.lt I3 j hj).2 (fun z=>?_))⟩
         have z2:j=k2:=z
         have h1:=HOW.out j hj
         rw [ksE_get hax] at hk2
         have h2:=Option.some.inj hk2
         have h3:=HKL.out a hax
         omega
        have alt:(a:Int) < (C.length:Int):=by omega
        clear hU2 hil hbit hym hyb hy hae hbe htm ee hab
        go_wp2
        go_quiet (fail)
        have BQ:Hid (Below wr.heap.size wr (wr.drewN nq)):=belN wr nq
        generalize wr.drewN nq=wq at *
        go_wp2
        obtain ⟨wd,hwd⟩:∃ wd:World,wd=wq.drew:=⟨_,rfl⟩
        have BD:Hid (Below wr.heap.size wr wd):=by
         rw [hwd]
         exact BQ.out.trans ((Below.refl _ _).drew)
        obtain ⟨dx,dy⟩:=HCX.out wd BD.out
        obtain ⟨k2,ck2,AD2⟩:=AD.out wd BD.out
        have AD3:Hid (Calls Tryz.prog 85 #[.pointer (some ⟨k2+1,0,none⟩),.int .i64 (b2:Int)] wd fun e w''=>∃ bv,e=.returned (.bool bv)/\BtS w C.length K (Ms2.set a (addN (Ms2.getD a 0) b2)) w''/\IL w'' (.slice (some ⟨lb,0,none⟩) l.length lc) (nI l)):=AD2
        refine wp_region_tail_s 11 (by kernel_rfl) (by kernel_rfl) wd hwd ?_
        clear hwd cx cy BQ AD AD2 HCX
        simp only [List.take_succ_cons,List.take_zero,List.drop_succ_cons,List.drop_zero]
        iterate 11 (refine st_yes (v:=?_) (by rfl) ?_ ?_;rotate_left;(· (go_simp;with_reducible rfl));(try simp only [Act.put,List.setIfInBounds_toArray,List.set_cons_zero,List.set_cons_succ]))
        refine st_nil ?_
        go_wp2_with (go_at_call 85;refine AD3.out.mono ?_;rintro e w4 ⟨bv,rfl,t4,i4⟩;have T4:Hid (BtS w C.length K (Ms2.set a (addN (Ms2.getD a 0) b2)) w4/\IL w4 (.slice (some ⟨lb,0,none⟩) l.length lc) (nI l)):=⟨t4,i4⟩;clear t4 i4 ck2 dx dy)
        go_roundw
        case rel=>exact ⟨q+1,_,by omega,by go_num,T4.out.1,T4.out.2,HB2.out⟩
        case measure=>simp [intOf];omega
      ·obtain rfl:q=l.length:=by omega
       have qlt:¬ (l.length:Int) < (l.length:Int):=by omega
       have HB3:Hid (BtS w C.length K Ms2 wr/\∀ a b,a < C.length->b < C.length->((Ms2.getD a 0).testBit b=true ↔ a≠b/\∃ x' y,x' < x+1/\K.getD x' 0=a/\K.getD y 0=b/\EdB Ns n x' y)):=⟨hU2,fun a b ha hb=>by
        rw [hbit a b ha hb,List.take_length]
        constructor
        ·rintro ⟨h1,x',y',h2,h3⟩
         exact ⟨h1,x',y',by rcases h2 with h2 | h2<;>omega,h3⟩
        ·rintro ⟨h1,x',y',h2,h3,h4,h5⟩
         refine ⟨h1,x',y',?_,h3,h4,h5⟩
         by_cases e:x'=x
         ·subst e
          exact .inr ⟨rfl,(HLM.out y').2 h5.2⟩
         ·exact .inl (by omega)⟩
       clear hU2 hbit hil
       go_wp2
       go_roundw
       case rel=>exact ⟨x+1,Ms2,by omega,by go_num,HB3.out.1,HB3.out.2⟩
       case measure=>simp [intOf];omega
    ·obtain rfl:x=n:=by omega
     have ilt:¬ (x:Int) < (x:Int):=by omega
     have HU:Hid (RwB wr (w.heap.size+1) C.length (ksE (w.heap.size+1) C.length) (btU C Ns x)/\Below w.heap.size w wr):=by
      refine ⟨?_,hU.bel⟩
      have e:Ms=btU C Ns x:=by
       rw [HBU.out]
       refine rowN_ext hU.len (fun y hy=>?_) (fun a b ha hb=>?_)
       ·obtain ⟨k3,hk3,hs3⟩:=hU.rw.at (show y < Ms.length by rw [hU.len];exact hy)
        exact hs3.lt
       ·rw [Bool.eq_iff_iff,hbit a b ha hb,btF_iff]
        constructor
        ·rintro ⟨h1,x',y',h2,h3⟩
         exact ⟨h1,x',y',h3⟩
        ·rintro ⟨h1,x',y',h3,h4,h5⟩
         exact ⟨h1,x',y',h5.1,h3,h4,h5⟩
      rw [<- e]
      exact hU.rw
     clear hU hbit
     go_wp2
     go_ret
     exact ⟨_,rfl,⟨_,HU.out.1⟩,HU.out.2⟩
open Go.RowKit Go.Shelf Go.Sort Go.Lib
def sortRenB:Ren:=⟨fun | 5=>116 | 7=>125 | 8=>126 | 10=>131 | 11=>132 | 12=>133 | 13=>134 | 14=>135 | 15=>136 | 16=>137 | 17=>138 | 18=>139 | 19=>140 | 20=>141 | 30=>150 | 31=>151 | 32=>152 | 33=>153 | 34=>154 | 35=>128 | 40=>158 | n=>n,fun | 22=>36 | 23=>36 | 25=>3 | 32=>147 | 35=>167 | 36=>168 | 41=>172 | 44=>175 | 46=>135 | 53=>181 | 57=>185 | 63=>189 | 64=>33 | n=>n,fun n=>n⟩
theorem sort_laysB:SlLaysM.n5 Tryz.prog sortRenB:={
 mixed:=by kernel_rfl
 f5:=⟨Tryz.f116.name,by decide,by kernel_rfl⟩
 f7:=⟨Tryz.f125.name,by decide,by kernel_rfl⟩
 f8:=by kernel_rfl
 f10:=⟨Tryz.f131.name,by decide,by kernel_rfl⟩
 f11:=⟨Tryz.f132.name,by decide,by kernel_rfl⟩
 f12:=⟨Tryz.f133.name,by decide,by kernel_rfl⟩
 f13:=⟨Tryz.f134.name,by decide,by kernel_rfl⟩
 f14:=⟨Tryz.f135.name,by decide,by kernel_rfl⟩
 f15:=⟨Tryz.f136.name,by decide,by kernel_rfl⟩
 f16:=⟨Tryz.f137.name,by decide,by kernel_rfl⟩
 f17:=⟨Tryz.f138.name,by decide,by kernel_rfl⟩
 f18:=⟨Tryz.f139.name,by decide,by kernel_rfl⟩
 f19:=by kernel_rfl
 f20:=by kernel_rfl
 f30:=⟨Tryz.f150.name,by decide,by kernel_rfl⟩
 f31:=by kernel_rfl
 f32:=by kernel_rfl
 f33:=⟨Tryz.f153.name,by decide,by kernel_rfl⟩
 f34:=⟨Tryz.f154.name,by decide,by kernel_rfl⟩
 f35:=⟨Tryz.f128.name,by decide,by kernel_rfl⟩
 f40:=⟨Tryz.f158.name,by decide,by kernel_rfl⟩
 t0:=by kernel_rfl
 a0:=fun _=>by kernel_rfl
 z0:=fun _=>by kernel_rfl
 v0:=fun _=>by kernel_rfl
 t3:=by kernel_rfl
 a3:=fun _=>by kernel_rfl
 z3:=fun _=>by kernel_rfl
 v3:=fun _=>by kernel_rfl
 t4:=by kernel_rfl
 a4:=fun _=>by kernel_rfl
 z4:=fun _=>by kernel_rfl
 v4:=fun _=>by kernel_rfl
 t5:=by kernel_rfl
 a5:=fun _=>by kernel_rfl
 z5:=fun _=>by kernel_rfl
 v5:=fun _=>by kernel_rfl
 t9:=by kernel_rfl
 a9:=fun _=>by kernel_rfl
 z9:=fun _=>by kernel_rfl
 v9:=fun _=>by kernel_rfl
 t22:=by kernel_rfl
 a22:=fun _=>by kernel_rfl
 z22:=fun _=>by kernel_rfl
 v22:=fun _=>by kernel_rfl
 t23:=by kernel_rfl
 a23:=fun _=>by kernel_rfl
 z23:=fun _=>by kernel_rfl
 v23:=fun _=>by kernel_rfl
 t25:=by kernel_rfl
 a25:=fun _=>by kernel_rfl
 z25:=fun _=>by kernel_rfl
 v25:=fun _=>by kernel_rfl
 t32:=by kernel_rfl
 a32:=fun _=>by kernel_rfl
 z32:=fun _=>by kernel_rfl
 v32:=fun _=>by kernel_rfl
 t35:=by kernel_rfl
 a35:=fun _=>by kernel_rfl
 z35:=fun _=>by kernel_rfl
 v35:=fun _=>by kernel_rfl
 t36:=by kernel_rfl
 a36:=fun _=>by kernel_rfl
 z36:=fun _=>by kernel_rfl
 v36:=fun _=>by kernel_rfl
 t41:=by kernel_rfl
 a41:=fun _=>by kernel_rfl
 z41:=fun _=>by kernel_rfl
 v41:=fun _=>by kernel_rfl
 t44:=by kernel_rfl
 a44:=fun _=>by kernel_rfl
 z44:=fun _=>by kernel_rfl
 v44:=fun _=>by kernel_rfl
 t46:=by kernel_rfl
 a46:=fun _=>by kernel_rfl
 z46:=fun _=>by kernel_rfl
 v46:=fun _=>by kernel_rfl
 t53:=by kernel_rfl
 a53:=fun _=>by kernel_rfl
 z53:=fun _=>by kernel_rfl
 v53:=fun _=>by kernel_rfl
 t57:=by kernel_rfl
 a57:=fun _=>by kernel_rfl
 z57:=fun _=>by kernel_rfl
 v57:=fun _=>by kernel_rfl
 t63:=by kernel_rfl
 a63:=fun _=>by kernel_rfl
 z63:=fun _=>by kernel_rfl
 v63:=fun _=>by kernel_rfl
 t64:=by kernel_rfl
 a64:=fun _=>by kernel_rfl
 z64:=fun _=>by kernel_rfl
 v64:=fun _=>by kernel_rfl }
def revRenB:Ren:=⟨fun _=>114,fun x=>if x=22 then 36 else if x=23 then 3 else x,fun x=>x⟩
theorem rev_laysB:SlLaysN.n35 Tryz.prog revRenB:={
 mixed:=by kernel_rfl
 f35:=⟨Tryz.f114.name,by decide,by kernel_rfl⟩
 t0:=by kernel_rfl
 a0:=fun _=>by kernel_rfl
 z0:=fun _=>by kernel_rfl
 v0:=fun _=>by kernel_rfl
 t3:=by kernel_rfl
 a3:=fun _=>by kernel_rfl
 z3:=fun _=>by kernel_rfl
 v3:=fun _=>by kernel_rfl
 t4:=by kernel_rfl
 a4:=fun _=>by kernel_rfl
 z4:=fun _=>by kernel_rfl
 v4:=fun _=>by kernel_rfl
 t22:=by kernel_rfl
 a22:=fun _=>by kernel_rfl
 z22:=fun _=>by kernel_rfl
 v22:=fun _=>by kernel_rfl
 t23:=by kernel_rfl
 a23:=fun _=>by kernel_rfl
 z23:=fun _=>by kernel_rfl
 v23:=fun _=>by kernel_rfl }
theorem put_take {α:Type}[Inhabited α](enc:α->Value)(d:Array α)(cur:Array Value)(h:d.size<=cur.size):(putCells enc 0 d cur).toList.take d.size=d.toList.map enc:=by
 apply List.ext_getElem?
 intro j
 by_cases hj:j < d.size
 ·rw [List.getElem?_take_of_lt hj,Array.getElem?_toList]
  simp [putCells,hj,show j < cur.size by omega]
 ·rw [List.getElem?_take_eq_none (by omega),List.getElem?_eq_none (by simp;omega)]
theorem put_fr {α:Type}[Inhabited α](enc:α->Value)(d:Array α)(w:World)(b n:Nat)(os:Array Obj):FrB (·=b) w (grow (putRow enc (Sort.ahead w n) b 0 d) os):=by
 refine ⟨rfl,rfl,rfl,by simp [grow,putRow,mapBlock,Sort.ahead],fun j hj hb=>?_⟩
 have hb':¬ j=b:=hb
 have hs:j < (putRow enc (Sort.ahead w n) b 0 d).heap.size:=by simpa [putRow,mapBlock,Sort.ahead] using hj
 show ((putRow enc (Sort.ahead w n) b 0 d).heap++os)[j]?=_
 rw [Array.getElem?_append_left hs]
 simp [putRow,mapBlock,Sort.ahead,Array.getElem?_modify,Ne.symm hb']
theorem put_blk {α:Type}[Inhabited α](enc:α->Value)(d:Array α){w:World}{b:Nat}(n:Nat)(os:Array Obj){cur:Array Value}{t:TypeId}(h:w.heap[b]?=some (.cells cur t (0,0))):(grow (putRow enc (Sort.ahead w n) b 0 d) os).heap[b]?=some (.cells (putCells enc 0 d cur) t (0,0)):=by
 have hl:=lt_of_block h
 have hs:b < (putRow enc (Sort.ahead w n) b 0 d).heap.size:=by simpa [putRow,mapBlock,Sort.ahead] using hl
 show ((putRow enc (Sort.ahead w n) b 0 d).heap++os)[b]?=_
 rw [Array.getElem?_append_left hs]
 simp [putRow,mapBlock,Sort.ahead,Array.getElem?_modify,h,onCells]
theorem own_put {α:Type}[Inhabited α](enc:α->Value)(d:Array α){w:World}{t:TypeId}{b c:Nat}{xs:List Value}(h:w.ownsRow 0 t 1 (.slice (some ⟨b,0,none⟩) xs.length c) xs.length xs)(hd:d.size=xs.length)(n:Nat)(os:Array Obj):(grow (putRow enc (Sort.ahead w n) b 0 d) os).ownsRow 0 t 1 (.slice (some ⟨b,0,none⟩) xs.length c) xs.length (d.toList.map enc):=by
 refine ⟨by simp [hd],?_⟩
 rcases h.2 with ⟨e,_⟩ | ⟨g,cap,cur,e,h1,h2,h3,h4,h5,h6⟩
 ·cases e
 ·simp only [Value.slice.injEq,Option.some.injEq,Addr.mk.injEq,and_true,true_and] at e
  obtain ⟨rfl,rfl⟩:=e
  refine .inr ⟨b,c,_,rfl,h1,put_blk enc d n os h2,h3,h4,by simpa [putCells] using h5,?_⟩
  rw [Nat.mul_one] at h5 ⊢
  rw [<- hd]
  exact put_take enc d cur (by omega)
theorem own_holds {w:World}{t:TypeId}{b c:Nat}{xs:List Value}(h:w.ownsRow 0 t 1 (.slice (some ⟨b,0,none⟩) xs.length c) xs.length xs):b < w.heap.size/\∀ j u,xs[j]?=some u->w.cell? ⟨b,j,none⟩=some u/\w.frozen? ⟨b,j,none⟩=false:=by
 refine ⟨(World.ownsRow.lt h b rfl).2,fun j u hu=>?_⟩
 obtain ⟨hj,hv⟩:=List.getElem?_eq_some_iff.1 hu
 refine ⟨?_,?_⟩
 ·rw [World.ownsRow.cellAt h j (by omega)]
  exact hu
 ·rcases h.2 with ⟨e,_⟩ | ⟨g,cap,cur,e,h1,h2,h3,h4,h5,h6⟩
  ·cases e
  ·simp only [Value.slice.injEq,Option.some.injEq,Addr.mk.injEq,and_true,true_and] at e
   obtain ⟨rfl,rfl⟩:=e
   simp [World.frozen?,h2]
theorem nI_back {zs:List Int}(h:∀ z∈zs,0<=z):nI (zs.map Int.toNat)=zs:=by
 induction zs with
 | nil=>rfl
 | cons z zs ih =>
  have hz:=h z List.mem_cons_self
  simp only [nI,List.map_cons] at ih ⊢
  rw [ih (fun y hy=>h y (List.mem_cons_of_mem _ hy)),Int.toNat_of_nonneg hz]
theorem nI_toNat (l:List Nat):(nI l).map Int.toNat=l:=by
 simp [nI,List.map_map,Function.comp_def]
theorem sort_IL {w:World}{b c:Nat}{l:List Nat}(h:IL w (.slice (some ⟨b,0,none⟩) l.length c) (nI l))(hl:l.length<=1048576) :
  Calls Tryz.prog 116 #[.slice (some ⟨b,0,none⟩) l.length c] w fun e w'=>e=.returned (.tuple #[])/\(∃ l',l'.Perm l/\l'.Pairwise (·<=·)/\IL w' (.slice (some ⟨b,0,none⟩) l.length c) (nI l'))/\FrB (·=b) w w':=by
 have hn:=nI_len l
 have h':w.ownsRow 0 3 1 (.slice (some ⟨b,0,none⟩) ((nI l).map (Value.int .i64 ·)).length c) ((nI l).map (Value.int .i64 ·)).length ((nI l).map (Value.int .i64 ·)):=by
  have q:=h
  unfold IL at q
  rw [List.length_map]
  rw [hn] at q ⊢
  exact q
 obtain ⟨hb,hc⟩:=own_holds h'
 have hH:Holds (Value.int .i64) w b 0 (nI l).toArray:=fun j hj=>by
  have hj':j < (nI l).length:=by simpa using hj
  have:=hc j (.int .i64 (nI l)[j]) (by simp [hj'])
  rw [Nat.zero_add]
  refine ⟨?_,this.2⟩
  rw [this.1]
  simp [hj']
 have hcall:=AnyM.slices_Sort_int sort_laysB b 0 c (nI l) w hH hb (by omega)
 change Calls Tryz.prog 116 _ _ _ at hcall
 rw [hn] at hcall
 refine hcall.mono ?_
 rintro e w' ⟨rfl,n,os,rfl⟩
 obtain ⟨zs,hzs⟩:∃ zs,(nI l).mergeSort (fun x y=>decide (x<=y))=zs:=⟨_,rfl⟩
 have hp:zs.Perm (nI l):=by rw [<- hzs];exact List.mergeSort_perm _ _
 have hs:zs.Pairwise (·<=·):=by
  have:=List.pairwise_mergeSort (le:=fun (x y:Int)=>decide (x<=y)) (fun a b c h1 h2=>by simp at h1 h2 ⊢;omega) (fun a b=>by simp;omega) (nI l)
  rw [hzs] at this
  exact this.imp (fun q=>by simpa using q)
 have hpos:∀ z∈zs,0<=z:=fun z hz=>by
  have:=hp.mem_iff.1 hz
  simp only [nI,List.mem_map] at this
  obtain ⟨k,_,rfl⟩:=this
  omega
 rw [hzs]
 refine ⟨rfl,⟨zs.map Int.toNat,?_,?_,?_⟩,put_fr _ _ _ _ _ _⟩
 ·have:=hp.map Int.toNat
  rwa [nI_toNat] at this
 ·rw [List.pairwise_map]
  exact hs.imp_of_mem (fun {a b} ha hb hab=>by have:=hpos a ha;have:=hpos b hb;omega)
 ·have q:=own_put (Value.int .i64) zs.toArray h' (by simp [hp.length_eq]) n os
  unfold IL
  rw [nI_back hpos,hp.length_eq,hn]
  rw [List.length_map,hn] at q
  simpa using q
theorem rev_IL {w:World}{b c:Nat}{l:List Nat}(h:IL w (.slice (some ⟨b,0,none⟩) l.length c) (nI l))(hl:l.length<=1048576) :
  Calls Tryz.prog 114 #[.slice (some ⟨b,0,none⟩) l.length c] w fun e w'=>e=.returned (.tuple #[])/\IL w' (.slice (some ⟨b,0,none⟩) l.length c) (nI l.reverse)/\FrB (·=b) w w':=by
 have hn:=nI_len l
 have h':w.ownsRow 0 3 1 (.slice (some ⟨b,0,none⟩) ((nI l).map (Value.int .i64 ·)).length c) ((nI l).map (Value.int .i64 ·)).length ((nI l).map (Value.int .i64 ·)):=by
  have q:=h
  unfold IL at q
  rw [List.length_map]
  rw [hn] at q ⊢
  exact q
 obtain ⟨hb,hc⟩:=own_holds h'
 have hH:Holds (Value.int .i64) w b 0 (nI l).toArray:=fun j hj=>by
  have hj':j < (nI l).length:=by simpa using hj
  have:=hc j (.int .i64 (nI l)[j]) (by simp [hj'])
  rw [Nat.zero_add]
  refine ⟨?_,this.2⟩
  rw [this.1]
  simp [hj']
 have hcall:=AnyG.slices_Reverse_int rev_laysB b 0 c (nI l) w hH (by omega)
 change Calls Tryz.prog 114 _ _ _ at hcall
 rw [hn] at hcall
 refine hcall.mono ?_
 rintro e w' ⟨rfl,n,rfl⟩
 have q:=own_put (Value.int .i64) (nI l).reverse.toArray h' (by simp) n #[]
 have f:=put_fr (Value.int .i64) (nI l).reverse.toArray w b n #[]
 rw [grow_empty] at q f
 refine ⟨rfl,?_,f⟩
 have e:nI l.reverse=(nI l).reverse:=by simp [nI]
 unfold IL
 rw [e,List.length_reverse,hn]
 rw [List.length_map,hn] at q
 simpa using q
theorem rev_ILn (ao:Option Addr)(c:Nat)(w:World):Calls Tryz.prog 114 #[.slice ao 0 c] w fun e w'=>e=.returned (.tuple #[])/\w'=w:=by
 go_enter Tryz.func114,Tryz.ntmps114
 go_wp2
 go_loopw [2,3] (fun i j wr=>i=.int .i64 0/\j=.int .i64 (-1)/\wr=w) (fun _ _ _=>0)
 case atStart=>exact ⟨rfl,rfl,rfl⟩
 case round =>
  obtain ⟨rfl,rfl,rfl⟩:=hrel
  go_wp2
  go_end0
  exact ⟨rfl,rfl⟩
def ShpB (ya:Option Addr)(c:Nat):Prop:=ya=none/\c=0∨∃ b off,ya=some ⟨b,off,none⟩
theorem wpList_cat {ops:Array Oper}{rest:List Oper}{o:Oper}{a:Act}{Q:Exit->Act->World->Prop}{w:World}(hgd:o.guard=none)(s x:Operand)
  (ho:o.op=.call { callee:=.builtin .append,args:=#[s,x],argTypes:=#[36,36] })
  (v:Value) (l:List Int) (hs:a.eval s=v) (h:IL w v l) (ya:Option Addr) (c:Nat) (n:Nat) (zs:List Int) (hx:a.eval x=.slice ya n c) (hn:zs.length=n) (hya:ShpB ya c) (hr:InRow w ya zs) (hlen:l.length+zs.length<=100000000)
  (hK:∀ a' n' c' w',IL w' (.slice a' n' c') (l++zs)->Grew w w' v (.slice a' n' c')->wpList Tryz.prog ops Q rest (a.put o.dst (.slice a' n' c')) w'):wpList Tryz.prog ops Q (o :: rest) a w:=by
 obtain ⟨i0,hi,hz0,hz1,hz2⟩:=infoInt_parts
 subst hn
 rcases hya with ⟨rfl,rfl⟩ | ⟨b,off,rfl⟩
 ·have hz:zs=[]:=by
   by_cases q:zs=[]
   ·exact q
   ·obtain ⟨_,_,e,_⟩:=hr q;cases e
  subst hz
  refine wpList_append_own_none hgd s x 36 ho 0 3 i0 1 Tryz.underlying36 hi v l.length (l.map (.int .i64 ·)) hs h hx ?_
  obtain ⟨a',c',rfl⟩:=il_len h
  exact hK _ _ _ w (by simpa using h) ⟨⟨rfl,rfl,rfl,Nat.le_refl _,fun _ _ _=>rfl⟩,.inl rfl⟩
 ·refine wpList_append_own_at w hgd s x 36 ho 0 3 i0 (.int .i64 0) 1 8 Tryz.underlying36 hi hz0 hz1 hz2 rfl (by decide) v l.length (l.map (.int .i64 ·)) hs h ⟨b,off,none⟩ zs.length c (zs.map (.int .i64 ·)) hx (by simp) ?_ ?_ (by unfold maxLen;omega) (by omega) (Nat.zero_le _) ?_
  ·intro j u hu
   have hj:j < zs.length:=by have:=(List.getElem?_eq_some_iff.1 hu).1;simpa using this
   obtain ⟨b',off',e,_,hc⟩:=hr (by intro h;subst h;simp at hj)
   simp at e
   obtain ⟨rfl,rfl⟩:=e
   rw [aNn,hc j hj,<- hu]
   simp [List.getD,hj]
  ·intro u hu;simp at hu;obtain ⟨y,_,rfl⟩:=hu;rfl
  ·intro v' w' h2 h3 _ h5
   have h6:IL w' v' (l++zs):=by unfold IL;simpa using h2
   obtain ⟨a',c',rfl⟩:=il_len h6
   exact hK _ _ _ w' h6 ⟨h3,h5.imp id fun e=>⟨_,e,Nat.le_refl _⟩⟩
theorem il_shpB {w:World}{v:Value}{l:List Nat}(h:IL w v (nI l)):∃ a c,v=.slice a l.length c/\ShpB a c/\InRow w a (nI l):=by
 obtain ⟨a,c,rfl,hr⟩:=h.rowB
 refine ⟨a,c,rfl,?_,hr⟩
 rcases h.2 with ⟨e,_⟩ | ⟨g,cap,cur,e,_⟩
 ·simp only [Value.slice.injEq] at e
  exact .inl ⟨e.1,e.2.2⟩
 ·simp only [Value.slice.injEq] at e
  exact .inr ⟨g,0,e.1⟩
def grRenB:Ren:=⟨fun _=>123,fun | 0=>0 | 3=>3 | 4=>4 | 9=>9 | 20=>20 | 22=>36 | 25=>3 | n=>n,fun n=>n⟩
theorem gr_laysB:Lays8.n4 Tryz.prog grRenB:={
 mixed:=by kernel_rfl
 f4:=⟨Tryz.f123.name,by decide,by kernel_rfl⟩
 t0:=by kernel_rfl
 a0:=fun _=>by kernel_rfl
 z0:=fun _=>by kernel_rfl
 v0:=fun _=>by kernel_rfl
 t3:=by kernel_rfl
 a3:=fun _=>by kernel_rfl
 z3:=fun _=>by kernel_rfl
 v3:=fun _=>by kernel_rfl
 t4:=by kernel_rfl
 a4:=fun _=>by kernel_rfl
 z4:=fun _=>by kernel_rfl
 v4:=fun _=>by kernel_rfl
 t9:=by kernel_rfl
 a9:=fun _=>by kernel_rfl
 z9:=fun _=>by kernel_rfl
 v9:=fun _=>by kernel_rfl
 t20:=by kernel_rfl
 a20:=fun _=>by kernel_rfl
 z20:=fun _=>by kernel_rfl
 v20:=fun _=>by kernel_rfl
 t22:=by kernel_rfl
 a22:=fun _=>by kernel_rfl
 z22:=fun _=>by kernel_rfl
 v22:=fun _=>by kernel_rfl }
theorem grow_B (n:Nat)(hn:n<=1048576)(w:World):Calls Tryz.prog 123 #[.slice none 0 0,.int .i64 (n:Int)] w fun e w'=>∃ v,e=.returned v/\IL w' v []/\(∀ j,v.ownBlock=some j->w.heap.size<=j)/\Below w.heap.size w w':=by
 obtain ⟨i0,hi,hz0,hz1,hz2⟩:=infoInt_parts
 by_cases h0:n=0
 ·subst h0
  have hc:=Any8.slices_Grow_room gr_laysB none 0 0 0 w (Nat.le_refl _) (by omega) (by omega) (by omega)
  change Calls Tryz.prog 123 _ _ _ at hc
  refine hc.mono ?_
  rintro e w' ⟨rfl,rfl⟩
  exact ⟨_,rfl,IL.nil w',fun j hj=>by simp [Value.ownBlock] at hj,Below.refl _ _⟩
 ·have hc:=Any8.slices_Grow_grow gr_laysB i0 (.int .i64 0) hi hz0 (by rw [hz1];decide) none 0 0 n [] w (Nat.le_refl _) (by omega) (by rw [hz2];omega) (by omega) (by simp) (fun _=>rfl) (fun a ha=>by cases ha)
  change Calls Tryz.prog 123 _ _ _ at hc
  refine hc.mono ?_
  rintro e w' ⟨rfl,rfl⟩
  have hge:=grownCap_ge w (0+n) 0 3
  have hcm:grownCap w (0+n) 0 3<=maxLen:=grownCap_le_maxLen w (0+n) 0 3 (by unfold maxLen;omega)
  refine ⟨_,rfl,⟨by simp,.inr ⟨w.heap.size,_,_,rfl,Nat.zero_le _,heap_alloc_new w.drew _,Nat.zero_le _,hcm,?_,by simp⟩⟩,fun j hj=>?_,((Below.refl _ _).drew).trans ((bAl w.drew _).mono (Nat.le_refl _))⟩
  ·simp only [Array.size_append,size_zeroCells,Value.cells]
   simp
   rw [Nat.zero_add] at hge
   change n+(grownCap w n 0 3 - n)=grownCap w n 0 3
   omega
  ·simp [Value.ownBlock] at hj
   omega
set_option maxRecDepth 100000 in
set_option maxHeartbeats 4000000 in
theorem concat_B {w:World}{z vc:Nat}{va:Option Addr}{V:List SlV}{L:List (List Nat)}(hL:LsB z (.slice va L.length vc) V L w)(hl:L.flatten.length<=1048576)(hll:L.length<=1048576) :
  Calls Tryz.prog 111 #[.slice va L.length vc] w fun e w'=>∃ v,e=.returned v/\IL w' v (nI L.flatten)/\(∀ j,v.ownBlock=some j->w.heap.size<=j)/\Below w.heap.size w w':=by
 obtain ⟨a',c',he,hr0⟩:=hL.read
 simp only [Value.slice.injEq,true_and] at he
 obtain ⟨rfl,rfl⟩:=he
 have HR:Hid (LrB w va V L):=hr0
 have HIL:Hid (∀ (i:Nat),i < L.length->∃ xa xc,V[i]?=some (xa,(L.getD i []).length,xc)/\ShpB xa xc/\InRow w xa (nI (L.getD i []))):=fun i hi=>by
  have hv:i < V.length:=by rw [hL.len];exact hi
  obtain ⟨a,c,e,h1,h2⟩:=il_shpB (hL.il i V[i] (L.getD i []) (List.getElem?_eq_getElem hv) (getD_someL hi))
  simp only [slV,Value.slice.injEq] at e
  refine ⟨a,c,?_,h1,h2⟩
  rw [List.getElem?_eq_getElem hv]
  congr 1
  exact Prod.ext e.1 (Prod.ext e.2.1 e.2.2)
 have HFL:Hid (∀ i,(L.take i).flatten.length<=1048576):=fun i=>by
  have h1:(L.take i).flatten.length+(L.drop i).flatten.length=L.flatten.length:=by
   rw [<- List.length_append,<- List.flatten_append,List.take_append_drop]
  omega
 have HTK:Hid (∀ i,i < L.length->(L.take (i+1)).flatten=(L.take i).flatten++L.getD i []):=fun i hi=>by
  rw [List.take_add_one,getD_someL hi]
  simp
 have GR:Hid (∀ k:Nat,k<=1048576->Calls Tryz.prog 123 #[.slice none 0 0,.int .i64 (k:Int)] w fun e w'=>∃ v,e=.returned v/\IL w' v []/\(∀ j,v.ownBlock=some j->w.heap.size<=j)/\Below w.heap.size w w'):=fun k hk=>grow_B k hk w
 clear hL hr0
 go_enter Tryz.func111,Tryz.ntmps111
 go_wp2
 go_loopw [3,11] (fun s z wr=>∃ (i:Nat),i<=L.length/\z=.int .i64 (i:Int)/\s=.int .i64 (((L.take i).flatten.length:Nat):Int)/\w=wr) (fun _ z _=>L.length - (intOf z).toNat)
 case atStart=>exact ⟨0,Nat.zero_le _,rfl,rfl,rfl⟩
 case round =>
  obtain ⟨i,hi,rfl,rfl,rfl⟩:=hrel
  by_cases hlt:i < L.length
  ·have ilt:(i:Int) < (L.length:Int):=by omega
   obtain ⟨xa,xc,hV,hsh,hrow⟩:=HIL.out i hlt
   obtain ⟨b,off,hva,hbl,hcell⟩:=HR.out.row (fun q=>by rw [q] at hV;simp at hV)
   have ck:=hcell i _ hV
   have e1:=HTK.out i hlt
   have e2:=HFL.out (i+1)
   rw [e1,List.length_append] at e2
   have HE:Hid ((L.take (i+1)).flatten.length=(L.take i).flatten.length+(L.getD i []).length):=by show _=_;rw [e1,List.length_append]
   generalize (L.take i).flatten.length=A at *
   generalize (L.getD i []).length=B at *
   have nn:¬ ((A:Int)+(B:Int) < 0):=by omega
   have wr1:IntKind.i64.wrap ((A:Int)+(B:Int))=(A:Int)+(B:Int):=by rw [IntKind.wrap_i64];omega
   subst hva
   simp only [slV] at ck
   clear hcell hV hsh hrow e1
   go_wp2
   go_roundw
   case rel=>exact ⟨i+1,by omega,by go_num,by rw [HE.out];simp⟩
   case measure=>simp [intOf];omega
  ·obtain rfl:i=L.length:=by omega
   have ilt:¬ (L.length:Int) < (L.length:Int):=by omega
   rw [List.take_length]
   have hl2:=hl
   generalize hAe:L.flatten.length=A at hl2 ⊢
   have GR2:=GR.out A hl2
   have GR3:Hid (Calls Tryz.prog 123 #[.slice none 0 0,.int .i64 (A:Int)] w fun e w'=>∃ v,e=.returned v/\IL w' v []/\(∀ j,v.ownBlock=some j->w.heap.size<=j)/\Below w.heap.size w w'):=GR2
   clear GR GR2 hAe hl2
   go_wp2_with (go_at_call 123;refine GR3.out.mono ?_;rintro e w1 ⟨v,rfl,i1,o1,b1⟩;have W1:Hid (LBs w [] v w1):=⟨i1,o1,b1⟩;clear i1 o1 b1)
   clear GR3
   go_loopw [6,27] (fun v z wr=>∃ (i:Nat),i<=L.length/\z=.int .i64 (i:Int)/\LBs w (nI (L.take i).flatten) v wr) (fun _ z _=>L.length - (intOf z).toNat)
   case atStart=>exact ⟨0,Nat.zero_le _,rfl,W1.out⟩
   case round =>
    clear W1
    obtain ⟨i,hi,rfl,hW⟩:=hrel
    by_cases hlt:i < L.length
    ·have ilt:(i:Int) < (L.length:Int):=by omega
     obtain ⟨xa,xc,hV,hsh,hrow⟩:=HIL.out i hlt
     obtain ⟨b,off,hva,hbl,hcell⟩:=HR.out.row (fun q=>by rw [q] at hV;simp at hV)
     have ck:=cellL (hcell i _ hV) hW.bel
     have e1:=HTK.out i hlt
     have e2:=HFL.out (i+1)
     rw [e1,List.length_append] at e2
     have HX:Hid (ShpB xa xc/\InRow wr xa (nI (L.getD i []))):=⟨hsh,hrow.later hW.bel⟩
     have HE:Hid (nI (L.take (i+1)).flatten=nI (L.take i).flatten++nI (L.getD i [])):=by show _=_;rw [e1];simp [nI]
     have HW:Hid (LBs w (nI (L.take i).flatten) u6 wr):=hW
     have HLN:Hid ((nI (L.take i).flatten).length+(nI (L.getD i [])).length<=100000000):=by show _<=_;rw [nI_len,nI_len];omega
     have HNL:Hid ((nI (L.getD i [])).length=(L.getD i []).length):=nI_len _
     have HE2:Hid (∀ (v:Value) (w':World),LBs w (nI (L.take i).flatten++nI (L.getD i [])) v w'->LBs w (nI (L.take (i+1)).flatten) v w'):=fun v w' q=>by rw [HE.out];exact q
     clear HE
     generalize nI (L.take i).flatten=A at *
     generalize nI (L.getD i [])=B at *
     generalize (L.getD i []).length=bl at *
     subst hva
     simp only [slV] at ck
     clear hcell hV hsh hrow e1 hW
     go_wp2_with (at_builtin;refine wpList_cat rfl _ _ rfl u6 A rfl HW.out.il xa xc bl B rfl HNL.out HX.out.1 HX.out.2 HLN.out ?_;intro a4 n4 c4 w4 ho4 hg4;have W4:Hid (LBs w (A++B) (.slice a4 n4 c4) w4):=HW.out.app (Below.refl _ _) hg4 ho4;clear ho4 hg4)
     go_roundw
     case rel=>exact ⟨i+1,by omega,by go_num,HE2.out _ _ W4.out⟩
     case measure=>simp [intOf];omega
    ·obtain rfl:i=L.length:=by omega
     have ilt:¬ (L.length:Int) < (L.length:Int):=by omega
     rw [List.take_length] at hW
     have HW:Hid (LBs w (nI L.flatten) u6 wr):=hW
     clear hW
     go_wp2
     go_ret
     exact ⟨_,rfl,HW.out.il,HW.out.own,HW.out.bel⟩
def sfRenB:Ren:=⟨fun | 6=>117 | 14=>127 | 15=>126 | 20=>142 | 21=>143 | 22=>144 | 23=>145 | 24=>146 | 25=>147 | 26=>148 | 27=>149 | 28=>140 | 29=>141 | 46=>155 | 47=>151 | 48=>152 | 49=>156 | 50=>157 | 57=>159 | n=>n,fun | 0=>0 | 3=>3 | 4=>4 | 5=>5 | 9=>9 | 22=>127 | 24=>36 | 25=>155 | 39=>147 | 45=>167 | 46=>168 | 50=>172 | 53=>175 | 55=>135 | 66=>181 | 70=>185 | 76=>189 | 77=>33 | n=>n,fun n=>n⟩
theorem sf_laysB:SlLaysF.n6 Tryz.prog sfRenB:={
 mixed:=by kernel_rfl
 f6:=⟨Tryz.f117.name,by decide,by kernel_rfl⟩
 f14:=⟨Tryz.f127.name,by decide,by kernel_rfl⟩
 f15:=by kernel_rfl
 f20:=⟨Tryz.f142.name,by decide,by kernel_rfl⟩
 f21:=⟨Tryz.f143.name,by decide,by kernel_rfl⟩
 f22:=⟨Tryz.f144.name,by decide,by kernel_rfl⟩
 f23:=⟨Tryz.f145.name,by decide,by kernel_rfl⟩
 f24:=⟨Tryz.f146.name,by decide,by kernel_rfl⟩
 f25:=⟨Tryz.f147.name,by decide,by kernel_rfl⟩
 f26:=⟨Tryz.f148.name,by decide,by kernel_rfl⟩
 f27:=⟨Tryz.f149.name,by decide,by kernel_rfl⟩
 f28:=by kernel_rfl
 f29:=by kernel_rfl
 f46:=⟨Tryz.f155.name,by decide,by kernel_rfl⟩
 f47:=by kernel_rfl
 f48:=by kernel_rfl
 f49:=⟨Tryz.f156.name,by decide,by kernel_rfl⟩
 f50:=⟨Tryz.f157.name,by decide,by kernel_rfl⟩
 f57:=⟨Tryz.f159.name,by decide,by kernel_rfl⟩
 t0:=by kernel_rfl
 a0:=fun _=>by kernel_rfl
 z0:=fun _=>by kernel_rfl
 v0:=fun _=>by kernel_rfl
 t3:=by kernel_rfl
 a3:=fun _=>by kernel_rfl
 z3:=fun _=>by kernel_rfl
 v3:=fun _=>by kernel_rfl
 t4:=by kernel_rfl
 a4:=fun _=>by kernel_rfl
 z4:=fun _=>by kernel_rfl
 v4:=fun _=>by kernel_rfl
 t5:=by kernel_rfl
 a5:=fun _=>by kernel_rfl
 z5:=fun _=>by kernel_rfl
 v5:=fun _=>by kernel_rfl
 t9:=by kernel_rfl
 a9:=fun _=>by kernel_rfl
 z9:=fun _=>by kernel_rfl
 v9:=fun _=>by kernel_rfl
 t22:=by kernel_rfl
 a22:=fun _=>by kernel_rfl
 z22:=fun _=>by kernel_rfl
 v22:=fun _=>by kernel_rfl
 a24:=fun _=>by kernel_rfl
 z24:=fun _=>by kernel_rfl
 t25:=by kernel_rfl
 a25:=fun _=>by kernel_rfl
 z25:=fun _=>by kernel_rfl
 v25:=fun _=>by kernel_rfl
 t39:=by kernel_rfl
 a39:=fun _=>by kernel_rfl
 z39:=fun _=>by kernel_rfl
 v39:=fun _=>by kernel_rfl
 t45:=by kernel_rfl
 a45:=fun _=>by kernel_rfl
 z45:=fun _=>by kernel_rfl
 v45:=fun _=>by kernel_rfl
 t46:=by kernel_rfl
 a46:=fun _=>by kernel_rfl
 z46:=fun _=>by kernel_rfl
 v46:=fun _=>by kernel_rfl
 t50:=by kernel_rfl
 a50:=fun _=>by kernel_rfl
 z50:=fun _=>by kernel_rfl
 v50:=fun _=>by kernel_rfl
 t53:=by kernel_rfl
 a53:=fun _=>by kernel_rfl
 z53:=fun _=>by kernel_rfl
 v53:=fun _=>by kernel_rfl
 t55:=by kernel_rfl
 a55:=fun _=>by kernel_rfl
 z55:=fun _=>by kernel_rfl
 v55:=fun _=>by kernel_rfl
 t66:=by kernel_rfl
 a66:=fun _=>by kernel_rfl
 z66:=fun _=>by kernel_rfl
 v66:=fun _=>by kernel_rfl
 t70:=by kernel_rfl
 a70:=fun _=>by kernel_rfl
 z70:=fun _=>by kernel_rfl
 v70:=fun _=>by kernel_rfl
 t76:=by kernel_rfl
 a76:=fun _=>by kernel_rfl
 z76:=fun _=>by kernel_rfl
 v76:=fun _=>by kernel_rfl
 t77:=by kernel_rfl
 a77:=fun _=>by kernel_rfl
 z77:=fun _=>by kernel_rfl
 v77:=fun _=>by kernel_rfl }
def cmpB (x y:Nat):Int:=if x < y then -1 else if y < x then 1 else 0
theorem compare_B (x y:Nat)(w:World):Calls Tryz.prog 119 #[.int .i64 (x:Int),.int .i64 (y:Int)] w fun e w'=>e=.returned (.int .i64 (cmpB x y))/\w'=w:=by
 have NN:Hid (∀ z:Nat,Calls Tryz.prog 128 #[.int .i64 (z:Int)] w fun e w'=>e=.returned (.bool false)/\w'=w):=fun z=>by
  go_enter Tryz.func128,Tryz.ntmps128
  go_wp2
  go_ret
  simp
 unfold cmpB
 by_cases h1:x < y
 ·have i1:(x:Int) < (y:Int):=by omega
  rw [if_pos h1]
  go_enter Tryz.func119,Tryz.ntmps119
  go_wp2_with (go_at_call 128;refine (NN.out _).mono ?_;rintro e w1 ⟨rfl,hz⟩;rw [hz];clear hz w1)
  go_ret
  exact ⟨rfl,rfl⟩
 ·have i1:¬ (x:Int) < (y:Int):=by omega
  rw [if_neg h1]
  by_cases h2:y < x
  ·have i2:(x:Int) > (y:Int):=by omega
   rw [if_pos h2]
   go_enter Tryz.func119,Tryz.ntmps119
   go_wp2_with (go_at_call 128;refine (NN.out _).mono ?_;rintro e w1 ⟨rfl,hz⟩;rw [hz];clear hz w1)
   go_ret
   exact ⟨rfl,rfl⟩
  ·have i2:¬ (x:Int) > (y:Int):=by omega
   rw [if_neg h2]
   go_enter Tryz.func119,Tryz.ntmps119
   go_wp2_with (go_at_call 128;refine (NN.out _).mono ?_;rintro e w1 ⟨rfl,hz⟩;rw [hz];clear hz w1)
   go_ret
   exact ⟨rfl,rfl⟩
set_option maxHeartbeats 4000000 in
theorem first_B {xa ya:Option Addr}{xc yc:Nat}{S T:List Nat}{w:World}(hS:InRow w xa (nI S))(hT:InRow w ya (nI T))(hs:0 < S.length)(ht:0 < T.length):Calls Tryz.prog 118 #[.slice xa S.length xc,.slice ya T.length yc] w fun e w'=>e=.returned (.int .i64 (cmpB (S.getD 0 0) (T.getD 0 0)))/\∃ q,w'=w.drewN q:=by
 obtain ⟨b1,o1,rfl,_,c1⟩:=inrow_at hS (i:=0) (x:=S.getD 0 0) (by rw [List.getD_eq_getElem?_getD,List.getElem?_eq_getElem hs];rfl)
 obtain ⟨b2,o2,rfl,_,c2⟩:=inrow_at hT (i:=0) (x:=T.getD 0 0) (by rw [List.getD_eq_getElem?_getD,List.getElem?_eq_getElem ht];rfl)
 have CM:Hid (∀ w',Calls Tryz.prog 119 #[.int .i64 ((S.getD 0 0:Nat):Int),.int .i64 ((T.getD 0 0:Nat):Int)] w' fun e w''=>e=.returned (.int .i64 (cmpB (S.getD 0 0) (T.getD 0 0)))/\w''=w'):=fun w'=>compare_B _ _ w'
 generalize cmpB (S.getD 0 0) (T.getD 0 0)=r at *
 generalize S.getD 0 0=x at *
 generalize T.getD 0 0=y at *
 rw [Nat.add_zero] at c1 c2
 have sl:(0:Int) < (S.length:Int):=by omega
 have tl:(0:Int) < (T.length:Int):=by omega
 generalize S.length=sn at *
 generalize T.length=tn at *
 clear hS hT
 go_enter Tryz.func118,Tryz.ntmps118
 go_wp2
 go_quiet ((go_at_call 119;exact Calls.quiet_of_same (CM.out _)))
 go_wp2
 go_ret
 exact ⟨rfl,_,rfl⟩
theorem sortf_B {w:World}{z:Nat}{v:Value}{V:List SlV}{C:List (List Nat)}(hL:LsB z v V C w)(hne:∀ T∈C,0 < T.length)(hl:C.length<=1048576) :
  Calls Tryz.prog 117 #[v,.func (.func 118) #[] #[]] w fun e w'=>e=.returned (.tuple #[])/\(∃ V' C',C'.Perm C/\C'.Pairwise (fun T T'=>T.getD 0 0<=T'.getD 0 0)/\LsB z v V' C' w')/\FrB (fun j=>v.ownBlock=some j) w w':=by
 by_cases h0:V.length=0
 ·have hV:V=[]:=List.eq_nil_of_length_eq_zero h0
  have hC:C=[]:=List.eq_nil_of_length_eq_zero (by rw [<- hL.len];exact h0)
  obtain ⟨a,c,rfl,_⟩:=hL.row.len
  rw [h0]
  have hc:=AnyF.slices_SortFunc_none { sf_laysB with } a c (.func (.func 118) #[] #[]) w
  change Calls Tryz.prog 117 _ _ _ at hc
  refine hc.mono ?_
  rintro e w' ⟨rfl,rfl⟩
  refine ⟨rfl,⟨V,C,List.Perm.refl _,by rw [hC];exact List.Pairwise.nil,?_⟩,Below.frB (Below.refl _ _)⟩
  rw [h0] at hL
  exact hL
 ·have hpos:0 < V.length:=by omega
  obtain ⟨b,c,rfl,hcl,_⟩:=hL.row.cell rkSl.len hpos
  have hlen:=hL.len
  obtain ⟨f,hf⟩:∃ f:Fin V.length->Nat,∀ i,f i=(C.getD i.val []).getD 0 0:=⟨_,fun _=>rfl⟩
  letI:Inhabited (Fin V.length):=⟨⟨0,hpos⟩⟩
  obtain ⟨d,hd⟩:∃ d:Array (Fin V.length),d=(List.ofFn (n:=V.length) id).toArray:=⟨_,rfl⟩
  have hds:d.size=V.length:=by rw [hd];simp
  have hdg:∀ j,(hj:j < V.length)->d[j]! = ⟨j,hj⟩:=fun j hj=>by rw [hd];simp [hj]
  have hpm:∀ l:List (Fin V.length),l.map (fun i=>V[i]) |>.flatMap slCB |> (·=l.map fun i=>slV V[i]):=fun l=>by
   induction l with
   | nil=>rfl
   | cons x l ih=>simp only [List.map_cons,List.flatMap_cons,ih];rfl
  have hdl:d.toList=List.ofFn (n:=V.length) id:=by rw [hd]
  have hV0:d.toList.map (fun i=>V[i])=V:=by
   apply List.ext_getElem
   ·simp [hds]
   ·intro i h1 h2
    simp [hdl]
  have hC0:d.toList.map (fun i=>C.getD i.val [])=C:=by
   apply List.ext_getElem
   ·simp [hds,hlen]
   ·intro i h1 h2
    simp [hdl,h2]
  have hcell:∀ l:List (Fin V.length),(l.map fun i=>slV V[i]).length=l.length:=fun l=>by simp
  obtain ⟨enc,henc⟩:∃ enc:Fin V.length->Value,enc=fun i=>slV V[i]:=⟨_,rfl⟩
  have h':w.ownsRow 0 36 1 (.slice (some ⟨b,0,none⟩) (d.toList.map enc).length c) (d.toList.map enc).length (d.toList.map enc):=by
   have q:=hL.row
   unfold SLo RO at q
   have e1:V.flatMap slCB=d.toList.map enc:=by
    have:=hpm d.toList
    rw [hV0] at this
    rw [henc]
    exact this
   rw [e1] at q
   have e2:(d.toList.map enc).length=V.length:=by simp [hds]
   rw [e2]
   exact q
  obtain ⟨hb,hc⟩:=own_holds h'
  have hH:Holds enc w b 0 d:=fun j hj=>by
   rw [Nat.zero_add]
   have:=hc j (enc d[j]!) (by simp [hj])
   exact this
  have h1:OneCell enc:=fun x=>by rw [henc];rfl
  have hO:SWO (ltOf fun i j=>cmpB (f i) (f j)):=by
   have hlt:∀ i j,ltOf (fun i j=>cmpB (f i) (f j)) i j=decide (f i < f j):=fun i j=>by
    show decide (cmpB (f i) (f j) < 0)=_
    unfold cmpB
    by_cases q:f i < f j
    ·rw [if_pos q];simp [q]
    ·rw [if_neg q]
     by_cases q2:f j < f i
     ·rw [if_pos q2];simp [q]
     ·rw [if_neg q2];simp [q]
   refine ⟨fun x=>?_,fun x y z=>?_,fun x y z=>?_⟩
   ·rw [hlt];simp
   ·rw [hlt,hlt,hlt];simp;omega
   ·rw [hlt,hlt,hlt];simp;omega
  have ilk:∀ (W:World),FrB (·=b) w W->∀ i:Fin V.length,IL W (slV V[i]) (nI (C.getD i.val [])):=fun W hW i=>by
   have hx:V[i.val]?=some V[i]:=List.getElem?_eq_getElem i.isLt
   have hi:=hL.il i.val V[i] _ hx (getD_someL (by rw [<- hlen];exact i.isLt))
   refine hi.kept (fun j hj=>hW.block j (World.ownsRow.lt hi j hj).2 (fun q=>?_))
   have q2:j=b:=q
   exact hL.ne V[i] (List.mem_of_getElem? hx) j hj (by rw [q2];rfl)
  have hcmp:CmpLays1 Tryz.prog 118 #[] enc (fun i j=>cmpB (f i) (f j)) b 0 d.size w:=CmpReads.lays fun m os dk hs x y=>by
   have hW:=put_fr enc dk w b m os
   obtain ⟨a1,c1,e1,r1⟩:=(ilk _ hW x).rowB
   obtain ⟨a2,c2,e2,r2⟩:=(ilk _ hW y).rowB
   have hn1:=hne _ (getD_memL (show x.val < C.length by rw [<- hlen];exact x.isLt))
   have hn2:=hne _ (getD_memL (show y.val < C.length by rw [<- hlen];exact y.isLt))
   have:=first_B (xc:=c1) (yc:=c2) r1 r2 hn1 hn2
   rw [<- e1,<- e2,<- hf x,<- hf y] at this
   rw [henc]
   rw [henc] at this
   exact this
  have hcall:=Any.slices_SortFunc sf_laysB enc h1 (fun i j=>cmpB (f i) (f j)) hO 118 #[] b 0 c d w (enters_of Tryz.func118 (by kernel_rfl) rfl) hcmp hH hb (by omega)
  change Calls Tryz.prog 117 _ _ _ at hcall
  rw [hds] at hcall
  refine hcall.mono ?_
  rintro e w' ⟨rfl,d',n,os,hp,hs,rfl⟩
  have hds':d'.size=V.length:=by rw [hp.1,hds]
  have hperm:d'.toList.Perm d.toList:=by
   have:=hp.2.2
   have e1:d'.extract 0 V.length=d':=by simp [hds']
   have e2:d.extract 0 V.length=d:=by simp [hds]
   rw [e1,e2] at this
   exact this
  have hnd:d'.toList.Nodup:=by
   rw [hperm.nodup_iff,hdl]
   simp only [List.nodup_iff_pairwise_ne,List.pairwise_iff_getElem]
   intro i j hi hj hij q
   simp at q
   omega
  have hfr:FrB (·=b) w (sortWorld enc w b 0 n d' os):=put_fr enc d' w b n os
  refine ⟨rfl,⟨d'.toList.map (fun i=>V[i]),d'.toList.map (fun i=>C.getD i.val []),?_,?_,?_⟩,hfr.mono (fun j _ q=>by have q2:j=b:=q;rw [q2];rfl)⟩
  ·have:=hperm.map (fun i=>C.getD i.val [])
   rwa [hC0] at this
  ·rw [List.pairwise_map,List.pairwise_iff_getElem]
   intro i j hi hj hij
   have hi':i < d'.size:=by simpa using hi
   have hj':j < d'.size:=by simpa using hj
   have:=hs i j (Nat.zero_le _) hij (by rw [<- hds'];exact hj')
   have e0:∀ i j,ltOf (fun i j=>cmpB (f i) (f j)) i j=decide (cmpB (f i) (f j) < 0):=fun _ _=>rfl
   rw [e0] at this
   unfold cmpB at this
   have e1:d'[i]! = d'.toList[i]:=by simp [hi']
   have e2:d'[j]! = d'.toList[j]:=by simp [hj']
   rw [e1,e2] at this
   rw [<- hf,<- hf]
   by_cases q:f d'.toList[j] < f d'.toList[i]
   ·rw [if_pos q] at this
    simp at this
   ·omega
  ·have getV:∀ (i:Nat) (x:SlV),(d'.toList.map (fun i=>V[i]))[i]?=some x->∃ k:Fin V.length,d'.toList[i]?=some k/\x=V[k]:=fun i x hx=>by
    rw [List.getElem?_map] at hx
    cases e:d'.toList[i]? with
    | none=>rw [e] at hx;cases hx
    | some k=>rw [e] at hx;simp at hx;exact ⟨k,rfl,hx.symm⟩
   have memV:∀ x∈d'.toList.map (fun i=>V[i]),x∈V:=fun x hx=>by
    obtain ⟨k,_,rfl⟩:=List.mem_map.1 hx
    exact List.getElem_mem k.isLt
   refine ⟨?_,hL.own,by simp,fun i x l hx hl=>?_,fun x hx=>hL.lo x (memV x hx),fun x hx=>hL.ne x (memV x hx),fun i i' x x' hx hx' hii=>?_⟩
   ·have q:=own_put enc d' h' (by simp [hds,hds']) n os
    unfold SLo RO
    rw [hpm]
    have e1:(d.toList.map enc).length=V.length:=by simp [hds]
    rw [e1] at q
    have e2:(d'.toList.map fun i=>V[i]).length=V.length:=by simp [hds']
    rw [e2]
    rw [henc] at q
    rw [henc]
    exact q
   ·obtain ⟨k,hk,rfl⟩:=getV i x hx
    rw [List.getElem?_map,hk] at hl
    simp at hl
    subst hl
    have:=ilk _ hfr k
    simpa using this
   ·obtain ⟨k,hk,rfl⟩:=getV i x hx
    obtain ⟨k',hk',rfl⟩:=getV i' x' hx'
    refine hL.nd k.val k'.val V[k] V[k'] (List.getElem?_eq_getElem k.isLt) (List.getElem?_eq_getElem k'.isLt) (fun q=>hii ?_)
    have hkk:k=k':=Fin.ext q
    subst hkk
    obtain ⟨h3,h4⟩:=List.getElem?_eq_some_iff.1 hk
    obtain ⟨h5,h6⟩:=List.getElem?_eq_some_iff.1 hk'
    exact (List.getElem_inj hnd).1 (h4.trans h6.symm)
end Go.Proofs.YtockbobpmiagiaaGreatDoor
