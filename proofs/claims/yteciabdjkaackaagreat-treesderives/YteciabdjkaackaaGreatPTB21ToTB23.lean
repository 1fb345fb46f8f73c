import Derived.Test.YteciabdjkaackaaGreatPTB18ToTB20
namespace Go.Proofs.YteciabdjkaackaaGreat
set_option linter.unusedVariables false
open Go.RowKit
theorem cnt_sub (a:Nat×Nat):∀ (π:List Nat) (p q:Nat) (t:TV),okP π t->(adsT (adP π p q t).1 (adP π p q t).2 (getAt π t)).count a<=(adsT p q t).count a:=fun π p q t h=>by
 obtain ⟨A,B,-,e,-⟩:=ads_set π p q t h
 rw [e,List.count_append,List.count_append]
 omega
theorem upd_out {w w':World}{u:TV}:∀ (π:List Nat) (p q:Nat) (t:TV),TBx w p q t->TAt w t->okP π t ->
  (∀ a,(adsT (adP π p q t).1 (adP π p q t).2 (getAt π t)).count a < (adsT p q t).count a->C4 w w' a)->TBx w' (adP π p q t).1 (adP π p q t).2 u->TAt w' u ->
  TBx w' p q (setAt π t u)/\TAt w' (setAt π t u)
 | [],_,_,_,_,_,_,_,hu,hU=>⟨hu,hU⟩
 | i :: π,p,q,t,hb,ht,⟨hi,hp⟩,hk,hu,hU=>by
  obtain ⟨b,off,e,hbi⟩:=krow_kid ht.row hi
  have ek:kadr t=(b,off):=by unfold kadr;rw [e]
  have eg:t.kids.getD i .none=t.kids[i]:=by simp [List.getD,hi]
  have ea:adP (i :: π) p q t=adP π b (off+i*4) t.kids[i]:=by rw [adP,ek,eg]
  have et:getAt (i :: π) t=getAt π t.kids[i]:=by rw [getAt,eg]
  have es:setAt (i :: π) t u=t.sk (t.kids.set i (setAt π t.kids[i] u)):=by rw [setAt,eg]
  rw [eg] at hp
  have hti:=ht.kid _ (List.getElem_mem hi)
  have hgi:=kidsA_get e hi
  have hsub:=fun a=>cnt_sub a π b (off+i*4) t.kids[i] hp
  have hck:=fun a=>cnt_kid a hgi
  have hct:∀ a,(adsL (kidsA t)).count a<=(adsT p q t).count a:=fun a=>by rw [adsT_eq,List.count_cons];omega
  rw [ea,et] at hk
  rw [ea] at hu
  have hroot:C4 w w' (p,q):=hk _ (by
   have h1:=hsub (p,q)
   have h2:=hck (p,q)
   rw [adsT_eq p q t,List.count_cons_self]
   dsimp only at h2
   omega)
  obtain ⟨r1,r2⟩:=upd_out π b (off+i*4) t.kids[i] hbi hti hp
   (fun a ha=>hk a (by
    have h2:=hck a
    have h3:=hct a
    dsimp only at h2
    omega)) hu hU
  have hside:∀ j (hj:j < t.kids.length),j≠i->TBx w' b (off+j*4) t.kids[j]/\TAt w' t.kids[j]:=fun j hj hji=>by
   have hc:∀ a∈adsT b (off+j*4) t.kids[j],C4 w w' a:=fun a ha=>hk a (by
    have h1:0 < (adsT b (off+j*4) t.kids[j]).count a:=List.count_pos_iff.2 ha
    have h2:=cnt_kids a (kidsA_get e hj) hgi hji
    have h3:=hct a
    have h4:=hsub a
    dsimp only at h2
    omega)
   obtain ⟨b',off',e',hbj⟩:=krow_kid ht.row hj
   rw [e] at e'
   simp only [Option.some.injEq,Addr.mk.injEq,and_true] at e'
   obtain ⟨rfl,rfl⟩:=e'
   exact ⟨(hc _ (adsT_root _ _ _)).tbx hbj,keep_at _ b (off+j*4) (ht.kid _ (List.getElem_mem hj)) fun a ha=>hc a (by rw [adsT_eq];exact List.mem_cons_of_mem _ ha)⟩
  rw [es]
  have hall:∀ j (hj:j < (t.kids.set i (setAt π t.kids[i] u)).length),TBx w' b (off+j*4) (t.kids.set i (setAt π t.kids[i] u))[j]/\TAt w' (t.kids.set i (setAt π t.kids[i] u))[j]:=fun j hj=>by
   rw [List.getElem_set]
   split
   ·rename_i h;subst h;exact ⟨r1,r2⟩
   ·rename_i h;exact hside j (by simpa using hj) (fun h'=>h h'.symm)
  refine ⟨?_,TAt.mk _ (krow_of fun j hj=>⟨b,off,e,(hall j hj).1⟩) fun k hkk=>?_⟩
  ·have h:=hroot.tbx hb
   exact ⟨h.lt,h.c0,h.c1,h.c2,by
    have h3:=h.c3
    have hl:(t.kids.set i (setAt π t.kids[i] u)).length=t.kids.length:=List.length_set
    rw [<- hl] at h3
    exact h3⟩
  ·obtain ⟨j,hj,rfl⟩:=List.getElem_of_mem hkk
   exact (hall j hj).2
structure RvJ (r:Nat)(ob:Obj)(N:Nat)(w0:World)(p0 q0:Nat)(T:TV)(w:World):Prop where
 bel:Below N w0 w
 nz:N<=w.heap.size
 sz:szT T<=100000000
 tb:TBx w p0 q0 T
 ta:TAt w T
 cn:∀ a,(adsT p0 q0 T).count a<=1
 ty:∀ a∈adsT p0 q0 T,N<=a.1/\a.2 % 4=0/\∃ cs,w.heap[a.1]?=some (.cells cs 26)
 rs:¬ Stp ob
 rb:w.heap[r]?=some ob
 rn:∀ a∈adsT p0 q0 T,a.1≠r
theorem RvJ.still {r:Nat}{ob:Obj}{N:Nat}{w0:World}{p0 q0:Nat}{T:TV}{w w':World}(h:RvJ r ob N w0 p0 q0 T w)(hn:NoStp N w w'):RvJ r ob N w0 p0 q0 T w':=by
 have hk:∀ a∈adsT p0 q0 T,w'.heap[a.1]?=w.heap[a.1]?:=fun a ha=>by
  have hl:=ads_lt h.tb h.ta ha
  obtain ⟨o,ho⟩:∃ o,w.heap[a.1]?=some o:=⟨_,Array.getElem?_eq_getElem hl⟩
  rw [ho]
  refine hn.keep _ _ ho fun ⟨h1,h2⟩=>?_
  obtain ⟨_,_,cs,hc⟩:=h.ty a ha
  rw [ho] at hc
  cases hc
  exact not_stpT h2
 have hc:∀ a∈adsT p0 q0 T,C4 w w' a:=fun a ha=>⟨Nat.lt_of_lt_of_le (ads_lt h.tb h.ta ha) hn.size,fun j _=>World.cell?_of_block (hk a ha)⟩
 refine ⟨⟨hn.os.trans h.bel.os,hn.tape.trans h.bel.tape,hn.output.trans h.bel.output,Nat.le_trans h.bel.size hn.size,fun j hj=>by
  have hl:=Nat.lt_of_lt_of_le hj h.nz
  obtain ⟨o,ho⟩:∃ o,w.heap[j]?=some o:=⟨_,Array.getElem?_eq_getElem hl⟩
  rw [hn.keep j o ho fun ⟨h1,_⟩=>by omega,<- ho]
  exact h.bel.block j hj⟩,Nat.le_trans h.nz hn.size,h.sz,(hc _ (adsT_root _ _ _)).tbx h.tb,keep_at T p0 q0 h.ta fun a ha=>hc a (by rw [adsT_eq];exact List.mem_cons_of_mem _ ha),h.cn,fun a ha=>?_,h.rs,hn.keep _ _ h.rb fun ⟨_,x⟩=>h.rs x,h.rn⟩
 rw [hk a ha];exact h.ty a ha
theorem row_in {b o n:Nat}{i:Nat}(hi:i < n):(b,o+i*4)∈rowA b o 0 n:=by
 unfold rowA
 exact List.mem_map.2 ⟨i,List.mem_range'_1.2 ⟨Nat.zero_le _,by omega⟩,rfl⟩
theorem inL_rev (l:List TV)(x:Nat×Nat):(inL l.reverse).count x=(inL l).count x:=by
 unfold inL
 exact ((List.reverse_perm l).flatMap_right _).count_eq x
structure TurnT (b o:Nat)(l:List TV)(w w':World):Prop where
 size:w'.heap.size=w.heap.size
 other:∀ j,j≠b->w'.heap[j]?=w.heap[j]?
 ty:∃ cs,w'.heap[b]?=some (.cells cs 26)
 cell:∀ i u,(l.reverse.flatMap trCells)[i]?=some u->w'.cell? ⟨b,o+i,none⟩=some u
 out:∀ x,x < o∨o+l.length*4<=x->w'.cell? ⟨b,x,none⟩=w.cell? ⟨b,x,none⟩
 bel:∀ N w0,Below N w0 w->N<=b->N<=w.heap.size->Below N w0 w'
theorem ent_rev1:EntW 92:=fun _ _=>by kernel_rfl
set_option linter.unusedSimpArgs false in
set_option maxRecDepth 100000 in
set_option maxHeartbeats 2000000 in
theorem rev1_W (p q:Nat)(k:TV)(w:World)(hb:TBx w p q k)(hr:KRow w k.ka k.kids)(hl:k.kids.length<=1000000000)(hty:∀ b o,k.kids≠[]->k.ka=some ⟨b,o,none⟩->∃ cs,w.heap[b]?=some (.cells cs 26)) :
  Calls Tryz.prog 92 #[.pointer (some ⟨p,q,none⟩)] w fun e w'=>e=.returned (.bool true)/\(k.kids=[]->w'=w)/\∀ b o,k.kids≠[]->k.ka=some ⟨b,o,none⟩->TurnT b o k.kids w w':=by
 have c3:=hb.c3
 by_cases hn:k.kids=[]
 ·have CN:Hid (∀ (ao:Option Addr) (c:Nat) (w:World),Calls Tryz.prog 93 #[.slice ao 0 c] w fun e w'=>e=.returned (.tuple #[])/\w'=w):=rev_treen
  rw [hn] at c3
  simp only [List.length_nil] at c3
  clear hb hr hl hty
  generalize k.ka=ka at *
  generalize k.kc=kc at *
  go_enter Tryz.func92,Tryz.ntmps92
  go_wp2_with (go_at_call 93;refine (CN.out ka kc _).mono ?_;rintro e w2 ⟨rfl,rfl⟩)
  go_ret
  exact ⟨rfl,fun _=>rfl,fun b o h=>absurd hn h⟩
 ·obtain ⟨b,o,e,hs⟩:=hr.src hn
  obtain ⟨cs,hcs⟩:=hty b o hn e
  have CR:Hid (∀ c,Calls Tryz.prog 93 #[.slice (some ⟨b,o,none⟩) k.kids.length c] w fun e w'=>e=.returned (.tuple #[])/\TurnT b o k.kids w w'):=fun c=>(rev_tree b o c k.kids w hl hs hcs).mono fun e w' ⟨h0,h1,h2,h3,h4,h5,h6⟩=>⟨h0,h1,h2,h3,h4,h5,h6⟩
  have HE:Hid (k.ka=some ⟨b,o,none⟩):=e
  rw [e] at c3
  clear hb hr hl hty hs hcs e cs
  have HN:Hid (k.kids≠[]):=hn
  clear hn
  obtain ⟨ks,hks⟩:∃ ks,ks=k.kids:=⟨_,rfl⟩
  rw [<- hks] at CR HN c3 ⊢
  clear hks
  obtain ⟨ln,hln⟩:∃ ln,ln=ks.length:=⟨_,rfl⟩
  rw [<- hln] at CR c3
  clear hln
  generalize k.kc=kc at *
  go_enter Tryz.func92,Tryz.ntmps92
  go_wp2_with (go_at_call 93;refine (CR.out kc).mono ?_;rintro e w2 ⟨rfl,h2⟩;have R:Hid (TurnT b o ks w w2):=h2;clear h2)
  go_ret
  refine ⟨rfl,fun h=>absurd h HN.out,fun b' o' _ e'=>?_⟩
  rw [HE.out] at e'
  cases e'
  exact R.out
set_option maxHeartbeats 1000000 in
theorem RvJ.enter {r:Nat}{ob:Obj}{N:Nat}{w0:World}{p0 q0:Nat}{T:TV}{w:World}(h:RvJ r ob N w0 p0 q0 T w)(π:List Nat)(hok:okP π T) :
  Calls Tryz.prog 92 #[.pointer (some ⟨(adP π p0 q0 T).1,(adP π p0 q0 T).2,none⟩)] w fun e w'=>e=.returned (.bool true)/\OnStp N w w'/\RvJ r ob N w0 p0 q0 (setAt π T (revK (getAt π T))) w':=by
 obtain ⟨hb,ha⟩:=at_path π p0 q0 T h.tb h.ta hok
 have hmem:=adP_mem π p0 q0 T w h.ta hok
 have hsz:szT (getAt π T)<=100000000:=by
  obtain ⟨A,B,_,h2,_⟩:=pre_set π T hok
  have h3:=congrArg List.length h2
  simp only [List.length_map,List.length_append,preT_len] at h3
  have:=h.sz
  omega
 have hkl:(getAt π T).kids.length<=1000000000:=by
  have:=szT_eq (getAt π T)
  have:=szL_len (getAt π T).kids
  omega
 have hss:=szT_set π T (revK (getAt π T)) hok (szT_rev _)
 have hupd:=fun w'=>upd_out (w:=w) (w':=w') (u:=revK (getAt π T)) π p0 q0 T h.tb h.ta hok
 obtain ⟨A,B,hA1,hA2,hA3⟩:=ads_set π p0 q0 T hok
 have hads:=hA3 (revK (getAt π T))
 generalize hk:getAt π T=k at *
 generalize hP:(adP π p0 q0 T).1=P at *
 generalize hQ:(adP π p0 q0 T).2=Q at *
 rw [show adP π p0 q0 T=(P,Q) by rw [<- hP,<- hQ]] at hmem
 have hcS:∀ x:Nat×Nat,(adsT P Q k).count x=(if ((P,Q) == x)=true then 1 else 0)+((rowA (kadr k).1 (kadr k).2 0 k.kids.length).count x+(inL k.kids).count x):=fun x=>by
  rw [adsT_eq,List.count_cons,kidsA,cnt_row];omega
 have hcT:∀ x:Nat×Nat,(adsT p0 q0 T).count x=A.count x+(adsT P Q k).count x+B.count x:=fun x=>by
  rw [hA2,List.count_append,List.count_append]
 have hcU:∀ x:Nat×Nat,(adsT p0 q0 (setAt π T (revK k))).count x=(adsT p0 q0 T).count x:=fun x=>by
  have e1:(adsT P Q (revK k)).count x=(adsT P Q k).count x:=by
   rw [hcS,adsT_eq,List.count_cons,kidsA,cnt_row]
   have e2:(revK k).kids=k.kids.reverse:=rfl
   have e3:kadr (revK k)=kadr k:=rfl
   rw [e2,e3,inL_rev,List.length_reverse];omega
  rw [hcT,hads,List.count_append,List.count_append,e1]
 have hmU:∀ x,x∈adsT p0 q0 (setAt π T (revK k)) ↔ x∈adsT p0 q0 T:=fun x=>by
  rw [<- List.count_pos_iff,<- List.count_pos_iff,hcU]
 have hrT:∀ x,x∈rowA (kadr k).1 (kadr k).2 0 k.kids.length->x∈adsT p0 q0 T:=fun x hx=>by
  have:=List.count_pos_iff.2 hx
  refine List.count_pos_iff.1 ?_
  rw [hcT,hcS];omega
 refine (rev1_W P Q k w hb ha.row hkl fun b o hne e=>?_).mono ?_
 ·have e1:kadr k=(b,o):=by unfold kadr;rw [e]
  have hx:(b,o+0*4)∈rowA (kadr k).1 (kadr k).2 0 k.kids.length:=by rw [e1];exact row_in (List.length_pos_iff.2 hne)
  exact (h.ty _ (hrT _ hx)).2.2
 rintro e w' ⟨rfl,h0,h1⟩
 have F:w'.heap.size=w.heap.size/\(∀ a∈adsT p0 q0 T,a ∉ rowA (kadr k).1 (kadr k).2 0 k.kids.length->C4 w w' a)/\KRow w' k.ka k.kids.reverse/\(∀ (j:Nat) (o:Obj),w.heap[j]?=some o->(∀ cs,o≠.cells cs 26)->w'.heap[j]?=some o)/\(∀ (j:Nat) (cs:Array Value),w.heap[j]?=some (.cells cs 26)->∃ cs',w'.heap[j]?=some (.cells cs' 26))/\Below N w0 w'/\w'.heap[r]?=some ob:=by
  by_cases hne:k.kids=[]
  ·obtain rfl:=h0 hne
   exact ⟨rfl,fun a ha _=>⟨ads_lt h.tb h.ta ha,fun _ _=>rfl⟩,fun e=>absurd (by rw [hne];rfl) e,fun j o ho _=>ho,fun j cs hj=>⟨cs,hj⟩,h.bel,h.rb⟩
  ·obtain ⟨b,o,e,hbl,_⟩:=ha.row hne
   have t:=h1 b o hne e
   have e1:kadr k=(b,o):=by unfold kadr;rw [e]
   have hx0:(b,o+0*4)∈adsT p0 q0 T:=hrT _ (by rw [e1];exact row_in (List.length_pos_iff.2 hne))
   obtain ⟨n1,n2,cs0,n3⟩:=h.ty _ hx0
   refine ⟨t.size,fun a ham har=>⟨by rw [t.size];exact ads_lt h.tb h.ta ham,fun j hj=>?_⟩,fun _=>?_,fun j o' ho hno=>?_,fun j cs hj=>?_,t.bel N w0 h.bel n1 h.nz,?_⟩
   ·by_cases hab:a.1=b
    ·rw [hab]
     refine t.out _ ?_
     have m1:=(h.ty a ham).2.1
     dsimp only at n2
     refine Classical.byContradiction fun hcon=>har ?_
     have e2:a=(b,o+(a.2 - o) / 4*4):=Prod.ext hab (by show a.2=_;omega)
     rw [e1,e2]
     exact row_in (by omega)
    ·exact World.cell?_of_block (t.other _ hab)
   ·refine ⟨b,o,e,by rw [t.size];exact hbl,fun i hi=>?_⟩
    have hg:=fm_get (f:=trCells) (k:=4) (fun _=>rfl) k.kids.reverse i hi
    have hd:k.kids.reverse.getD i .none=k.kids.reverse[i]:=by simp only [List.getD,List.getElem?_eq_getElem hi,Option.getD_some]
    have g0:=hg 0 (by omega)
    have g1:=hg 1 (by omega)
    have g2:=hg 2 (by omega)
    have g3:=hg 3 (by omega)
    rw [hd]
    simp only [trCells,List.getElem?_cons_zero,List.getElem?_cons_succ,Nat.add_zero] at g0 g1 g2 g3
    have q0:=t.cell _ _ g0
    have q1:=t.cell _ _ g1
    have q2:=t.cell _ _ g2
    have q3:=t.cell _ _ g3
    simp only [<- Nat.add_assoc] at q0 q1 q2 q3
    exact ⟨q0,q1,q2,q3⟩
   ·rw [t.other j fun ej=>?_,ho]
    subst ej
    dsimp only at n3
    rw [n3] at ho
    cases ho
    exact hno _ rfl
   ·by_cases ej:j=b
    ·rw [ej];exact t.ty
    ·exact ⟨cs,by rw [t.other j ej];exact hj⟩
   ·rw [t.other r fun er=>h.rn _ hx0 er.symm];exact h.rb
 obtain ⟨f1,f2,f3,f4,f4',f5,f6⟩:=F
 have hu:TBx w' P Q (revK k):=by
  have c:=f2 (P,Q) hmem fun hr=>?_
  ·have q:=c.tbx hb
   refine ⟨q.lt,q.c0,q.c1,q.c2,?_⟩
   have e2:(revK k).kids.length=k.kids.length:=by show k.kids.reverse.length=_;simp
   rw [e2]
   exact q.c3
  ·have h2:=h.cn (P,Q)
   have h3:=List.count_pos_iff.2 hr
   rw [hcT,hcS,if_pos (beq_self_eq_true _)] at h2
   omega
 have hU:TAt w' (revK k):=by
  refine TAt.mk _ f3 fun x hx=>?_
  have hx':x∈k.kids:=by
   have:x∈k.kids.reverse:=hx
   simpa using this
  refine keep_at x 0 0 (ha.kid x hx') fun a hma=>?_
  have hpos:0 < (inL k.kids).count a:=List.count_pos_iff.2 (List.mem_flatMap.2 ⟨x,hx',hma⟩)
  have h2:=h.cn a
  rw [hcT,hcS] at h2
  refine f2 a (List.count_pos_iff.1 (by rw [hcT,hcS];omega)) fun hr=>?_
  have h3:=List.count_pos_iff.2 hr
  omega
 obtain ⟨u1,u2⟩:=hupd w' (fun a hlt=>by
  have h2:=h.cn a
  refine f2 a (List.count_pos_iff.1 (by omega)) fun hr=>?_
  have h3:=List.count_pos_iff.2 hr
  have h4:=hcS a
  omega) hu hU
 refine ⟨rfl,⟨by rw [f1];exact Nat.le_refl _,fun j o ho _ hs=>f4 j o ho fun cs e=>?_⟩,f5,by rw [f1];exact h.nz,by rw [hss];exact h.sz,u1,u2,fun a=>by rw [hcU];exact h.cn a,fun a ham=>?_,h.rs,f6,fun a ham=>h.rn a ((hmU a).1 ham)⟩
 ·rw [e] at hs
  exact not_stpT hs
 ·obtain ⟨k1,k2,cs,k3⟩:=h.ty a ((hmU a).1 ham)
  exact ⟨k1,k2,f4' _ _ k3⟩
structure RvI (r:Nat)(ob:Obj)(N:Nat)(w0:World)(p0 q0:Nat)(M:TV)(x:CpG)(S:List PA)(w:World):Prop where
 j:RvJ r ob N w0 p0 q0 x.T w
 s:S=[]/\samV x.T M/\x.m=szT x.T/\x.d=0∨okP x.π x.T/\x.n<=(getAt x.π x.T).kids.length/\x.m=nuP x.π x.T+1+szL ((getAt x.π x.T).kids.take x.n)/\S=stkI x.π p0 q0 x.T++[((adP x.π p0 q0 x.T).1,(adP x.π p0 q0 x.T).2,x.n)]/\x.d=x.π.length+1/\samV (finT x.π x.n x.T) M
theorem RvI.top {r:Nat}{ob:Obj}{N:Nat}{w0:World}{p0 q0:Nat}{M:TV}{x:CpG}{S:List PA}{p q n:Nat}{w:World}(h:RvI r ob N w0 p0 q0 M x (S++[(p,q,n)]) w) :
  okP x.π x.T/\x.n=n/\n<=(getAt x.π x.T).kids.length/\x.m=nuP x.π x.T+1+szL ((getAt x.π x.T).kids.take n)/\S=stkI x.π p0 q0 x.T/\adP x.π p0 q0 x.T=(p,q)/\x.d=x.π.length+1/\samV (finT x.π n x.T) M:=by
 rcases h.s with ⟨e,_⟩ | ⟨h1,h2,h3,h4,h5,h6⟩
 ·simp at e
 ·have he:=List.append_inj' h4 rfl
  have e2:=he.2
  simp only [List.cons.injEq,Prod.mk.injEq,and_true] at e2
  obtain ⟨e3,e4,e5⟩:=e2
  rw [<- e5] at h2 h3 h6
  exact ⟨h1,e5.symm,h2,h3,he.1,Prod.ext e3.symm e4.symm,h5,h6⟩
set_option maxHeartbeats 1000000 in
theorem rvC {r:Nat}{ob:Obj}{N:Nat}{w0:World}{p0 q0:Nat}{M:TV}:WkC N (RvI r ob N w0 p0 q0 M) (fun x=>2*(szT x.T - x.m)+x.d) (fun w'=>∃ T,RvJ r ob N w0 p0 q0 T w'/\samV T M) 92 77 #[] #[]:=by
 refine ⟨ent_rev1,ent_leave1,fun x S w w' h hn=>⟨h.j.still hn,h.s⟩,fun x S w h=>?_,fun x w h=>?_,fun x S p q n w h b m c hs=>?_,fun x S p q n w h=>?_⟩
 ·rcases h.s with ⟨rfl,_⟩ | ⟨h1,_,_,h4,_,_⟩
  ·simp
  ·rw [h4,List.length_append,stkI_len]
   have a1:=nu_len x.π x.T
   have a2:=nu_lt x.π x.T h1
   have a4:=h.j.sz
   simp only [List.length_cons,List.length_nil]
   omega
 ·rcases h.s with ⟨_,h1,_⟩ | ⟨_,_,_,h4,_,_⟩
  ·exact ⟨x.T,h.j,h1⟩
  ·simp at h4
 ·obtain ⟨h1,-,-,-,-,h6,-,-⟩:=h.top
  have hmem:=adP_mem x.π p0 q0 x.T w h.j.ta h1
  rw [h6] at hmem
  have hb:=hs.2 b rfl
  obtain ⟨o,ho,hst⟩:=hs.1.stp b rfl
  intro e
  subst e
  obtain ⟨_,_,cs,hc⟩:=h.j.ty _ hmem
  rw [ho] at hc
  cases hc
  exact not_stpT hst
 ·obtain ⟨T,m,π,n',d⟩:=x
  obtain ⟨h1,h2,h3,h4,h5,h6,h7,h8⟩:=h.top
  dsimp only at h1 h2 h3 h4 h5 h6 h7 h8
  subst h2
  have hj:RvJ r ob N w0 p0 q0 T w:=h.j
  obtain ⟨hb,ha⟩:=at_path π p0 q0 T hj.tb hj.ta h1
  rw [h6] at hb
  have hkl:(getAt π T).kids.length<=1000000000:=by
   obtain ⟨A,B,_,e2,_⟩:=pre_set π T h1
   have e3:=congrArg List.length e2
   simp only [List.length_map,List.length_append,preT_len] at e3
   have e5:=hj.sz
   have e6:=szT_eq (getAt π T)
   have e7:=szL_len (getAt π T).kids
   omega
  refine ⟨(getAt π T).ka,(getAt π T).kids.length,(getAt π T).kc,hb.c3,h3,hkl,fun hn=>?_,fun hn=>?_⟩
  ·refine (leave1_W p q w).mono fun e w' ⟨e1,e2⟩=>⟨e1,by rw [e2];exact OnStp.refl _ _,?_⟩
   subst e2
   rw [hn,List.take_length] at h4
   rcases List.eq_nil_or_concat π with rfl | ⟨π0,i,hcc⟩
   ·refine ⟨⟨T,m,[],0,0⟩,?_,hj,.inl ⟨h5,?_,?_,rfl⟩⟩
    ·show 2*(szT T - m)+0 < 2*(szT T - m)+d
     omega
    ·exact samV_trans _ _ _ (samV_symm _ _ (fin_end T n' hn)) h8
    ·show m=szT T
     rw [szT_eq,h4]
     simp only [nuP,getAt]
     omega
   ·rw [List.concat_eq_append] at hcc
    subst hcc
    obtain ⟨g1,g2⟩:=(okP_app π0 [i] T).1 h1
    have gi:i < (getAt π0 T).kids.length:=g2.1
    have eg:(getAt π0 T).kids.getD i .none=(getAt π0 T).kids[i]:=by simp [List.getD,gi]
    refine ⟨⟨T,m,π0,i+1,d - 1⟩,?_,hj,.inr ⟨g1,gi,?_,?_,?_,?_⟩⟩
    ·show 2*(szT T - m)+(d - 1) < 2*(szT T - m)+d
     omega
    ·show m=nuP π0 T+1+szL ((getAt π0 T).kids.take (i+1))
     rw [nuP_app,getAt_app] at h4
     simp only [nuP,getAt] at h4
     rw [eg] at h4
     rw [<- List.take_append_getElem gi,szL_app]
     have e8:=szT_eq (getAt π0 T).kids[i]
     have e9:szL [(getAt π0 T).kids[i]]=szT (getAt π0 T).kids[i]:=by simp [szL]
     omega
    ·show S=_
     rw [h5,stkI_snoc]
    ·show d - 1=π0.length+1
     rw [h7];simp
    ·have:=fin_leave π0 i T h1
     rw [<- hn] at this
     exact samV_trans _ _ _ (samV_symm _ _ this) h8
  ·obtain ⟨b,off,hka,hkt⟩:=krow_kid ha.row hn
   have hkd:kadr (getAt π T)=(b,off):=by unfold kadr;rw [hka]
   have ok':okP (π++[n']) T:=(okP_app π [n'] T).2 ⟨h1,hn,trivial⟩
   have ad':adP (π++[n']) p0 q0 T=(b,off+n'*4):=by rw [adP_app,adP,adP,hkd]
   have nu':nuP (π++[n']) T=m:=by rw [nuP_app,h4];simp only [nuP];omega
   have hent:=hj.enter (π++[n']) ok'
   rw [ad'] at hent
   refine ⟨b,off,hka,hent.mono fun e w' ⟨e1,e2,e3⟩=>⟨true,e1,e2,fun _=>?_,fun q=>by cases q⟩⟩
   refine ⟨⟨_,m+1,π++[n'],0,d+1⟩,?_,e3,.inr ⟨ok_set _ _ _ ok',Nat.zero_le _,?_,?_,?_,?_⟩⟩
   ·show 2*(szT (setAt (π++[n']) T _) - (m+1))+(d+1) < 2*(szT T - m)+d
    have s1:=szT_set (π++[n']) T (revK (getAt (π++[n']) T)) ok' (szT_rev _)
    have s3:=nu_lt _ _ ok'
    omega
   ·show m+1=nuP (π++[n']) _+1+szL (List.take 0 _)
    rw [nu_set _ _ _ ok',nu']
    simp [szL]
   ·show _=stkI (π++[n']) p0 q0 _++[((adP (π++[n']) p0 q0 _).1,(adP (π++[n']) p0 q0 _).2,0)]
    rw [stkI_set _ _ _ _ _ ok',ad_set _ _ _ _ _ ok',ad',stkI_snoc,h6,h5]
   ·show d+1=(π++[n']).length+1
    rw [h7];simp
   ·rw [fin_enter π n' T ok']
    exact h8
theorem walkRev_W {r:Nat}{ob:Obj}{N:Nat}{w0:World}{p0 q0:Nat}{T:TV}(w:World)(h:RvJ r ob N w0 p0 q0 T w) :
  Calls Tryz.prog 44 #[.pointer (some ⟨p0,q0,none⟩),fnV 92 #[]] w fun e w'=>e=.returned (.tuple #[])/\∃ T',RvJ r ob N w0 p0 q0 T' w'/\samV T' (mirT T):=by
 refine walk_C (rvC (M:=mirT T)) p0 q0 w h.nz ?_
 refine (h.enter [] trivial).mono fun e w' ⟨e1,e2,e3⟩=>⟨true,e1,e2.size,fun _=>⟨⟨_,1,[],0,1⟩,e3,.inr ⟨trivial,Nat.zero_le _,?_,rfl,rfl,?_⟩⟩,fun q=>by cases q⟩
 ·simp [nuP,szL]
 ·show samV (finT [] 0 (setAt [] T (revK (getAt [] T)))) _
  rw [fin_start]
  exact samV_refl _
set_option linter.unusedSimpArgs false in
set_option linter.unusedVariables false in
theorem wpAnyX_mix3 {P:Program}{ops:Array Oper}{Q:Exit->Act->World->Prop}{md:Region.Mode}{S:Array Bool->World->Prop}{β1 β2 β3:Type}{o1 o2 o3 o4:Oper}{d1 d2 d3 d4:Nat}{L:Array Bool}{a:Act}{w:World}{fuel:Nat}(j1 j2 j3 j4:Nat)(h1:ops.toList[j1]?=some o1)(h2:ops.toList[j2]?=some o2)(h3:ops.toList[j3]?=some o3)(h4:ops.toList[j4]?=some o4)
  (e1:o1.dst=some d1) (e2:o2.dst=some d2) (e3:o3.dst=some d3) (e4:o4.dst=some d4) (hj:j1≠j2/\j1≠j3/\j2≠j3/\j1≠j4/\j2≠j4/\j3≠j4) (hd:d1≠d2/\d1≠d3/\d2≠d3/\d1≠d4/\d2≠d4/\d3≠d4)
  (r0:Region.ready md ops L=[j1,j4])
  (r4:Region.ready md ops (L.setIfInBounds j4 true)=[j1])
  (r1:Region.ready md ops (L.setIfInBounds j1 true)=[j2,j4])
  (r14:Region.ready md ops ((L.setIfInBounds j1 true).setIfInBounds j4 true)=[j2])
  (r12:Region.ready md ops ((L.setIfInBounds j1 true).setIfInBounds j2 true)=[j3,j4])
  (r124:Region.ready md ops (((L.setIfInBounds j1 true).setIfInBounds j2 true).setIfInBounds j4 true)=[j3])
  {J:Nat->β1->β2->β3->Option Nat->World->Prop} (hS:∀ A x y z b w' L',J A x y z b w'->S L' w') {f1:β1->Value} {f2:β2->Value} {f3:β3->Value} {f4:Nat->Value}
  {At:Act->Prop} (hAt:At a) (at1:∀ a v,At a->At (a.put (some d1) v)) (at2:∀ a v,At a->At (a.put (some d2) v)) (at3:∀ a v,At a->At (a.put (some d3) v)) (at4:∀ a v,At a->At (a.put (some d4) v))
  (s1:∀ (a:Act) (w:World) (K:Act->World->Prop) x y z b,At a->J 0 x y z b w->(∀ x' w',J 1 x' y z b w'->K (a.put o1.dst (f1 x')) w')->if Region.wanted o1 (yielded ops a.tmps)=true then Oper.wp P o1 a w K Q else K (a.put o1.dst undef) w)
  (s2:∀ (a:Act) (w:World) (K:Act->World->Prop) x y z b,At a->J 1 x y z b w->(∀ y' w',J 2 x y' z b w'->K (a.put o2.dst (f2 y')) w')->if Region.wanted o2 (yielded ops a.tmps)=true then Oper.wp P o2 a w K Q else K (a.put o2.dst undef) w)
  (s3:∀ (a:Act) (w:World) (K:Act->World->Prop) x y z b,At a->a.eval (.tmp d1)=f1 x->a.eval (.tmp d2)=f2 y->J 2 x y z b w->(∀ z' w',J 3 x y z' b w'->K (a.put o3.dst (f3 z')) w')->if Region.wanted o3 (yielded ops a.tmps)=true then Oper.wp P o3 a w K Q else K (a.put o3.dst undef) w)
  (s4:∀ (a:Act) (w:World) (K:Act->World->Prop) A x y z,At a->J A x y z none w->(∀ b w',J A x y z (some b) w'->K (a.put o4.dst (f4 b)) w')->if Region.wanted o4 (yielded ops a.tmps)=true then Oper.wp P o4 a w K Q else K (a.put o4.dst undef) w)
  (sz:d1 < a.tmps.size/\d2 < a.tmps.size)
  (x0:β1) (y0:β2) (z0:β3) (hw:J 0 x0 y0 z0 none w)
  (hfin3:∀ x y z w',J 3 x y z none w'->wpAnyX P md ops Q S (fuel+1) (((L.setIfInBounds j1 true).setIfInBounds j2 true).setIfInBounds j3 true) (((a.put (some d1) (f1 x)).put (some d2) (f2 y)).put (some d3) (f3 z)) w')
  (hfin:∀ x y z b w',J 3 x y z (some b) w'->wpAnyX P md ops Q S fuel ((((L.setIfInBounds j1 true).setIfInBounds j2 true).setIfInBounds j3 true).setIfInBounds j4 true) ((((a.put (some d1) (f1 x)).put (some d2) (f2 y)).put (some d3) (f3 z)).put (some d4) (f4 b)) w') :
  wpAnyX P md ops Q S (fuel+1+1+1+1) L a w:=by
 have sc:∀ {i j:Nat},i≠j->∀ (L:Array Bool),(L.setIfInBounds j true).setIfInBounds i true=(L.setIfInBounds i true).setIfInBounds j true:=fun h L=>Array.setIfInBounds_comm _ _ (Ne.symm h)
 have pc:∀ {d e:Nat},d≠e->∀ (a:Act) (u v:Value),(a.put (some e) u).put (some d) v=(a.put (some d) v).put (some e) u:=fun h a u v=>by
  simp only [Act.put,Act.mk.injEq,and_true]
  exact Array.setIfInBounds_comm _ _ (Ne.symm h)
 have ev:∀ {d:Nat} (a:Act) (v:Value),d < a.tmps.size->(a.put (some d) v).eval (.tmp d)=v:=fun a v h=>by simp [Act.eval,Act.put,h]
 have en:∀ {d e:Nat} (a:Act) (v:Value),d≠e->(a.put (some d) v).eval (.tmp e)=a.eval (.tmp e):=fun a v h=>by simp [Act.eval,Act.put,h]
 have zp:∀ (a:Act) (d:Nat) (v:Value),(a.put (some d) v).tmps.size=a.tmps.size:=fun a d v=>by simp [Act.put]
 obtain ⟨q12,q13,q23,q14,q24,q34⟩:=hj
 obtain ⟨t12,t13,t23,t14,t24,t34⟩:=hd
 have c21:=sc q12
 have p21:=pc t12
 have c31:=sc q13
 have p31:=pc t13
 have c32:=sc q23
 have p32:=pc t23
 have c41:=sc q14
 have p41:=pc t14
 have c42:=sc q24
 have p42:=pc t24
 have c43:=sc q34
 have p43:=pc t34
 refine pickT r0 (by simp) (fun j hj=>?_)
 simp only [List.mem_cons,List.not_mem_nil,or_false] at hj
 rcases hj with hj | hj<;>rw [hj]
 ·refine ⟨o1,h1,fun K' hK=>s1 _ w K' x0 y0 z0 none hAt hw fun xv3 wv1 hv2=>hK.out _ _ (hS _ _ _ _ _ _ _ hv2) ?_⟩
  rw [e1]
  refine pickT r1 (by simp) (fun j hj=>?_)
  simp only [List.mem_cons,List.not_mem_nil,or_false] at hj
  rcases hj with hj | hj<;>rw [hj]
  ·refine ⟨o2,h2,fun K' hK=>s2 _ wv1 K' xv3 y0 z0 none (at1 _ _ hAt) hv2 fun xv6 wv4 hv5=>hK.out _ _ (hS _ _ _ _ _ _ _ hv5) ?_⟩
   rw [e2]
   (try simp only [c21,c31,c32,c41,c42,c43])
   refine pickT r12 (by simp) (fun j hj=>?_)
   simp only [List.mem_cons,List.not_mem_nil,or_false] at hj
   rcases hj with hj | hj<;>rw [hj]
   ·refine ⟨o3,h3,fun K' hK=>s3 _ wv4 K' xv3 xv6 z0 none (at2 _ _ (at1 _ _ hAt)) (by simp [Act.eval,Act.put,sz.1,sz.2,t12,t13,t23,t14,t24,t34,Ne.symm t12,Ne.symm t13,Ne.symm t23,Ne.symm t14,Ne.symm t24,Ne.symm t34]) (by simp [Act.eval,Act.put,sz.1,sz.2,t12,t13,t23,t14,t24,t34,Ne.symm t12,Ne.symm t13,Ne.symm t23,Ne.symm t14,Ne.symm t24,Ne.symm t34]) hv5 fun xv9 wv7 hv8=>hK.out _ _ (hS _ _ _ _ _ _ _ hv8) ?_⟩
    rw [e3]
    have g_:=hfin3 xv3 xv6 xv9 wv7 hv8
    (try simp only [c21,c31,c32,c41,c42,c43,p21,p31,p32,p41,p42,p43])
    exact g_
   ·refine ⟨o4,h4,fun K' hK=>s4 _ wv4 K' 2 xv3 xv6 z0 (at2 _ _ (at1 _ _ hAt)) hv5 fun xv12 wv10 hv11=>hK.out _ _ (hS _ _ _ _ _ _ _ hv11) ?_⟩
    rw [e4]
    (try simp only [c21,c31,c32,c41,c42,c43])
    refine pickT r124 (by simp) (fun j hj=>?_)
    simp only [List.mem_cons,List.not_mem_nil,or_false] at hj
    rw [hj]
    refine ⟨o3,h3,fun K' hK=>s3 _ wv10 K' xv3 xv6 z0 (some xv12) (at4 _ _ (at2 _ _ (at1 _ _ hAt))) (by simp [Act.eval,Act.put,sz.1,sz.2,t12,t13,t23,t14,t24,t34,Ne.symm t12,Ne.symm t13,Ne.symm t23,Ne.symm t14,Ne.symm t24,Ne.symm t34]) (by simp [Act.eval,Act.put,sz.1,sz.2,t12,t13,t23,t14,t24,t34,Ne.symm t12,Ne.symm t13,Ne.symm t23,Ne.symm t14,Ne.symm t24,Ne.symm t34]) hv11 fun xv15 wv13 hv14=>hK.out _ _ (hS _ _ _ _ _ _ _ hv14) ?_⟩
    rw [e3]
    have g_:=hfin xv3 xv6 xv15 xv12 wv13 hv14
    (try simp only [c21,c31,c32,c41,c42,c43,p21,p31,p32,p41,p42,p43])
    exact g_
  ·refine ⟨o4,h4,fun K' hK=>s4 _ wv1 K' 1 xv3 y0 z0 (at1 _ _ hAt) hv2 fun xv18 wv16 hv17=>hK.out _ _ (hS _ _ _ _ _ _ _ hv17) ?_⟩
   rw [e4]
   (try simp only [c21,c31,c32,c41,c42,c43])
   refine pickT r14 (by simp) (fun j hj=>?_)
   simp only [List.mem_cons,List.not_mem_nil,or_false] at hj
   rw [hj]
   refine ⟨o2,h2,fun K' hK=>s2 _ wv16 K' xv3 y0 z0 (some xv18) (at4 _ _ (at1 _ _ hAt)) hv17 fun xv21 wv19 hv20=>hK.out _ _ (hS _ _ _ _ _ _ _ hv20) ?_⟩
   rw [e2]
   (try simp only [c21,c31,c32,c41,c42,c43])
   refine pickT r124 (by simp) (fun j hj=>?_)
   simp only [List.mem_cons,List.not_mem_nil,or_false] at hj
   rw [hj]
   refine ⟨o3,h3,fun K' hK=>s3 _ wv19 K' xv3 xv21 z0 (some xv18) (at2 _ _ (at4 _ _ (at1 _ _ hAt))) (by simp [Act.eval,Act.put,sz.1,sz.2,t12,t13,t23,t14,t24,t34,Ne.symm t12,Ne.symm t13,Ne.symm t23,Ne.symm t14,Ne.symm t24,Ne.symm t34]) (by simp [Act.eval,Act.put,sz.1,sz.2,t12,t13,t23,t14,t24,t34,Ne.symm t12,Ne.symm t13,Ne.symm t23,Ne.symm t14,Ne.symm t24,Ne.symm t34]) hv20 fun xv24 wv22 hv23=>hK.out _ _ (hS _ _ _ _ _ _ _ hv23) ?_⟩
   rw [e3]
   have g_:=hfin xv3 xv21 xv24 xv18 wv22 hv23
   (try simp only [c21,c31,c32,c41,c42,c43,p21,p31,p32,p41,p42,p43])
   exact g_
 ·refine ⟨o4,h4,fun K' hK=>s4 _ w K' 0 x0 y0 z0 hAt hw fun xv27 wv25 hv26=>hK.out _ _ (hS _ _ _ _ _ _ _ hv26) ?_⟩
  rw [e4]
  refine pickT r4 (by simp) (fun j hj=>?_)
  simp only [List.mem_cons,List.not_mem_nil,or_false] at hj
  rw [hj]
  refine ⟨o1,h1,fun K' hK=>s1 _ wv25 K' x0 y0 z0 (some xv27) (at4 _ _ hAt) hv26 fun xv30 wv28 hv29=>hK.out _ _ (hS _ _ _ _ _ _ _ hv29) ?_⟩
  rw [e1]
  (try simp only [c21,c31,c32,c41,c42,c43])
  refine pickT r14 (by simp) (fun j hj=>?_)
  simp only [List.mem_cons,List.not_mem_nil,or_false] at hj
  rw [hj]
  refine ⟨o2,h2,fun K' hK=>s2 _ wv28 K' xv30 y0 z0 (some xv27) (at1 _ _ (at4 _ _ hAt)) hv29 fun xv33 wv31 hv32=>hK.out _ _ (hS _ _ _ _ _ _ _ hv32) ?_⟩
  rw [e2]
  (try simp only [c21,c31,c32,c41,c42,c43])
  refine pickT r124 (by simp) (fun j hj=>?_)
  simp only [List.mem_cons,List.not_mem_nil,or_false] at hj
  rw [hj]
  refine ⟨o3,h3,fun K' hK=>s3 _ wv31 K' xv30 xv33 z0 (some xv27) (at2 _ _ (at1 _ _ (at4 _ _ hAt))) (by simp [Act.eval,Act.put,sz.1,sz.2,t12,t13,t23,t14,t24,t34,Ne.symm t12,Ne.symm t13,Ne.symm t23,Ne.symm t14,Ne.symm t24,Ne.symm t34]) (by simp [Act.eval,Act.put,sz.1,sz.2,t12,t13,t23,t14,t24,t34,Ne.symm t12,Ne.symm t13,Ne.symm t23,Ne.symm t14,Ne.symm t24,Ne.symm t34]) hv32 fun xv36 wv34 hv35=>hK.out _ _ (hS _ _ _ _ _ _ _ hv35) ?_⟩
  rw [e3]
  have g_:=hfin xv30 xv33 xv36 xv27 wv34 hv35
  (try simp only [c21,c31,c32,c41,c42,c43,p21,p31,p32,p41,p42,p43])
  exact g_
theorem core_at {g x:GV}(h:SameG g x)(n:Nat):(x.ps.getD n .none).left=(g.ps.getD n .none).left/\(x.ps.getD n .none).right=(g.ps.getD n .none).right:=by
 have e:(x.ps.getD n .none).core=(g.ps.getD n .none).core:=by
  have e1:(x.ps.map PV.core)[n]?=(g.ps.map PV.core)[n]?:=by rw [h.ps]
  rw [List.getElem?_map,List.getElem?_map] at e1
  simp only [List.getD]
  cases e2:x.ps[n]? with
  | none =>
   rw [e2] at e1
   cases e3:g.ps[n]? with
   | none=>rfl
   | some y=>rw [e3] at e1;cases e1
  | some z =>
   rw [e2] at e1
   cases e3:g.ps[n]? with
   | none=>rw [e3] at e1;cases e1
   | some y =>
    rw [e3] at e1
    simpa using e1
 unfold PV.core at e
 simp only [Prod.mk.injEq] at e
 exact ⟨e.1,e.2.1⟩
theorem plen_same {g x:GV}(h:SameG g x):x.ps.length=g.ps.length:=by
 have:=congrArg List.length h.ps
 simpa using this
theorem right_same {g x:GV}(h:SameG g x){t U:TV}(hp:U.prod=t.prod):rightU x U=rightU g t:=by
 unfold rightU
 rw [hp]
 exact (core_at h _).2
theorem al_same {g x:GV}(h:SameG g x){t U:TV}(hs:sgV t=sgV U):alTU x U=alTU g t:=by
 unfold sgV at hs
 simp only [Prod.mk.injEq] at hs
 obtain ⟨h1,h2,h3,h4⟩:=hs
 unfold alTU
 rw [right_same h h1.symm,<- h1,<- h2,<- h3,<- h4,h.ts,plen_same h]
theorem root_same {g x:GV}(h:SameG g x){t U:TV}(hs:sgV t=sgV U):rootU x U=rootU g t:=by
 unfold sgV at hs
 simp only [Prod.mk.injEq] at hs
 obtain ⟨h1,h2,h3,h4⟩:=hs
 unfold rootU
 rw [<- h1,<- h2,h.ts,plen_same h,(core_at h _).1]
theorem er_same {g x:GV}(h:SameG g x){t U:TV}(hs:sgV t=sgV U)(d:Int)(s:Int×Int)(u:Bool):erU x ⟨U,d,s,u⟩=erU g ⟨t,d,s,u⟩:=by
 unfold erU
 dsimp only
 rw [al_same h hs,root_same h hs]
 unfold sgV at hs
 simp only [Prod.mk.injEq] at hs
 rw [hs.1]
def runE:List Int->Nat->Int×Nat
 | [],n=>(0,n)
 | e :: l,n=>if e≠0 then (e,n) else runE l (n+1)
theorem run_E (g:GV):∀ (l:List SP) (n:Nat),runU g l n=runE (l.map (erU g)) n
 | [],_=>rfl
 | x :: l,n=>by rw [runU,List.map_cons,runE,run_E g l]
theorem ckL_same {g x:GV}:∀ (r:List (Int×Int)) (l m:List TV),l.length=m.length->(∀ i (h:i < l.length) (h':i < m.length),∀ s u,(ckT x s u m[i]).map (erU x)=(ckT g s u l[i]).map (erU g))->(ckL x r m).map (erU x)=(ckL g r l).map (erU g)
 | _,[],[],_,_=>rfl
 | _,[],_ :: _,h,_=>by simp at h
 | _,_ :: _,[],h,_=>by simp at h
 | r,a :: l,b :: m,h,hs=>by
  rw [ckL_cons,ckL_cons,List.map_append,List.map_append,ckL_same r.tail l m (by simpa using h) (fun i h1 h2=>hs (i+1) (by simpa using h1) (by simpa using h2))]
  have:=hs 0 (by simp) (by simp) (r.headD (0,0)) true
  simp only [List.getElem_cons_zero] at this
  rw [this]
theorem ck_same {g x:GV}(h:SameG g x)(t:TV):∀ U,samV t U->∀ s u,(ckT x s u U).map (erU x)=(ckT g s u t).map (erU g):=by
 induction t using TV.ind with
 | _ t ih =>
  intro U hU s u
  obtain ⟨h1,h2⟩:=(samV_iff t U).1 hU
  have hp:U.prod=t.prod:=by
   have:=congrArg Prod.fst h1
   exact this.symm
  rw [ckT_eq,ckT_eq,List.map_cons,List.map_cons,er_same h h1,right_same h hp,ckL_same _ t.kids U.kids (sgV_len h1) fun i hi hi' s u=>ih _ (List.getElem_mem hi) _ (h2 i hi hi') s u]
theorem run_same {g x:GV}(h:SameG g x){t U:TV}(hs:samV t U):runU x (ckT x (0,0) false U) 0=runU g (ckT g (0,0) false t) 0:=by
 rw [run_E,run_E,ck_same h t U hs]
theorem check_rev8 (g:GV)(nm:Int×Int):cG_ g.rev nm=cG_ g nm:=by
 have hg:∀ i,g.rev.ps.getD i .none=(g.ps.getD i .none).rev:=fun i=>by
  simp only [GV.rev,List.getD,List.getElem?_map]
  cases g.ps[i]?<;>rfl
 have e1:prodU g.rev=prodU g:=by
  funext i
  have ha:((g.rev.ps.take i).any fun q=>q.left == (g.ps.getD i .none).rev.left && q.right == (g.ps.getD i .none).rev.right)=((g.ps.take i).any fun q=>q.left == (g.ps.getD i .none).left && q.right == (g.ps.getD i .none).right):=by
   show (((g.ps.map PV.rev).take i).any _)=_
   rw [<- List.map_take,List.any_map]
   congr 1
   funext q
   simp only [Function.comp,PV.rev]
   congr 1
   rw [Bool.eq_iff_iff]
   simp
  have hb:((g.ps.getD i .none).rev.right.any fun s=>!inG g.rev s.1 s.2)=((g.ps.getD i .none).right.any fun s=>!inG g s.1 s.2):=by
   show ((g.ps.getD i .none).right.reverse.any fun s=>!inG g.rev s.1 s.2)=_
   rw [List.any_reverse];rfl
  have hc:(g.ps.getD i .none).rev.right.length=(g.ps.getD i .none).right.length:=List.length_reverse
  unfold prodU
  rw [hg,ha,hb,hc]
  rfl
 unfold cG_
 rw [e1]
 simp only [GV.rev,List.length_map]
 rfl
theorem MG.gat8 {B:Nat}{w:World}{g:GV}{A H E pb lb tb nb:Nat}(h:MG B w g A H E pb lb tb nb)(ok:OkC g):GAt 1048576 w g:=by
 refine h.at 1048576 (fun s hs=>?_) (fun s hs=>?_) ?_ ?_ ?_ ?_ (fun p hp=>?_) (fun p hp=>?_)
 ·have:=ok.ts s hs;unfold maxLen;omega
 ·have:=ok.ns s hs;unfold maxLen;omega
 ·have:=ok.tl;omega
 ·have:=ok.nl;omega
 ·have:=ok.pl;omega
 ·have:=ok.ll;omega
 ·obtain ⟨i,hi,rfl⟩:=List.getElem_of_mem hp
  have:=ok.right i hi
  have e:g.ps.getD i .none=g.ps[i]:=by simp [List.getD,hi]
  rw [e] at this;omega
 ·obtain ⟨i,hi,rfl⟩:=List.getElem_of_mem hp
  have:=ok.terms i hi
  have e:g.ls.getD i .none=g.ls[i]:=by simp [List.getD,hi]
  rw [e] at this;omega
theorem next_gr {g x:GV}(h:SameG g x)(l:List Int)(A:AB):nextU x l A=nextU g l A:=by
 unfold nextU
 split
 ·rw [(core_at h _).1]
 ·rw [(core_at h _).2]
theorem step_gr {g x:GV}(h:SameG g x)(l:List Int)(L:List (Int×ByteArray))(y:DvU):stepU x l L y=stepU g l L y:=by
 unfold stepU prodU2
 rw [next_gr h,(core_at h _).1,(core_at h _).2]
theorem der_gr {g x:GV}(h:SameG g x)(l:List Int)(L:List (Int×ByteArray)):∀ (n:Nat) (y:DvU),derU x l L n y=derU g l L n y
 | 0,_=>rfl
 | n+1,y=>by
  rw [derU,derU,step_gr h]
  split
  ·rfl
  ·cases stepU g l L y with
   | inl f=>rfl
   | inr z=>exact der_gr h l L n z
theorem derive_gr {g x:GV}(h:SameG g x)(l:List Int)(L:List (Int×ByteArray)):deriveU x l L=deriveU g l L:=by
 unfold deriveU
 rw [der_gr h]
theorem derive_ne {g:GV}{l:List Int}{L:List (Int×ByteArray)}(hl:∀ n∈l,0<=n/\n < g.ps.length){e1 e2:Int}(h:deriveU g l L=(none,e1,e2)):¬ e1=0:=by
 unfold deriveU at h
 cases hd:derU g l L (l.length+L.length+1) ⟨0,0,([],[])⟩ with
 | inl f =>
  rw [hd] at h
  obtain ⟨f1,f2⟩:=f
  dsimp only at h
  cases h
  have:∀ (n:Nat) (x:DvU),derU g l L n x=.inl (e1,e2)->¬ e1=0:=fun n=>by
   induction n with
   | zero=>intro x hx;cases hx
   | succ n ih =>
    intro x hx
    rw [derU] at hx
    split at hx
    ·cases hx
    ·cases hs:stepU g l L x with
     | inl f=>rw [hs] at hx;cases hx;exact step_ne hs
     | inr z=>rw [hs] at hx;exact ih z hx
  exact this _ _ hd
 | inr y =>
  rw [hd] at h
  dsimp only at h
  obtain ⟨hw,_⟩:=der_ok hl _ _ _ (ok_start g l L) (by dsimp only;omega) hd
  split at h
  ·cases h;decide
  ·split at h
   ·cases h;decide
   ·exfalso
    unfold wU_ at hw
    simp only [Bool.and_eq_true,Bool.not_eq_true',List.isEmpty_eq_false_iff] at hw
    cases hA:y.A.1 with
    | nil=>exact hw.2 hA
    | cons t D=>rw [hA] at h;cases h
def szF (S:List FrB):Nat:=(S.map fun f=>1+szL f.ks).sum
def szA (A:AB):Nat:=szL A.1+szF A.2
theorem szF_cons (f:FrB)(S:List FrB):szF (f :: S)=1+szL f.ks+szF S:=by simp [szF]
theorem szT_nd (f:FrB):szT (ndT f)=1+szL f.ks:=by
 rw [szT_eq]
 show szL f.ks+1=_
 omega
theorem szL_snoc (l:List TV)(t:TV):szL (l++[t])=szL l+szT t:=by
 rw [szL_app,szL_cons]
 have:szL []=0:=rfl
 omega
theorem szA_ad (A:AB)(t:TV):szA (adA A t)=szA A+szT t:=by
 obtain ⟨D,S⟩:=A
 cases S with
 | nil =>
  show szL (D++[t])+szF []=szL D+szF []+szT t
  rw [szL_snoc];omega
 | cons f S =>
  show szL D+szF (⟨f.p,f.k,f.ks++[t]⟩ :: S)=szL D+szF (f :: S)+szT t
  rw [szF_cons,szF_cons,szL_snoc];omega
theorem szA_cl:∀ (S:List FrB) (D:List TV),szA (clU2 (D,S))=szA (D,S)
 | [],D=>by rw [clU2_nil]
 | f :: S,D=>by
  rw [clU2_cons]
  by_cases hk:f.ks.length=f.k
  ·rw [if_pos hk]
   have e:szA (adA (D,S) (ndT f))=szA (D,f :: S):=by
    rw [szA_ad,szT_nd]
    show szL D+szF S+(1+szL f.ks)=szL D+szF (f :: S)
    rw [szF_cons];omega
   rw [<- e]
   cases S with
   | nil=>exact szA_cl [] _
   | cons g' S=>exact szA_cl (⟨g'.p,g'.k,g'.ks++[ndT f]⟩ :: S) D
  ·rw [if_neg hk]
termination_by S=>S.length
theorem szA_clU (A:AB):szA (clU2 A)=szA A:=szA_cl A.2 A.1
theorem szA_step {g:GV}{l:List Int}{L:List (Int×ByteArray)}{x y:DvU}(h:stepU g l L x=.inr y):szA y.A+(x.u+x.r)=szA x.A+(y.u+y.r):=by
 unfold stepU at h
 split at h
 ·split at h
  ·cases h
  ·split at h
   ·cases h
    show szA (clU2 (adA x.A (wordU L x.r)))+_=szA x.A+(x.u+(x.r+1))
    rw [szA_clU,szA_ad]
    have:szT (wordU L x.r)=1:=by rw [szT_eq];rfl
    omega
   ·cases h
 ·split at h
  ·cases h
  ·split at h
   ·cases h
    show szA (clU2 (x.A.1,prodU2 g (l.getD x.u 0) :: x.A.2))+_=szA x.A+(x.u+1+x.r)
    rw [szA_clU]
    show szL x.A.1+szF (prodU2 g (l.getD x.u 0) :: x.A.2)+_=szL x.A.1+szF x.A.2+_
    rw [szF_cons]
    have:szL (prodU2 g (l.getD x.u 0)).ks=0:=rfl
    omega
   ·cases h
theorem szA_der {g:GV}{l:List Int}{L:List (Int×ByteArray)}:∀ (n:Nat) (x y:DvU),derU g l L n x=.inr y->szA y.A+(x.u+x.r)=szA x.A+(y.u+y.r)
 | 0,x,y,h=>by cases h;rfl
 | n+1,x,y,h=>by
  rw [derU] at h
  split at h
  ·cases h;rfl
  ·cases hs:stepU g l L x with
   | inl f=>rw [hs] at h;cases h
   | inr z =>
    rw [hs] at h
    have h1:=szA_step hs
    have h2:=szA_der n z y h
    omega
theorem derive_sz {g:GV}{l:List Int}{L:List (Int×ByteArray)}(hl:∀ n∈l,0<=n/\n < g.ps.length){t:TV}{e1 e2:Int}(h:deriveU g l L=(some t,e1,e2)):szT t<=l.length+L.length:=by
 unfold deriveU at h
 cases hd:derU g l L (l.length+L.length+1) ⟨0,0,([],[])⟩ with
 | inl f=>rw [hd] at h;cases h
 | inr y =>
  rw [hd] at h
  dsimp only at h
  obtain ⟨hw,ho⟩:=der_ok hl _ _ _ (ok_start g l L) (by dsimp only;omega) hd
  have hz:=szA_der _ _ _ hd
  have h1:=ho.ul
  have h2:=ho.rl
  have h0:szA (([],[]):AB)=0:=rfl
  dsimp only at hz
  rw [h0] at hz
  split at h
  ·cases h
  ·split at h
   ·cases h
   ·cases hA:y.A.1 with
    | nil=>rw [hA] at h;cases h
    | cons t' D =>
     rw [hA] at h
     cases h
     unfold szA at hz
     rw [hA,szL_cons] at hz
     omega
end Go.Proofs.YteciabdjkaackaaGreat
