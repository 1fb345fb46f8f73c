import Derived.Test.YteciabdjkaackaaGreatPTT2ToRegX
namespace Go.Proofs.YteciabdjkaackaaGreat
set_option linter.unusedVariables false
open Go.RowKit
structure TBx (w:World)(p q:Nat)(t:TV):Prop where
 lt:p < w.heap.size
 c0:w.cell? ⟨p,q,none⟩=some (.int .i64 t.prod)
 c1:w.cell? ⟨p,q+1,none⟩=some (.int .i64 t.kind)
 c2:w.cell? ⟨p,q+2,none⟩=some (.string t.tx)
 c3:w.cell? ⟨p,q+3,none⟩=some (.slice t.ka t.kids.length t.kc)
theorem TBx.later {w w':World}{p q:Nat}{t:TV}(h:TBx w p q t)(hb:Below w.heap.size w w'):TBx w' p q t:=by
 have e:∀ j,w'.cell? ⟨p,j,none⟩=w.cell? ⟨p,j,none⟩:=fun j=>hb.cell (p:=⟨p,j,none⟩) h.lt
 exact ⟨Nat.lt_of_lt_of_le h.lt hb.size,(e _).trans h.c0,(e _).trans h.c1,(e _).trans h.c2,(e _).trans h.c3⟩
structure EV where
 en:Bool
 p:Nat
 q:Nat
 t:TV
def kadr (t:TV):Nat×Nat:=match t.ka with
 | some a=>(a.block,a.off)
 | none=>(0,0)
def kidF (b o:Nat):Nat->List TV->List (Nat×Nat×TV)
 | _,[]=>[]
 | i,k :: l=>(b,o+i*4,k) :: kidF b o (i+1) l
def kidsA (t:TV):List (Nat×Nat×TV):=kidF (kadr t).1 (kadr t).2 0 t.kids
theorem kidF_mem {b o:Nat}{x:Nat×Nat×TV}:∀ {i:Nat} {l:List TV},x∈kidF b o i l->x.2.2∈l
 | _,[],h=>by cases h
 | i,k :: l,h=>by
  rcases List.mem_cons.1 h with rfl | h
  ·exact List.mem_cons_self
  ·exact List.mem_cons_of_mem _ (kidF_mem h)
theorem kidF_len (b o:Nat):∀ (i:Nat) (l:List TV),(kidF b o i l).length=l.length
 | _,[]=>rfl
 | i,k :: l=>by simp [kidF,kidF_len b o (i+1) l]
theorem kidF_get (b o:Nat):∀ (i:Nat) (l:List TV) (j:Nat) (h:j < l.length),(kidF b o i l)[j]?=some (b,o+(i+j)*4,l[j])
 | i,k :: l,0,_=>by simp [kidF]
 | i,k :: l,j+1,h=>by
  have:=kidF_get b o (i+1) l j (by simpa using h)
  rw [kidF,List.getElem?_cons_succ,this]
  simp only [List.getElem_cons_succ]
  congr 4
  omega
def evF:Nat->Nat->Nat->TV->List EV
 | 0,_,_,_=>[]
 | n+1,p,q,t=>⟨true,p,q,t⟩ :: ((kidsA t).flatMap fun x=>evF n x.1 x.2.1 x.2.2)++[⟨false,p,q,t⟩]
def evT (p q:Nat)(t:TV):List EV:=evF (tsz t) p q t
def evL (l:List (Nat×Nat×TV)):List EV:=l.flatMap fun x=>evT x.1 x.2.1 x.2.2
theorem evF_any:∀ (n m:Nat) (p q:Nat) (t:TV),tsz t<=n->tsz t<=m->evF n p q t=evF m p q t
 | 0,_,_,_,t,h,_=>by have:=tsz_pos t;omega
 | _+1,0,_,_,t,_,h=>by have:=tsz_pos t;omega
 | n+1,m+1,p,q,t,h,h'=>by
  rw [evF,evF]
  congr 2
  exact fm_congr _ (fun x hx=>evF_any n m _ _ _ (by have:=kid_lt (kidF_mem hx);omega) (by have:=kid_lt (kidF_mem hx);omega))
theorem evT_eq (p q:Nat)(t:TV):evT p q t=⟨true,p,q,t⟩ :: evL (kidsA t)++[⟨false,p,q,t⟩]:=by
 obtain ⟨n,hn⟩:∃ n,tsz t=n+1:=⟨tsz t - 1,by have:=tsz_pos t;omega⟩
 unfold evT evL
 rw [hn,evF]
 congr 2
 exact fm_congr _ (fun x hx=>evF_any _ _ _ _ _ (by have:=kid_lt (kidF_mem hx);omega) (Nat.le_refl _))
theorem evL_cons (x:Nat×Nat×TV)(l:List (Nat×Nat×TV)):evL (x :: l)=evT x.1 x.2.1 x.2.2++evL l:=rfl
theorem evL_lens (b o:Nat):∀ (i:Nat) (l:List TV),(∀ k∈l,∀ p q,(evT p q k).length=2*szT k)->(evL (kidF b o i l)).length=2*szL l
 | _,[],_=>rfl
 | i,k :: l,h=>by
  rw [kidF,evL_cons,List.length_append,h k List.mem_cons_self,evL_lens b o (i+1) l (fun k' hk=>h k' (List.mem_cons_of_mem _ hk))]
  simp [szL]
  omega
theorem evT_len (t:TV):∀ p q,(evT p q t).length=2*szT t:=by
 induction t using TV.ind with
 | _ t ih =>
  intro p q
  rw [evT_eq,szT_eq]
  have:=evL_lens (kadr t).1 (kadr t).2 0 t.kids ih
  simp only [List.cons_append,List.length_cons,List.length_append,List.length_nil]
  unfold kidsA
  omega
structure ZV where
 p:Nat
 q:Nat
 t:TV
 n:Nat
def ZV.pa (z:ZV):PA:=(z.p,z.q,z.n)
def remZ:List ZV->List EV
 | []=>[]
 | z :: l=>evL ((kidsA z.t).drop z.n)++(⟨false,z.p,z.q,z.t⟩ :: remZ l)
theorem remZ_len:∀ l:List ZV,l.length<=(remZ l).length
 | []=>Nat.le_refl _
 | z :: l=>by
  have:=remZ_len l
  simp only [remZ,List.length_append,List.length_cons]
  omega
structure RdC (w0:World)(p0 q0:Nat)(t0:TV)(St:List EV->World->Prop)(Fin:World->Prop)(E L:FuncId)(ec lc:Array Value):Prop where
 ee:EntW E
 el:EntW L
 tb:TBx w0 p0 q0 t0
 ta:TAt w0 t0
 sz:szT t0<=100000000
 still:∀ D w w',St D w->NoStp w0.heap.size w w'->St D w'
 bel:∀ D w,St D w->Below w0.heap.size w0 w
 enter:∀ D p q t R,D++⟨true,p,q,t⟩ :: R=evT p0 q0 t0->TBx w0 p q t->∀ w,St D w->Calls Tryz.prog E (#[.pointer (some ⟨p,q,none⟩)]++ec) w fun e w'=>∃ r,e=.returned (.bool r)/\OnStp w0.heap.size w w'/\(r=true->St (D++[⟨true,p,q,t⟩]) w')/\(r=false->Fin w')
 leave:∀ D p q t R,D++⟨false,p,q,t⟩ :: R=evT p0 q0 t0->TBx w0 p q t->∀ w,St D w->Calls Tryz.prog L (#[.pointer (some ⟨p,q,none⟩)]++lc) w fun e w'=>e=.returned (.tuple #[])/\OnStp w0.heap.size w w'/\St (D++[⟨false,p,q,t⟩]) w'
structure RdI (w0:World)(p0 q0:Nat)(t0:TV)(St:List EV->World->Prop)(x:List EV×List ZV)(S:List PA)(w:World):Prop where
 st:St x.1 w
 sk:S=x.2.map ZV.pa
 re:x.1++remZ x.2.reverse=evT p0 q0 t0
 zz:∀ z∈x.2,TBx w0 z.p z.q z.t/\TAt w0 z.t/\z.n<=z.t.kids.length/\szT z.t<=100000000
theorem krow_kid {w:World}{ao:Option Addr}{l:List TV}(h:KRow w ao l){n:Nat}(hn:n < l.length):∃ b off,ao=some ⟨b,off,none⟩/\TBx w b (off+n*4) l[n]:=by
 obtain ⟨b,off,e,hb,hc⟩:=h (by intro e;rw [e] at hn;simp at hn)
 obtain ⟨c0,c1,c2,c3⟩:=hc n hn
 have eg:l.getD n .none=l[n]:=by simp [List.getD,hn]
 rw [eg] at c0 c1 c2 c3
 exact ⟨b,off,e,hb,c0,c1,c2,c3⟩
set_option maxHeartbeats 1000000 in
theorem walkAround_R {w0:World}{p0 q0:Nat}{t0:TV}{St:List EV->World->Prop}{Fin:World->Prop}{E L:FuncId}{ec lc:Array Value}(h:RdC w0 p0 q0 t0 St Fin E L ec lc)(w:World)(hw:St [] w) :
  Calls Tryz.prog 34 #[.pointer (some ⟨p0,q0,none⟩),fnV E ec,fnV L lc] w fun e w'=>e=.returned (.tuple #[])/\(St (evT p0 q0 t0) w'∨Fin w'):=by
 have hbl:=h.bel _ _ hw
 refine walkAround_W (N:=w0.heap.size) (I:=RdI w0 p0 q0 t0 St) (μ:=fun x=>(remZ x.2.reverse).length) (Post:=fun w'=>St (evT p0 q0 t0) w'∨Fin w') ?_ p0 q0 w hbl.size ?_
 ·refine ⟨h.ee,h.el,fun x S w w' hi hn=>⟨h.still _ _ _ hi.st hn,hi.sk,hi.re,hi.zz⟩,fun x S w hi=>?_,fun x w hi=>?_,fun x S p q n w hi b m c hs=>?_,fun x S p q n w hi=>?_⟩
  ·have h1:=remZ_len x.2.reverse
   have h2:=congrArg List.length hi.re
   have h3:=evT_len t0 p0 q0
   have h4:=h.sz
   rw [hi.sk,List.length_map]
   rw [List.length_append] at h2
   rw [List.length_reverse] at h1
   omega
  ·have:x.2=[]:=by have:=hi.sk;simpa using this.symm
   have hr:=hi.re
   rw [this] at hr
   simp only [List.reverse_nil,remZ,List.append_nil] at hr
   rw [<- hr]
   exact .inl hi.st
  ·obtain ⟨Z,z,hz⟩:∃ Z z,x.2=Z++[z]:=by
    have:x.2≠[]:=fun e=>by have:=hi.sk;rw [e] at this;simp at this
    exact ⟨x.2.dropLast,x.2.getLast this,(List.dropLast_concat_getLast this).symm⟩
   have hk:=hi.sk
   rw [hz,List.map_append,List.map_singleton] at hk
   have he:=List.append_inj' hk rfl
   have hzp:(p,q,n)=z.pa:=by simpa using he.2
   have hl:=(hi.zz z (by rw [hz];simp)).1.lt
   have hb:=hs.2 b rfl
   unfold ZV.pa at hzp
   simp only [Prod.mk.injEq] at hzp
   omega
  ·obtain ⟨Z,z,hz⟩:∃ Z z,x.2=Z++[z]:=by
    have:x.2≠[]:=fun e=>by have:=hi.sk;rw [e] at this;simp at this
    exact ⟨x.2.dropLast,x.2.getLast this,(List.dropLast_concat_getLast this).symm⟩
   obtain ⟨D,X⟩:=x
   obtain rfl:X=Z++[z]:=hz
   have hk:=hi.sk
   rw [List.map_append,List.map_singleton] at hk
   have he:=List.append_inj' hk rfl
   have hzp:(p,q,n)=z.pa:=by simpa using he.2
   have hS:S=Z.map ZV.pa:=he.1
   obtain ⟨zp,zq,zt,zn⟩:=z
   unfold ZV.pa at hzp
   simp only [Prod.mk.injEq] at hzp
   obtain ⟨rfl,rfl,rfl⟩:=hzp
   obtain ⟨hz1,hz2,hz3,hz4⟩:=hi.zz ⟨p,q,zt,n⟩ (by simp)
   dsimp only at hz1 hz2 hz3 hz4
   have hb:=h.bel _ _ hi.st
   have hre:=hi.re
   dsimp only at hre
   rw [List.reverse_append,List.reverse_singleton,List.singleton_append,remZ] at hre
   have hkl:(kidsA zt).length=zt.kids.length:=kidF_len _ _ _ _
   refine ⟨zt.ka,zt.kids.length,zt.kc,(hz1.later hb).c3,hz3,?_,fun hn=>?_,fun hn=>?_⟩
   ·have h1:=szT_eq zt
    have h2:=szL_len zt.kids
    omega
   ·have hd:(kidsA zt).drop n=[]:=by rw [List.drop_eq_nil_iff];omega
    rw [hd] at hre
    simp only [evL,List.flatMap_nil,List.nil_append] at hre
    refine (h.leave D p q zt _ hre hz1 w hi.st).mono fun e w' ⟨e1,e2,e3⟩=>⟨e1,e2,(D++[⟨false,p,q,zt⟩],Z),?_,e3,hS,?_,fun z hz=>hi.zz z (List.mem_append_left _ hz)⟩
    ·show (remZ Z.reverse).length < (remZ (Z++[_]).reverse).length
     rw [List.reverse_append,List.reverse_singleton,List.singleton_append,remZ]
     simp
     omega
    ·show (D++[_])++remZ Z.reverse=_
     rw [<- hre]
     simp
   ·obtain ⟨b,off,hka,hkt⟩:=krow_kid hz2.row hn
    have hkd:kadr zt=(b,off):=by unfold kadr;rw [hka]
    have hd:(kidsA zt).drop n=(b,off+n*4,zt.kids[n]) :: (kidsA zt).drop (n+1):=by
     have:=kidF_get b off 0 zt.kids n hn
     rw [List.drop_eq_getElem_cons (by omega)]
     congr 1
     have e:(kidsA zt)[n]?=some (b,off+n*4,zt.kids[n]):=by
      unfold kidsA
      rw [hkd]
      simpa using this
     rw [List.getElem?_eq_getElem (by omega)] at e
     exact Option.some.inj e
    have hrn:=hre
    rw [hd,evL_cons,evT_eq] at hrn
    dsimp only at hrn
    refine ⟨b,off,hka,(h.enter D b (off+n*4) zt.kids[n] (evL (kidsA zt.kids[n])++((⟨false,b,off+n*4,zt.kids[n]⟩:EV) :: (evL ((kidsA zt).drop (n+1))++((⟨false,p,q,zt⟩:EV) :: remZ Z.reverse)))) ?_ hkt w hi.st).mono fun e w' ⟨r,e1,e2,e3,e4⟩=>⟨r,e1,e2,fun hr=>⟨((D++[(⟨true,b,off+n*4,zt.kids[n]⟩:EV)],Z++[(⟨p,q,zt,n+1⟩:ZV)]++[(⟨b,off+n*4,zt.kids[n],0⟩:ZV)]):List EV×List ZV),?_,e3 hr,?_,?_,?_⟩,fun hr=>.inr (e4 hr)⟩⟩
    ·rw [<- hrn];simp
    ·show (remZ (Z++[_]++[_]).reverse).length < (remZ (Z++[_]).reverse).length
     simp only [List.reverse_append,List.reverse_singleton,List.singleton_append,remZ,List.drop_zero]
     rw [hd,evL_cons,evT_eq]
     simp
    ·rw [hS];simp [ZV.pa]
    ·simp only [List.reverse_append,List.reverse_singleton,List.singleton_append,remZ,List.drop_zero]
     rw [<- hrn];simp
    ·intro z hz
     rcases List.mem_append.1 hz with hz | hz
     ·rcases List.mem_append.1 hz with hz | hz
      ·exact hi.zz z (List.mem_append_left _ hz)
      ·simp only [List.mem_cons,List.not_mem_nil,or_false] at hz
       subst hz
       exact ⟨hz1,hz2,hn,hz4⟩
     ·simp only [List.mem_cons,List.not_mem_nil,or_false] at hz
      subst hz
      exact ⟨hkt,hz2.kid _ (List.getElem_mem hn),Nat.zero_le _,by
       have h1:=szL_mem (List.getElem_mem hn)
       have h2:=szT_eq zt
       show szT zt.kids[n]<=_
       omega⟩
 ·have he:=evT_eq p0 q0 t0
  refine (h.enter [] p0 q0 t0 (evL (kidsA t0)++[⟨false,p0,q0,t0⟩]) (by rw [he];rfl) h.tb w hw).mono fun e w' ⟨r,e1,e2,e3,e4⟩=>⟨r,e1,e2.size,fun hr=>⟨([⟨true,p0,q0,t0⟩],[⟨p0,q0,t0,0⟩]),e3 hr,rfl,?_,?_⟩,fun hr=>.inr (e4 hr)⟩
  ·show [_]++remZ [_]=_
   rw [he,remZ,remZ]
   simp
  ·intro z hz
   simp only [List.mem_cons,List.not_mem_nil,or_false] at hz
   subst hz
   exact ⟨h.tb,h.ta,Nat.zero_le _,h.sz⟩
set_option maxRecDepth 100000 in
set_option maxHeartbeats 2000000 in
theorem isLeaf_W (p q:Nat)(t:TV)(w:World)(h:TBx w p q t):Calls Tryz.prog 36 #[.pointer (some ⟨p,q,none⟩)] w fun e w'=>e=.returned (.bool (t.prod == -1))/\w'=w:=by
 have c0:=h.c0
 clear h
 go_enter Tryz.func36,Tryz.ntmps36
 go_wp2
 go_ret
 exact ⟨rfl,rfl⟩
theorem leave1_W (p q:Nat)(w:World):Calls Tryz.prog 77 #[.pointer (some ⟨p,q,none⟩)] w fun e w'=>e=.returned (.tuple #[])/\w'=w:=by
 go_enter Tryz.func77,Tryz.ntmps77
 go_wp2
 refine bodyPost_end (results_none rfl _ _ _) rfl ?_
 exact ⟨rfl,rfl⟩
theorem ent_leave1:EntW 77:=fun _ _=>by kernel_rfl
structure RdW (w0:World)(p0 q0:Nat)(t0:TV)(St:List EV->World->Prop)(Fin:World->Prop)(E:FuncId)(ec:Array Value):Prop where
 ee:EntW E
 tb:TBx w0 p0 q0 t0
 ta:TAt w0 t0
 sz:szT t0<=100000000
 still:∀ D w w',St D w->NoStp w0.heap.size w w'->St D w'
 bel:∀ D w,St D w->Below w0.heap.size w0 w
 enter:∀ D p q t R,D++⟨true,p,q,t⟩ :: R=evT p0 q0 t0->TBx w0 p q t->∀ w,St D w->Calls Tryz.prog E (#[.pointer (some ⟨p,q,none⟩)]++ec) w fun e w'=>∃ r,e=.returned (.bool r)/\OnStp w0.heap.size w w'/\(r=true->St (D++[⟨true,p,q,t⟩]) w')/\(r=false->Fin w')
 leave:∀ D p q t R w,D++⟨false,p,q,t⟩ :: R=evT p0 q0 t0->St D w->St (D++[⟨false,p,q,t⟩]) w
set_option maxRecDepth 100000 in
set_option maxHeartbeats 2000000 in
theorem walk_R {w0:World}{p0 q0:Nat}{t0:TV}{St:List EV->World->Prop}{Fin:World->Prop}{E:FuncId}{ec:Array Value}(h:RdW w0 p0 q0 t0 St Fin E ec)(w:World)(hw:St [] w) :
  Calls Tryz.prog 44 #[.pointer (some ⟨p0,q0,none⟩),fnV E ec] w fun e w'=>e=.returned (.tuple #[])/\(St (evT p0 q0 t0) w'∨Fin w'):=by
 have CW:Hid (Calls Tryz.prog 34 #[.pointer (some ⟨p0,q0,none⟩),fnV E ec,fnV 77 #[]] w fun e w'=>e=.returned (.tuple #[])/\(St (evT p0 q0 t0) w'∨Fin w')):=walkAround_R (L:=77) (lc:=#[]) ⟨h.ee,ent_leave1,h.tb,h.ta,h.sz,h.still,h.bel,h.enter,fun D p q t R hD _ w hs=>(leave1_W p q w).mono fun e w' ⟨e1,e2⟩=>⟨e1,by rw [e2];exact OnStp.refl _ _,by rw [e2];exact h.leave _ _ _ _ _ _ hD hs⟩⟩ w hw
 clear h hw
 go_enter Tryz.func44,Tryz.ntmps44
 go_wp2_with (go_at_call 34;refine CW.out.mono ?_;rintro e w1 ⟨rfl,h1⟩;have R:Hid (St (evT p0 q0 t0) w1∨Fin w1):=h1;clear h1)
 refine bodyPost_end (results_none rfl _ _ _) rfl ?_
 exact ⟨rfl,R.out⟩
def preT (t:TV):List TV:=(plT 0 t).map (·.t)
def preL (l:List TV):List TV:=l.flatMap preT
theorem pre_depth (d:Int)(t:TV):(plT d t).map (·.t)=preT t:=by
 unfold preT
 induction t using TV.ind generalizing d with
 | _ t ih =>
  rw [plT_eq,plT_eq 0]
  simp only [List.map_cons]
  congr 1
  have:∀ (d e:Int) (l:List TV),(∀ k∈l,∀ d,(plT d k).map (·.t)=(plT 0 k).map (·.t))->(plL d l).map (·.t)=(plL e l).map (·.t):=by
   intro d e l
   induction l with
   | nil=>intro _;rfl
   | cons a l ihl =>
    intro hl
    rw [plL_cons,plL_cons,List.map_append,List.map_append,ihl (fun k hk=>hl k (List.mem_cons_of_mem _ hk)),hl a List.mem_cons_self d,hl a List.mem_cons_self e]
  exact this _ _ t.kids (fun k hk=>ih k hk)
theorem preT_eq (t:TV):preT t=t :: preL t.kids:=by
 have:∀ l:List TV,(plL 1 l).map (·.t)=preL l:=by
  intro l
  induction l with
  | nil=>rfl
  | cons a l ihl=>rw [plL_cons,List.map_append,ihl,pre_depth];rfl
 conv=>lhs;unfold preT
 rw [plT_eq,List.map_cons,Int.zero_add,this]
theorem preT_len (t:TV):(preT t).length=szT t:=by unfold preT szT;rw [List.length_map]
def enE (D:List EV):List TV:=(D.filter (·.en)).map (·.t)
theorem enE_app (D R:List EV):enE (D++R)=enE D++enE R:=by simp [enE]
theorem enE_in (p q:Nat)(t:TV):enE [⟨true,p,q,t⟩]=[t]:=rfl
theorem enE_out (p q:Nat)(t:TV):enE [⟨false,p,q,t⟩]=[]:=rfl
theorem evL_pre (b o:Nat):∀ (i:Nat) (l:List TV),(∀ k∈l,∀ p q,enE (evT p q k)=preT k)->enE (evL (kidF b o i l))=preL l
 | _,[],_=>rfl
 | i,k :: l,h=>by
  rw [kidF,evL_cons,enE_app,h k List.mem_cons_self,evL_pre b o (i+1) l (fun k' hk=>h k' (List.mem_cons_of_mem _ hk))]
  rfl
theorem ev_pre (t:TV):∀ p q,enE (evT p q t)=preT t:=by
 induction t using TV.ind with
 | _ t ih =>
  intro p q
  rw [evT_eq,<- List.singleton_append,enE_app,enE_app,enE_in,enE_out,List.append_nil,preT_eq]
  unfold kidsA
  rw [evL_pre _ _ _ _ ih]
  rfl
theorem enE_len (D:List EV):(enE D).length<=D.length:=by
 unfold enE
 rw [List.length_map]
 exact List.length_filter_le _ _
theorem ev_bound {D R:List EV}{x:EV}{p q:Nat}{t:TV}(h:D++x :: R=evT p q t)(hs:szT t<=100000000):D.length < 200000000:=by
 have:=congrArg List.length h
 rw [evT_len,List.length_append,List.length_cons] at this
 omega
def leafT (l:List TV):List TV:=l.filter fun t=>decide (t.prod=-1)
theorem leafT_app (l m:List TV):leafT (l++m)=leafT l++leafT m:=by simp [leafT]
theorem not_stp {cs:Array Value}{t:TypeId}{fz:Nat×Nat}(ht:(t == 131)=false):¬ Stp (.cells cs t fz):=fun ⟨_,_,e⟩=>by
 simp only [Obj.cells.injEq] at e
 rw [e.2.1] at ht
 simp at ht
theorem NoStp.bel {w0 w w':World}(h:NoStp w0.heap.size w w')(hb:Below w0.heap.size w0 w):Below w0.heap.size w0 w' :=
 ⟨h.os.trans hb.os,h.tape.trans hb.tape,h.output.trans hb.output,Nat.le_trans hb.size h.size,fun j hj=>by
  have e:=hb.block j hj
  rw [<- e]
  have hj':j < w.heap.size:=Nat.lt_of_lt_of_le hj hb.size
  rw [Array.getElem?_eq_getElem hj']
  exact h.keep j _ (Array.getElem?_eq_getElem hj') (fun ⟨q,_⟩=>by omega)⟩
theorem cellW {w w':World}{p:Addr}{v:Value}(hb:Below w.heap.size w w')(h:w.cell? p=some v):w'.cell? p=some v:=by
 have hlt:p.block < w.heap.size:=by
  apply Classical.byContradiction
  intro e
  have:w.heap[p.block]?=none:=Array.getElem?_eq_none (by omega)
  unfold World.cell? at h
  rw [this] at h
  cases h
 rw [hb.cell (p:=p) hlt]
 exact h
structure MS where
 pl:Int
 lf:Int
 ht:Int
 dp:Int
 cv:Int
abbrev iBox (x:Int):Obj:=.cells #[.int .i64 x] 3
end Go.Proofs.YteciabdjkaackaaGreat
