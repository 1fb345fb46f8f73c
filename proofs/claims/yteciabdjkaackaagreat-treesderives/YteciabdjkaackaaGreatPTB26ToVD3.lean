import Derived.Test.YteciabdjkaackaaGreatPTB24ToTB25
import Derived.Test.YteciabdjkaackaaGreatPUB0ToUB1
namespace Go.Proofs.YteciabdjkaackaaGreat
set_option linter.unusedVariables false
open Go.RowKit
def nds (t:TV):List Int:=nodP (preT t)
def lvs (t:TV):List (Int×ByteArray):=(leafT (preT t)).map tkV
theorem nds_eq (t:TV):nds t=(if t.prod=-1 then [] else [t.prod])++t.kids.flatMap nds:=by
 have e:∀ l:List TV,nodP (preL l)=l.flatMap nds:=fun l=>by
  induction l with
  | nil=>rfl
  | cons a l ih=>rw [preL,List.flatMap_cons,nodP_app,List.flatMap_cons,<- ih];rfl
 unfold nds
 rw [preT_eq,<- List.singleton_append,nodP_app,e]
 congr 1
 unfold nodP
 by_cases h:t.prod=-1
 ·simp [h]
 ·simp [h]
theorem lvs_eq (t:TV):lvs t=(if t.prod=-1 then [tkV t] else [])++t.kids.flatMap lvs:=by
 have e:∀ l:List TV,(leafT (preL l)).map tkV=l.flatMap lvs:=fun l=>by
  induction l with
  | nil=>rfl
  | cons a l ih=>rw [preL,List.flatMap_cons,leafT_app,List.map_append,List.flatMap_cons,<- ih];rfl
 unfold lvs
 rw [preT_eq,<- List.singleton_append,leafT_app,List.map_append,e]
 congr 1
 unfold leafT
 by_cases h:t.prod=-1
 ·simp [h]
 ·simp [h]
def Gd1 (g:GV)(x:TV):Prop:=alTU g x=0/\(x.prod≠-1->x.kids.map (rootU g)=rightU g x)
def GdT (g:GV)(t:TV):Prop:=AllP (Gd1 g) t
theorem gd_leaf {g:GV}{t:TV}(h:Gd1 g t)(hp:t.prod=-1):0<=t.kind/\t.kind < g.ts.length/\t.kids=[]:=by
 have:=h.1
 unfold alTU at this
 rw [if_pos hp] at this
 split at this
 ·cases this
 ·rename_i q
  refine ⟨by omega,by omega,List.eq_nil_of_length_eq_zero (by omega)⟩
theorem ckL_er {g:GV}:∀ (r:List (Int×Int)) (l:List TV),l.map (rootU g)=r->(∀ k∈l,∀ s,rootU g k=s->∀ x∈ckT g s true k,erU g x=0)->∀ x∈ckL g r l,erU g x=0
 | _,[],_,_,x,hx=>by rw [ckL_nil] at hx;cases hx
 | r,t :: l,hr,h,x,hx=>by
  rw [ckL_cons] at hx
  rw [List.map_cons] at hr
  subst hr
  rcases List.mem_append.1 hx with hx | hx
  ·exact h t (List.mem_cons_self ..) _ rfl x hx
  ·exact ckL_er _ l rfl (fun k hk=>h k (List.mem_cons_of_mem _ hk)) x hx
theorem gd_er {g:GV}(t:TV):GdT g t->∀ s u,(u=true->rootU g t=s)->∀ x∈ckT g s u t,erU g x=0:=by
 induction t using TV.ind with
 | _ t ih =>
  intro h s u hu x hx
  have h1:=AllP.here h
  rw [ckT_eq] at hx
  rcases List.mem_cons.1 hx with rfl | hx
  ·unfold erU
   rw [if_neg (by simp [h1.1]),if_neg (fun q=>q.2 (hu q.1))]
  ·by_cases hp:t.prod=-1
   ·rw [(gd_leaf h1 hp).2.2,ckL_nil] at hx
    cases hx
   ·exact ckL_er _ _ (h1.2 hp) (fun k hk s hs=>ih k hk (AllP.kid h k hk) s true fun _=>hs) x hx
theorem er_gd {g:GV}(t:TV):∀ s u,(∀ x∈ckT g s u t,erU g x=0)->GdT g t:=by
 induction t using TV.ind with
 | _ t ih =>
  intro s u h
  have h0:=h ⟨t,0,s,u⟩ (by rw [ckT_eq];exact List.mem_cons_self ..)
  have hal:alTU g t=0:=by
   unfold erU at h0
   by_cases q:alTU g t=0
   ·exact q
   ·rw [if_pos q] at h0
    exact h0
  have hL:∀ x∈ckL g (rightU g t) t.kids,erU g x=0:=fun x hx=>h x (by rw [ckT_eq];exact List.mem_cons_of_mem _ hx)
  refine AllP.mk ⟨hal,fun hp=>?_⟩ fun k hk=>?_
  ·have hl:t.kids.length=(rightU g t).length:=by
    unfold alTU at hal
    rw [if_neg hp] at hal
    split at hal
    ·cases hal
    ·rename_i q
     simp only [not_or,Decidable.not_not] at q
     exact q.2.2.2.2
   exact ckL_roots _ _ hl hL
  ·obtain ⟨s',hs'⟩:=ckL_mem (g:=g) (rightU g t) t.kids k hk
   exact ih k hk s' true fun x hx=>hL x (hs' x hx)
theorem run_all {g:GV}:∀ (l:List SP) (n:Nat),(∀ x∈l,erU g x=0)->runU g l n=(0,n+l.length)
 | [],_,_=>rfl
 | y :: l,n,h=>by
  rw [runU,if_neg (by simp [h y (List.mem_cons_self ..)]),run_all l (n+1) fun x hx=>h x (List.mem_cons_of_mem _ hx),List.length_cons]
  congr 1
  omega
theorem ck_len {g:GV}(t:TV):∀ s u,(ckT g s u t).length=szT t:=by
 induction t using TV.ind with
 | _ t ih =>
  intro s u
  have e:∀ (l:List TV) (r:List (Int×Int)),(∀ k∈l,∀ s u,(ckT g s u k).length=szT k)->(ckL g r l).length=szL l:=fun l=>by
   induction l with
   | nil=>intro r _;rw [ckL_nil];rfl
   | cons a l il =>
    intro r h
    rw [ckL_cons,List.length_append,il _ fun k hk=>h k (List.mem_cons_of_mem _ hk),h a (List.mem_cons_self ..),szL_cons]
  rw [ckT_eq,List.length_cons,szT_eq,e _ _ ih]
theorem gd_run {g:GV}{t:TV}(h:GdT g t):runU g (ckT g (0,0) false t) 0=(0,szT t):=by
 rw [run_all _ _ (gd_er t h (0,0) false fun e=>by cases e),ck_len,Nat.zero_add]
theorem run_gd {g:GV}{t:TV}(h:(runU g (ckT g (0,0) false t) 0).1=0):GdT g t:=er_gd t _ _ (runU_zero _ _ h)
def seqF {β:Type}(φ:TV->List β)(h:Int->List β)(S:List FrB):List β:=S.reverse.flatMap fun f=>h f.p++f.ks.flatMap φ
def seqA {β:Type}(φ:TV->List β)(h:Int->List β)(A:AB):List β:=A.1.flatMap φ++seqF φ h A.2
theorem seqF_cons {β:Type}(φ:TV->List β)(h:Int->List β)(f:FrB)(S:List FrB):seqF φ h (f :: S)=seqF φ h S++(h f.p++f.ks.flatMap φ):=by
 unfold seqF
 rw [List.reverse_cons,List.flatMap_append]
 simp
theorem seq_ad {β:Type}(φ:TV->List β)(h:Int->List β)(A:AB)(t:TV):seqA φ h (A:=adA A t)=seqA φ h A++(if A.2=[] then φ t else φ t):=by
 obtain ⟨D,S⟩:=A
 cases S with
 | nil =>
  show (D++[t]).flatMap φ++seqF φ h []=D.flatMap φ++seqF φ h []++_
  rw [if_pos rfl,List.flatMap_append]
  simp [seqF]
 | cons f S =>
  show D.flatMap φ++seqF φ h (⟨f.p,f.k,f.ks++[t]⟩ :: S)=D.flatMap φ++seqF φ h (f :: S)++_
  rw [if_neg (by simp),seqF_cons,seqF_cons,List.flatMap_append]
  simp
theorem seq_add {β:Type}(φ:TV->List β)(h:Int->List β)(A:AB)(t:TV):seqA φ h (adA A t)=seqA φ h A++φ t:=by
 rw [seq_ad,ite_self]
theorem seq_cl {β:Type}(φ:TV->List β)(h:Int->List β):∀ (S:List FrB) (D:List TV),(∀ f∈S,0<=f.p)->(∀ f:FrB,0<=f.p->φ (ndT f)=h f.p++f.ks.flatMap φ)->seqA φ h (clU2 (D,S))=seqA φ h (D,S)
 | [],D,_,_=>by rw [clU2_nil]
 | f :: S,D,hp,hf=>by
  rw [clU2_cons]
  by_cases hk:f.ks.length=f.k
  ·rw [if_pos hk]
   have e:seqA φ h (adA (D,S) (ndT f))=seqA φ h (D,f :: S):=by
    rw [seq_add,hf f (hp f (by simp))]
    show D.flatMap φ++seqF φ h S++_=D.flatMap φ++seqF φ h (f :: S)
    rw [seqF_cons,List.append_assoc]
   rw [<- e]
   cases S with
   | nil=>exact seq_cl φ h [] _ (fun _ h=>by cases h) hf
   | cons g' S =>
    refine seq_cl φ h (⟨g'.p,g'.k,g'.ks++[ndT f]⟩ :: S) D (fun x hx=>?_) hf
    rcases List.mem_cons.1 hx with rfl | hx
    ·exact hp g' (by simp)
    ·exact hp x (by simp [hx])
  ·rw [if_neg hk]
termination_by S=>S.length
theorem nds_nd (f:FrB)(h:0<=f.p):nds (ndT f)=[f.p]++f.ks.flatMap nds:=by
 rw [nds_eq]
 show (if f.p=-1 then [] else [f.p])++f.ks.flatMap nds=_
 rw [if_neg (by omega)]
theorem lvs_nd (f:FrB)(h:0<=f.p):lvs (ndT f)=[]++f.ks.flatMap lvs:=by
 rw [lvs_eq]
 show (if f.p=-1 then [tkV (ndT f)] else [])++f.ks.flatMap lvs=_
 rw [if_neg (by omega)]
abbrev nodA (A:AB):List Int:=seqA nds (fun p=>[p]) A
abbrev leaA (A:AB):List (Int×ByteArray):=seqA lvs (fun _=>[]) A
theorem nodA_cl (A:AB)(h:∀ f∈A.2,0<=f.p):nodA (clU2 A)=nodA A:=seq_cl _ _ A.2 A.1 h nds_nd
theorem leaA_cl (A:AB)(h:∀ f∈A.2,0<=f.p):leaA (clU2 A)=leaA A:=seq_cl _ _ A.2 A.1 h lvs_nd
def rgP (g:GV)(p:Int):List (Int×Int):=(g.ps.getD p.toNat .none).right
def lfP (g:GV)(p:Int):Int:=(g.ps.getD p.toNat .none).left
structure FOk (g:GV)(f:FrB):Prop where
 ok:OkF g f
 rt:f.ks.map (rootU g)=(rgP g f.p).take f.ks.length
 gd:∀ k∈f.ks,GdT g k
def lnk (g:GV)(f:FrB):List FrB->Prop
 | []=>True
 | f' :: _=>(rgP g f'.p)[f'.ks.length]?=some (2,lfP g f.p)
def WfS (g:GV):List FrB->Prop
 | []=>True
 | f :: S=>FOk g f/\lnk g f S/\WfS g S
theorem WfS.pos {g:GV}:∀ {S:List FrB},WfS g S->∀ f∈S,0<=f.p
 | [],_,f,hf=>by cases hf
 | f' :: S,h,f,hf=>by
  rcases List.mem_cons.1 hf with rfl | hf
  ·exact h.1.ok.1
  ·exact WfS.pos h.2.2 f hf
theorem FOk.tree {g:GV}{f:FrB}(h:FOk g f)(hk:f.ks.length=f.k):GdT g (ndT f)/\rootU g (ndT f)=(2,lfP g f.p):=by
 obtain ⟨h1,h2,h3⟩:=h.ok
 have hr:f.ks.map (rootU g)=rgP g f.p:=by
  rw [h.rt,hk,h3]
  exact List.take_length
 have hl:f.ks.length=(rgP g f.p).length:=by rw [<- hr,List.length_map]
 have e1:(ndT f).prod=f.p:=rfl
 have e2:(ndT f).kind=0:=rfl
 have e3:(ndT f).tx=ByteArray.empty:=rfl
 have e4:(ndT f).kids=f.ks:=rfl
 have e5:rightU g (ndT f)=rgP g f.p:=rfl
 refine ⟨AllP.mk ⟨?_,fun _=>by rw [e4,e5];exact hr⟩ (by rw [e4];exact h.gd),?_⟩
 ·unfold alTU
  rw [e1,e2,e3,e4,e5,if_neg (by omega),if_neg]
  simp only [not_or,Decidable.not_not]
  refine ⟨by omega,by omega,trivial,?_,hl⟩
  rw [ByteArray.toList_eq];rfl
 ·unfold rootU
  rw [e1,if_neg (by omega),if_pos ⟨h1,h2⟩]
  rfl
theorem FOk.add {g:GV}{f:FrB}(h:FOk g f){t:TV}(ht:GdT g t)(hr:(rgP g f.p)[f.ks.length]?=some (rootU g t)):FOk g ⟨f.p,f.k,f.ks++[t]⟩:=by
 refine ⟨h.ok,?_,fun k hk=>?_⟩
 ·show (f.ks++[t]).map (rootU g)=(rgP g f.p).take (f.ks++[t]).length
  rw [List.map_append,h.rt,List.length_append,List.length_singleton,List.take_add_one,hr]
  rfl
 ·rcases List.mem_append.1 hk with hk | hk
  ·exact h.gd k hk
  ·simp only [List.mem_cons,List.not_mem_nil,or_false] at hk
   rw [hk];exact ht
structure InA (g:GV)(A:AB):Prop where
 wf:WfS g A.2
 dg:∀ t∈A.1,GdT g t
 d1:A.1=[]∨A.2=[]/\∃ t,A.1=[t]
theorem WfS.add {g:GV}{S:List FrB}{t:TV}(h:WfS g S)(ht:GdT g t)(hl:∀ f∈S.head?,(rgP g f.p)[f.ks.length]?=some (rootU g t)):WfS g (adA ([],S) t).2:=by
 cases S with
 | nil=>exact trivial
 | cons f S =>
  obtain ⟨h1,h2,h3⟩:=h
  refine ⟨h1.add ht (hl f (by simp)),?_,h3⟩
  cases S with
  | nil=>trivial
  | cons f' S=>exact h2
theorem inA_add {g:GV}{S:List FrB}{t:TV}(h:WfS g S)(ht:GdT g t)(hl:∀ f∈S.head?,(rgP g f.p)[f.ks.length]?=some (rootU g t)):InA g (adA ([],S) t):=by
 refine ⟨h.add ht hl,fun x hx=>?_,?_⟩
 ·cases S with
  | nil =>
   have hx':x∈[t]:=hx
   simp only [List.mem_cons,List.not_mem_nil,or_false] at hx'
   rw [hx'];exact ht
  | cons f S=>cases hx
 ·cases S with
  | nil=>exact .inr ⟨rfl,t,rfl⟩
  | cons f S=>exact .inl rfl
theorem inA_cl {g:GV}:∀ (S:List FrB) (D:List TV),InA g (D,S)->InA g (clU2 (D,S))
 | [],D,h=>by rw [clU2_nil];exact h
 | f :: S,D,h=>by
  rw [clU2_cons]
  by_cases hk:f.ks.length=f.k
  ·rw [if_pos hk]
   have hD:D=[]:=by
    rcases h.d1 with e | ⟨e,_⟩
    ·exact e
    ·cases e
   subst hD
   obtain ⟨h1,h2,h3⟩:=h.wf
   obtain ⟨q1,q2⟩:=h1.tree hk
   have hin:=inA_add (S:=S) h3 q1 (fun f' hf'=>by
    cases S with
    | nil=>cases hf'
    | cons f'' S =>
     simp only [List.head?_cons,Option.mem_def,Option.some.injEq] at hf'
     subst hf'
     rw [q2]
     exact h2)
   cases S with
   | nil=>exact inA_cl [] _ hin
   | cons g' S=>exact inA_cl (⟨g'.p,g'.k,g'.ks++[ndT f]⟩ :: S) [] hin
  ·rw [if_neg hk]
   exact h
termination_by S=>S.length
structure InD (g:GV)(l:List Int)(L:List (Int×ByteArray))(x:DvU):Prop where
 a:InA g x.A
 ns:nodA x.A=l.take x.u
 ls:leaA x.A=L.take x.r
theorem ind_start (g:GV)(l:List Int)(L:List (Int×ByteArray)):InD g l L ⟨0,0,([],[])⟩:=⟨⟨trivial,(fun t h=>by cases h),.inl rfl⟩,rfl,rfl⟩
theorem take_next {β:Type}{l:List β}{u:Nat}{d:β}(h:u < l.length):l.take (u+1)=l.take u++[l.getD u d]:=by
 rw [List.take_add_one,List.getElem?_eq_getElem h]
 simp [List.getD,h]
theorem ind_step {g:GV}{l:List Int}{L:List (Int×ByteArray)}{x y:DvU}(okc:OkC g)(hl:∀ n∈l,0<=n/\n < g.ps.length)(ho:OkD2 g l L x)(h:InD g l L x)(hw:wU_ x.A=false)(hs:stepU g l L x=.inr y):InD g l L y:=by
 obtain ⟨u,r,D,S⟩:=x
 obtain ⟨⟨h1,h2,h3⟩,h4,h5⟩:=h
 have o1:=ho.ok
 dsimp only at h1 h2 h3 h4 h5 hw o1
 have hD:D=[]:=by
  rcases h3 with e | ⟨e,t,e'⟩
  ·exact e
  ·subst e e'
   simp [wU_] at hw
 subst hD
 have hpos:=h1.pos
 -- what is next
 have hnx:∀ f∈S.head?,(rgP g f.p)[f.ks.length]?=some (nextU g l ([],S))/\inG g (nextU g l ([],S)).1 (nextU g l ([],S)).2=true:=fun f hf=>by
  cases S with
  | nil=>cases hf
  | cons f' S =>
   simp only [List.head?_cons,Option.mem_def,Option.some.injEq] at hf
   subst hf
   obtain ⟨⟨a1,a2,a3⟩,a4⟩:=o1 f' (by simp)
   have hlt:f'.ks.length < (rgP g f'.p).length:=by rw [a3] at a4;exact a4
   have e:nextU g l ([],f' :: S)=(rgP g f'.p)[f'.ks.length]:=by
    show (rgP g f'.p).getD f'.ks.length (0,0)=_
    simp [List.getD,hlt]
   rw [e]
   exact ⟨List.getElem?_eq_getElem hlt,okc.inG f'.p.toNat (by omega) _ (List.getElem_mem hlt)⟩
 unfold stepU at hs
 dsimp only at hs
 split at hs
 ·rename_i hk
  split at hs
  ·cases hs
  ·rename_i hr
   split at hs
   ·rename_i hkd
    cases hs
    have hrl:r < L.length:=by have:=ho.rl;dsimp only at this;omega
    have hne:S≠[]:=fun e=>by
     subst e
     have:(nextU g l ([],[])).1=2:=rfl
     rw [this] at hk
     cases hk
    obtain ⟨f,S',rfl⟩:=List.exists_cons_of_ne_nil hne
    obtain ⟨n1,n2⟩:=hnx f (by simp)
    have hin:0<=(nextU g l ([],f :: S')).2/\(nextU g l ([],f :: S')).2 < g.ts.length:=by
     rcases inG_is n2 with ⟨_,q1,q2⟩ | ⟨q,_⟩
     ·exact ⟨q1,q2⟩
     ·rw [hk] at q;cases q
    have hgd:GdT g (wordU L r):=by
     have e1:(wordU L r).prod=-1:=rfl
     have e2:(wordU L r).kind=(L.getD r (0,ByteArray.empty)).1:=rfl
     have e3:(wordU L r).kids=[]:=rfl
     refine AllP.mk ⟨?_,fun e=>absurd e1 e⟩ (by rw [e3];intro k hk;cases hk)
     unfold alTU
     rw [if_pos e1,if_neg]
     rw [e2,e3,hkd]
     simp only [List.length_nil]
     omega
    have hro:rootU g (wordU L r)=nextU g l ([],f :: S'):=by
     have e1:(wordU L r).prod=-1:=rfl
     have e2:(wordU L r).kind=(L.getD r (0,ByteArray.empty)).1:=rfl
     unfold rootU
     rw [e1,e2,hkd,if_pos ⟨rfl,hin⟩,<- hk]
    have hA:=inA_add (S:=f :: S') h1 hgd (fun f' hf'=>by rw [hro];exact (hnx f' hf').1)
    have hp2:∀ f'∈(adA ([],f :: S') (wordU L r)).2,0<=f'.p:=hA.wf.pos
    refine ⟨inA_cl _ _ hA,?_,?_⟩
    ·show nodA (clU2 (adA ([],f :: S') (wordU L r)))=_
     rw [nodA_cl _ hp2,nodA,seq_add]
     have e:nds (wordU L r)=[]:=by rw [nds_eq];rfl
     rw [e,List.append_nil]
     exact h4
    ·show leaA (clU2 (adA ([],f :: S') (wordU L r)))=L.take (r+1)
     rw [leaA_cl _ hp2,leaA,seq_add,take_next (d:=(0,ByteArray.empty)) hrl]
     have e:lvs (wordU L r)=[L.getD r (0,ByteArray.empty)]:=by rw [lvs_eq];rfl
     rw [e]
     congr 1
   ·cases hs
 ·rename_i hk
  split at hs
  ·cases hs
  ·rename_i hu
   split at hs
   ·rename_i hlf
    cases hs
    have hul:u < l.length:=by have:=ho.ul;dsimp only at this;omega
    have hm:l.getD u 0∈l:=by simp [List.getD,hul]
    obtain ⟨m1,m2⟩:=hl _ hm
    have hF:FOk g (prodU2 g (l.getD u 0)):=⟨⟨m1,m2,rfl⟩,rfl,fun k hk=>by cases hk⟩
    have hlk:lnk g (prodU2 g (l.getD u 0)) S:=by
     cases S with
     | nil=>trivial
     | cons f' S =>
      obtain ⟨n1,n2⟩:=hnx f' (by simp)
      show (rgP g f'.p)[f'.ks.length]?=some (2,lfP g (l.getD u 0))
      rw [n1]
      rcases inG_is n2 with ⟨q,_⟩ | ⟨q,_⟩
      ·exact absurd q hk
      ·refine congrArg some ?_
       refine Prod.ext q ?_
       exact hlf.symm
    have hA:InA g ([],prodU2 g (l.getD u 0) :: S):=⟨⟨hF,hlk,h1⟩,(fun t h=>by cases h),.inl rfl⟩
    have hp2:∀ f'∈prodU2 g (l.getD u 0) :: S,0<=f'.p:=hA.wf.pos
    refine ⟨inA_cl _ _ hA,?_,?_⟩
    ·show nodA (clU2 ([],prodU2 g (l.getD u 0) :: S))=l.take (u+1)
     rw [nodA_cl _ hp2,take_next (d:=0) hul,<- h4]
     show []++seqF _ _ (prodU2 g (l.getD u 0) :: S)=[]++seqF _ _ S++_
     rw [seqF_cons]
     rfl
    ·show leaA (clU2 ([],prodU2 g (l.getD u 0) :: S))=L.take r
     rw [leaA_cl _ hp2,<- h5]
     show []++seqF _ _ (prodU2 g (l.getD u 0) :: S)=[]++seqF _ _ S
     rw [seqF_cons]
     simp [prodU2]
   ·cases hs
theorem ind_der {g:GV}{l:List Int}{L:List (Int×ByteArray)}(okc:OkC g)(hl:∀ n∈l,0<=n/\n < g.ps.length):∀ (n:Nat) (x y:DvU),OkD2 g l L x->InD g l L x->derU g l L n x=.inr y->InD g l L y
 | 0,x,y,_,h,hd=>by cases hd;exact h
 | n+1,x,y,ho,h,hd=>by
  rw [derU] at hd
  cases hw:wU_ x.A with
  | true =>
   rw [if_pos hw] at hd
   cases hd
   exact h
  | false =>
   rw [if_neg (by rw [hw];decide)] at hd
   cases hs:stepU g l L x with
   | inl f=>rw [hs] at hd;cases hd
   | inr z =>
    rw [hs] at hd
    exact ind_der okc hl n z y (ok_step hl ho hs).1 (ind_step okc hl ho h hw hs) hd
theorem derive_ok {g:GV}{l:List Int}{L:List (Int×ByteArray)}(okc:OkC g)(hl:∀ n∈l,0<=n/\n < g.ps.length){t:TV}{e1 e2:Int}(h:deriveU g l L=(some t,e1,e2)):GdT g t/\nds t=l/\lvs t=L:=by
 unfold deriveU at h
 cases hd:derU g l L (l.length+L.length+1) ⟨0,0,([],[])⟩ with
 | inl f=>rw [hd] at h;cases h
 | inr y =>
  rw [hd] at h
  dsimp only at h
  obtain ⟨hw,ho⟩:=der_ok hl _ _ _ (ok_start g l L) (by dsimp only;omega) hd
  have hi:=ind_der okc hl _ _ _ (ok_start g l L) (ind_start g l L) hd
  have k1:=ho.ul
  have k2:=ho.rl
  split at h
  ·cases h
  ·split at h
   ·cases h
   ·obtain ⟨u,r,D,S⟩:=y
    dsimp only at h k1 k2
    have eu:u=l.length:=by dsimp only at *;omega
    have er:r=L.length:=by dsimp only at *;omega
    unfold wU_ at hw
    simp only [Bool.and_eq_true,Bool.not_eq_true',List.isEmpty_iff,List.isEmpty_eq_false_iff] at hw
    obtain ⟨hS,hD⟩:=hw
    subst hS
    rcases hi.a.d1 with e | ⟨_,t',e⟩
    ·exact absurd e hD
    ·dsimp only at e
     subst e
     cases h
     have n1:=hi.ns
     have n2:=hi.ls
     dsimp only at n1 n2
     rw [eu,List.take_length] at n1
     rw [er,List.take_length] at n2
     refine ⟨hi.a.dg t (List.mem_cons_self ..),?_,?_⟩
     ·rw [<- n1];simp [nodA,seqA,seqF]
     ·rw [<- n2];simp [leaA,seqA,seqF]
theorem sz_nl (t:TV):szT t=(nds t).length+(lvs t).length:=by
 induction t using TV.ind with
 | _ t ih =>
  have e:∀ l:List TV,(∀ k∈l,szT k=(nds k).length+(lvs k).length)->szL l=(l.flatMap nds).length+(l.flatMap lvs).length:=fun l=>by
   induction l with
   | nil=>intro _;rfl
   | cons a l il =>
    intro h
    rw [szL_cons,h a (List.mem_cons_self ..),il fun k hk=>h k (List.mem_cons_of_mem _ hk),List.flatMap_cons,List.flatMap_cons,List.length_append,List.length_append]
    omega
  rw [szT_eq,e _ ih,nds_eq,lvs_eq,List.length_append,List.length_append]
  by_cases hp:t.prod=-1
  ·rw [if_pos hp,if_pos hp];simp;omega
  ·rw [if_neg hp,if_neg hp];simp;omega
theorem fm_rev {β:Type}(f:TV->List β):∀ l:List TV,(l.flatMap f).reverse=l.reverse.flatMap fun t=>(f t).reverse
 | []=>rfl
 | a :: l=>by rw [List.flatMap_cons,List.reverse_append,fm_rev f l,List.reverse_cons,List.flatMap_append];simp
theorem fm_cg {β:Type}{f h:TV->List β}:∀ l:List TV,(∀ t∈l,f t=h t)->l.flatMap f=l.flatMap h
 | [],_=>rfl
 | a :: l,q=>by rw [List.flatMap_cons,List.flatMap_cons,q a (List.mem_cons_self ..),fm_cg l fun t ht=>q t (List.mem_cons_of_mem _ ht)]
def ndr (t:TV):List Int:=nodP (posT t)
theorem ndr_eq (t:TV):ndr t=t.kids.flatMap ndr++(if t.prod=-1 then [] else [t.prod]):=by
 have e:∀ l:List TV,nodP (posL l)=l.flatMap ndr:=fun l=>by
  induction l with
  | nil=>rfl
  | cons a l ih=>rw [posL,List.flatMap_cons,nodP_app,List.flatMap_cons,<- ih];rfl
 unfold ndr
 rw [posT_eq,nodP_app,e]
 congr 1
 unfold nodP
 by_cases h:t.prod=-1
 ·simp [h]
 ·simp [h]
theorem ndr_mir (t:TV):ndr (mirT t)=(nds t).reverse:=by
 induction t using TV.ind with
 | _ t ih =>
  rw [ndr_eq,nds_eq,mir_kids,mir_prod,List.reverse_append,fm_rev,<- List.map_reverse,List.flatMap_map]
  congr 1
  ·exact fm_cg _ fun k hk=>ih k (by simpa using hk)
  ·split<;>rfl
theorem ndr_len (t:TV):(ndr t).length=(nds t).length:=by
 induction t using TV.ind with
 | _ t ih =>
  have e:∀ l:List TV,(∀ k∈l,(ndr k).length=(nds k).length)->(l.flatMap ndr).length=(l.flatMap nds).length:=fun l=>by
   induction l with
   | nil=>intro _;rfl
   | cons a l il =>
    intro q
    rw [List.flatMap_cons,List.flatMap_cons,List.length_append,List.length_append,q a (List.mem_cons_self ..),il fun k hk=>q k (List.mem_cons_of_mem _ hk)]
  rw [ndr_eq,nds_eq,List.length_append,List.length_append,e _ ih]
  omega
theorem lvs_mir {g:GV}(t:TV):GdT g t->lvs (mirT t)=(lvs t).reverse:=by
 induction t using TV.ind with
 | _ t ih =>
  intro h
  have h1:=AllP.here h
  have et:tkV (mirT t)=tkV t:=by unfold tkV;rw [mir_kind,mir_tx]
  rw [lvs_eq,lvs_eq t,mir_kids,mir_prod,et,List.reverse_append,fm_rev,<- List.map_reverse,List.flatMap_map]
  by_cases hp:t.prod=-1
  ·rw [(gd_leaf h1 hp).2.2,if_pos hp]
   rfl
  ·rw [if_neg hp,List.nil_append,List.reverse_nil,List.append_nil]
   exact fm_cg _ fun k hk=>ih k (by simpa using hk) (AllP.kid h k (by simpa using hk))
theorem rev_at (g:GV)(n:Nat):(g.rev.ps.getD n .none).left=(g.ps.getD n .none).left/\(g.rev.ps.getD n .none).right=(g.ps.getD n .none).right.reverse:=by
 have e:g.rev.ps.getD n .none=(g.ps.getD n .none).rev:=by
  simp only [GV.rev,List.getD,List.getElem?_map]
  cases g.ps[n]?<;>rfl
 rw [e]
 exact ⟨rfl,rfl⟩
theorem root_mir (g:GV)(t:TV):rootU g.rev (mirT t)=rootU g t:=by
 unfold rootU
 rw [mir_prod,mir_kind,(rev_at g _).1]
 have e1:g.rev.ts=g.ts:=rfl
 have e2:g.rev.ps.length=g.ps.length:=by simp [GV.rev]
 rw [e1,e2]
theorem gd_mir {g:GV}(t:TV):GdT g t->GdT g.rev (mirT t):=by
 induction t using TV.ind with
 | _ t ih =>
  intro h
  have h1:=AllP.here h
  have e1:g.rev.ts=g.ts:=rfl
  have e2:g.rev.ps.length=g.ps.length:=by simp [GV.rev]
  have e3:rightU g.rev (mirT t)=(rightU g t).reverse:=by
   unfold rightU
   rw [mir_prod]
   exact (rev_at g _).2
  refine AllP.mk ⟨?_,fun hp=>?_⟩ fun k hk=>?_
  ·have:=h1.1
   unfold alTU at this ⊢
   rw [mir_prod,mir_kind,mir_tx,mir_kids,e1,e2,e3,List.length_reverse,List.length_map,List.length_reverse]
   exact this
  ·rw [mir_prod] at hp
   rw [mir_kids,e3,List.map_reverse,List.map_map,<- h1.2 hp]
   congr 1
   exact mp_congr _ fun k _=>root_mir g k
  ·rw [mir_kids] at hk
   obtain ⟨k',hk',rfl⟩:=List.mem_map.1 (List.mem_reverse.1 hk)
   exact ih k' hk' (AllP.kid h k' hk')
theorem rev_rev (g:GV):SameG g.rev.rev g:=by
 refine ⟨rfl,rfl,rfl,?_,rfl⟩
 show g.ps.map PV.core=((g.ps.map PV.rev).map PV.rev).map PV.core
 rw [List.map_map,List.map_map]
 apply List.map_congr_left
 intro p _
 show _=PV.core p.rev.rev
 unfold PV.rev PV.core
 simp
theorem gd_same {g x:GV}(h:SameG g x){t:TV}(ht:GdT g t):GdT x t:=by
 have h1:=gd_run ht
 have h2:=run_same (g:=g) (x:=x) h (samV_refl t)
 rw [h1] at h2
 exact run_gd (by rw [h2])
theorem mir_ok {g:GV}{l:List Int}{L:List (Int×ByteArray)}(okr:OkC g.rev)(hl:∀ n∈l,0<=n/\n < g.ps.length){t:TV}{e1 e2:Int}(h:mirU g l L=(some t,e1,e2)):GdT g t/\ndr t=l/\lvs t=L:=by
 unfold mirU at h
 obtain ⟨u,hu⟩:∃ u,deriveU g.rev l.reverse L.reverse=u:=⟨_,rfl⟩
 rw [hu] at h
 obtain ⟨ot,f1,f2⟩:=u
 cases ot with
 | none=>cases h
 | some t' =>
  cases h
  have hr:∀ n∈l.reverse,0<=n/\n < g.rev.ps.length:=fun n hn=>by
   have e:g.rev.ps.length=g.ps.length:=by simp [GV.rev]
   rw [e]
   exact hl n (by simpa using hn)
  obtain ⟨a,b,c⟩:=derive_ok okr hr hu
  refine ⟨gd_same (rev_rev g) (gd_mir t' a),?_,?_⟩
  ·rw [ndr_mir,b,List.reverse_reverse]
  ·rw [lvs_mir t' a,c,List.reverse_reverse]
def pendR (g:GV)(S:List FrB):List (Int×Int):=S.flatMap fun f=>(rgP g f.p).drop (f.ks.length+1)
def pendS (g:GV):List FrB->List (Int×Int)
 | []=>[]
 | f :: S=>(rgP g f.p).drop f.ks.length++pendR g S
def pendA (g:GV)(l:List Int)(A:AB):List (Int×Int):=if A.2=[]/\A.1=[] then [(2,lfP g (l.getD 0 0))] else pendS g A.2
theorem pend_cl {g:GV}:∀ (S:List FrB) (D:List TV),(∀ f∈S,OkF g f)->pendS g (clU2 (D,S)).2=pendS g S
 | [],D,_=>by rw [clU2_nil]
 | f :: S,D,h=>by
  rw [clU2_cons]
  by_cases hk:f.ks.length=f.k
  ·rw [if_pos hk]
   have hd:(rgP g f.p).drop f.ks.length=[]:=List.drop_eq_nil_of_le (by rw [hk,(h f (by simp)).2.2];exact Nat.le_refl _)
   cases S with
   | nil =>
    show pendS g (clU2 (D++[ndT f],[])).2=_
    rw [clU2_nil]
    show []=(rgP g f.p).drop f.ks.length++pendR g []
    rw [hd];rfl
   | cons g' S =>
    have ih:=pend_cl (⟨g'.p,g'.k,g'.ks++[ndT f]⟩ :: S) D (fun x hx=>by
     rcases List.mem_cons.1 hx with rfl | hx
     ·exact h g' (by simp)
     ·exact h x (by simp [hx]))
    show pendS g (clU2 (D,⟨g'.p,g'.k,g'.ks++[ndT f]⟩ :: S)).2=_
    rw [ih]
    show (rgP g g'.p).drop (g'.ks++[ndT f]).length++pendR g S=(rgP g f.p).drop f.ks.length++pendR g (g' :: S)
    rw [hd,List.length_append,List.length_singleton]
    unfold pendR
    rw [List.flatMap_cons,List.nil_append]
  ·rw [if_neg hk]
termination_by S=>S.length
theorem cl_made:∀ (S:List FrB) (D:List TV),¬ (S=[]/\D=[])->¬ ((clU2 (D,S)).2=[]/\(clU2 (D,S)).1=[])
 | [],D,h=>by rw [clU2_nil];exact h
 | f :: S,D,h=>by
  rw [clU2_cons]
  by_cases hk:f.ks.length=f.k
  ·rw [if_pos hk]
   cases S with
   | nil=>exact cl_made [] (D++[ndT f]) (by simp)
   | cons g' S=>exact cl_made (⟨g'.p,g'.k,g'.ks++[ndT f]⟩ :: S) D (by simp)
  ·rw [if_neg hk]
   simp
termination_by S=>S.length
theorem seq_clK {β:Type}{g:GV}(φ:TV->List β)(h:Int->List β):∀ (S:List FrB) (D:List TV),(∀ f∈S,OkF g f)->(∀ f:FrB,OkF g f->f.ks.length=f.k->φ (ndT f)=h f.p++f.ks.flatMap φ)->seqA φ h (clU2 (D,S))=seqA φ h (D,S)
 | [],D,_,_=>by rw [clU2_nil]
 | f :: S,D,hp,hf=>by
  rw [clU2_cons]
  by_cases hk:f.ks.length=f.k
  ·rw [if_pos hk]
   have e:seqA φ h (adA (D,S) (ndT f))=seqA φ h (D,f :: S):=by
    rw [seq_add,hf f (hp f (by simp)) hk]
    show D.flatMap φ++seqF φ h S++_=D.flatMap φ++seqF φ h (f :: S)
    rw [seqF_cons,List.append_assoc]
   rw [<- e]
   cases S with
   | nil=>exact seq_clK φ h [] _ (fun _ h=>by cases h) hf
   | cons g' S =>
    refine seq_clK φ h (⟨g'.p,g'.k,g'.ks++[ndT f]⟩ :: S) D (fun x hx=>?_) hf
    rcases List.mem_cons.1 hx with rfl | hx
    ·exact hp g' (by simp)
    ·exact hp x (by simp [hx])
  ·rw [if_neg hk]
termination_by S=>S.length
def hgs (g:GV)(p:Int):List (Int×Int×ByteArray×Nat):=[(p,0,ByteArray.empty,(rgP g p).length)]
theorem sgs_nd {g:GV}(f:FrB)(h:OkF g f)(hk:f.ks.length=f.k):sgs (ndT f)=hgs g f.p++f.ks.flatMap sgs:=by
 rw [sgs_eq]
 show (f.p,0,ByteArray.empty,f.ks.length) :: sgL8 f.ks=(f.p,0,ByteArray.empty,(rgP g f.p).length) :: f.ks.flatMap sgs
 rw [hk,h.2.2]
 rfl
def spP (g:GV)(p:Int):SP:=⟨TV.mk p 0 ByteArray.empty none 0 (List.replicate (rgP g p).length TV.none),0,(0,0),false⟩
def spW (q:Int×ByteArray):SP:=⟨lfT q.1 q.2,0,(0,0),false⟩
theorem spP_sg (g:GV)(p:Int):sgV (spP g p).t=(p,0,ByteArray.empty,(rgP g p).length):=by
 show (p,0,ByteArray.empty,(List.replicate (rgP g p).length TV.none).length)=_
 rw [List.length_replicate]
theorem sgs_lf (k:Int)(x:ByteArray):sgs (lfT k x)=[sgV (lfT k x)]:=by rw [sgs_eq];rfl
structure LfP (g:GV)(l:List Int)(L:List (Int×ByteArray))(x:DvU)(N:List (Int×Int))(F:List SP):Prop where
 ok:OkD2 g l L x
 ind:InD g l L x
 np:N=pendA g l x.A
 fl:F.map (fun s=>sgV s.t)=seqA sgs (hgs g) x.A
 ln:F.length=x.u+x.r
theorem lf_start (g:GV)(l:List Int)(L:List (Int×ByteArray)):LfP g l L ⟨0,0,([],[])⟩ [(2,lfP g (l.getD 0 0))] []:=⟨ok_start g l L,ind_start g l L,by unfold pendA;rw [if_pos ⟨rfl,rfl⟩],rfl,rfl⟩
section
variable {g:GV} {l:List Int} {L:List (Int×ByteArray)} {x:DvU} {N T:List (Int×Int)} {F:List SP}
theorem pendS_ne {f:FrB}{S:List FrB}(ho:OkF g f)(hk:f.ks.length < f.k):pendS g (f :: S)=(rgP g f.p).getD f.ks.length (0,0) :: ((rgP g f.p).drop (f.ks.length+1)++pendR g S):=by
 have hl:f.ks.length < (rgP g f.p).length:=by rw [show (rgP g f.p).length=f.k from ho.2.2.symm];exact hk
 show (rgP g f.p).drop f.ks.length++pendR g S=_
 rw [List.drop_eq_getElem_cons hl,List.cons_append]
 congr 1
 simp [List.getD,hl]
theorem lf_next (h:LfP g l L x N F)(hw:wU_ x.A=false):∃ T,N=nextU g l x.A :: T:=by
 obtain ⟨u,r,D,S⟩:=x
 rw [h.np]
 cases S with
 | nil =>
  have hD:D=[]:=by
   cases D with
   | nil=>rfl
   | cons t D=>simp [wU_] at hw
  subst hD
  exact ⟨[],by unfold pendA;rw [if_pos ⟨rfl,rfl⟩];rfl⟩
 | cons f S =>
  obtain ⟨h1,h2⟩:=h.ok.ok f (by simp)
  refine ⟨(rgP g f.p).drop (f.ks.length+1)++pendR g S,?_⟩
  unfold pendA
  rw [if_neg (by simp)]
  show pendS g (f :: S)=_
  rw [pendS_ne h1 h2]
  rfl
theorem lf_whole (h:LfP g l L x N F)(hw:wU_ x.A=true):N=[]/\∃ t,x.A.1=[t]/\F.map (fun s=>sgV s.t)=sgs t:=by
 obtain ⟨u,r,D,S⟩:=x
 simp only [wU_,Bool.and_eq_true,List.isEmpty_iff,Bool.not_eq_true'] at hw
 obtain ⟨h1,h2⟩:=hw
 have hS:S=[]:=h1
 subst hS
 have hD:D≠[]:=fun e=>by rw [e] at h2;simp at h2
 have h3:=h.ind.a.d1
 obtain ⟨t,ht⟩:∃ t,D=[t]:=by
  rcases h3 with e | ⟨-,e⟩
  ·exact (hD e).elim
  ·exact e
 subst ht
 refine ⟨?_,t,rfl,?_⟩
 ·rw [h.np]
  unfold pendA
  rw [if_neg (by simp)]
  rfl
 ·rw [h.fl]
  show [t].flatMap sgs++seqF sgs (hgs g) []=_
  simp [seqF]
theorem lf_word (okc:OkC g)(hl:∀ n∈l,0<=n/\n < g.ps.length)(h:LfP g l L x N F)(hw:wU_ x.A=false)(h1:(nextU g l x.A).1=1)(hr:x.r < L.length)(hk:(L.getD x.r (0,ByteArray.empty)).1=(nextU g l x.A).2)(hN:N=nextU g l x.A :: T) :
  stepU g l L x=.inr ⟨x.u,x.r+1,clU2 (adA x.A (wordU L x.r))⟩/\LfP g l L ⟨x.u,x.r+1,clU2 (adA x.A (wordU L x.r))⟩ T (F++[spW (L.getD x.r (0,ByteArray.empty))]):=by
 have hs:stepU g l L x=.inr ⟨x.u,x.r+1,clU2 (adA x.A (wordU L x.r))⟩:=by
  unfold stepU
  rw [if_pos h1,if_neg (by omega),if_pos hk]
 refine ⟨hs,(ok_step hl h.ok hs).1,ind_step okc hl h.ok h.ind hw hs,?_,?_,?_⟩
 ·obtain ⟨u,r,D,S⟩:=x
  cases S with
  | nil=>exact absurd h1 (by show ¬ ((2:Int)=1);decide)
  | cons f S =>
   obtain ⟨q1,q2⟩:=h.ok.ok f (by simp)
   have hp:=h.np
   rw [hN] at hp
   unfold pendA at hp ⊢
   rw [if_neg (by simp)] at hp
   dsimp only at hp ⊢
   rw [if_neg (cl_made _ _ (by simp [adA]))]
   show T=pendS g (clU2 (D,⟨f.p,f.k,f.ks++[wordU L r]⟩ :: S)).2
   rw [pend_cl _ _ (fun y hy=>by
    rcases List.mem_cons.1 hy with rfl | hy
    ·exact q1
    ·exact (h.ok.ok y (by simp [hy])).1)]
   rw [pendS_ne q1 q2] at hp
   have:=(List.cons.inj hp).2
   rw [this]
   show _=(rgP g f.p).drop (f.ks++[wordU L r]).length++pendR g S
   rw [List.length_append,List.length_singleton]
 ·have hok:∀ y∈(adA x.A (wordU L x.r)).2,OkF g y:=fun y hy=>by
   obtain ⟨u,r,D,S⟩:=x
   cases S with
   | nil=>cases hy
   | cons f S =>
    rcases List.mem_cons.1 hy with rfl | hy
    ·exact (h.ok.ok f (by simp)).1
    ·exact (h.ok.ok y (by simp [hy])).1
  rw [List.map_append,h.fl,show clU2 (adA x.A (wordU L x.r))=clU2 ((adA x.A (wordU L x.r)).1,(adA x.A (wordU L x.r)).2) from rfl,seq_clK sgs (hgs g) _ _ hok sgs_nd]
  show _=seqA sgs (hgs g) (adA x.A (wordU L x.r))
  rw [seq_add]
  exact congrArg _ (sgs_lf _ _).symm
 ·rw [List.length_append,h.ln]
  exact Nat.add_assoc x.u x.r 1
theorem lf_prod (okc:OkC g)(hl:∀ n∈l,0<=n/\n < g.ps.length)(h:LfP g l L x N F)(hw:wU_ x.A=false)(h1:¬ (nextU g l x.A).1=1)(hr:x.u < l.length)(hk:lfP g (l.getD x.u 0)=(nextU g l x.A).2)(hN:N=nextU g l x.A :: T) :
  stepU g l L x=.inr ⟨x.u+1,x.r,clU2 (x.A.1,prodU2 g (l.getD x.u 0) :: x.A.2)⟩/\LfP g l L ⟨x.u+1,x.r,clU2 (x.A.1,prodU2 g (l.getD x.u 0) :: x.A.2)⟩ (rgP g (l.getD x.u 0)++T) (F++[spP g (l.getD x.u 0)]):=by
 have hs:stepU g l L x=.inr ⟨x.u+1,x.r,clU2 (x.A.1,prodU2 g (l.getD x.u 0) :: x.A.2)⟩:=by
  unfold stepU
  rw [if_neg h1,if_neg (by omega),if_pos (show (g.ps.getD (l.getD x.u 0).toNat .none).left=_ from hk)]
 have hm:l.getD x.u 0∈l:=by simp [List.getD,hr]
 have hp0:OkF g (prodU2 g (l.getD x.u 0)):=⟨(hl _ hm).1,(hl _ hm).2,rfl⟩
 have hok:∀ y∈prodU2 g (l.getD x.u 0) :: x.A.2,OkF g y:=fun y hy=>by
  rcases List.mem_cons.1 hy with rfl | hy
  ·exact hp0
  ·exact (h.ok.ok y hy).1
 refine ⟨hs,(ok_step hl h.ok hs).1,ind_step okc hl h.ok h.ind hw hs,?_,?_,?_⟩
 ·have hp:=h.np
  rw [hN] at hp
  have e:pendA g l (clU2 (x.A.1,prodU2 g (l.getD x.u 0) :: x.A.2))=pendS g (prodU2 g (l.getD x.u 0) :: x.A.2):=by
   unfold pendA
   rw [if_neg (cl_made _ _ (by simp)),pend_cl _ _ hok]
  show _=pendA g l (clU2 (x.A.1,prodU2 g (l.getD x.u 0) :: x.A.2))
  rw [e]
  show _=(rgP g (l.getD x.u 0)).drop 0++pendR g x.A.2
  rw [List.drop_zero]
  congr 1
  obtain ⟨u,r,D,S⟩:=x
  cases S with
  | nil =>
   have hD:D=[]:=by
    cases D with
    | nil=>rfl
    | cons t D=>simp [wU_] at hw
   subst hD
   unfold pendA at hp
   rw [if_pos ⟨rfl,rfl⟩] at hp
   exact (List.cons.inj hp).2
  | cons f S =>
   obtain ⟨q1,q2⟩:=h.ok.ok f (by simp)
   unfold pendA at hp
   rw [if_neg (by simp)] at hp
   dsimp only at hp ⊢
   rw [pendS_ne q1 q2] at hp
   have:=(List.cons.inj hp).2
   rw [this]
   unfold pendR
   rw [List.flatMap_cons]
 ·rw [List.map_append,h.fl]
  show _=seqA sgs (hgs g) (clU2 (x.A.1,prodU2 g (l.getD x.u 0) :: x.A.2))
  rw [seq_clK sgs (hgs g) _ _ hok sgs_nd]
  show x.A.1.flatMap sgs++seqF sgs (hgs g) x.A.2++_=x.A.1.flatMap sgs++seqF sgs (hgs g) (prodU2 g (l.getD x.u 0) :: x.A.2)
  rw [seqF_cons,List.append_assoc]
  congr 1
  congr 1
  show [sgV (spP g (l.getD x.u 0)).t]=hgs g (l.getD x.u 0)++[].flatMap sgs
  rw [spP_sg]
  simp [hgs]
 ·rw [List.length_append,h.ln]
  show _+1=(x.u+1)+x.r
  omega
end
structure DrR (g:GV)(l:List Int)(L:List (Int×ByteArray))(n:Nat)(x:DvU):Prop where
 eq:derU g l L (l.length+L.length+1) ⟨0,0,([],[])⟩=derU g l L n x
 fu:l.length+L.length < n+(x.u+x.r)
theorem dr_start (g:GV)(l:List Int)(L:List (Int×ByteArray)):DrR g l L (l.length+L.length+1) ⟨0,0,([],[])⟩:=⟨rfl,by simp⟩
section
variable {g:GV} {l:List Int} {L:List (Int×ByteArray)} {n:Nat} {x y:DvU}
theorem DrR.pos (h:DrR g l L n x)(ho:OkD2 g l L x):∃ m,n=m+1:=by
 have h1:=ho.ul
 have h2:=ho.rl
 have h3:=h.fu
 exact ⟨n - 1,by omega⟩
theorem DrR.step (h:DrR g l L (n+1) x)(hl:∀ n∈l,0<=n/\n < g.ps.length)(ho:OkD2 g l L x)(hw:wU_ x.A=false)(hs:stepU g l L x=.inr y):DrR g l L n y:=by
 refine ⟨?_,?_⟩
 ·rw [h.eq,derU,if_neg (by rw [hw];simp),hs]
 ·have:=(ok_step hl ho hs).2
  have:=h.fu
  omega
theorem DrR.fault (h:DrR g l L (n+1) x)(hw:wU_ x.A=false){f:Int×Int}(hs:stepU g l L x=.inl f):deriveU g l L=(none,f.1,f.2):=by
 unfold deriveU
 rw [h.eq,derU,if_neg (by rw [hw];simp),hs]
theorem DrR.whole (h:DrR g l L n x)(hw:wU_ x.A=true):deriveU g l L=if x.u < l.length then (none,81,(x.u:Int)) else if x.r < L.length then (none,12,(x.r:Int)) else (x.A.1.head?,0,0):=by
 have e:derU g l L n x=.inr x:=by
  cases n with
  | zero=>rfl
  | succ n=>rw [derU,if_pos hw]
 unfold deriveU
 rw [h.eq,e]
end
theorem rgP_rev (g:GV)(p:Int):rgP g.rev p=(rgP g p).reverse:=(rev_at g p.toNat).2
theorem lfP_rev (g:GV)(p:Int):lfP g.rev p=lfP g p:=(rev_at g p.toNat).1
theorem rev_getD {α:Type}(l:List α)(d:α){u:Nat}(h:u < l.length):l.reverse.getD u d=l.getD (l.length - 1 - u) d:=by
 simp [List.getD,List.getElem?_reverse h]
theorem rev_in {g:GV}{l:List Int}(h:∀ x∈l,0<=x/\x < g.ps.length):∀ x∈l.reverse,0<=x/\x < g.rev.ps.length:=fun x hx=>by
 have e:g.rev.ps.length=g.ps.length:=by simp [GV.rev]
 rw [e]
 exact h x (List.mem_reverse.1 hx)
theorem mirU_none {g:GV}{l:List Int}{L:List (Int×ByteArray)}{e1 e2:Int}(h:deriveU g.rev l.reverse L.reverse=(none,e1,e2)):mirU g l L=(none,81,0):=by
 unfold mirU
 rw [h]
theorem mirU_some {g:GV}{l:List Int}{L:List (Int×ByteArray)}{t:TV}{e1 e2:Int}(h:deriveU g.rev l.reverse L.reverse=(some t,e1,e2)):mirU g l L=(some (mirT t),0,0):=by
 unfold mirU
 rw [h]
end Go.Proofs.YteciabdjkaackaaGreat
