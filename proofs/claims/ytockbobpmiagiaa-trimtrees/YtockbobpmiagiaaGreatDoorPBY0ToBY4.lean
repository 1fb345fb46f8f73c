import Derived.Test.YtockbobpmiagiaaGreatDoorPBT16ToBCard
namespace Go.Proofs.YtockbobpmiagiaaGreatDoor
set_option linter.unusedVariables false
open Go.RowKit
def EdB (Ns:List Nat)(n x y:Nat):Prop:=x < n/\y < n/\(Ns.getD x 0).testBit y=true
def RchB (Ns:List Nat)(n x y:Nat):Prop:=x=y∨Relation.TransGen (EdB Ns n) x y
theorem RchB.refl {Ns:List Nat}{n:Nat}(x:Nat):RchB Ns n x x:=.inl rfl
theorem RchB.one {Ns:List Nat}{n x y:Nat}(h:EdB Ns n x y):RchB Ns n x y:=.inr (.single h)
theorem RchB.trans {Ns:List Nat}{n x y z:Nat}(h:RchB Ns n x y)(h':RchB Ns n y z):RchB Ns n x z:=by
 rcases h with rfl | h
 ·exact h'
 ·rcases h' with rfl | h'
  ·exact .inr h
  ·exact .inr (h.trans h')
theorem RchB.fwd {Ns:List Nat}{n x y:Nat}(P:Nat->Prop)(hc:∀ u v,P u->EdB Ns n u v->P v)(h:RchB Ns n x y)(hx:P x):P y:=by
 rcases h with rfl | h
 ·exact hx
 ·induction h with
  | single e=>exact hc _ _ hx e
  | tail _ e ih=>exact hc _ _ ih e
theorem RchB.bwd {Ns:List Nat}{n x y:Nat}(P:Nat->Prop)(hc:∀ u v,P v->EdB Ns n u v->P u)(h:RchB Ns n x y)(hy:P y):P x:=by
 have:=RchB.fwd (x:=x) (y:=y) (fun v=>P v->P x) (fun u v hu e hv=>hu (hc u v hv e)) h (fun h=>h)
 exact this hy
theorem RchB.lt {Ns:List Nat}{n x y:Nat}(h:RchB Ns n x y)(hx:x < n):y < n:=h.fwd (· < n) (fun _ _ _ e=>e.2.1) hx
theorem RchB.gt {Ns:List Nat}{n x y:Nat}(h:RchB Ns n x y)(hy:y < n):x < n:=h.bwd (· < n) (fun _ _ _ e=>e.1) hy
def GoodB (Ns:List Nat)(n:Nat)(F:List Nat):Prop:=∀ A x B,F=A++x :: B->∀ u∈A++[x],∀ v,EdB Ns n u v->v∈A++[x]∨RchB Ns n v x
structure DfB (Ns:List Nat)(n r:Nat)(A:List Nat)(s:SrB):Prop where
 ch:s.path.Pairwise fun x y=>RchB Ns n y x
 sn:∀ z,s.seen.testBit z=true ↔ z∈A∨z∈s.left∨z∈s.path
 nd:(A++s.left++s.path).Nodup
 cl:∀ u,u∈A∨u∈s.left->∀ v,EdB Ns n u v->s.seen.testBit v=true
 gd:GoodB Ns n (A++s.left)
 lt:∀ z,z∈A∨z∈s.left∨z∈s.path->z < n
 rt:∀ z,z∈s.left∨z∈s.path->RchB Ns n r z
 me:r∈s.left∨r∈s.path
theorem snoc_split {A B L:List Nat}{x y:Nat}(h:L++[y]=A++x :: B):(A=L/\x=y/\B=[])∨∃ B',B=B'++[y]/\L=A++x :: B':=by
 rcases List.eq_nil_or_concat B with rfl | ⟨B',b,rfl⟩
 ·have:=List.append_inj' h rfl
  obtain ⟨h1,h2⟩:=this
  simp at h2
  exact .inl ⟨h1.symm,h2.symm,rfl⟩
 ·right
  rw [List.concat_eq_append,<- List.cons_append,<- List.append_assoc] at h
  have:=List.append_inj' h rfl
  obtain ⟨h1,h2⟩:=this
  simp at h2
  exact ⟨B',by rw [List.concat_eq_append,h2],h1⟩
theorem DfB.next {Ns:List Nat}{n r:Nat}{A:List Nat}{s:SrB}(h:DfB Ns n r A s)(hp:s.path≠[]):DfB Ns n r A (lvN Ns n s):=by
 obtain ⟨p,l,S⟩:=s
 cases p with
 | nil=>exact absurd rfl hp
 | cons x p =>
  have hx:x < n:=h.lt x (.inr (.inr (List.mem_cons_self)))
  have hk:=lkB_is (mB_ (Ns.getD x 0) S) n
  rw [lvN_cons]
  have ch:=List.pairwise_cons.1 h.ch
  by_cases q:lkB (mB_ (Ns.getD x 0) S) n < n
  ·rw [if_pos q]
   generalize lkB (mB_ (Ns.getD x 0) S) n=y at q hk ⊢
   have hb:=(hk.is q).2
   rw [minusB_bit,Bool.and_eq_true] at hb
   obtain ⟨hb1,hb2⟩:=hb
   have hys:S.testBit y=false:=by simpa using hb2
   have he:EdB Ns n x y:=⟨hx,q,hb1⟩
   have hyn:¬ (y∈A∨y∈l∨y∈x :: p):=fun z=>by
    have:=(h.sn y).2 z
    simp only at this
    rw [hys] at this
    cases this
   refine ⟨?_,fun z=>?_,?_,fun u hu v e=>?_,h.gd,fun z hz=>?_,fun z hz=>?_,?_⟩
   ·refine List.pairwise_cons.2 ⟨fun b hb=>?_,h.ch⟩
    rcases List.mem_cons.1 hb with rfl | hb
    ·exact .one he
    ·exact (ch.1 b hb).trans (.one he)
   ·show (addN S y).testBit z=true ↔ _
    have:=h.sn z
    simp only at this ⊢
    rw [addN_bit,Bool.or_eq_true,this,decide_eq_true_iff]
    simp only [List.mem_cons]
    constructor
    ·rintro (z | rfl)
     ·rcases z with z | z | z | z
      ·exact .inl z
      ·exact .inr (.inl z)
      ·exact .inr (.inr (.inr (.inl z)))
      ·exact .inr (.inr (.inr (.inr z)))
     ·exact .inr (.inr (.inl rfl))
    ·rintro (z | z | z | z | z)
     ·exact .inl (.inl z)
     ·exact .inl (.inr (.inl z))
     ·exact .inr z.symm
     ·exact .inl (.inr (.inr (.inl z)))
     ·exact .inl (.inr (.inr (.inr z)))
   ·show (A++l++y :: x :: p).Nodup
    have hnd:(A++l++x :: p).Nodup:=h.nd
    rw [List.nodup_append] at hnd ⊢
    refine ⟨hnd.1,List.nodup_cons.2 ⟨fun z=>hyn (.inr (.inr z)),hnd.2.1⟩,fun a ha b hb=>?_⟩
    rcases List.mem_cons.1 hb with rfl | hb
    ·rintro rfl
     rcases List.mem_append.1 ha with z | z
     ·exact hyn (.inl z)
     ·exact hyn (.inr (.inl z))
    ·exact hnd.2.2 a ha b hb
   ·show (addN S y).testBit v=true
    rw [addN_bit]
    have:=h.cl u hu v e
    simp only at this
    rw [this]
    rfl
   ·rcases hz with z1 | z1 | z1
    ·exact h.lt z (.inl z1)
    ·exact h.lt z (.inr (.inl z1))
    ·rcases List.mem_cons.1 z1 with rfl | z1
     ·exact q
     ·exact h.lt z (.inr (.inr z1))
   ·rcases hz with z1 | z1
    ·exact h.rt z (.inl z1)
    ·rcases List.mem_cons.1 z1 with rfl | z1
     ·exact (h.rt x (.inr List.mem_cons_self)).trans (.one he)
     ·exact h.rt z (.inr z1)
   ·rcases h.me with z | z
    ·exact .inl z
    ·exact .inr (List.mem_cons_of_mem _ z)
  ·rw [if_neg q]
   have hall:∀ v,EdB Ns n x v->S.testBit v=true:=fun v e=>by
    have hl:=hk.le
    have:=hk.none v (Nat.zero_le _) (by have:=e.2.1;omega)
    rw [minusB_bit,e.2.2,Bool.true_and] at this
    simpa using this
   refine ⟨ch.2,fun z=>?_,?_,fun u hu v e=>?_,?_,fun z hz=>?_,fun z hz=>?_,?_⟩
   ·have:=h.sn z
    simp only at this ⊢
    rw [this]
    simp only [List.mem_cons,List.mem_append,List.not_mem_nil,or_false]
    constructor
    ·rintro (z | z | z | z)
     ·exact .inl z
     ·exact .inr (.inl (.inl z))
     ·exact .inr (.inl (.inr z))
     ·exact .inr (.inr z)
    ·rintro (z | (z | z) | z)
     ·exact .inl z
     ·exact .inr (.inl z)
     ·exact .inr (.inr (.inl z))
     ·exact .inr (.inr (.inr z))
   ·show (A++(l++[x])++p).Nodup
    have hnd:(A++l++x :: p).Nodup:=h.nd
    have e:A++(l++[x])++p=A++l++x :: p:=by simp
    rw [e]
    exact hnd
   ·show S.testBit v=true
    rcases hu with hu | hu
    ·exact h.cl u (.inl hu) v e
    ·rcases List.mem_append.1 hu with hu | hu
     ·exact h.cl u (.inr hu) v e
     ·rw [List.mem_singleton.1 hu] at e
      exact hall v e
   ·intro A' x' B' hF u hu v e
    simp only at hF
    rw [<- List.append_assoc] at hF
    rcases snoc_split hF with ⟨rfl,rfl,rfl⟩ | ⟨B2,rfl,hF2⟩
    ·have hs:S.testBit v=true:=by
      rcases List.mem_append.1 hu with hu | hu
      ·exact h.cl u (List.mem_append.1 hu) v e
      ·rw [List.mem_singleton.1 hu] at e
       exact hall v e
     have hv:=(h.sn v).1 hs
     simp only [List.mem_cons] at hv
     rcases hv with z | z | z | z
     ·exact .inl (List.mem_append.2 (.inl (List.mem_append.2 (.inl z))))
     ·exact .inl (List.mem_append.2 (.inl (List.mem_append.2 (.inr z))))
     ·exact .inl (List.mem_append.2 (.inr (List.mem_singleton.2 z)))
     ·exact .inr (ch.1 v z)
    ·exact h.gd A' x' B2 hF2 u hu v e
   ·rcases hz with z1 | z1 | z1
    ·exact h.lt z (.inl z1)
    ·rcases List.mem_append.1 z1 with z1 | z1
     ·exact h.lt z (.inr (.inl z1))
     ·rw [List.mem_singleton.1 z1];exact hx
    ·exact h.lt z (.inr (.inr (List.mem_cons_of_mem _ z1)))
   ·rcases hz with z1 | z1
    ·rcases List.mem_append.1 z1 with z1 | z1
     ·exact h.rt z (.inl z1)
     ·rw [List.mem_singleton.1 z1];exact h.rt x (.inr List.mem_cons_self)
    ·exact h.rt z (.inr (List.mem_cons_of_mem _ z1))
   ·rcases h.me with z | z
    ·exact .inl (List.mem_append.2 (.inl z))
    ·rcases List.mem_cons.1 z with rfl | z
     ·exact .inl (List.mem_append.2 (.inr (List.mem_singleton.2 rfl)))
     ·exact .inr z
theorem DfB.end {Ns:List Nat}{n r:Nat}{A:List Nat}:∀ (k:Nat) (s:SrB),mesV n s<=k->DfB Ns n r A s->DfB Ns n r A (lvU Ns n s)/\(lvU Ns n s).path=[]
 | 0,s,hm,h=>by
  have e:s.path=[]:=List.eq_nil_of_length_eq_zero (by unfold mesV at hm;omega)
  rw [lvU_end e]
  exact ⟨h,e⟩
 | k+1,s,hm,h=>by
  by_cases e:s.path=[]
  ·rw [lvU_end e]
   exact ⟨h,e⟩
  ·rw [lvU_step e]
   have:=lvN_less (Ns:=Ns) (n:=n) e
   exact DfB.end k _ (by omega) (h.next e)
structure SwB (Ns:List Nat)(n:Nat)(D:List Nat)(L:List (List Nat))(S:Nat):Prop where
 sn:∀ z,S.testBit z=true ↔ z∈L.flatten
 nd:L.flatten.Nodup
 cl:∀ u∈L.flatten,∀ v,EdB Ns n u v->v∈L.flatten
 gd:GoodB Ns n L.flatten
 lt:∀ z∈L.flatten,z < n
 all:∀ q∈D,q∈L.flatten
 cs:∀ i T,L[i]?=some T->∃ r D1 D2,D=D1++r :: D2/\r∈T/\(∀ z∈T,RchB Ns n r z)/\(∀ q∈D1,q∈(L.take i).flatten)/\r ∉ (L.take i).flatten/\∀ u∈(L.take i).flatten,∀ v,EdB Ns n u v->v∈(L.take i).flatten
theorem SwB.first {Ns:List Nat}{n:Nat}:SwB Ns n [] [] 0:=⟨fun z=>by simp,List.nodup_nil,fun u hu=>(by cases hu),fun A x B h=>by simp at h,fun z hz=>(by cases hz),fun q hq=>(by cases hq),fun i T h=>by simp at h⟩
theorem SwB.skip {Ns:List Nat}{n r S:Nat}{D:List Nat}{L:List (List Nat)}(h:SwB Ns n D L S)(hr:S.testBit r=true):SwB Ns n (D++[r]) L S:=by
 refine ⟨h.sn,h.nd,h.cl,h.gd,h.lt,fun q hq=>?_,fun i T hT=>?_⟩
 ·rcases List.mem_append.1 hq with hq | hq
  ·exact h.all q hq
  ·rw [List.mem_singleton.1 hq];exact (h.sn r).1 hr
 ·obtain ⟨r',D1,D2,e,c⟩:=h.cs i T hT
  exact ⟨r',D1,D2++[r],by rw [e];simp,c⟩
theorem SwB.more {Ns:List Nat}{n r S:Nat}{D:List Nat}{L:List (List Nat)}(h:SwB Ns n D L S)(hr:S.testBit r=false)(hn:r < n):SwB Ns n (D++[r]) (L++[(lvU Ns n ⟨[r],[],addN S r⟩).left]) (lvU Ns n ⟨[r],[],addN S r⟩).seen:=by
 have hrn:r ∉ L.flatten:=fun z=>by
  rw [(h.sn r).2 z] at hr
  cases hr
 have d0:DfB Ns n r L.flatten ⟨[r],[],addN S r⟩:=by
  refine ⟨by simp,fun z=>?_,?_,fun u hu v e=>?_,by simpa using h.gd,fun z hz=>?_,fun z hz=>?_,.inr (by simp)⟩
  ·show (addN S r).testBit z=true ↔ _
   rw [addN_bit,Bool.or_eq_true,h.sn z,decide_eq_true_iff]
   simp only [List.not_mem_nil,List.mem_singleton,false_or]
   exact ⟨fun z=>z.imp id Eq.symm,fun z=>z.imp id Eq.symm⟩
  ·show (L.flatten++[]++[r]).Nodup
   rw [List.append_nil,List.nodup_append]
   exact ⟨h.nd,by simp,fun a ha b hb=>by rw [List.mem_singleton.1 hb];rintro rfl;exact hrn ha⟩
  ·show (addN S r).testBit v=true
   have hu':u∈L.flatten:=by simpa using hu
   rw [addN_bit,(h.sn v).2 (h.cl u hu' v e)]
   rfl
  ·simp only [List.not_mem_nil,List.mem_singleton,false_or] at hz
   rcases hz with z1 | z1
   ·exact h.lt z z1
   ·rw [z1];exact hn
  ·simp only [List.not_mem_nil,List.mem_singleton,false_or] at hz
   rw [hz]
   exact .refl r
 obtain ⟨d,dp⟩:=DfB.end _ _ (Nat.le_refl _) d0
 generalize lvU Ns n ⟨[r],[],addN S r⟩=s at d dp
 have e1:(L++[s.left]).flatten=L.flatten++s.left:=by simp
 have hsn:∀ z,s.seen.testBit z=true ↔ z∈L.flatten++s.left:=fun z=>by
  rw [d.sn z,dp,List.mem_append]
  simp
 refine ⟨fun z=>by rw [e1];exact hsn z,?_,fun u hu v e=>?_,by rw [e1];exact d.gd,fun z hz=>?_,fun q hq=>?_,fun i T hT=>?_⟩
 ·have:=d.nd
  rw [dp,List.append_nil] at this
  rw [e1]
  exact this
 ·rw [e1] at hu ⊢
  exact (hsn v).1 (d.cl u (List.mem_append.1 hu) v e)
 ·rw [e1] at hz
  rcases List.mem_append.1 hz with z1 | z1
  ·exact d.lt z (.inl z1)
  ·exact d.lt z (.inr (.inl z1))
 ·rw [e1]
  rcases List.mem_append.1 hq with hq | hq
  ·exact List.mem_append.2 (.inl (h.all q hq))
  ·rw [List.mem_singleton.1 hq]
   rcases d.me with z | z
   ·exact List.mem_append.2 (.inr z)
   ·rw [dp] at z;cases z
 ·rcases Nat.lt_or_ge i L.length with hi | hi
  ·rw [List.getElem?_append_left hi] at hT
   obtain ⟨r',D1,D2,e,c⟩:=h.cs i T hT
   rw [List.take_append_of_le_length (Nat.le_of_lt hi)]
   exact ⟨r',D1,D2++[r],by rw [e];simp,c⟩
  ·rw [List.getElem?_append_right hi] at hT
   have hz:i - L.length=0:=by
    have:=(List.getElem?_eq_some_iff.1 hT).1
    simp at this
    omega
   rw [hz] at hT
   simp at hT
   have hi2:i=L.length:=by omega
   subst hi2
   rw [List.take_append_of_le_length (Nat.le_refl _),List.take_length,<- hT]
   refine ⟨r,D,[],rfl,?_,fun z hz=>d.rt z (.inl hz),h.all,hrn,h.cl⟩
   rcases d.me with z | z
   ·exact z
   ·rw [dp] at z;cases z
theorem SwB.run {Ns:List Nat}{n:Nat}:∀ (R D:List Nat) (L:List (List Nat)) (S:Nat),(∀ r∈R,r < n)->SwB Ns n D L S->SwB Ns n (D++R) (srU Ns n R (L,S)).1 (srU Ns n R (L,S)).2
 | [],D,L,S,_,h=>by
  rw [List.append_nil]
  exact h
 | r :: R,D,L,S,hR,h=>by
  unfold srU
  have e:D++r :: R=(D++[r])++R:=by simp
  rw [e]
  by_cases hb:S.testBit r=true
  ·simp only [hb,if_true]
   exact SwB.run R _ L S (fun q hq=>hR q (List.mem_cons_of_mem _ hq)) (h.skip hb)
  ·simp only [hb]
   exact SwB.run R _ _ _ (fun q hq=>hR q (List.mem_cons_of_mem _ hq)) (h.more (by simpa using hb) (hR r List.mem_cons_self))
theorem last_so (p:Nat->Prop):∀ l:List Nat,(∃ x∈l,p x)->∃ A m B,l=A++m :: B/\p m/\∀ b∈B,¬ p b
 | [],h=>by obtain ⟨x,hx,_⟩:=h;cases hx
 | a :: l,h=>by
  by_cases q:∃ x∈l,p x
  ·obtain ⟨A,m,B,e,hm,hb⟩:=last_so p l q
   exact ⟨a :: A,m,B,by rw [e];rfl,hm,hb⟩
  ·obtain ⟨x,hx,hpx⟩:=h
   rcases List.mem_cons.1 hx with rfl | hx
   ·exact ⟨[],x,l,rfl,hpx,fun b hb hpb=>q ⟨b,hb,hpb⟩⟩
   ·exact absurd ⟨x,hx,hpx⟩ q
theorem two_splits {A B P Q:List Nat}{m r:Nat}(h:A++m :: B=P++r :: Q)(hn:(A++m :: B).Nodup)(hr:r∈A++[m])(hm:m∈P++[r]):m=r:=by
 rcases List.append_eq_append_iff.1 h with ⟨a,e1,e2⟩ | ⟨a,e1,e2⟩
 ·cases a with
  | nil=>simp at e2;exact e2.1
  | cons a0 a =>
   simp at e2
   obtain ⟨rfl,rfl⟩:=e2
   exfalso
   have e:A++m :: (a++r :: Q)=(A++[m])++(a++r :: Q):=by simp
   rw [e,List.nodup_append] at hn
   exact hn.2.2 r hr r (by simp) rfl
 ·cases a with
  | nil=>simp at e2;exact e2.1.symm
  | cons a0 a =>
   simp at e2
   obtain ⟨rfl,rfl⟩:=e2
   exfalso
   rw [h] at hn
   have e:P++r :: (a++m :: B)=(P++[r])++(a++m :: B):=by simp
   rw [e,List.nodup_append] at hn
   exact hn.2.2 m hm m (by simp) rfl
theorem kosaraju {Ns Ms F:List Nat}{n S:Nat}{L:List (List Nat)}(hT:∀ x y,x < n->y < n->(Ms.getD y 0).testBit x=(Ns.getD x 0).testBit y)(hF:GoodB Ns n F)(hnd:F.Nodup)(hall:∀ z,z∈F ↔ z < n)(h:SwB Ms n F.reverse L S) :
  L.flatten.Nodup/\(∀ z,z∈L.flatten ↔ z < n)/\∀ T∈L,∃ r,r∈T/\∀ z,z∈T ↔ z < n/\RchB Ns n r z/\RchB Ns n z r:=by
 have tE:∀ x y,EdB Ms n y x ↔ EdB Ns n x y:=fun x y=>⟨fun e=>⟨e.2.1,e.1,by rw [<- hT x y e.2.1 e.1];exact e.2.2⟩,fun e=>⟨e.2.1,e.1,by rw [hT x y e.1 e.2.1];exact e.2.2⟩⟩
 have tR:∀ x y,RchB Ms n y x->RchB Ns n x y:=fun x y e=>e.fwd (fun v=>RchB Ns n v y) (fun u v hu e=>(RchB.one ((tE v u).1 e)).trans hu) (.refl y)
 refine ⟨h.nd,fun z=>⟨h.lt z,fun hz=>h.all z (List.mem_reverse.2 ((hall z).2 hz))⟩,fun T hTm=>?_⟩
 obtain ⟨i,hi⟩:=List.getElem?_of_mem hTm
 obtain ⟨r,D1,D2,hD,hrT,hreach,hD1,hrS,hcl⟩:=h.cs i T hi
 have hspl:L=L.take i++T :: L.drop (i+1):=by
  have hlt:=(List.getElem?_eq_some_iff.1 hi)
  obtain ⟨hlt,hv⟩:=hlt
  rw [<- hv,<- List.drop_eq_getElem_cons hlt,List.take_append_drop]
 have hfl:L.flatten=(L.take i).flatten++(T++(L.drop (i+1)).flatten):=by
  conv=>lhs;rw [hspl]
  simp
 generalize (L.take i).flatten=S0 at *
 -- S0 is closed against the edges
 have hback:∀ u v,RchB Ns n u v->v∈S0->u∈S0:=fun u v e hv=>e.bwd (·∈S0) (fun a b hb e=>hcl b hb a ((tE a b).2 e)) hv
 have hTS:∀ z∈T,z ∉ S0:=fun z hz hz2=>by
  have:=h.nd
  rw [hfl,List.nodup_append] at this
  exact this.2.2 z hz2 z (List.mem_append.2 (.inl hz)) rfl
 have hTlt:∀ z∈T,z < n:=fun z hz=>h.lt z (by rw [hfl];exact List.mem_append.2 (.inr (List.mem_append.2 (.inl hz))))
 -- all that is behind S0 and T is closed,too
 have hST:∀ z,RchB Ns n z r->z∈S0∨z∈T:=by
  intro z hz
  rcases Nat.lt_or_ge (i+1) L.length with hlt | hge
  ·obtain ⟨T',hT'⟩:∃ T',L[i+1]?=some T':=⟨_,List.getElem?_eq_getElem hlt⟩
   obtain ⟨_,_,_,_,_,_,_,_,hc2⟩:=h.cs (i+1) T' hT'
   have et:(L.take (i+1)).flatten=S0++T:=by
    have h0:L.take (i+1)=L.take i++[T]:=by
     rw [List.take_add_one,hi];rfl
    have h1:(L.take i).flatten=S0:=by
     have:=hfl
     rw [<- List.take_append_drop i L,List.flatten_append] at this
     have h2:(L.drop i).flatten=T++(L.drop (i+1)).flatten:=by
      have hv:=(List.getElem?_eq_some_iff.1 hi)
      obtain ⟨hl,hv⟩:=hv
      rw [List.drop_eq_getElem_cons hl,hv,List.flatten_cons]
     rw [h2] at this
     have h3:L.take i++L.drop i=L:=List.take_append_drop i L
     rw [h3] at this
     exact List.append_cancel_right this
    rw [h0,List.flatten_append,h1]
    simp
   rw [et] at hc2
   have:=hz.bwd (·∈S0++T) (fun a b hb e=>hc2 b hb a ((tE a b).2 e)) (List.mem_append.2 (.inr hrT))
   exact List.mem_append.1 this
  ·have hd:L.drop (i+1)=[]:=List.drop_eq_nil_of_le hge
   have hzl:z∈L.flatten:=h.all z (List.mem_reverse.2 ((hall z).2 (hz.gt (hTlt r hrT))))
   rw [hfl,hd] at hzl
   simpa using hzl
 refine ⟨r,hrT,fun z=>⟨fun hz=>?_,fun hz=>?_⟩⟩
 ·have hzr:RchB Ns n z r:=tR z r (hreach z hz)
  have hzn:=hTlt z hz
  refine ⟨hzn,?_,hzr⟩
  obtain ⟨A,m,B,hF2,hm,hB⟩:=last_so (fun u=>RchB Ns n u z/\RchB Ns n z u) F ⟨z,(hall z).2 hzn,.refl z,.refl z⟩
  have hmS:m ∉ S0:=fun q=>hTS z hz (hback z m hm.2 q)
  have key:∀ y,RchB Ns n m y->y∈A++[m]:=by
   intro y hy
   have:y∈A++[m]/\RchB Ns n m y:=hy.fwd (fun u=>u∈A++[m]/\RchB Ns n m u) (fun u v hu e=>by
    refine ⟨?_,hu.2.trans (.one e)⟩
    rcases hF A m B hF2 u hu.1 v e with q | q
    ·exact q
    ·have hv:v∈F:=(hall v).2 e.2.1
     rw [hF2] at hv
     rcases List.mem_append.1 hv with hv | hv
     ·exact List.mem_append.2 (.inl hv)
     ·rcases List.mem_cons.1 hv with rfl | hv
      ·exact List.mem_append.2 (.inr (List.mem_singleton.2 rfl))
      ·exact absurd ⟨q.trans hm.1,hm.2.trans (hu.2.trans (.one e))⟩ (hB v hv)) ⟨List.mem_append.2 (.inr (List.mem_singleton.2 rfl)),.refl m⟩
   exact this.1
  have hr1:=key r (hm.1.trans hzr)
  have hF3:F=D2.reverse++r :: D1.reverse:=by
   have:=congrArg List.reverse hD
   rw [List.reverse_reverse,List.reverse_append,List.reverse_cons] at this
   rw [this]
   simp
  have hmF:m∈D2.reverse++[r]:=by
   have:m∈F:=by rw [hF2];simp
   rw [hF3] at this
   rcases List.mem_append.1 this with q | q
   ·exact List.mem_append.2 (.inl q)
   ·rcases List.mem_cons.1 q with rfl | q
    ·exact List.mem_append.2 (.inr (List.mem_singleton.2 rfl))
    ·exact absurd (hD1 m (List.mem_reverse.1 q)) hmS
  have hmr:m=r:=two_splits (hF2.symm.trans hF3) (by rw [<- hF2];exact hnd) hr1 hmF
  rw [<- hmr]
  exact hm.1
 ·rcases hST z hz.2.2 with q | q
  ·exact absurd (hback r z hz.2.1 q) hrS
  ·exact q
theorem classes_are {Ns Ms:List Nat}{n:Nat}(hT:∀ x y,x < n->y < n->(Ms.getD y 0).testBit x=(Ns.getD x 0).testBit y) :
  let L:=(srU Ms n (srU Ns n (List.range n) ([],0)).1.flatten.reverse ([],0)).1
  L.flatten.Nodup/\(∀ z,z∈L.flatten ↔ z < n)/\∀ T∈L,∃ r,r∈T/\∀ z,z∈T ↔ z < n/\RchB Ns n r z/\RchB Ns n z r:=by
 have h1:=SwB.run (Ns:=Ns) (n:=n) (List.range n) [] [] 0 (fun r hr=>List.mem_range.1 hr) .first
 have h2:=SwB.run (Ns:=Ms) (n:=n) (srU Ns n (List.range n) ([],0)).1.flatten.reverse [] [] 0 (fun r hr=>h1.lt r (List.mem_reverse.1 hr)) .first
 rw [List.nil_append] at h1 h2
 exact kosaraju hT h1.gd h1.nd (fun z=>⟨h1.lt z,fun hz=>h1.all z (List.mem_range.2 hz)⟩) h2
theorem popB_full {N:Nat}:∀ {n:Nat},popB N n=n->∀ j,j < n->N.testBit j=true
 | 0,_,j,hj=>absurd hj (Nat.not_lt_zero j)
 | n+1,h,j,hj=>by
  have h':popB N n+(N.testBit n).toNat=n+1:=h
  have hl:=popB_le N n
  have hb:(N.testBit n).toNat<=1:=by cases N.testBit n<;>decide
  have h1:popB N n=n:=by omega
  have h2:N.testBit n=true:=by
   cases e:N.testBit n with
   | true=>rfl
   | false=>rw [e] at h';simp at h';omega
  rcases Nat.lt_or_ge j n with q | q
  ·exact popB_full h1 j q
  ·obtain rfl:j=n:=by omega
   exact h2
theorem popB_gap {N:Nat}:∀ {n:Nat},popB N n < n->∃ j,j < n/\N.testBit j=false
 | 0,h=>absurd h (Nat.not_lt_zero _)
 | n+1,h=>by
  have h':popB N n+(N.testBit n).toNat < n+1:=h
  cases e:N.testBit n with
  | false=>exact ⟨n,by omega,e⟩
  | true =>
   rw [e] at h'
   simp at h'
   obtain ⟨j,hj,hb⟩:=popB_gap (N:=N) (n:=n) (by omega)
   exact ⟨j,by omega,hb⟩
def bsN (l:List Nat):Nat:=l.foldr (fun x N=>addN N x) 0
theorem bsN_bit (l:List Nat)(z:Nat):(bsN l).testBit z=true ↔ z∈l:=by
 induction l with
 | nil=>simp [bsN]
 | cons x l ih =>
  show (addN (bsN l) x).testBit z=true ↔ _
  rw [addN_bit,Bool.or_eq_true,ih,decide_eq_true_iff,List.mem_cons]
  exact ⟨fun h=>h.elim .inr (fun h=>.inl h.symm),fun h=>h.elim (fun h=>.inr h.symm) .inl⟩
theorem bsN_pop {n:Nat}:∀ {l:List Nat},l.Nodup->(∀ x∈l,x < n)->popB (bsN l) n=l.length
 | [],_,_=>by
  exact popB_zero n
 | x :: l,hd,hl=>by
  show popB (addN (bsN l) x) n=_
  have hx:(bsN l).testBit x=false:=by
   cases e:(bsN l).testBit x with
   | false=>rfl
   | true=>exact absurd ((bsN_bit l x).1 e) (List.nodup_cons.1 hd).1
  rw [popB_addN (hl x List.mem_cons_self) hx,bsN_pop (List.nodup_cons.1 hd).2 (fun y hy=>hl y (List.mem_cons_of_mem _ hy))]
  rfl
theorem nodup_le {n:Nat}{l:List Nat}(hd:l.Nodup)(hl:∀ x∈l,x < n):l.length<=n:=by
 rw [<- bsN_pop hd hl]
 exact popB_le _ _
theorem nodup_all {n:Nat}{l:List Nat}(hd:l.Nodup)(hl:∀ x∈l,x < n)(he:l.length=n):∀ z,z < n->z∈l:=fun z hz=>(bsN_bit l z).1 (popB_full (by rw [bsN_pop hd hl];exact he) z hz)
theorem nodup_gap {n:Nat}{l:List Nat}(hd:l.Nodup)(hl:∀ x∈l,x < n)(he:l.length < n):∃ z,z < n/\z ∉ l:=by
 obtain ⟨j,hj,hb⟩:=popB_gap (N:=bsN l) (n:=n) (by rw [bsN_pop hd hl];exact he)
 exact ⟨j,hj,fun q=>by rw [(bsN_bit l j).2 q] at hb;cases hb⟩
theorem has_cycle {R:Nat->Nat->Prop}{n:Nat}{U:Nat->Prop}(hU:∀ x,U x->x < n)(hs:∀ x,U x->∃ y,U y/\R x y){x0:Nat}(h0:U x0):∃ x,U x/\Relation.TransGen R x x:=by
 -- a walk as long as one likes,or one that goes round
 have step:∀ k,(∃ x,U x/\Relation.TransGen R x x)∨∃ l x,l.length=k/\(x :: l).Nodup/\(∀ y∈x :: l,U y)/\∀ y∈l,Relation.TransGen R y x:=by
  intro k
  induction k with
  | zero=>exact .inr ⟨[],x0,rfl,by simp,fun y hy=>by rw [List.mem_singleton.1 hy];exact h0,fun y hy=>(by cases hy)⟩
  | succ k ih =>
   rcases ih with h | ⟨l,x,hl,hd,hu,ht⟩
   ·exact .inl h
   ·obtain ⟨y,hy,hr⟩:=hs x (hu x List.mem_cons_self)
    by_cases q:y∈x :: l
    ·left
     refine ⟨y,hy,?_⟩
     rcases List.mem_cons.1 q with rfl | q
     ·exact .single hr
     ·exact (ht y q).trans (.single hr)
    ·refine .inr ⟨x :: l,y,by simp [hl],List.nodup_cons.2 ⟨q,hd⟩,fun z hz=>?_,fun z hz=>?_⟩
     ·rcases List.mem_cons.1 hz with rfl | hz
      ·exact hy
      ·exact hu z hz
     ·rcases List.mem_cons.1 hz with rfl | hz
      ·exact .single hr
      ·exact (ht z hz).trans (.single hr)
 rcases step n with h | ⟨l,x,hl,hd,hu,_⟩
 ·exact h
 ·have:=nodup_le hd (fun y hy=>hU y (hu y hy))
  simp at this
  omega
structure PcB (Ns:List Nat)(n:Nat)(l:List Nat)(P:Nat):Prop where
 sn:∀ z,P.testBit z=true ↔ z∈l
 nd:l.Nodup
 lt:∀ z∈l,z < n
 od:∀ A x B,l=A++x :: B->∀ y,EdB Ns n x y->y∈A
theorem PcB.first {Ns:List Nat}{n:Nat}:PcB Ns n [] 0:=⟨fun z=>by simp,List.nodup_nil,fun z hz=>(by cases hz),fun A x B h=>by simp at h⟩
theorem cd_all {Ns:List Nat}{n P x:Nat}(h:cdB Ns n P x=true):P.testBit x=false/\∀ y,EdB Ns n x y->P.testBit y=true:=by
 unfold cdB at h
 rw [Bool.and_eq_true,decide_eq_true_iff] at h
 refine ⟨by simpa using h.1,fun y e=>?_⟩
 exact lk_all y (by rw [h.2];exact e.2.1) e.2.2
theorem PcB.next {Ns:List Nat}{n P x:Nat}{l:List Nat}(h:PcB Ns n l P)(hx:nxB Ns n P=some x):PcB Ns n (l++[x]) (addN P x):=by
 unfold nxB at hx
 obtain ⟨hp,hy⟩:=cd_all (by simpa using List.find?_some hx)
 have hxn:x < n:=List.mem_range.1 (List.mem_of_find?_eq_some hx)
 have hxl:x ∉ l:=fun q=>by rw [(h.sn x).2 q] at hp;cases hp
 refine ⟨fun z=>?_,?_,fun z hz=>?_,fun A y B hA z e=>?_⟩
 ·rw [addN_bit,Bool.or_eq_true,h.sn z,decide_eq_true_iff,List.mem_append,List.mem_singleton]
  exact ⟨fun q=>q.imp id Eq.symm,fun q=>q.imp id Eq.symm⟩
 ·rw [List.nodup_append]
  exact ⟨h.nd,by simp,fun a ha b hb=>by rw [List.mem_singleton.1 hb];rintro rfl;exact hxl ha⟩
 ·rcases List.mem_append.1 hz with q | q
  ·exact h.lt z q
  ·rw [List.mem_singleton.1 q];exact hxn
 ·rcases snoc_split hA with ⟨rfl,rfl,rfl⟩ | ⟨B2,rfl,hF2⟩
  ·exact (h.sn z).1 (hy z e)
  ·exact h.od A y B2 hF2 z e
theorem PcB.run {Ns:List Nat}{n:Nat}:∀ (f:Nat) (l:List Nat) (P:Nat),PcB Ns n l P->PcB Ns n (plcF Ns n f (l,P)).1 (plcF Ns n f (l,P)).2/\(nxB Ns n (plcF Ns n f (l,P)).2=none∨(plcF Ns n f (l,P)).1.length=l.length+f)
 | 0,l,P,h=>⟨h,.inr rfl⟩
 | f+1,l,P,h=>by
  unfold plcF
  cases e:nxB Ns n P with
  | none=>exact ⟨h,.inl e⟩
  | some x =>
   obtain ⟨h1,h2⟩:=PcB.run f (l++[x]) (addN P x) (h.next e)
   refine ⟨h1,h2.imp id (fun q=>?_)⟩
   rw [q,List.length_append]
   simp
   omega
theorem place_is (Ns:List Nat)(n:Nat):∃ P,PcB Ns n (placeU Ns n) P/\((placeU Ns n).length=n∨(placeU Ns n).length < n/\∀ x,x < n->x ∉ placeU Ns n->∃ y,y < n/\y ∉ placeU Ns n/\EdB Ns n x y):=by
 obtain ⟨h1,h2⟩:=PcB.run (Ns:=Ns) (n:=n) n [] 0 .first
 refine ⟨_,h1,?_⟩
 have hle:=nodup_le h1.nd h1.lt
 have hle':(placeU Ns n).length<=n:=hle
 rcases h2 with h2 | h2
 ·rcases Nat.lt_or_ge (placeU Ns n).length n with q | q
  ·refine .inr ⟨q,fun x hx hxl=>?_⟩
   have hc:cdB Ns n (plcF Ns n n ([],0)).2 x=false:=by
    unfold nxB at h2
    have:=List.find?_eq_none.1 h2 x (List.mem_range.2 hx)
    simpa using this
   unfold cdB at hc
   have hp:(plcF Ns n n ([],0)).2.testBit x=false:=by
    cases e:(plcF Ns n n ([],0)).2.testBit x with
    | false=>rfl
    | true=>exact absurd ((h1.sn x).1 e) hxl
   rw [hp] at hc
   simp only [Bool.not_false,Bool.true_and,decide_eq_false_iff_not] at hc
   have hk:=lkB_is (mB_ (Ns.getD x 0) (plcF Ns n n ([],0)).2) n
   have hl:=hk.le
   have hb:=(hk.is (by omega)).2
   rw [minusB_bit,Bool.and_eq_true] at hb
   refine ⟨_,by omega,fun q2=>?_,hx,by omega,hb.1⟩
   have:=(h1.sn _).2 q2
   rw [this] at hb
   simp at hb
  ·exact .inl (by omega)
 ·left
  have:(placeU Ns n).length=[].length+n:=h2
  simpa using this
theorem place_short {Ns:List Nat}{n:Nat}(h:(placeU Ns n).length < n):∃ x,x < n/\Relation.TransGen (EdB Ns n) x x:=by
 obtain ⟨P,hP,h2⟩:=place_is Ns n
 rcases h2 with h2 | ⟨_,h2⟩
 ·omega
 ·obtain ⟨z,hz,hzl⟩:=nodup_gap hP.nd hP.lt h
  obtain ⟨x,hx,ht⟩:=has_cycle (R:=EdB Ns n) (n:=n) (U:=fun x=>x < n/\x ∉ placeU Ns n) (fun x q=>q.1) (fun x q=>by
   obtain ⟨y,h3,h4,h5⟩:=h2 x q.1 q.2
   exact ⟨y,⟨h3,h4⟩,h5⟩) ⟨hz,hzl⟩
  exact ⟨x,hx.1,ht⟩
def mkN (f:Nat->Bool):Nat->Nat
 | 0=>0
 | n+1=>if f n then addN (mkN f n) n else mkN f n
theorem mkN_bit (f:Nat->Bool):∀ n j,(mkN f n).testBit j=(decide (j < n) && f j)
 | 0,j=>by simp [mkN]
 | n+1,j=>by
  unfold mkN
  by_cases q:f n=true
  ·rw [if_pos q,addN_bit,mkN_bit f n j]
   by_cases e:n=j
   ·subst e;simp [q]
   ·have:decide (j < n+1)=decide (j < n):=decide_eq_decide.2 (by omega)
    rw [decide_eq_false e,Bool.or_false,this]
  ·rw [if_neg q,mkN_bit f n j]
   by_cases e:n=j
   ·subst e;simp [q]
   ·have:decide (j < n+1)=decide (j < n):=decide_eq_decide.2 (by omega)
    rw [this]
theorem rowN_get {f:Nat->Nat}{n y:Nat}(h:y < n):((List.range n).map f).getD y 0=f y:=by
 rw [List.getD_eq_getElem?_getD,List.getElem?_map,List.getElem?_range h]
 rfl
theorem rowN_ext {Ms:List Nat}{n:Nat}{f:Nat->Nat->Bool}(hl:Ms.length=n){m:Nat}(hlt:∀ y,y < n->Ms.getD y 0 < 2 ^ m)(hb:∀ y x,y < n->x < m->(Ms.getD y 0).testBit x=f y x):Ms=(List.range n).map fun y=>mkN (f y) m:=by
 apply List.ext_getElem?
 intro y
 by_cases hy:y < n
 ·have h1:Ms[y]?=some (Ms.getD y 0):=by
   rw [List.getD_eq_getElem?_getD,List.getElem?_eq_getElem (by omega)]
   rfl
  rw [h1,List.getElem?_map,List.getElem?_range hy,Option.map_some]
  congr 1
  apply Nat.eq_of_testBit_eq
  intro x
  rw [mkN_bit]
  by_cases hx:x < m
  ·rw [hb y x hy hx,decide_eq_true hx,Bool.true_and]
  ·rw [decide_eq_false hx,Bool.false_and]
   exact Nat.testBit_lt_two_pow (Nat.lt_of_lt_of_le (hlt y hy) (Nat.pow_le_pow_right (by decide) (by omega)))
 ·rw [List.getElem?_eq_none (by omega),List.getElem?_eq_none (by simp;omega)]
def hmL (k:Nat):List Nat->List Nat->List Nat
 | [],H=>H
 | x :: T,H=>hmL k T (H.set x k)
def hmC:List (List Nat)->Nat->List Nat->List Nat
 | [],_,H=>H
 | T :: C,k,H=>hmC C (k+1) (hmL k T H)
theorem hmL_len (k:Nat):∀ (T H:List Nat),(hmL k T H).length=H.length
 | [],_=>rfl
 | x :: T,H=>by
  show (hmL k T (H.set x k)).length=_
  rw [hmL_len k T,List.length_set]
theorem hmL_get (k:Nat):∀ (T H:List Nat) (x:Nat),(hmL k T H).getD x 0=if x∈T/\x < H.length then k else H.getD x 0
 | [],H,x=>by rw [if_neg (fun q=>(by cases q.1))];rfl
 | y :: T,H,x=>by
  show (hmL k T (H.set y k)).getD x 0=_
  rw [hmL_get k T,List.length_set,getD_setV]
  by_cases h1:x∈T/\x < H.length
  ·rw [if_pos h1,if_pos ⟨List.mem_cons_of_mem _ h1.1,h1.2⟩]
  ·rw [if_neg h1]
   by_cases h2:y=x/\x < H.length
   ·rw [if_pos h2,if_pos ⟨by rw [h2.1];exact List.mem_cons_self,h2.2⟩]
   ·rw [if_neg h2,if_neg (fun q=>?_)]
    rcases List.mem_cons.1 q.1 with e | e
    ·exact h2 ⟨e.symm,q.2⟩
    ·exact h1 ⟨e,q.2⟩
theorem hmC_len:∀ (C:List (List Nat)) (k:Nat) (H:List Nat),(hmC C k H).length=H.length
 | [],_,_=>rfl
 | T :: C,k,H=>by
  show (hmC C (k+1) (hmL k T H)).length=_
  rw [hmC_len C,hmL_len]
theorem hmC_out:∀ (C:List (List Nat)) (k:Nat) (H:List Nat) (x:Nat),(∀ T∈C,x ∉ T)->(hmC C k H).getD x 0=H.getD x 0
 | [],_,_,_,_=>rfl
 | T :: C,k,H,x,h=>by
  show (hmC C (k+1) (hmL k T H)).getD x 0=_
  rw [hmC_out C _ _ x (fun T' hT'=>h T' (List.mem_cons_of_mem _ hT')),hmL_get,if_neg (fun q=>h T List.mem_cons_self q.1)]
theorem hmC_in:∀ (C:List (List Nat)) (k:Nat) (H:List Nat) (i x:Nat) (T:List Nat),C.Pairwise (fun T T'=>∀ x∈T,∀ y∈T',x≠y)->C[i]?=some T->x∈T->x < H.length->(hmC C k H).getD x 0=k+i
 | [],_,_,i,_,_,_,h,_,_=>by simp at h
 | T0 :: C,k,H,0,x,T,hp,h,hx,hl=>by
  simp at h
  subst h
  show (hmC C (k+1) (hmL k T0 H)).getD x 0=_
  rw [hmC_out C _ _ x (fun T' hT' q=>(List.pairwise_cons.1 hp).1 T' hT' x hx x q rfl),hmL_get,if_pos ⟨hx,hl⟩]
  rfl
 | T0 :: C,k,H,i+1,x,T,hp,h,hx,hl=>by
  show (hmC C (k+1) (hmL k T0 H)).getD x 0=_
  rw [hmC_in C (k+1) _ i x T (List.pairwise_cons.1 hp).2 (by simpa using h) hx (by rw [hmL_len];exact hl)]
  omega
theorem hmL_lt {k c:Nat}(hk:k < c):∀ (T H:List Nat),(∀ x∈H,x < c)->∀ x∈hmL k T H,x < c
 | [],_,h=>h
 | y :: T,H,h=>by
  refine hmL_lt hk T (H.set y k) (fun x hx=>?_)
  rcases List.mem_or_eq_of_mem_set hx with q | q
  ·exact h x q
  ·rw [q];exact hk
theorem hmC_lt {c:Nat}:∀ (C:List (List Nat)) (k:Nat) (H:List Nat),k+C.length<=c->(∀ x∈H,x < c)->∀ x∈hmC C k H,x < c
 | [],_,_,_,h=>h
 | T :: C,k,H,hk,h=>by
  simp at hk
  exact hmC_lt C (k+1) _ (by omega) (hmL_lt (by omega) T H h)
def btF (H Ns:List Nat)(n a b:Nat):Bool:=decide (a≠b) && (List.range n).any fun x=>decide (H.getD x 0=a) && (List.range n).any fun y=>(Ns.getD x 0).testBit y && decide (H.getD y 0=b)
theorem btF_iff {H Ns:List Nat}{n a b:Nat}:btF H Ns n a b=true ↔ a≠b/\∃ x y,H.getD x 0=a/\H.getD y 0=b/\EdB Ns n x y:=by
 unfold btF EdB
 simp only [Bool.and_eq_true,decide_eq_true_iff,List.any_eq_true,List.mem_range]
 constructor
 ·rintro ⟨h1,x,hx,h2,y,hy,h3,h4⟩
  exact ⟨h1,x,y,h2,h4,hx,hy,h3⟩
 ·rintro ⟨h1,x,y,h2,h4,hx,hy,h3⟩
  exact ⟨h1,x,hx,h2,y,hy,h3,h4⟩
def btU (C:List (List Nat))(Ns:List Nat)(n:Nat):List Nat:=(List.range C.length).map fun a=>mkN (btF (hmC C 0 (List.replicate n 0)) Ns n a) C.length
theorem btU_ed {C:List (List Nat)}{Ns:List Nat}{n a b:Nat}:EdB (btU C Ns n) C.length a b ↔ a < C.length/\b < C.length/\btF (hmC C 0 (List.replicate n 0)) Ns n a b=true:=by
 unfold EdB btU
 constructor
 ·rintro ⟨h1,h2,h3⟩
  rw [rowN_get h1,mkN_bit,decide_eq_true h2,Bool.true_and] at h3
  exact ⟨h1,h2,h3⟩
 ·rintro ⟨h1,h2,h3⟩
  refine ⟨h1,h2,?_⟩
  rw [rowN_get h1,mkN_bit,decide_eq_true h2,Bool.true_and]
  exact h3
structure ClB (Ns:List Nat)(n:Nat)(C:List (List Nat)):Prop where
 cls:∀ T∈C,T.Nodup/\∃ r,r∈T/\∀ z,z∈T ↔ z < n/\RchB Ns n r z/\RchB Ns n z r
 dis:C.Pairwise fun T T'=>∀ x∈T,∀ y∈T',x≠y
 cov:∀ z,z < n->∃ T∈C,z∈T
theorem ClB.lt {Ns:List Nat}{n:Nat}{C:List (List Nat)}(h:ClB Ns n C){T:List Nat}(hT:T∈C){x:Nat}(hx:x∈T):x < n:=by
 obtain ⟨_,r,_,hr⟩:=h.cls T hT
 exact ((hr x).1 hx).1
theorem ClB.mut {Ns:List Nat}{n:Nat}{C:List (List Nat)}(h:ClB Ns n C){T:List Nat}(hT:T∈C){x y:Nat}(hx:x∈T):y∈T ↔ RchB Ns n x y/\RchB Ns n y x:=by
 obtain ⟨_,r,_,hr⟩:=h.cls T hT
 have hx':=(hr x).1 hx
 rw [hr y]
 constructor
 ·rintro ⟨_,h1,h2⟩
  exact ⟨hx'.2.2.trans h1,h2.trans hx'.2.1⟩
 ·rintro ⟨h1,h2⟩
  exact ⟨h1.lt hx'.1,hx'.2.1.trans h1,h2.trans hx'.2.2⟩
theorem ClB.perm {Ns:List Nat}{n:Nat}{C D:List (List Nat)}(h:ClB Ns n C)(hp:D.Perm C):ClB Ns n D:=by
 refine ⟨fun T hT=>h.cls T (hp.mem_iff.1 hT),?_,fun z hz=>?_⟩
 ·exact (hp.pairwise_iff (fun {a b} hab x hx y hy e=>hab y hy x hx e.symm)).2 h.dis
 ·obtain ⟨T,hT,hzT⟩:=h.cov z hz
  exact ⟨T,hp.mem_iff.2 hT,hzT⟩
theorem ClB.map {Ns:List Nat}{n:Nat}{C:List (List Nat)}(h:ClB Ns n C){f:List Nat->List Nat}(hf:∀ T∈C,(f T).Perm T):ClB Ns n (C.map f):=by
 refine ⟨fun T hT=>?_,?_,fun z hz=>?_⟩
 ·obtain ⟨T0,hT0,rfl⟩:=List.mem_map.1 hT
  obtain ⟨h1,r,h2,h3⟩:=h.cls T0 hT0
  exact ⟨(hf T0 hT0).nodup_iff.2 h1,r,(hf T0 hT0).mem_iff.2 h2,fun z=>by rw [(hf T0 hT0).mem_iff];exact h3 z⟩
 ·rw [List.pairwise_map]
  exact h.dis.imp_of_mem (fun {a b} ha hb hab x hx y hy=>hab x ((hf a ha).mem_iff.1 hx) y ((hf b hb).mem_iff.1 hy))
 ·obtain ⟨T,hT,hzT⟩:=h.cov z hz
  exact ⟨f T,List.mem_map_of_mem hT,(hf T hT).mem_iff.2 hzT⟩
theorem ClB.made {Ns Ms:List Nat}{n:Nat}(hT:∀ x y,x < n->y < n->(Ms.getD y 0).testBit x=(Ns.getD x 0).testBit y):ClB Ns n (srU Ms n (srU Ns n (List.range n) ([],0)).1.flatten.reverse ([],0)).1:=by
 obtain ⟨h1,h2,h3⟩:=classes_are hT
 have h1':=List.pairwise_flatten.1 h1
 refine ⟨fun T hTm=>⟨h1'.1 T hTm,h3 T hTm⟩,h1'.2,fun z hz=>?_⟩
 obtain ⟨T,hTm,hzT⟩:=List.mem_flatten.1 ((h2 z).2 hz)
 exact ⟨T,hTm,hzT⟩
theorem ClB.one {Ns:List Nat}{n:Nat}{C:List (List Nat)}(h:ClB Ns n C){i j x:Nat}{T T':List Nat}(hi:C[i]?=some T)(hj:C[j]?=some T')(hx:x∈T)(hx':x∈T'):i=j:=by
 have h1:=hmC_in C 0 (List.replicate n 0) i x T h.dis hi hx (by rw [List.length_replicate];exact h.lt (List.mem_of_getElem? hi) hx)
 have h2:=hmC_in C 0 (List.replicate n 0) j x T' h.dis hj hx' (by rw [List.length_replicate];exact h.lt (List.mem_of_getElem? hj) hx')
 omega
theorem ClB.ed {Ns:List Nat}{n:Nat}{C:List (List Nat)}(h:ClB Ns n C){a b:Nat}:EdB (btU C Ns n) C.length a b ↔ a≠b/\∃ T T' x y,C[a]?=some T/\C[b]?=some T'/\x∈T/\y∈T'/\EdB Ns n x y:=by
 rw [btU_ed,btF_iff]
 have home:∀ x,x < n->∃ T,C[(hmC C 0 (List.replicate n 0)).getD x 0]?=some T/\x∈T:=fun x hx=>by
  obtain ⟨T,hT,hxT⟩:=h.cov x hx
  obtain ⟨i,hi⟩:=List.getElem?_of_mem hT
  rw [hmC_in C 0 _ i x T h.dis hi hxT (by rw [List.length_replicate];exact hx),Nat.zero_add]
  exact ⟨T,hi,hxT⟩
 constructor
 ·rintro ⟨_,_,hab,x,y,hx,hy,e⟩
  obtain ⟨T,hT,hxT⟩:=home x e.1
  obtain ⟨T',hT',hyT⟩:=home y e.2.1
  rw [hx] at hT
  rw [hy] at hT'
  exact ⟨hab,T,T',x,y,hT,hT',hxT,hyT,e⟩
 ·rintro ⟨hab,T,T',x,y,hT,hT',hx,hy,e⟩
  refine ⟨(List.getElem?_eq_some_iff.1 hT).1,(List.getElem?_eq_some_iff.1 hT').1,hab,x,y,?_,?_,e⟩
  ·rw [hmC_in C 0 _ a x T h.dis hT hx (by rw [List.length_replicate];exact e.1),Nat.zero_add]
  ·rw [hmC_in C 0 _ b y T' h.dis hT' hy (by rw [List.length_replicate];exact e.2.1),Nat.zero_add]
theorem ClB.noround {Ns:List Nat}{n:Nat}{C:List (List Nat)}(h:ClB Ns n C){a b:Nat}(ht:Relation.TransGen (EdB (btU C Ns n) C.length) a b):a≠b/\∀ T T',C[a]?=some T->C[b]?=some T'->∀ x∈T,∀ y∈T',RchB Ns n x y:=by
 have all:∀ a b,EdB (btU C Ns n) C.length a b->∀ T T',C[a]?=some T->C[b]?=some T'->∀ x∈T,∀ y∈T',RchB Ns n x y:=fun a b e T T' hT hT' x hx y hy=>by
  obtain ⟨_,T1,T2,x1,y1,h1,h2,hx1,hy1,e1⟩:=h.ed.1 e
  rw [hT] at h1
  rw [hT'] at h2
  cases h1
  cases h2
  exact ((h.mut (List.mem_of_getElem? hT) hx).1 hx1).1.trans ((RchB.one e1).trans ((h.mut (List.mem_of_getElem? hT') hy1).1 hy).1)
 induction ht with
 | single e=>exact ⟨(h.ed.1 e).1,all _ _ e⟩
 | @tail c d _ e ih =>
  obtain ⟨hac,hR⟩:=ih
  have hcl:c < C.length:=e.1
  obtain ⟨Tc,hTc⟩:∃ T,C[c]?=some T:=⟨_,List.getElem?_eq_getElem hcl⟩
  obtain ⟨_,rc,hrc,_⟩:=h.cls Tc (List.mem_of_getElem? hTc)
  refine ⟨?_,fun T T' hT hT' x hx y hy=>(hR T Tc hT hTc x hx rc hrc).trans (all _ _ e Tc T' hTc hT' rc hrc y hy)⟩
  rintro rfl
  obtain ⟨Ta,hTa⟩:∃ T,C[a]?=some T:=⟨_,List.getElem?_eq_getElem e.2.1⟩
  obtain ⟨_,ra,hra,_⟩:=h.cls Ta (List.mem_of_getElem? hTa)
  have h1:=hR Ta Tc hTa hTc ra hra rc hrc
  have h2:=all _ _ e Tc Ta hTc hTa rc hrc ra hra
  exact hac (h.one hTa hTc ((h.mut (List.mem_of_getElem? hTa) hra).2 ⟨h1,h2⟩) hrc)
def orU (C:List (List Nat))(Ns:List Nat)(n:Nat):List (List Nat):=(placeU (btU C Ns n) C.length).map fun a=>C.getD a []
structure CoB (Ns:List Nat)(n:Nat)(D:List (List Nat)):Prop extends ClB Ns n D where
 od:∀ A T B,D=A++T :: B->∀ x∈T,∀ y,EdB Ns n x y->y∈T∨∃ T'∈A,y∈T'
theorem ClB.full {Ns:List Nat}{n:Nat}{C:List (List Nat)}(h:ClB Ns n C):(placeU (btU C Ns n) C.length).length=C.length:=by
 obtain ⟨P,hP,h2⟩:=place_is (btU C Ns n) C.length
 rcases h2 with h2 | ⟨h2,_⟩
 ·exact h2
 ·obtain ⟨x,hx,ht⟩:=place_short h2
  exact absurd rfl (h.noround ht).1
theorem getD_someL {C:List (List Nat)}{a:Nat}(h:a < C.length):C[a]?=some (C.getD a []):=by
 rw [List.getD_eq_getElem?_getD,List.getElem?_eq_getElem h]
 rfl
theorem ClB.order {Ns:List Nat}{n:Nat}{C:List (List Nat)}(h:ClB Ns n C):CoB Ns n (orU C Ns n):=by
 obtain ⟨P,hP,_⟩:=place_is (btU C Ns n) C.length
 have hall:=nodup_all hP.nd hP.lt h.full
 refine ⟨⟨fun T hT=>?_,?_,fun z hz=>?_⟩,fun A T B hD x hx y e=>?_⟩
 ·obtain ⟨a,ha,rfl⟩:=List.mem_map.1 hT
  exact h.cls _ (List.mem_of_getElem? (getD_someL (hP.lt a ha)))
 ·unfold orU
  rw [List.pairwise_map]
  refine List.Pairwise.imp_of_mem (R:=(·≠·)) (fun {a b} ha hb hab x hx y hy exy=>hab ?_) hP.nd
  subst exy
  exact h.one (getD_someL (hP.lt a ha)) (getD_someL (hP.lt b hb)) hx hy
 ·obtain ⟨T,hT,hzT⟩:=h.cov z hz
  obtain ⟨i,hi⟩:=List.getElem?_of_mem hT
  have hil:=(List.getElem?_eq_some_iff.1 hi).1
  refine ⟨C.getD i [],List.mem_map_of_mem (hall i hil),?_⟩
  rw [List.getD_eq_getElem?_getD,hi]
  exact hzT
 ·unfold orU at hD
  obtain ⟨A1,R1,hp,hA,hR⟩:=List.map_eq_append_iff.1 hD
  obtain ⟨a,B1,rfl,hT,hB⟩:=List.map_eq_cons_iff.1 hR
  have hal:=hP.lt a (by rw [hp];simp)
  obtain ⟨T',hT',hyT⟩:=h.cov y e.2.1
  obtain ⟨b,hb⟩:=List.getElem?_of_mem hT'
  by_cases q:a=b
  ·subst q
   left
   rw [<- hT,List.getD_eq_getElem?_getD,hb]
   exact hyT
  ·right
   have e2:EdB (btU C Ns n) C.length a b:=h.ed.2 ⟨q,T,T',x,y,by rw [getD_someL hal,hT],hb,hx,hyT,e⟩
   have hbA:=hP.od A1 a B1 hp b e2
   refine ⟨T',?_,hyT⟩
   rw [<- hA]
   refine List.mem_map.2 ⟨b,hbA,?_⟩
   rw [List.getD_eq_getElem?_getD,hb]
   rfl
def gaY (sol:List (Option Nat)):List Nat->Nat->Nat
 | [],N=>N
 | y :: ys,N=>gaY sol ys (match sol.getD y none with | some M=>N ||| M | none=>N)
def gaX (Ns Fs:List Nat)(n:Nat)(sol:List (Option Nat)):List Nat->Nat->Nat
 | [],N=>N
 | x :: xs,N=>gaX Ns Fs n sol xs (gaY sol (bitsU (Ns.getD x 0) n) (N ||| Fs.getD x 0))
def gaU (Ns Fs:List Nat)(n:Nat)(sol:List (Option Nat))(T:List Nat):Nat:=gaX Ns Fs n sol T (Fs.getD (T.getD 0 0) 0)
def svX (g:Nat):List Nat->List (Option Nat)->List (Option Nat)
 | [],s=>s
 | x :: xs,s=>svX g xs (s.set x (some g))
def svC (Ns Fs:List Nat)(n:Nat):List (List Nat)->List (Option Nat)->List (Option Nat)
 | [],s=>s
 | T :: D,s=>svC Ns Fs n D (svX (gaU Ns Fs n s T) T s)
theorem gaY_bit (sol:List (Option Nat))(b:Nat):∀ (ys:List Nat) (N:Nat),(gaY sol ys N).testBit b=true ↔ N.testBit b=true∨∃ y∈ys,∃ M,sol.getD y none=some M/\M.testBit b=true
 | [],N=>by simp [gaY]
 | y :: ys,N=>by
  unfold gaY
  rw [gaY_bit sol b ys]
  cases e:sol.getD y none with
  | none =>
   simp only [List.mem_cons]
   constructor
   ·rintro (h | ⟨z,hz,M,h1,h2⟩)
    ·exact .inl h
    ·exact .inr ⟨z,.inr hz,M,h1,h2⟩
   ·rintro (h | ⟨z,hz | hz,M,h1,h2⟩)
    ·exact .inl h
    ·rw [hz,e] at h1;cases h1
    ·exact .inr ⟨z,hz,M,h1,h2⟩
  | some K =>
   simp only [List.mem_cons,Nat.testBit_or,Bool.or_eq_true]
   constructor
   ·rintro ((h | h) | ⟨z,hz,M,h1,h2⟩)
    ·exact .inl h
    ·exact .inr ⟨y,.inl rfl,K,e,h⟩
    ·exact .inr ⟨z,.inr hz,M,h1,h2⟩
   ·rintro (h | ⟨z,hz | hz,M,h1,h2⟩)
    ·exact .inl (.inl h)
    ·rw [hz,e] at h1;cases h1;exact .inl (.inr h2)
    ·exact .inr ⟨z,hz,M,h1,h2⟩
theorem gaX_bit (Ns Fs:List Nat)(n:Nat)(sol:List (Option Nat))(b:Nat):∀ (xs:List Nat) (N:Nat),(gaX Ns Fs n sol xs N).testBit b=true ↔ N.testBit b=true∨∃ x∈xs,(Fs.getD x 0).testBit b=true∨∃ y,y < n/\(Ns.getD x 0).testBit y=true/\∃ M,sol.getD y none=some M/\M.testBit b=true
 | [],N=>by simp [gaX]
 | x :: xs,N=>by
  unfold gaX
  rw [gaX_bit Ns Fs n sol b xs,gaY_bit,Nat.testBit_or,Bool.or_eq_true]
  simp only [List.mem_cons,bitsU_mem]
  constructor
  ·rintro (((h | h) | ⟨y,⟨h1,h2⟩,h3⟩) | ⟨z,hz,h⟩)
   ·exact .inl h
   ·exact .inr ⟨x,.inl rfl,.inl h⟩
   ·exact .inr ⟨x,.inl rfl,.inr ⟨y,h1,h2,h3⟩⟩
   ·exact .inr ⟨z,.inr hz,h⟩
  ·rintro (h | ⟨z,rfl | hz,h⟩)
   ·exact .inl (.inl (.inl h))
   ·rcases h with h | ⟨y,h1,h2,h3⟩
    ·exact .inl (.inl (.inr h))
    ·exact .inl (.inr ⟨y,⟨h1,h2⟩,h3⟩)
   ·exact .inr ⟨z,hz,h⟩
theorem svX_len (g:Nat):∀ (xs:List Nat) (s:List (Option Nat)),(svX g xs s).length=s.length
 | [],_=>rfl
 | x :: xs,s=>by show (svX g xs (s.set x (some g))).length=_;rw [svX_len g xs,List.length_set]
theorem svX_get (g:Nat):∀ (xs:List Nat) (s:List (Option Nat)) (x:Nat),(svX g xs s).getD x none=if x∈xs/\x < s.length then some g else s.getD x none
 | [],s,x=>by rw [if_neg (fun q=>(by cases q.1))];rfl
 | y :: xs,s,x=>by
  show (svX g xs (s.set y (some g))).getD x none=_
  rw [svX_get g xs,List.length_set]
  have hset:(s.set y (some g)).getD x none=if y=x/\x < s.length then some g else s.getD x none:=by
   simp only [List.getD,List.getElem?_set]
   by_cases h1:y=x
   ·subst h1
    by_cases h2:y < s.length
    ·simp [h2]
    ·simp [h2]
   ·simp [h1]
  rw [hset]
  by_cases h1:x∈xs/\x < s.length
  ·rw [if_pos h1,if_pos ⟨List.mem_cons_of_mem _ h1.1,h1.2⟩]
  ·rw [if_neg h1]
   by_cases h2:y=x/\x < s.length
   ·rw [if_pos h2,if_pos ⟨by rw [h2.1];exact List.mem_cons_self,h2.2⟩]
   ·rw [if_neg h2,if_neg (fun q=>?_)]
    rcases List.mem_cons.1 q.1 with e | e
    ·exact h2 ⟨e.symm,q.2⟩
    ·exact h1 ⟨e,q.2⟩
structure SoB (Ns Fs:List Nat)(n:Nat)(A:List (List Nat))(sol:List (Option Nat)):Prop where
 len:sol.length=n
 yes:∀ T∈A,∀ x∈T,∃ M,sol.getD x none=some M/\∀ b,M.testBit b=true ↔ ∃ y,RchB Ns n x y/\(Fs.getD y 0).testBit b=true
 no:∀ x,(∀ T∈A,x ∉ T)->sol.getD x none=none
theorem SoB.next {Ns Fs:List Nat}{n:Nat}{A B:List (List Nat)}{T:List Nat}{sol:List (Option Nat)}(hD:CoB Ns n (A++T :: B))(h:SoB Ns Fs n A sol):SoB Ns Fs n (A++[T]) (svX (gaU Ns Fs n sol T) T sol):=by
 have hTm:T∈A++T :: B:=by simp
 have hdis:=(List.pairwise_append.1 hD.dis).2.2
 have hne:∀ T'∈A,∀ x∈T,x ∉ T':=fun T' hT' x hx q=>hdis T' hT' T List.mem_cons_self x q x hx rfl
 have hbit:∀ x0∈T,∀ b,(gaU Ns Fs n sol T).testBit b=true ↔ ∃ y,RchB Ns n x0 y/\(Fs.getD y 0).testBit b=true:=by
  intro x0 hx0 b
  have hhd:T.getD 0 0∈T:=by
   cases T with
   | nil=>cases hx0
   | cons t T=>exact List.mem_cons_self
  unfold gaU
  rw [gaX_bit]
  constructor
  ·rintro (hb | ⟨x,hx,hb | ⟨y,hy,he,M,hM,hb⟩⟩)
   ·exact ⟨_,((hD.mut hTm hx0).1 hhd).1,hb⟩
   ·exact ⟨_,((hD.mut hTm hx0).1 hx).1,hb⟩
   ·have hxn:=hD.toClB.lt hTm hx
    have hyA:∃ T'∈A,y∈T':=by
     rcases Classical.em (∃ T'∈A,y∈T') with q | q
     ·exact q
     ·rw [h.no y (fun T' hT' hy2=>q ⟨T',hT',hy2⟩)] at hM
      cases hM
    obtain ⟨T',hT',hyT⟩:=hyA
    obtain ⟨M',hM',hb'⟩:=h.yes T' hT' y hyT
    rw [hM] at hM'
    cases hM'
    obtain ⟨z,hz,hzb⟩:=(hb' b).1 hb
    exact ⟨z,((hD.mut hTm hx0).1 hx).1.trans ((RchB.one ⟨hxn,hy,he⟩).trans hz),hzb⟩
  ·rintro ⟨z,hz,hzb⟩
   have key:z∈T∨∃ x∈T,∃ y,(∃ T'∈A,y∈T')/\EdB Ns n x y/\RchB Ns n y z:=hz.fwd (fun u=>u∈T∨∃ x∈T,∃ y,(∃ T'∈A,y∈T')/\EdB Ns n x y/\RchB Ns n y u) (fun u v hu e=>by
    rcases hu with hu | ⟨x,hx,y,hy,e1,hr⟩
    ·rcases hD.od A T B rfl u hu v e with q | q
     ·exact .inl q
     ·exact .inr ⟨u,hu,v,q,e,.refl v⟩
    ·exact .inr ⟨x,hx,y,hy,e1,hr.trans (.one e)⟩) (.inl hx0)
   rcases key with q | ⟨x,hx,y,⟨T',hT',hyT⟩,e1,hr⟩
   ·exact .inr ⟨z,q,.inl hzb⟩
   ·obtain ⟨M,hM,hMb⟩:=h.yes T' hT' y hyT
    exact .inr ⟨x,hx,.inr ⟨y,e1.2.1,e1.2.2,M,hM,(hMb b).2 ⟨z,hr,hzb⟩⟩⟩
 refine ⟨by rw [svX_len];exact h.len,fun T' hT' x hx=>?_,fun x hx=>?_⟩
 ·rcases List.mem_append.1 hT' with q | q
  ·obtain ⟨M,hM,hb⟩:=h.yes T' q x hx
   refine ⟨M,?_,hb⟩
   rw [svX_get,if_neg (fun z=>hne T' q x z.1 hx)]
   exact hM
  ·rw [List.mem_singleton.1 q] at hx
   refine ⟨gaU Ns Fs n sol T,?_,hbit x hx⟩
   rw [svX_get,if_pos ⟨hx,by rw [h.len];exact hD.toClB.lt hTm hx⟩]
 ·rw [svX_get,if_neg (fun z=>hx T (by simp) z.1)]
  exact h.no x (fun T' hT'=>hx T' (List.mem_append.2 (.inl hT')))
theorem SoB.run {Ns Fs:List Nat}{n:Nat}:∀ (B A:List (List Nat)) (sol:List (Option Nat)),CoB Ns n (A++B)->SoB Ns Fs n A sol->SoB Ns Fs n (A++B) (svC Ns Fs n B sol)
 | [],A,sol,_,h=>by rw [List.append_nil];exact h
 | T :: B,A,sol,hD,h=>by
  have e:A++T :: B=(A++[T])++B:=by simp
  rw [e] at hD ⊢
  exact SoB.run B (A++[T]) _ hD (h.next (by rw [<- e] at hD;exact hD))
theorem solved_all {Ns Fs:List Nat}{n:Nat}{D:List (List Nat)}(hD:CoB Ns n D){x:Nat}(hx:x < n):∃ M,(svC Ns Fs n D (List.replicate n none)).getD x none=some M/\∀ b,M.testBit b=true ↔ ∃ y,RchB Ns n x y/\(Fs.getD y 0).testBit b=true:=by
 have h0:SoB Ns Fs n [] (List.replicate n none):=⟨by simp,fun T hT=>(by cases hT),fun x _=>by
  rw [List.getD_eq_getElem?_getD,List.getElem?_replicate]
  by_cases q:x < n
  ·rw [if_pos q];rfl
  ·rw [if_neg q];rfl⟩
 have h:=SoB.run (Fs:=Fs) D [] _ hD h0
 obtain ⟨T,hT,hxT⟩:=hD.cov x hx
 exact h.yes T hT x hxT
structure BfS where
 q:List Nat
 seen:Nat
 st:List Nat
def bfF (Ms:List Nat)(n x most:Nat):Nat->BfS->List Nat
 | 0,s=>s.st
 | f+1,s=>match s.q with
  | []=>s.st
  | y :: r=>if s.st.getD y 0+1=most then s.st
   else if lkB (mB_ (Ms.getD y 0) s.seen) n < n then
    if lkB (mB_ (Ms.getD y 0) s.seen) n=x then s.st.set x (s.st.getD y 0+1)
    else bfF Ms n x most f ⟨y :: (r++[lkB (mB_ (Ms.getD y 0) s.seen) n]),addN s.seen (lkB (mB_ (Ms.getD y 0) s.seen) n),s.st.set (lkB (mB_ (Ms.getD y 0) s.seen) n) (s.st.getD y 0+1)⟩
   else bfF Ms n x most f ⟨r,s.seen,s.st⟩
def mesQ (n:Nat)(s:BfS):Nat:=2*(n - popB s.seen n)+s.q.length
theorem lk_new {D S n:Nat}(h:lkB (mB_ D S) n < n):D.testBit (lkB (mB_ D S) n)=true/\S.testBit (lkB (mB_ D S) n)=false:=by
 have hb:=((lkB_is (mB_ D S) n).is h).2
 rw [minusB_bit,Bool.and_eq_true] at hb
 exact ⟨hb.1,by simpa using hb.2⟩
theorem lk_full {D S n:Nat}(h:¬ lkB (mB_ D S) n < n){z:Nat}(hz:z < n)(hd:D.testBit z=true):S.testBit z=true:=lk_all (n:=n) z (by omega) hd
theorem mesQ_push {n z:Nat}{y S:Nat}{r st st':List Nat}(hz:z < n)(hs:S.testBit z=false):mesQ n ⟨y :: (r++[z]),addN S z,st'⟩ < mesQ n ⟨y :: r,S,st⟩:=by
 unfold mesQ
 have h1:=popB_addN hz hs
 have h2:=popB_le (addN S z) n
 simp only [List.length_cons,List.length_append,List.length_nil]
 omega
theorem bfF_any {Ms:List Nat}{n x most:Nat}:∀ (f g:Nat) (s:BfS),mesQ n s<=f->mesQ n s<=g->bfF Ms n x most f s=bfF Ms n x most g s
 | 0,0,_,_,_=>rfl
 | 0,g+1,s,h,_=>by
  have e:s.q=[]:=List.eq_nil_of_length_eq_zero (by unfold mesQ at h;omega)
  simp only [bfF,e]
 | f+1,0,s,_,h=>by
  have e:s.q=[]:=List.eq_nil_of_length_eq_zero (by unfold mesQ at h;omega)
  simp only [bfF,e]
 | f+1,g+1,s,h,h'=>by
  obtain ⟨q,S,st⟩:=s
  cases q with
  | nil=>rfl
  | cons y r =>
   simp only [bfF]
   by_cases h1:st.getD y 0+1=most
   ·rw [if_pos h1,if_pos h1]
   ·rw [if_neg h1,if_neg h1]
    by_cases h2:lkB (mB_ (Ms.getD y 0) S) n < n
    ·rw [if_pos h2,if_pos h2]
     by_cases h3:lkB (mB_ (Ms.getD y 0) S) n=x
     ·rw [if_pos h3,if_pos h3]
     ·rw [if_neg h3,if_neg h3]
      have:=mesQ_push (y:=y) (r:=r) (st:=st) (st':=st.set (lkB (mB_ (Ms.getD y 0) S) n) (st.getD y 0+1)) h2 (lk_new h2).2
      exact bfF_any f g _ (by omega) (by omega)
    ·rw [if_neg h2,if_neg h2]
     unfold mesQ at h h'
     simp only [List.length_cons] at h h'
     exact bfF_any f g _ (by unfold mesQ;simp only;omega) (by unfold mesQ;simp only;omega)
def bfU (Ms:List Nat)(n x most:Nat)(s:BfS):List Nat:=bfF Ms n x most (mesQ n s) s
theorem bfU_nil {Ms:List Nat}{n x most S:Nat}{st:List Nat}:bfU Ms n x most ⟨[],S,st⟩=st:=by
 unfold bfU
 cases mesQ n ⟨[],S,st⟩<;>rfl
theorem bfU_cons {Ms:List Nat}{n x most y S:Nat}{r st:List Nat}:bfU Ms n x most ⟨y :: r,S,st⟩=if st.getD y 0+1=most then st
   else if lkB (mB_ (Ms.getD y 0) S) n < n then
    if lkB (mB_ (Ms.getD y 0) S) n=x then st.set x (st.getD y 0+1)
    else bfU Ms n x most ⟨y :: (r++[lkB (mB_ (Ms.getD y 0) S) n]),addN S (lkB (mB_ (Ms.getD y 0) S) n),st.set (lkB (mB_ (Ms.getD y 0) S) n) (st.getD y 0+1)⟩
   else bfU Ms n x most ⟨r,S,st⟩:=by
 have hm:mesQ n ⟨y :: r,S,st⟩=(2*(n - popB S n)+r.length)+1:=by unfold mesQ;simp only [List.length_cons];omega
 unfold bfU
 rw [hm]
 simp only [bfF]
 by_cases h1:st.getD y 0+1=most
 ·rw [if_pos h1,if_pos h1]
 ·rw [if_neg h1,if_neg h1]
  by_cases h2:lkB (mB_ (Ms.getD y 0) S) n < n
  ·rw [if_pos h2,if_pos h2]
   by_cases h3:lkB (mB_ (Ms.getD y 0) S) n=x
   ·rw [if_pos h3,if_pos h3]
   ·rw [if_neg h3,if_neg h3]
    have:=mesQ_push (y:=y) (r:=r) (st:=st) (st':=st.set (lkB (mB_ (Ms.getD y 0) S) n) (st.getD y 0+1)) h2 (lk_new h2).2
    exact bfF_any _ _ _ (by omega) (Nat.le_refl _)
  ·rw [if_neg h2,if_neg h2]
   exact bfF_any _ _ _ (Nat.le_refl _) (Nat.le_refl _)
structure BfR (Ns:List Nat)(n x A:Nat)(R:List Nat):Prop where
 len:R.length=n
 one:∀ z,0 < R.getD z 0->A.testBit z=false/\((R.getD z 0=1/\EdB Ns n z x)∨∃ y,y≠x/\EdB Ns n z y/\R.getD z 0=R.getD y 0+1/\0 < R.getD y 0)
structure BfI (Ns:List Nat)(n x A:Nat)(s:BfS):Prop extends BfR Ns n x A s.st where
 xz:s.st.getD x 0=0
 xn:x < n
 sn:∀ z,s.seen.testBit z=true ↔ A.testBit z=true∨0 < s.st.getD z 0
 qn:∀ y∈s.q,y < n/\(y=x∨0 < s.st.getD y 0)
 cl:∀ y,y < n->y=x∨0 < s.st.getD y 0->y ∉ s.q->∀ z,EdB Ns n z y->s.seen.testBit z=true
theorem BfI.push {Ns Ms:List Nat}{n x A y S:Nat}{r st:List Nat}(hT:∀ x y,x < n->y < n->(Ms.getD y 0).testBit x=(Ns.getD x 0).testBit y)(h:BfI Ns n x A ⟨y :: r,S,st⟩)(h2:lkB (mB_ (Ms.getD y 0) S) n < n)(h3:lkB (mB_ (Ms.getD y 0) S) n≠x):BfI Ns n x A ⟨y :: (r++[lkB (mB_ (Ms.getD y 0) S) n]),addN S (lkB (mB_ (Ms.getD y 0) S) n),st.set (lkB (mB_ (Ms.getD y 0) S) n) (st.getD y 0+1)⟩:=by
 obtain ⟨hz1,hz2⟩:=lk_new h2
 generalize lkB (mB_ (Ms.getD y 0) S) n=z at *
 obtain ⟨hyn,hy⟩:=h.qn y List.mem_cons_self
 simp only at hy
 have hlen:st.length=n:=h.len
 have ez:EdB Ns n z y:=⟨h2,hyn,by rw [<- hT z y h2 hyn];exact hz1⟩
 have hnot:¬ (A.testBit z=true∨0 < st.getD z 0):=fun q=>by
  have:=(h.sn z).2 q
  simp only at this
  rw [hz2] at this
  cases this
 have hst:∀ u,(st.set z (st.getD y 0+1)).getD u 0=if z=u then st.getD y 0+1 else st.getD u 0:=fun u=>by
  rw [getD_setV]
  by_cases e:z=u
  ·subst e
   rw [if_pos ⟨rfl,by omega⟩,if_pos rfl]
  ·rw [if_neg (fun q=>e q.1),if_neg e]
 have hyz:z≠y:=fun e=>by
  subst e
  rcases hy with e | e
  ·exact h3 e
  ·exact hnot (.inr e)
 have hyst:(st.set z (st.getD y 0+1)).getD y 0=st.getD y 0:=by rw [hst,if_neg hyz]
 refine ⟨⟨by simp [hlen],fun u hu=>?_⟩,?_,h.xn,fun u=>?_,fun u hu=>?_,fun u hun hu huq v e=>?_⟩
 ·show A.testBit u=false/\_
  simp only at hu ⊢
  by_cases e:z=u
  ·subst e
   refine ⟨?_,?_⟩
   ·cases hA:A.testBit z with
    | false=>rfl
    | true=>exact absurd (.inl hA) hnot
   ·rw [hst,if_pos rfl]
    rcases hy with rfl | hy
    ·left
     have:st.getD y 0=0:=h.xz
     exact ⟨by omega,ez⟩
    ·by_cases e2:y=x
     ·subst e2
      left
      have:st.getD y 0=0:=h.xz
      exact ⟨by omega,ez⟩
     ·exact .inr ⟨y,e2,ez,by rw [hyst],by rw [hyst];exact hy⟩
  ·rw [hst,if_neg e] at hu ⊢
   obtain ⟨h1,h4⟩:=h.one u hu
   refine ⟨h1,h4.imp id ?_⟩
   rintro ⟨v,hv,ev,h5,h6⟩
   have hvz:z≠v:=fun q=>by
    subst q
    exact hnot (.inr h6)
   refine ⟨v,hv,ev,?_,?_⟩
   ·rw [hst,if_neg hvz];exact h5
   ·rw [hst,if_neg hvz];exact h6
 ·show (st.set z (st.getD y 0+1)).getD x 0=0
  rw [hst,if_neg h3]
  exact h.xz
 ·show (addN S z).testBit u=true ↔ A.testBit u=true∨0 < (st.set z (st.getD y 0+1)).getD u 0
  rw [addN_bit,Bool.or_eq_true,hst]
  have:=h.sn u
  simp only at this
  rw [this]
  by_cases e:z=u
  ·subst e
   simp
  ·rw [if_neg e,decide_eq_false e]
   simp
 ·have hu':u=y∨u∈r∨u=z:=by
   simp only [List.mem_cons,List.mem_append,List.not_mem_nil,or_false] at hu
   exact hu
  show u < n/\(u=x∨0 < (st.set z (st.getD y 0+1)).getD u 0)
  rw [hst]
  by_cases e:z=u
  ·subst e
   rw [if_pos rfl]
   exact ⟨h2,.inr (by omega)⟩
  ·rw [if_neg e]
   rcases hu' with rfl | hu' | rfl
   ·exact h.qn u List.mem_cons_self
   ·exact h.qn u (List.mem_cons_of_mem _ hu')
   ·exact absurd rfl e
 ·show (addN S z).testBit v=true
  simp only at hu huq
  rw [addN_bit]
  have huq':u≠z/\u ∉ y :: r:=by
   simp only [List.mem_cons,List.mem_append,List.not_mem_nil,or_false,not_or] at huq
   exact ⟨huq.2.2,by simp only [List.mem_cons,not_or];exact ⟨huq.1,huq.2.1⟩⟩
  rw [hst,if_neg (fun q=>huq'.1 q.symm)] at hu
  have:=h.cl u hun hu huq'.2 v e
  simp only at this
  rw [this]
  rfl
theorem BfI.pop {Ns Ms:List Nat}{n x A y S:Nat}{r st:List Nat}(hT:∀ x y,x < n->y < n->(Ms.getD y 0).testBit x=(Ns.getD x 0).testBit y)(h:BfI Ns n x A ⟨y :: r,S,st⟩)(h2:¬ lkB (mB_ (Ms.getD y 0) S) n < n):BfI Ns n x A ⟨r,S,st⟩:=by
 obtain ⟨hyn,hy⟩:=h.qn y List.mem_cons_self
 refine ⟨h.toBfR,h.xz,h.xn,h.sn,fun u hu=>h.qn u (List.mem_cons_of_mem _ hu),fun u hun hu huq v e=>?_⟩
 by_cases q:u=y
 ·subst q
  exact lk_full h2 e.1 (by rw [hT v u e.1 e.2.1];exact e.2.2)
 ·exact h.cl u hun hu (by simp only [List.mem_cons,not_or];exact ⟨q,huq⟩) v e
theorem BfI.hit {Ns Ms:List Nat}{n x A y S:Nat}{r st:List Nat}(hT:∀ x y,x < n->y < n->(Ms.getD y 0).testBit x=(Ns.getD x 0).testBit y)(h:BfI Ns n x A ⟨y :: r,S,st⟩)(h2:lkB (mB_ (Ms.getD y 0) S) n < n)(h3:lkB (mB_ (Ms.getD y 0) S) n=x):BfR Ns n x A (st.set x (st.getD y 0+1))/\0 < (st.set x (st.getD y 0+1)).getD x 0:=by
 obtain ⟨hz1,hz2⟩:=lk_new h2
 rw [h3] at hz1 hz2 h2
 obtain ⟨hyn,hy⟩:=h.qn y List.mem_cons_self
 simp only at hy
 have hlen:st.length=n:=h.len
 have ez:EdB Ns n x y:=⟨h2,hyn,by rw [<- hT x y h2 hyn];exact hz1⟩
 have hx0:st.getD x 0=0:=h.xz
 have hst:∀ u,(st.set x (st.getD y 0+1)).getD u 0=if x=u then st.getD y 0+1 else st.getD u 0:=fun u=>by
  rw [getD_setV]
  by_cases e:x=u
  ·subst e
   rw [if_pos ⟨rfl,by omega⟩,if_pos rfl]
  ·rw [if_neg (fun q=>e q.1),if_neg e]
 refine ⟨⟨by simp [hlen],fun u hu=>?_⟩,by rw [hst,if_pos rfl];omega⟩
 by_cases e:x=u
 ·subst e
  refine ⟨?_,?_⟩
  ·cases hA:A.testBit x with
   | false=>rfl
   | true =>
    have:=(h.sn x).2 (.inl hA)
    simp only at this
    rw [hz2] at this
    cases this
  ·rw [hst,if_pos rfl]
   by_cases e2:y=x
   ·subst e2
    exact .inl ⟨by omega,ez⟩
   ·have hy':0 < st.getD y 0:=hy.resolve_left e2
    have hyx:¬ x=y:=fun q=>e2 q.symm
    exact .inr ⟨y,e2,ez,by rw [hst,if_neg hyx],by rw [hst,if_neg hyx];exact hy'⟩
 ·rw [hst,if_neg e] at hu ⊢
  obtain ⟨h1,h4⟩:=h.one u hu
  refine ⟨h1,h4.imp id ?_⟩
  rintro ⟨v,hv,ev,h5,h6⟩
  refine ⟨v,hv,ev,?_,?_⟩
  ·rw [hst,if_neg (fun q=>hv q.symm)];exact h5
  ·rw [hst,if_neg (fun q=>hv q.symm)];exact h6
theorem BfI.run {Ns Ms:List Nat}{n x A most:Nat}(hT:∀ x y,x < n->y < n->(Ms.getD y 0).testBit x=(Ns.getD x 0).testBit y):∀ (k:Nat) (s:BfS),mesQ n s<=k->BfI Ns n x A s->BfR Ns n x A (bfU Ms n x most s)/\(most=0->0 < (bfU Ms n x most s).getD x 0∨∀ y,y < n->y=x∨0 < (bfU Ms n x most s).getD y 0->∀ z,EdB Ns n z y->A.testBit z=true∨0 < (bfU Ms n x most s).getD z 0)
 | k,⟨[],S,st⟩,_,h=>by
  rw [bfU_nil]
  refine ⟨h.toBfR,fun _=>.inr fun y hyn hy z e=>?_⟩
  exact (h.sn z).1 (h.cl y hyn hy (by simp) z e)
 | 0,⟨y :: r,S,st⟩,hk,_=>by
  unfold mesQ at hk
  simp only [List.length_cons] at hk
  omega
 | k+1,⟨y :: r,S,st⟩,hk,h=>by
  rw [bfU_cons]
  by_cases h1:st.getD y 0+1=most
  ·rw [if_pos h1]
   exact ⟨h.toBfR,fun h0=>by omega⟩
  ·rw [if_neg h1]
   by_cases h2:lkB (mB_ (Ms.getD y 0) S) n < n
   ·rw [if_pos h2]
    by_cases h3:lkB (mB_ (Ms.getD y 0) S) n=x
    ·rw [if_pos h3]
     obtain ⟨h4,h5⟩:=h.hit hT h2 h3
     exact ⟨h4,fun _=>.inl h5⟩
    ·rw [if_neg h3]
     have:=mesQ_push (y:=y) (r:=r) (st:=st) (st':=st.set (lkB (mB_ (Ms.getD y 0) S) n) (st.getD y 0+1)) h2 (lk_new h2).2
     exact BfI.run hT k _ (by omega) (h.push hT h2 h3)
   ·rw [if_neg h2]
    refine BfI.run hT k _ ?_ (h.pop hT h2)
    unfold mesQ at hk ⊢
    simp only [List.length_cons] at hk ⊢
    omega
def loN (x:Nat):Nat:=mkN (fun _=>true) x
theorem loN_bit (x z:Nat):(loN x).testBit z=decide (z < x):=by
 unfold loN
 rw [mkN_bit,Bool.and_true]
def bfS (n x:Nat):BfS:=⟨[x],loN x,List.replicate n 0⟩
theorem repl_get (n z:Nat):(List.replicate n 0).getD z 0=0:=by
 rw [List.getD_eq_getElem?_getD,List.getElem?_replicate]
 by_cases q:z < n
 ·rw [if_pos q];rfl
 ·rw [if_neg q];rfl
theorem BfI.first {Ns:List Nat}{n x:Nat}(hx:x < n):BfI Ns n x (loN x) (bfS n x):=by
 refine ⟨⟨by simp [bfS],fun z hz=>?_⟩,?_,hx,fun z=>?_,fun y hy=>?_,fun y hyn hy hyq z e=>?_⟩
 ·simp only [bfS] at hz
  rw [repl_get] at hz
  omega
 ·simp only [bfS]
  rw [repl_get]
 ·simp only [bfS]
  rw [repl_get]
  simp
 ·simp only [bfS,List.mem_singleton] at hy
  subst hy
  exact ⟨hx,.inl rfl⟩
 ·simp only [bfS] at hy hyq
  rw [repl_get] at hy
  rcases hy with rfl | hy
  ·simp at hyq
  ·omega
def cyF (Ms:List Nat)(n:Nat):List Nat->Nat×Nat×List Nat->Nat×Nat×List Nat
 | [],s=>s
 | x :: xs,s=>cyF Ms n xs (if 0 < (bfU Ms n x s.2.1 (bfS n x)).getD x 0 then (x,(bfU Ms n x s.2.1 (bfS n x)).getD x 0,bfU Ms n x s.2.1 (bfS n x)) else s)
structure CyI (Ns:List Nat)(n i:Nat)(s:Nat×Nat×List Nat):Prop where
 have_:s=(0,0,[])/\(∀ k,k < i->¬ Relation.TransGen (fun u v=>k<=u/\k<=v/\EdB Ns n u v) k k)∨s.1 < n/\0 < s.2.1/\s.2.2.getD s.1 0=s.2.1/\BfR Ns n s.1 (loN s.1) s.2.2
theorem CyI.next {Ns Ms:List Nat}{n x:Nat}{s:Nat×Nat×List Nat}(hT:∀ x y,x < n->y < n->(Ms.getD y 0).testBit x=(Ns.getD x 0).testBit y)(hx:x < n)(h:CyI Ns n x s):CyI Ns n (x+1) (if 0 < (bfU Ms n x s.2.1 (bfS n x)).getD x 0 then (x,(bfU Ms n x s.2.1 (bfS n x)).getD x 0,bfU Ms n x s.2.1 (bfS n x)) else s):=by
 obtain ⟨hR,hC⟩:=BfI.run (most:=s.2.1) hT _ _ (Nat.le_refl _) (BfI.first (Ns:=Ns) hx)
 by_cases q:0 < (bfU Ms n x s.2.1 (bfS n x)).getD x 0
 ·rw [if_pos q]
  exact ⟨.inr ⟨hx,q,rfl,hR⟩⟩
 ·rw [if_neg q]
  refine ⟨?_⟩
  rcases h.have_ with ⟨hs,hno⟩ | h1
  ·left
   refine ⟨hs,fun k hk=>?_⟩
   rcases Nat.lt_or_ge k x with hkx | hkx
   ·exact hno k hkx
   ·obtain rfl:k=x:=by omega
    intro ht
    have hcl:=(hC (by rw [hs])).resolve_left q
    have key:∀ u v,Relation.TransGen (fun u v=>k<=u/\k<=v/\EdB Ns n u v) u v->(v=k∨0 < (bfU Ms n k s.2.1 (bfS n k)).getD v 0)->0 < (bfU Ms n k s.2.1 (bfS n k)).getD u 0:=by
     intro u v huv
     have step:∀ a b,k<=a/\k<=b/\EdB Ns n a b->(b=k∨0 < (bfU Ms n k s.2.1 (bfS n k)).getD b 0)->0 < (bfU Ms n k s.2.1 (bfS n k)).getD a 0:=fun a b e hb=>by
      rcases hcl b e.2.2.2.1 hb a e.2.2 with q2 | q2
      ·rw [loN_bit] at q2
       have:=of_decide_eq_true q2
       omega
      ·exact q2
     induction huv with
     | single e=>exact step _ _ e
     | tail _ e ih=>exact fun hv=>ih (.inr (step _ _ e hv))
    exact q (key k k ht (.inl rfl))
  ·exact .inr h1
theorem CyI.run {Ns Ms:List Nat}{n:Nat}(hT:∀ x y,x < n->y < n->(Ms.getD y 0).testBit x=(Ns.getD x 0).testBit y):∀ (d i:Nat) (s:Nat×Nat×List Nat),i+d=n->CyI Ns n i s->CyI Ns n n (cyF Ms n (List.range' i d) s)
 | 0,i,s,hi,h=>by
  obtain rfl:i=n:=by omega
  exact h
 | d+1,i,s,hi,h=>by
  rw [List.range'_succ]
  exact CyI.run hT d (i+1) _ (by omega) (h.next hT (by omega))
def chE (Ns:List Nat)(n:Nat)(l:List Nat):Prop:=∀ i,i+1 < l.length->EdB Ns n (l.getD i 0) (l.getD (i+1) 0)
theorem last_get {l:List Nat}(h:l≠[]):l.getLastD 0=l.getD (l.length - 1) 0:=by
 have hl:0 < l.length:=List.length_pos_iff.2 h
 rw [List.getD_eq_getElem?_getD,List.getElem?_eq_getElem (by omega),Option.getD_some,List.getLastD_eq_getLast?,List.getLast?_eq_getElem?,List.getElem?_eq_getElem (by omega)]
 rfl
theorem chE.snoc {Ns l:List Nat}{n y:Nat}(h:chE Ns n l)(hl:l≠[])(e:EdB Ns n (l.getLastD 0) y):chE Ns n (l++[y]):=by
 intro i hi
 rw [List.length_append,List.length_singleton] at hi
 have h0:0 < l.length:=List.length_pos_iff.2 hl
 have g1:(l++[y]).getD i 0=l.getD i 0:=by
  rw [List.getD_eq_getElem?_getD,List.getD_eq_getElem?_getD,List.getElem?_append_left (by omega)]
 rw [g1]
 rcases Nat.lt_or_ge (i+1) l.length with q | q
 ·have g2:(l++[y]).getD (i+1) 0=l.getD (i+1) 0:=by
   rw [List.getD_eq_getElem?_getD,List.getD_eq_getElem?_getD,List.getElem?_append_left (by omega)]
  rw [g2]
  exact h i q
 ·have e1:i+1=l.length:=by omega
  have g2:(l++[y]).getD (i+1) 0=y:=by
   rw [List.getD_eq_getElem?_getD,List.getElem?_append_right (by omega),e1,Nat.sub_self]
   rfl
  rw [g2]
  rw [last_get hl] at e
  have:l.length - 1=i:=by omega
  rw [this] at e
  exact e
end Go.Proofs.YtockbobpmiagiaaGreatDoor
