import Derived.Test.YteciabdjkaackaaGreatPTCnToTS3
import Derived.Lib.SliceRun
namespace Go.Proofs.YteciabdjkaackaaGreat
set_option linter.unusedVariables false
open Go.RowKit
theorem infoTree_parts:∃ i,Tryz.prog.info? 26=some i/\i.zero=some (.agg #[.int .i64 0,.int .i64 0,.string ByteArray.empty,.slice none 0 0])/\i.size=4/\i.bytes=56:=by
 have h:(Tryz.prog.info? 26).map (fun i=>(i.zero,i.size,i.bytes))=some (some (.agg #[.int .i64 0,.int .i64 0,.string ByteArray.empty,.slice none 0 0]),4,56):=by kernel_rfl
 cases e:Tryz.prog.info? 26 with
 | none=>rw [e] at h;cases h
 | some i =>
  rw [e] at h
  simp at h
  exact ⟨i,rfl,h.1,h.2.1,h.2.2⟩
set_option maxRecDepth 100000 in
set_option maxHeartbeats 1000000 in
theorem clone_tree (ao:Option Addr)(c:Nat)(l:List TV)(w:World)(hl:l.length<=1000000000)(hc:KRow w ao l) :
  Calls Tryz.prog 76 #[.slice ao l.length c] w fun e w'=>∃ a' c',e=.returned (.slice a' l.length c')/\(l≠[]->w'.ownsRow w.heap.size 26 4 (.slice a' l.length c') l.length (l.flatMap trCells)/\∃ b,a'=some ⟨b,0,none⟩/\w.heap.size<=b)/\Below w.heap.size w w':=by
 have hne:=fun wx a n c=>Lib.run_eql_slice_nil (P:=Tryz.prog) (w:=wx) 24 26 a n c 0 0 Tryz.underlying24
 have HH:Hid (∀ u∈l.flatMap trCells,u.oneCell'=true):=fun u hu=>by
  obtain ⟨x,_,hx⟩:=List.mem_flatMap.1 hu
  exact rkTree.one x u hx
 have HF:Hid ((l.flatMap trCells).length=l.length*4):=fm_len (k:=4) (fun _=>rfl) l
 have HE:Hid (l≠[]->l.length≠0):=fun h e=>h (List.eq_nil_of_length_eq_zero e)
 cases ao with
 | none =>
  have h0:l=[]:=Classical.byContradiction fun e=>by
   obtain ⟨b,off,e',_⟩:=hc e
   cases e'
  subst h0
  clear hc
  simp only [List.length_nil] at *
  go_enter Tryz.func76,Tryz.ntmps76
  go_wp2
  go_ret
  exact ⟨none,0,rfl,fun e=>absurd rfl e,Below.refl _ _⟩
 | some ad =>
  have hcc:Hid (∀ j u,(l.flatMap trCells)[j]?=some u->(w.alloc (.cells #[] 26)).cell? (ad.add j)=some u):=fun j u hu=>by
   have hlne:l≠[]:=fun e=>by subst e;simp at hu
   obtain ⟨b,off,e,hcell⟩:=hc.src hlne
   cases e
   rw [aNn]
   exact cellW (bAl w _) (hcell j u hu)
  obtain ⟨i0,hi,hz0,hz1,hz2⟩:=infoTree_parts
  clear hc
  generalize l.flatMap trCells=news at *
  generalize hn:l.length=n at *
  go_enter Tryz.func76,Tryz.ntmps76
  go_wp2_with (at_builtin;refine wpList_append_own_at _ rfl _ _ 24 rfl w.heap.size 26 i0 _ 4 56 Tryz.underlying24 hi hz0 hz1 hz2 rfl (by decide) _ 0 [] rfl (World.ownsRow_made w #[] 0 (Nat.le_refl _) (Nat.zero_le _) rfl) ad n c news rfl HF.out hcc.out HH.out (by unfold maxLen;omega) (by omega) (by simp) ?_)
  intro v' w1 hown hgrow hnil _
  go_wp2
  go_ret
  obtain ⟨g,cap,rfl,hg⟩:∃ g cap,v'=.slice (some ⟨g,0,none⟩) n cap/\w.heap.size<=g:=by
   rcases hown.2 with ⟨e,_⟩ | ⟨g,cap,cur,e,h1,_⟩
   ·exact absurd e hnil
   ·exact ⟨g,cap,by simpa using e,h1⟩
  have hown':w1.ownsRow w.heap.size 26 4 (.slice (some ⟨g,0,none⟩) n cap) n news:=by simpa using hown
  exact ⟨_,cap,rfl,fun _=>⟨hown',g,rfl,hg⟩,(bAl w _).grown hgrow (by simp) (fun k e=>by simp [Value.ownBlock] at e;omega)⟩
def adsT (p q:Nat)(t:TV):List (Nat×Nat):=(enA (evT p q t)).map fun x=>(x.1,x.2.1)
def adsL (l:List (Nat×Nat×TV)):List (Nat×Nat):=l.flatMap fun x=>adsT x.1 x.2.1 x.2.2
theorem enA_evL:∀ l:List (Nat×Nat×TV),(enA (evL l)).map (fun x=>(x.1,x.2.1))=adsL l
 | []=>rfl
 | x :: l=>by
  rw [evL_cons,enA_app,List.map_append,enA_evL l]
  rfl
theorem adsT_eq (p q:Nat)(t:TV):adsT p q t=(p,q) :: adsL (kidsA t):=by
 conv=>lhs;unfold adsT
 rw [evT_eq,<- List.singleton_append,enA_app,enA_app,enA_in,enA_out,List.append_nil,List.map_append,enA_evL]
 rfl
theorem adsT_root (p q:Nat)(t:TV):(p,q)∈adsT p q t:=by rw [adsT_eq];exact List.mem_cons_self
theorem adsT_kid {p q:Nat}{t:TV}{x:Nat×Nat×TV}(hx:x∈kidsA t){a:Nat×Nat}(ha:a∈adsT x.1 x.2.1 x.2.2):a∈adsT p q t:=by
 rw [adsT_eq]
 exact List.mem_cons_of_mem _ (List.mem_flatMap.2 ⟨x,hx,ha⟩)
theorem kidsA_get {t:TV}{b off:Nat}(hk:t.ka=some ⟨b,off,none⟩){i:Nat}(hi:i < t.kids.length):(kidsA t)[i]?=some (b,off+i*4,t.kids[i]):=by
 have:=kidF_get b off 0 t.kids i hi
 have e:kadr t=(b,off):=by unfold kadr;rw [hk]
 unfold kidsA
 rw [e]
 simpa using this
def C4 (w w':World)(a:Nat×Nat):Prop:=a.1 < w'.heap.size/\∀ j,j < 4->w'.cell? ⟨a.1,a.2+j,none⟩=w.cell? ⟨a.1,a.2+j,none⟩
theorem C4.tbx {w w':World}{p q:Nat}{t:TV}(h:C4 w w' (p,q))(ht:TBx w p q t):TBx w' p q t :=
 ⟨h.1,(h.2 0 (by omega)).trans ht.c0,(h.2 1 (by omega)).trans ht.c1,(h.2 2 (by omega)).trans ht.c2,(h.2 3 (by omega)).trans ht.c3⟩
theorem krow_of {w:World}{t:TV}(hk:∀ i (h:i < t.kids.length),∃ b off,t.ka=some ⟨b,off,none⟩/\TBx w b (off+i*4) t.kids[i]):KRow w t.ka t.kids:=by
 intro hne
 have h0:0 < t.kids.length:=List.length_pos_iff.2 hne
 obtain ⟨b,off,e,h1⟩:=hk 0 h0
 refine ⟨b,off,e,h1.lt,fun i hi=>?_⟩
 obtain ⟨b',off',e',h2⟩:=hk i hi
 rw [e] at e'
 simp only [Option.some.injEq,Addr.mk.injEq,and_true] at e'
 obtain ⟨rfl,rfl⟩:=e'
 have eg:t.kids.getD i .none=t.kids[i]:=by simp [List.getD,hi]
 rw [eg]
 exact ⟨h2.c0,h2.c1,h2.c2,h2.c3⟩
theorem keep_at {w w':World}(t:TV):∀ (p q:Nat),TAt w t->(∀ a∈adsL (kidsA t),C4 w w' a)->TAt w' t:=by
 induction t using TV.ind with
 | _ t ih =>
  intro p q ht hc
  have hk:∀ i (h:i < t.kids.length),∃ b off,t.ka=some ⟨b,off,none⟩/\TBx w b (off+i*4) t.kids[i]/\(b,off+i*4,t.kids[i])∈kidsA t:=fun i h=>by
   obtain ⟨b,off,e,hb⟩:=krow_kid ht.row h
   exact ⟨b,off,e,hb,List.mem_of_getElem? (kidsA_get e h)⟩
  refine TAt.mk t (krow_of fun i h=>?_) fun k hkk=>?_
  ·obtain ⟨b,off,e,hb,hm⟩:=hk i h
   refine ⟨b,off,e,(hc (b,off+i*4) ?_).tbx hb⟩
   exact List.mem_flatMap.2 ⟨_,hm,adsT_root _ _ _⟩
  ·obtain ⟨i,hi,rfl⟩:=List.getElem_of_mem hkk
   obtain ⟨b,off,e,hb,hm⟩:=hk i hi
   refine ih _ (List.getElem_mem hi) b (off+i*4) (ht.kid _ (List.getElem_mem hi)) fun a ha=>hc a ?_
   refine List.mem_flatMap.2 ⟨_,hm,?_⟩
   rw [adsT_eq]
   exact List.mem_cons_of_mem _ ha
def TV.sk (t:TV)(ks:List TV):TV:=TV.mk t.prod t.kind t.tx t.ka t.kc ks
def setAt:List Nat->TV->TV->TV
 | [],_,u=>u
 | i :: π,t,u=>t.sk (t.kids.set i (setAt π (t.kids.getD i .none) u))
def okP:List Nat->TV->Prop
 | [],_=>True
 | i :: π,t=>i < t.kids.length/\okP π (t.kids.getD i .none)
def adP:List Nat->Nat->Nat->TV->Nat×Nat
 | [],p,q,_=>(p,q)
 | i :: π,_,_,t=>adP π (kadr t).1 ((kadr t).2+i*4) (t.kids.getD i .none)
theorem adP_mem:∀ (π:List Nat) (p q:Nat) (t:TV) (w:World),TAt w t->okP π t->adP π p q t∈adsT p q t
 | [],p,q,t,_,_,_=>adsT_root p q t
 | i :: π,p,q,t,w,ht,⟨hi,hp⟩=>by
  obtain ⟨b,off,e,hb⟩:=krow_kid ht.row hi
  have ek:kadr t=(b,off):=by unfold kadr;rw [e]
  have eg:t.kids.getD i .none=t.kids[i]:=by simp [List.getD,hi]
  rw [adP,ek]
  rw [eg] at hp ⊢
  exact adsT_kid (List.mem_of_getElem? (kidsA_get e hi)) (adP_mem π b (off+i*4) t.kids[i] w (ht.kid _ (List.getElem_mem hi)) hp)
theorem adsL_cons (x:Nat×Nat×TV)(l:List (Nat×Nat×TV)):adsL (x :: l)=adsT x.1 x.2.1 x.2.2++adsL l:=by simp [adsL]
theorem cnt_kid (a:Nat×Nat):∀ {l:List (Nat×Nat×TV)} {i:Nat} {x:Nat×Nat×TV},l[i]?=some x->(adsT x.1 x.2.1 x.2.2).count a<=(adsL l).count a
 | [],_,_,hx=>by simp at hx
 | z :: l,i,x,hx=>by
  rw [adsL_cons,List.count_append]
  cases i with
  | zero =>
   simp only [List.getElem?_cons_zero,Option.some.injEq] at hx
   subst hx
   omega
  | succ i =>
   have:=cnt_kid a (l:=l) (i:=i) (x:=x) (by simpa using hx)
   omega
theorem cnt_kids (a:Nat×Nat):∀ {l:List (Nat×Nat×TV)} {i j:Nat} {x y:Nat×Nat×TV},l[i]?=some x->l[j]?=some y->i≠j->(adsT x.1 x.2.1 x.2.2).count a+(adsT y.1 y.2.1 y.2.2).count a<=(adsL l).count a
 | [],_,_,_,_,hx,_,_=>by simp at hx
 | z :: l,i,j,x,y,hx,hy,hij=>by
  rw [adsL_cons,List.count_append]
  cases i with
  | zero =>
   cases j with
   | zero=>exact absurd rfl hij
   | succ j =>
    simp only [List.getElem?_cons_zero,Option.some.injEq] at hx
    subst hx
    have:=cnt_kid a (l:=l) (i:=j) (x:=y) (by simpa using hy)
    omega
  | succ i =>
   cases j with
   | zero =>
    simp only [List.getElem?_cons_zero,Option.some.injEq] at hy
    subst hy
    have:=cnt_kid a (l:=l) (i:=i) (x:=x) (by simpa using hx)
    omega
   | succ j =>
    have:=cnt_kids a (l:=l) (i:=i) (j:=j) (x:=x) (y:=y) (by simpa using hx) (by simpa using hy) (fun h=>hij (by rw [h]))
    omega
def getAt:List Nat->TV->TV
 | [],t=>t
 | i :: π,t=>getAt π (t.kids.getD i .none)
def nuP:List Nat->TV->Nat
 | [],_=>0
 | i :: π,t=>1+szL (t.kids.take i)+nuP π (t.kids.getD i .none)
theorem preL_len:∀ l:List TV,(preL l).length=szL l
 | []=>rfl
 | a :: l=>by
  have:=preL_len l
  simp only [preL,List.flatMap_cons,List.length_append,preT_len] at this ⊢
  rw [this];simp [szL]
theorem preL_app (l m:List TV):preL (l++m)=preL l++preL m:=by simp [preL]
theorem preL_one (t:TV):preL [t]=preT t:=by simp [preL]
theorem cut3 {l:List TV}{i:Nat}(hi:i < l.length)(k:TV):l.set i k=l.take i++[k]++l.drop (i+1):=by
 rw [List.set_eq_take_append_cons_drop,if_pos hi];simp
theorem cut3' {l:List TV}{i:Nat}(hi:i < l.length):l=l.take i++[l[i]]++l.drop (i+1):=by
 simp
theorem sgV_sk {t:TV}{ks:List TV}(h:ks.length=t.kids.length):sgV (t.sk ks)=sgV t:=by
 unfold sgV
 rw [<- h]
 rfl
theorem pre_set:∀ (π:List Nat) (t:TV),okP π t->∃ A B,A.length=nuP π t/\(preT t).map sgV=A++(preT (getAt π t)).map sgV++B /\
  ∀ u,(preT (setAt π t u)).map sgV=A++(preT u).map sgV++B
 | [],t,_=>⟨[],[],rfl,by simp [getAt],fun u=>by simp [setAt]⟩
 | i :: π,t,⟨hi,hp⟩=>by
  have eg:t.kids.getD i .none=t.kids[i]:=by simp [List.getD,hi]
  rw [eg] at hp
  obtain ⟨A,B,h1,h2,h3⟩:=pre_set π t.kids[i] hp
  refine ⟨sgV t :: (preL (t.kids.take i)).map sgV++A,B++(preL (t.kids.drop (i+1))).map sgV,?_,?_,fun u=>?_⟩
  ·simp only [List.cons_append,List.length_cons,List.length_append,List.length_map,preL_len,h1,nuP,eg];omega
  ·have e:preL t.kids=preL (t.kids.take i)++preT t.kids[i]++preL (t.kids.drop (i+1)):=by
    conv=>lhs;rw [cut3' hi]
    rw [preL_app,preL_app,preL_one]
   rw [preT_eq,e,getAt,eg]
   simp only [List.map_cons,List.map_append,h2,List.append_assoc,List.cons_append]
  ·have es:setAt (i :: π) t u=t.sk (t.kids.set i (setAt π t.kids[i] u)):=by rw [setAt,eg]
   have e:preL (t.kids.set i (setAt π t.kids[i] u))=preL (t.kids.take i)++preT (setAt π t.kids[i] u)++preL (t.kids.drop (i+1)):=by
    rw [cut3 hi,preL_app,preL_app,preL_one]
   have ek:(t.sk (t.kids.set i (setAt π t.kids[i] u))).kids=t.kids.set i (setAt π t.kids[i] u):=rfl
   rw [es,preT_eq,ek,e]
   simp only [List.map_cons,List.map_append,h3,List.append_assoc,List.cons_append]
   rw [sgV_sk (by simp)]
theorem szL_cons (a:TV)(l:List TV):szL (a :: l)=szT a+szL l:=by simp [szL]
theorem adsL_len' (b o:Nat):∀ (l:List TV) (s:Nat),(∀ k∈l,∀ p q,(adsT p q k).length=szT k)->(adsL (kidF b o s l)).length=szL l
 | [],_,_=>rfl
 | a :: l,s,h=>by
  rw [kidF,adsL_cons,List.length_append,szL_cons,h a List.mem_cons_self,adsL_len' b o l (s+1) fun k hk=>h k (List.mem_cons_of_mem _ hk)]
theorem adsT_len (t:TV):∀ p q,(adsT p q t).length=szT t:=by
 induction t using TV.ind with
 | _ t ih =>
  intro p q
  rw [adsT_eq,List.length_cons,szT_eq,kidsA,adsL_len' _ _ _ _ ih]
theorem adsL_find (b o:Nat):∀ (l:List TV) (s n:Nat),n < szL l->∃ i,∃ h:i < l.length,szL (l.take i)<=n/\n - szL (l.take i) < szT l[i] /\
  (adsL (kidF b o s l))[n]?=(adsT b (o+(s+i)*4) l[i])[n - szL (l.take i)]?
 | [],_,_,h=>by simp [szL] at h
 | a :: l,s,n,h=>by
  rw [szL_cons] at h
  by_cases h0:n < szT a
  ·refine ⟨0,by simp,by simp [szL],by simpa [szL] using h0,?_⟩
   rw [kidF,adsL_cons,List.getElem?_append_left (by rw [adsT_len];exact h0)]
   simp [szL]
  ·obtain ⟨i,hi,h1,h2,h3⟩:=adsL_find b o l (s+1) (n - szT a) (by omega)
   have et:szL ((a :: l).take (i+1))=szT a+szL (l.take i):=by rw [List.take_succ_cons,szL_cons]
   have en:n - (szT a+szL (l.take i))=n - szT a - szL (l.take i):=by omega
   refine ⟨i+1,by simpa using hi,by rw [et];omega,?_,?_⟩
   ·rw [et,en,List.getElem_cons_succ];exact h2
   ·have hz:(adsT b (o+s*4) a).length=szT a:=adsT_len a _ _
    rw [kidF,adsL_cons,List.getElem?_append_right (by rw [hz];omega),hz,h3,et,en,List.getElem_cons_succ]
    have:s+1+i=s+(i+1):=by omega
    rw [this]
theorem path_ex (t:TV):∀ (p q n:Nat),n < szT t->∃ π,okP π t/\nuP π t=n/\(adsT p q t)[n]?=some (adP π p q t):=by
 induction t using TV.ind with
 | _ t ih =>
  intro p q n hn
  cases n with
  | zero=>exact ⟨[],trivial,rfl,by rw [adsT_eq];rfl⟩
  | succ n =>
   rw [szT_eq] at hn
   obtain ⟨i,hi,h1,h2,h3⟩:=adsL_find (kadr t).1 (kadr t).2 t.kids 0 n (by omega)
   rw [Nat.zero_add] at h3
   have eg:t.kids.getD i .none=t.kids[i]:=by simp [List.getD,hi]
   obtain ⟨π,g1,g2,g3⟩:=ih _ (List.getElem_mem hi) (kadr t).1 ((kadr t).2+i*4) _ h2
   refine ⟨i :: π,⟨hi,by rw [eg];exact g1⟩,?_,?_⟩
   ·rw [nuP,eg,g2];omega
   ·rw [adsT_eq,List.getElem?_cons_succ,kidsA,h3,g3,adP,eg]
theorem nu_lt:∀ (π:List Nat) (t:TV),okP π t->nuP π t < szT t:=fun π t h=>by
 obtain ⟨A,B,h1,h2,_⟩:=pre_set π t h
 have:=congrArg List.length h2
 simp only [List.length_map,List.length_append,preT_len] at this
 have h4:=szT_eq (getAt π t)
 omega
theorem kidF_app (b o:Nat):∀ (l m:List TV) (s:Nat),kidF b o s (l++m)=kidF b o s l++kidF b o (s+l.length) m
 | [],m,s=>by simp [kidF]
 | a :: l,m,s=>by
  rw [List.cons_append,kidF,kidF,kidF_app b o l m (s+1),List.cons_append,List.length_cons]
  have:s+1+l.length=s+(l.length+1):=by omega
  rw [this]
theorem adsL_app (l m:List (Nat×Nat×TV)):adsL (l++m)=adsL l++adsL m:=by simp [adsL]
theorem adsL_cut (b o:Nat)(l m:List TV)(k:TV):adsL (kidF b o 0 (l++[k]++m))=adsL (kidF b o 0 l)++adsT b (o+l.length*4) k++adsL (kidF b o (l.length+1) m):=by
 rw [kidF_app,kidF_app,adsL_app,adsL_app]
 simp [kidF,adsL]
theorem ads_set:∀ (π:List Nat) (p q:Nat) (t:TV),okP π t->∃ A B,A.length=nuP π t/\adsT p q t=A++adsT (adP π p q t).1 (adP π p q t).2 (getAt π t)++B /\
  ∀ u,adsT p q (setAt π t u)=A++adsT (adP π p q t).1 (adP π p q t).2 u++B
 | [],p,q,t,_=>⟨[],[],rfl,by simp [getAt,adP],fun u=>by simp [setAt,adP]⟩
 | i :: π,p,q,t,⟨hi,hp⟩=>by
  have eg:t.kids.getD i .none=t.kids[i]:=by simp [List.getD,hi]
  rw [eg] at hp
  obtain ⟨A,B,h1,h2,h3⟩:=ads_set π (kadr t).1 ((kadr t).2+i*4) t.kids[i] hp
  have ea:adP (i :: π) p q t=adP π (kadr t).1 ((kadr t).2+i*4) t.kids[i]:=by rw [adP,eg]
  have hlen:(t.kids.take i).length=i:=by simp;omega
  refine ⟨(p,q) :: adsL (kidF (kadr t).1 (kadr t).2 0 (t.kids.take i))++A,B++adsL (kidF (kadr t).1 (kadr t).2 (i+1) (t.kids.drop (i+1))),?_,?_,fun u=>?_⟩
  ·rw [List.cons_append,List.length_cons,List.length_append,adsL_len' _ _ _ _ (fun k _=>adsT_len k),h1,nuP,eg];omega
  ·have e:adsL (kidsA t)=adsL (kidF (kadr t).1 (kadr t).2 0 (t.kids.take i++[t.kids[i]]++t.kids.drop (i+1))):=by rw [<- cut3' hi];rfl
   rw [adsL_cut,hlen] at e
   rw [adsT_eq,e,ea,getAt,eg,h2]
   simp only [List.append_assoc,List.cons_append]
  ·have es:setAt (i :: π) t u=t.sk (t.kids.set i (setAt π t.kids[i] u)):=by rw [setAt,eg]
   have e:adsL (kidsA (t.sk (t.kids.set i (setAt π t.kids[i] u))))=adsL (kidF (kadr t).1 (kadr t).2 0 (t.kids.take i++[setAt π t.kids[i] u]++t.kids.drop (i+1))):=by rw [<- cut3 hi];rfl
   rw [adsL_cut,hlen] at e
   rw [es,adsT_eq,e,ea,h3]
   simp only [List.append_assoc,List.cons_append]
theorem sgV_len {a b:TV}(h:sgV a=sgV b):a.kids.length=b.kids.length:=by
 unfold sgV at h
 simp only [Prod.mk.injEq] at h
 exact h.2.2.2
theorem samV_trans (a:TV):∀ b c,samV a b->samV b c->samV a c:=by
 induction a using TV.ind with
 | _ a ih =>
  intro b c h1 h2
  obtain ⟨e1,k1⟩:=(samV_iff a b).1 h1
  obtain ⟨e2,k2⟩:=(samV_iff b c).1 h2
  refine (samV_iff a c).2 ⟨e1.trans e2,fun i h h'=>?_⟩
  have hb:i < b.kids.length:=by rw [<- sgV_len e1];exact h
  exact ih _ (List.getElem_mem h) _ _ (k1 i h hb) (k2 i hb h')
theorem getAt_app:∀ (π ρ:List Nat) (t:TV),getAt (π++ρ) t=getAt ρ (getAt π t)
 | [],_,_=>rfl
 | i :: π,ρ,t=>by rw [List.cons_append,getAt,getAt];exact getAt_app π ρ _
theorem okP_app:∀ (π ρ:List Nat) (t:TV),okP (π++ρ) t ↔ okP π t/\okP ρ (getAt π t)
 | [],_,_=>by simp [okP,getAt]
 | i :: π,ρ,t=>by rw [List.cons_append,okP,okP,getAt,okP_app π ρ,and_assoc]
theorem adP_app:∀ (π ρ:List Nat) (p q:Nat) (t:TV),adP (π++ρ) p q t=adP ρ (adP π p q t).1 (adP π p q t).2 (getAt π t)
 | [],_,_,_,_=>rfl
 | i :: π,ρ,p,q,t=>by rw [List.cons_append,adP,adP,getAt];exact adP_app π ρ _ _ _
theorem nuP_app:∀ (π ρ:List Nat) (t:TV),nuP (π++ρ) t=nuP π t+nuP ρ (getAt π t)
 | [],_,_=>by simp [nuP,getAt]
 | i :: π,ρ,t=>by rw [List.cons_append,nuP,nuP,getAt,nuP_app π ρ];omega
theorem kid_set {t:TV}{i:Nat}(hi:i < t.kids.length)(k:TV):(t.sk (t.kids.set i k)).kids.getD i .none=k:=by
 have e:(t.sk (t.kids.set i k)).kids=t.kids.set i k:=rfl
 rw [e];simp [List.getD,hi]
theorem ok_set:∀ (π:List Nat) (t u:TV),okP π t->okP π (setAt π t u)
 | [],_,_,_=>trivial
 | i :: π,t,u,⟨hi,hp⟩=>by
  rw [setAt,okP,kid_set hi]
  have e:∀ k,(t.sk (t.kids.set i k)).kids.length=t.kids.length:=fun k=>by
   have e:(t.sk (t.kids.set i k)).kids=t.kids.set i k:=rfl
   rw [e];simp
  exact ⟨by rw [e];exact hi,ok_set π _ u hp⟩
theorem ad_set:∀ (π:List Nat) (p q:Nat) (t u:TV),okP π t->adP π p q (setAt π t u)=adP π p q t
 | [],_,_,_,_,_=>rfl
 | i :: π,p,q,t,u,⟨hi,hp⟩=>by
  have e:∀ k,kadr (t.sk (t.kids.set i k))=kadr t:=fun _=>rfl
  rw [setAt,adP,adP,kid_set hi,e]
  exact ad_set π _ _ _ u hp
theorem at_path {w:World}:∀ (π:List Nat) (p q:Nat) (t:TV),TBx w p q t->TAt w t->okP π t->TBx w (adP π p q t).1 (adP π p q t).2 (getAt π t)/\TAt w (getAt π t)
 | [],_,_,_,hb,ht,_=>⟨hb,ht⟩
 | i :: π,p,q,t,hb,ht,⟨hi,hp⟩=>by
  obtain ⟨b,off,e,hbi⟩:=krow_kid ht.row hi
  have ek:kadr t=(b,off):=by unfold kadr;rw [e]
  have eg:t.kids.getD i .none=t.kids[i]:=by simp [List.getD,hi]
  rw [adP,getAt,ek]
  rw [eg] at hp ⊢
  exact at_path π b (off+i*4) t.kids[i] hbi (ht.kid _ (List.getElem_mem hi)) hp
theorem ads_path {p q:Nat}{t:TV}{a:Nat×Nat}(ha:a∈adsT p q t):∃ π,okP π t/\a=adP π p q t:=by
 obtain ⟨n,hn,rfl⟩:=List.getElem_of_mem ha
 obtain ⟨π,h1,_,h3⟩:=path_ex t p q n (by rw [<- adsT_len t p q];exact hn)
 rw [List.getElem?_eq_getElem hn] at h3
 exact ⟨π,h1,Option.some.inj h3⟩
theorem ads_lt {w:World}{p q:Nat}{t:TV}(hb:TBx w p q t)(ht:TAt w t){a:Nat×Nat}(ha:a∈adsT p q t):a.1 < w.heap.size:=by
 obtain ⟨π,h1,rfl⟩:=ads_path ha
 exact (at_path π p q t hb ht h1).1.lt
def inL (l:List TV):List (Nat×Nat):=l.flatMap fun k=>adsL (kidsA k)
def rowA (b o s n:Nat):List (Nat×Nat):=(List.range' s n).map fun i=>(b,o+i*4)
theorem cnt_row (a:Nat×Nat)(b o:Nat):∀ (l:List TV) (s:Nat),(adsL (kidF b o s l)).count a=(rowA b o s l.length).count a+(inL l).count a
 | [],s=>by simp [kidF,adsL,rowA,inL]
 | k :: l,s=>by
  have ih:=cnt_row a b o l (s+1)
  have e1:rowA b o s (k :: l).length=(b,o+s*4) :: rowA b o (s+1) l.length:=by simp [rowA,List.range'_succ]
  have e2:inL (k :: l)=adsL (kidsA k)++inL l:=by simp [inL]
  rw [kidF,adsL_cons,List.count_append,ih,adsT_eq,e1,e2,List.count_append,List.count_cons,List.count_cons]
  dsimp only
  omega
theorem row_mem {a:Nat×Nat}{b o s n:Nat}(h:a∈rowA b o s n):a.1=b/\∃ i,s<=i/\a.2=o+i*4:=by
 obtain ⟨i,hi,rfl⟩:=List.mem_map.1 h
 exact ⟨rfl,i,(List.mem_range'_1.1 hi).1,rfl⟩
theorem row_one (a:Nat×Nat)(b o:Nat):∀ (n s:Nat),(rowA b o s n).count a<=1
 | 0,_=>by simp [rowA]
 | n+1,s=>by
  have e1:rowA b o s (n+1)=(b,o+s*4) :: rowA b o (s+1) n:=by simp [rowA,List.range'_succ]
  have ih:=row_one a b o n (s+1)
  rw [e1,List.count_cons]
  split
  ·rename_i h
   have h:(b,o+s*4)=a:=by simpa using h
   have:(rowA b o (s+1) n).count a=0:=List.count_eq_zero.2 fun hm=>by
    obtain ⟨_,i,hi,h2⟩:=row_mem hm
    subst h
    simp only at h2
    omega
   omega
  ·omega
def stkI:List Nat->Nat->Nat->TV->List PA
 | [],_,_,_=>[]
 | i :: π,p,q,t=>(p,q,i+1) :: stkI π (kadr t).1 ((kadr t).2+i*4) (t.kids.getD i .none)
theorem stkI_len:∀ (π:List Nat) (p q:Nat) (t:TV),(stkI π p q t).length=π.length
 | [],_,_,_=>rfl
 | i :: π,p,q,t=>by simp [stkI,stkI_len π]
theorem stkI_snoc (i:Nat):∀ (π:List Nat) (p q:Nat) (t:TV),stkI (π++[i]) p q t=stkI π p q t++[((adP π p q t).1,(adP π p q t).2,i+1)]
 | [],_,_,_=>rfl
 | j :: π,p,q,t=>by rw [List.cons_append,stkI,stkI_snoc i π,stkI,adP];rfl
theorem stkI_set:∀ (π:List Nat) (p q:Nat) (t u:TV),okP π t->stkI π p q (setAt π t u)=stkI π p q t
 | [],_,_,_,_,_=>rfl
 | i :: π,p,q,t,u,⟨hi,hp⟩=>by
  have e:∀ k,kadr (t.sk (t.kids.set i k))=kadr t:=fun _=>rfl
  rw [setAt,stkI,stkI,kid_set hi,e]
  rw [stkI_set π _ _ _ u hp]
theorem nu_len:∀ (π:List Nat) (t:TV),π.length<=nuP π t
 | [],_=>Nat.zero_le _
 | i :: π,t=>by
  have:=nu_len π (t.kids.getD i .none)
  rw [nuP,List.length_cons];omega
end Go.Proofs.YteciabdjkaackaaGreat
