import Derived.Test.YtockbobpmiagiaaGreatDoorPBBaseToGInts
import Derived.Laws.BitsAllLaws
import Derived.Laws.StructEq
import Derived.ChangeKeysEq
import Derived.RegionTactic
import Derived.BigRegion
import Derived.Deep.RegionWith
namespace Go.Proofs.YtockbobpmiagiaaGreatDoor
set_option linter.unusedVariables false
set_option maxRecDepth 100000
set_option maxHeartbeats 16000000
open Go.RowKit
abbrev BS:=Nat×Nat
def OkS (s:BS):Prop:=s.1 < 18446744073709551616/\s.2 < 18446744073709551616
def addS (s:BS)(n:Nat):BS:=if n < 64 then (s.1 ||| 2 ^ n,s.2) else (s.1,s.2 ||| 2 ^ (n - 64))
def hasS (s:BS)(n:Nat):Bool:=if n < 64 then s.1.testBit n else s.2.testBit (n - 64)
def withS (a b:BS):BS:=(a.1 ||| b.1,a.2 ||| b.2)
def setS (l:List Int):BS:=l.foldl (fun s n=>addS s n.toNat) (0,0)
def listS (s:BS)(n:Nat):List Int:=((List.range n).filter (hasS s)).map fun (i:Nat)=>(i:Int)
theorem pow64 {n:Nat}(h:n < 64):2 ^ n < 18446744073709551616:=by
 have:=Nat.pow_lt_pow_right (a:=2) (by omega) h
 simpa using this
theorem or64 {a b:Nat}(ha:a < 18446744073709551616)(hb:b < 18446744073709551616):a ||| b < 18446744073709551616:=Nat.or_lt_two_pow (n:=64) ha hb
theorem OkS.add {s:BS}(h:OkS s){n:Nat}(hn:n < 128):OkS (addS s n):=by
 unfold addS
 split
 ·exact ⟨or64 h.1 (pow64 (by omega)),h.2⟩
 ·exact ⟨h.1,or64 h.2 (pow64 (by omega))⟩
theorem OkS.with {a b:BS}(ha:OkS a)(hb:OkS b):OkS (withS a b):=⟨or64 ha.1 hb.1,or64 ha.2 hb.2⟩
theorem OkS.zero:OkS (0,0):=⟨by decide,by decide⟩
theorem hasS_add (s:BS)(n m:Nat)(hn:n < 128)(hm:m < 128):hasS (addS s n) m=(hasS s m || decide (n=m)):=by
 unfold addS hasS
 by_cases h1:n < 64<;>by_cases h2:m < 64<;>simp only [h1,h2,if_true,if_false,Nat.testBit_or,Nat.testBit_two_pow]
 ·have e:decide (n=m)=false:=by simp;omega
  simp [e]
 ·have e:decide (n=m)=false:=by simp;omega
  simp [e]
 ·have e:decide (n - 64=m - 64)=decide (n=m):=by simp only [decide_eq_decide];omega
  rw [e]
theorem hasS_with (a b:BS)(n:Nat):hasS (withS a b) n=(hasS a n || hasS b n):=by
 unfold hasS withS
 split<;>simp
theorem hasS_zero (n:Nat):hasS (0,0) n=false:=by
 unfold hasS
 split<;>simp
theorem setS_ext {a b:BS}(ha:OkS a)(hb:OkS b)(h:∀ n,n < 128->hasS a n=hasS b n):a=b:=by
 obtain ⟨a1,a2⟩:=a
 obtain ⟨b1,b2⟩:=b
 have k:∀ (x y:Nat),x < 18446744073709551616->y < 18446744073709551616->(∀ i,i < 64->x.testBit i=y.testBit i)->x=y:=fun x y hx hy he=>by
  apply Nat.eq_of_testBit_eq
  intro i
  by_cases hi:i < 64
  ·exact he i hi
  ·have p:18446744073709551616<=2 ^ i:=by
    have:=Nat.pow_le_pow_right (n:=2) (by omega) (show 64<=i by omega)
    simpa using this
   rw [Nat.testBit_lt_two_pow (by omega),Nat.testBit_lt_two_pow (by omega)]
 have e1:a1=b1:=k a1 b1 ha.1 hb.1 fun i hi=>by
  have:=h i (by omega)
  simpa [hasS,hi] using this
 have e2:a2=b2:=k a2 b2 ha.2 hb.2 fun i hi=>by
  have:=h (i+64) (by omega)
  simpa [hasS,show ¬ i+64 < 64 by omega] using this
 rw [e1,e2]
theorem within_iff {a b:BS}(ha:OkS a)(hb:OkS b):withS a b=b ↔ ∀ n,n < 128->hasS a n=true->hasS b n=true:=by
 constructor
 ·intro h n _ hn
  rw [<- h,hasS_with,hn]
  rfl
 ·intro h
  refine setS_ext (ha.with hb) hb fun n hn=>?_
  rw [hasS_with]
  cases e:hasS a n
  ·simp
  ·simp [h n hn e]
theorem foldS_has:∀ (l:List Int) (s:BS),(∀ x∈l,0<=x/\x < 128)->OkS s->OkS (l.foldl (fun s n=>addS s n.toNat) s)/\∀ n,n < 128->(hasS (l.foldl (fun s n=>addS s n.toNat) s) n=true ↔ hasS s n=true∨(n:Int)∈l)
 | [],s,_,hs=>⟨hs,fun n _=>by simp⟩
 | x :: l,s,hl,hs=>by
  have hx:=hl x (by simp)
  obtain ⟨h1,h2⟩:=foldS_has l (addS s x.toNat) (fun y hy=>hl y (by simp [hy])) (hs.add (by omega))
  refine ⟨h1,fun n hn=>?_⟩
  rw [List.foldl_cons,h2 n hn,hasS_add s x.toNat n (by omega) hn]
  simp only [Bool.or_eq_true,decide_eq_true_eq,List.mem_cons]
  constructor
  ·rintro ((h | h) | h)
   ·exact .inl h
   ·exact .inr (.inl (by omega))
   ·exact .inr (.inr h)
  ·rintro (h | h | h)
   ·exact .inl (.inl h)
   ·exact .inl (.inr (by omega))
   ·exact .inr h
theorem setS_ok {l:List Int}(h:∀ x∈l,0<=x/\x < 128):OkS (setS l):=(foldS_has l (0,0) h OkS.zero).1
theorem setS_has {l:List Int}(h:∀ x∈l,0<=x/\x < 128)(n:Nat)(hn:n < 128):hasS (setS l) n=true ↔ (n:Int)∈l:=by
 have:=(foldS_has l (0,0) h OkS.zero).2 n hn
 rw [hasS_zero] at this
 simpa [setS] using this
theorem listS_mem (s:BS)(n:Nat)(x:Int):x∈listS s n ↔ 0<=x/\x < n/\hasS s x.toNat=true:=by
 unfold listS
 simp only [List.mem_map,List.mem_filter,List.mem_range]
 constructor
 ·rintro ⟨i,⟨h1,h2⟩,rfl⟩
  exact ⟨by omega,by omega,by simpa using h2⟩
 ·rintro ⟨h1,h2,h3⟩
  exact ⟨x.toNat,⟨by omega,h3⟩,by omega⟩
theorem listS_succ (s:BS)(n:Nat):listS s (n+1)=listS s n++(if hasS s n then [(n:Int)] else []):=by
 unfold listS
 rw [List.range_succ,List.filter_append,List.map_append]
 congr 1
 by_cases h:hasS s n=true<;>simp [h]
theorem listS_rises (s:BS):∀ n,(listS s n).Pairwise (· < ·)
 | 0=>by simp [listS]
 | n+1=>by
  rw [listS_succ,List.pairwise_append]
  refine ⟨listS_rises s n,by split<;>simp,fun x hx y hy=>?_⟩
  have:=(listS_mem s n x).1 hx
  split at hy
  ·obtain rfl:=List.mem_singleton.1 hy;omega
  ·cases hy
def fitU (K:List Int)(l:List (Int×Int))(most:Nat):Bool:=l.all fun s=>decide (s.1=2) && decide (K.getD s.2.toNat 0≠0) && decide (K.getD s.2.toNat 0<=(most:Int))
def hStep (most:Nat)(K:List Int)(p:PV):List Int:=if K.getD p.left.toNat 0=0/\fitU K p.right most=true then K.set p.left.toNat ((most:Int)+1) else K
def hRound (ps:List PV)(K:List Int)(most:Nat):List Int:=ps.foldl (hStep most) K
def htU (ps:List PV)(n:Nat):Nat->List Int
 | 0=>List.replicate n 0
 | k+1=>hRound ps (htU ps n k) k
def nullU (ps:List PV)(n:Nat):List Bool:=(htU ps n n).map fun h=>decide (0 < h)
theorem getD_set_i {K:List Int}{i j:Nat}{v:Int}:(K.set i v).getD j 0=if i=j/\j < K.length then v else K.getD j 0:=by
 simp only [List.getD,List.getElem?_set]
 by_cases h1:i=j
 ·subst h1
  by_cases h2:i < K.length
  ·simp [h2]
  ·simp [h2]
 ·simp [h1]
structure HGo (v:Int)(K L:List Int):Prop where
 len:L.length=K.length
 old:∀ i,K.getD i 0≠0->L.getD i 0=K.getD i 0
 new:∀ i,K.getD i 0=0->L.getD i 0=0∨L.getD i 0=v
theorem HGo.refl (v:Int)(K:List Int):HGo v K K:=⟨rfl,fun _ _=>rfl,fun _ h=>.inl h⟩
theorem HGo.trans {v:Int}(hv:v≠0){K L M:List Int}(h:HGo v K L)(h':HGo v L M):HGo v K M :=
 ⟨h'.len.trans h.len,fun i hi=>by have e:=h.old i hi;rw [h'.old i (by rw [e];exact hi),e],fun i hi=>by
  rcases h.new i hi with e | e
  ·exact h'.new i e
  ·right;rw [h'.old i (by rw [e];exact hv),e]⟩
theorem hStep_go (most:Nat)(K:List Int)(p:PV):HGo ((most:Int)+1) K (hStep most K p):=by
 unfold hStep
 split
 ·rename_i h
  refine ⟨by simp,fun i hi=>?_,fun i hi=>?_⟩
  ·rw [getD_set_i,if_neg]
   rintro ⟨e,_⟩
   rw [e] at h
   exact hi h.1
  ·rw [getD_set_i]
   split
   ·exact .inr rfl
   ·exact .inl hi
 ·exact HGo.refl _ _
theorem hFold_go (most:Nat):∀ (ps:List PV) (K:List Int),HGo ((most:Int)+1) K (ps.foldl (hStep most) K)
 | [],K=>HGo.refl _ _
 | p :: ps,K=>(hStep_go most K p).trans (by omega) (hFold_go most ps _)
theorem hRound_go (ps:List PV)(K:List Int)(most:Nat):HGo ((most:Int)+1) K (hRound ps K most):=hFold_go most ps K
theorem htU_len (ps:List PV)(n:Nat):∀ k,(htU ps n k).length=n
 | 0=>by simp [htU]
 | k+1=>by rw [htU,(hRound_go _ _ _).len,htU_len ps n k]
theorem htU_bd (ps:List PV)(n:Nat):∀ k i,0<=(htU ps n k).getD i 0/\(htU ps n k).getD i 0<=k
 | 0,i=>by
  have:(htU ps n 0).getD i 0=0:=by simp only [htU,List.getD,List.getElem?_replicate];split<;>rfl
  rw [this];simp
 | k+1,i=>by
  have ih:=htU_bd ps n k i
  have g:=hRound_go ps (htU ps n k) k
  rw [htU]
  by_cases h:(htU ps n k).getD i 0=0
  ·rcases g.new i h with e | e<;>rw [e]<;>omega
  ·rw [g.old i h];omega
theorem htU_keep (ps:List PV)(n k i:Nat)(h:(htU ps n k).getD i 0≠0):∀ d,(htU ps n (k+d)).getD i 0=(htU ps n k).getD i 0
 | 0=>rfl
 | d+1=>by
  have ih:=htU_keep ps n k i h d
  rw [<- Nat.add_assoc,htU,(hRound_go _ _ _).old i (by rw [ih];exact h),ih]
theorem htU_back (ps:List PV)(n k i:Nat):∀ d,(htU ps n (k+d)).getD i 0≠0->(htU ps n (k+d)).getD i 0<=k->(htU ps n k).getD i 0=(htU ps n (k+d)).getD i 0
 | 0,_,_=>rfl
 | d+1,h0,h1=>by
  rw [<- Nat.add_assoc] at h0 h1 ⊢
  have g:=hRound_go ps (htU ps n (k+d)) (k+d)
  by_cases h:(htU ps n (k+d)).getD i 0=0
  ·rw [htU] at h0 h1
   rcases g.new i h with e | e
   ·exact absurd e h0
   ·rw [e] at h1;omega
  ·have e:=g.old i h
   rw [htU,e]
   rw [htU,e] at h1
   exact htU_back ps n k i d h h1
theorem fitU_iff {K:List Int}{l:List (Int×Int)}{most:Nat}:fitU K l most=true ↔ ∀ s∈l,s.1=2/\K.getD s.2.toNat 0≠0/\K.getD s.2.toNat 0<=(most:Int):=by
 unfold fitU
 simp [List.all_eq_true,and_assoc]
theorem hFold_has (most:Nat)(p:PV)(hp0:0<=p.left):∀ (ps:List PV) (K:List Int),p∈ps->p.left.toNat < K.length->fitU K p.right most=true->(ps.foldl (hStep most) K).getD p.left.toNat 0≠0
 | [],K,h,_,_=>by cases h
 | r :: ps,K,h,hl,hf=>by
  have g:=hStep_go most K r
  have hf':fitU (hStep most K r) p.right most=true:=by
   rw [fitU_iff] at hf ⊢
   intro s hs
   obtain ⟨h1,h2,h3⟩:=hf s hs
   rw [g.old _ h2]
   exact ⟨h1,h2,h3⟩
  rw [List.foldl_cons]
  rcases List.mem_cons.1 h with rfl | h
  ·have g2:=hFold_go most ps (hStep most K p)
   have h1:(hStep most K p).getD p.left.toNat 0≠0:=by
    unfold hStep
    by_cases e:K.getD p.left.toNat 0=0
    ·rw [if_pos ⟨e,hf⟩,getD_set_i,if_pos ⟨rfl,hl⟩];omega
    ·rw [if_neg (fun q=>e q.1)];exact e
   rw [g2.old _ h1]
   exact h1
  ·exact hFold_has most p hp0 ps _ h (by rw [g.len];exact hl) hf'
theorem htU_fit (ps:List PV)(n k:Nat)(p:PV)(hp:p∈ps)(h0:0<=p.left)(hl:p.left < n)(hf:fitU (htU ps n (k+1)) p.right k=true):(htU ps n (k+1)).getD p.left.toNat 0≠0:=by
 rw [htU]
 refine hFold_has k p h0 ps _ hp (by rw [htU_len];omega) ?_
 rw [fitU_iff] at hf ⊢
 intro s hs
 obtain ⟨h1,h2,h3⟩:=hf s hs
 have e:=htU_back ps n k s.2.toNat 1 h2 h3
 rw [e]
 exact ⟨h1,h2,h3⟩
theorem hFold_by (most:Nat)(i:Nat):∀ (ps:List PV) (K:List Int),K.getD i 0=0->(ps.foldl (hStep most) K).getD i 0≠0->∃ p∈ps,p.left.toNat=i/\∃ L,HGo ((most:Int)+1) K L/\fitU L p.right most=true
 | [],K,h,h'=>absurd h h'
 | p :: ps,K,h,h'=>by
  rw [List.foldl_cons] at h'
  have g:=hStep_go most K p
  by_cases e:(hStep most K p).getD i 0=0
  ·obtain ⟨q,hq,e1,L,hL,hf⟩:=hFold_by most i ps _ e h'
   exact ⟨q,by simp [hq],e1,L,g.trans (by omega) hL,hf⟩
  ·unfold hStep at e
   split at e
   ·rename_i hc
    rw [getD_set_i] at e
    split at e
    ·rename_i hi
     exact ⟨p,by simp,hi.1,K,HGo.refl _ _,hc.2⟩
    ·exact absurd h e
   ·exact absurd h e
theorem htU_chain (ps:List PV)(n:Nat)(hps:∀ p∈ps,0<=p.left/\p.left < n)(h i:Nat)(e:(htU ps n (h+2)).getD i 0=(h:Int)+2):∃ j,(htU ps n (h+1)).getD j 0=(h:Int)+1:=by
 have hz:(htU ps n (h+1)).getD i 0=0:=by
  by_cases q:(htU ps n (h+1)).getD i 0=0
  ·exact q
  ·have:=htU_keep ps n (h+1) i q 1
   have:=(htU_bd ps n (h+1) i).2
   rw [show h+1+1=h+2 by omega,e] at *
   omega
 obtain ⟨p,hp,hpi,L,hL,hf⟩:=hFold_by (h+1) i ps (htU ps n (h+1)) hz (by show (hRound ps (htU ps n (h+1)) (h+1)).getD i 0≠0;have:hRound ps (htU ps n (h+1)) (h+1)=htU ps n (h+2):=rfl;rw [this,e];omega)
 rw [fitU_iff] at hf
 have hK:∀ s∈p.right,s.1=2/\(htU ps n (h+1)).getD s.2.toNat 0≠0/\(htU ps n (h+1)).getD s.2.toNat 0<=((h+1:Nat):Int):=fun s hs=>by
  obtain ⟨h1,h2,h3⟩:=hf s hs
  by_cases q:(htU ps n (h+1)).getD s.2.toNat 0=0
  ·rcases hL.new _ q with r | r
   ·exact absurd r h2
   ·rw [r] at h3;omega
  ·exact ⟨h1,q,(htU_bd ps n (h+1) _).2⟩
 have nf:¬ fitU (htU ps n (h+1)) p.right h=true:=fun q=>by
  have:=htU_fit ps n h p hp (hps p hp).1 (hps p hp).2 q
  rw [hpi] at this
  exact this hz
 rw [fitU_iff] at nf
 have:∃ s∈p.right,¬ ((htU ps n (h+1)).getD s.2.toNat 0<=(h:Int)):=by
  refine Classical.byContradiction fun q=>nf fun s hs=>?_
  obtain ⟨h1,h2,_⟩:=hK s hs
  exact ⟨h1,h2,Classical.byContradiction fun r=>q ⟨s,hs,r⟩⟩
 obtain ⟨s,hs,hr⟩:=this
 have:=(hK s hs).2.2
 exact ⟨s.2.toNat,by omega⟩
def zeroU:List Int->Nat
 | []=>0
 | x :: l=>(if x=0 then 1 else 0)+zeroU l
theorem zeroU_rep:∀ n,zeroU (List.replicate n 0)=n
 | 0=>rfl
 | n+1=>by rw [List.replicate_succ,zeroU,zeroU_rep n];simp;omega
theorem zeroU_set:∀ (K:List Int) (i:Nat) (v:Int),i < K.length->K.getD i 0=0->v≠0->zeroU (K.set i v)+1=zeroU K
 | [],i,v,h,_,_=>by simp at h
 | x :: l,0,v,_,h0,hv=>by
  simp only [List.getD_cons_zero] at h0
  subst h0
  simp [zeroU,hv,Nat.add_comm]
 | x :: l,i+1,v,h,h0,hv=>by
  simp only [List.getD_cons_succ] at h0
  have:=zeroU_set l i v (by simpa using h) h0 hv
  simp only [List.set_cons_succ,zeroU]
  omega
theorem zeroU_pos:∀ (K:List Int) (i:Nat),i < K.length->K.getD i 0=0->0 < zeroU K
 | [],i,h,_=>by simp at h
 | x :: l,0,_,h0=>by
  simp only [List.getD_cons_zero] at h0
  simp [zeroU,h0]
  omega
 | x :: l,i+1,h,h0=>by
  simp only [List.getD_cons_succ] at h0
  have:=zeroU_pos l i (by simpa using h) h0
  simp only [zeroU]
  omega
theorem hFold_zero (most:Nat):∀ (ps:List PV) (K:List Int),zeroU (ps.foldl (hStep most) K)<=zeroU K/\∀ i,K.getD i 0=0->(ps.foldl (hStep most) K).getD i 0≠0->zeroU (ps.foldl (hStep most) K)+1<=zeroU K
 | [],K=>⟨Nat.le_refl _,fun i h h'=>absurd h h'⟩
 | p :: ps,K=>by
  obtain ⟨h1,h2⟩:=hFold_zero most ps (hStep most K p)
  have hs:zeroU (hStep most K p)<=zeroU K/\∀ i,K.getD i 0=0->(hStep most K p).getD i 0≠0->zeroU (hStep most K p)+1<=zeroU K:=by
   unfold hStep
   split
   ·rename_i hc
    by_cases hl:p.left.toNat < K.length
    ·have:=zeroU_set K p.left.toNat ((most:Int)+1) hl hc.1 (by omega)
     exact ⟨by omega,fun _ _ _=>by omega⟩
    ·rw [List.set_eq_of_length_le (by omega)]
     exact ⟨Nat.le_refl _,fun i h h'=>absurd h h'⟩
   ·exact ⟨Nat.le_refl _,fun i h h'=>absurd h h'⟩
  rw [List.foldl_cons]
  refine ⟨by omega,fun i h h'=>?_⟩
  by_cases e:(hStep most K p).getD i 0=0
  ·have:=h2 i e h';omega
  ·have:=hs.2 i h e;omega
theorem htU_zero (ps:List PV)(n:Nat)(hps:∀ p∈ps,0<=p.left/\p.left < n):∀ k i,(htU ps n (k+1)).getD i 0=(k:Int)+1->zeroU (htU ps n (k+1))+(k+1)<=n
 | 0,i,e=>by
  have h0:(htU ps n 0).getD i 0=0:=by have:=htU_bd ps n 0 i;omega
  have:=(hFold_zero 0 ps (htU ps n 0)).2 i h0 (by show (htU ps n 1).getD i 0≠0;rw [e];omega)
  have hz:zeroU (htU ps n 0)=n:=zeroU_rep n
  show zeroU (ps.foldl (hStep 0) (htU ps n 0))+1<=n
  omega
 | k+1,i,e=>by
  obtain ⟨j,hj⟩:=htU_chain ps n hps k i (by rw [e];omega)
  have ih:=htU_zero ps n hps k j hj
  have h0:(htU ps n (k+1)).getD i 0=0:=by
   by_cases q:(htU ps n (k+1)).getD i 0=0
   ·exact q
   ·have:=htU_keep ps n (k+1) i q 1
    have:=(htU_bd ps n (k+1) i).2
    omega
  have:=(hFold_zero (k+1) ps (htU ps n (k+1))).2 i h0 (by show (htU ps n (k+1+1)).getD i 0≠0;rw [e];omega)
  show zeroU (ps.foldl (hStep (k+1)) (htU ps n (k+1)))+(k+1+1)<=n
  omega
theorem htU_closed (ps:List PV)(n:Nat)(hps:∀ p∈ps,0<=p.left/\p.left < n)(p:PV)(hp:p∈ps)(hr:∀ s∈p.right,s.1=2/\(htU ps n n).getD s.2.toNat 0≠0):(htU ps n n).getD p.left.toNat 0≠0:=by
 intro h0
 obtain ⟨l0,l1⟩:=hps p hp
 obtain ⟨k,rfl⟩:∃ k,n=k+1:=⟨n - 1,by omega⟩
 by_cases h:∃ s∈p.right,(htU ps (k+1) (k+1)).getD s.2.toNat 0=(k:Int)+1
 ·obtain ⟨s,hs,e⟩:=h
  have:=htU_zero ps (k+1) hps k _ e
  have:=zeroU_pos _ p.left.toNat (by rw [htU_len];omega) h0
  omega
 ·refine htU_fit ps (k+1) k p hp l0 l1 (fitU_iff.2 fun s hs=>?_) h0
  have hb:=(htU_bd ps (k+1) (k+1) s.2.toNat).2
  have hne:¬ (htU ps (k+1) (k+1)).getD s.2.toNat 0=(k:Int)+1:=fun e=>h ⟨s,hs,e⟩
  exact ⟨(hr s hs).1,(hr s hs).2,by omega⟩
theorem htU_least (ps:List PV)(n:Nat)(C:Nat->Prop)(hC:∀ p∈ps,(∀ s∈p.right,s.1=2/\C s.2.toNat)->C p.left.toNat):∀ k i,(htU ps n k).getD i 0≠0->C i
 | 0,i,h=>by have:=htU_bd ps n 0 i;omega
 | k+1,i,h=>by
  by_cases e:(htU ps n k).getD i 0=0
  ·obtain ⟨p,hp,hpi,L,hL,hf⟩:=hFold_by k i ps (htU ps n k) e h
   rw [fitU_iff] at hf
   rw [<- hpi]
   refine hC p hp fun s hs=>?_
   obtain ⟨h1,h2,h3⟩:=hf s hs
   refine ⟨h1,htU_least ps n C hC k _ fun q=>?_⟩
   rcases hL.new _ q with r | r
   ·exact h2 r
   ·rw [r] at h3;omega
  ·exact htU_least ps n C hC k i e
theorem three_box (w:World)(a b c:Obj):Below w.heap.size w (((w.alloc a).alloc b).alloc c)/\(((w.alloc a).alloc b).alloc c).heap[w.heap.size]?=some a/\(((w.alloc a).alloc b).alloc c).heap[w.heap.size+1]?=some b/\(((w.alloc a).alloc b).alloc c).heap[w.heap.size+1+1]?=some c:=by
 have b1:=bAl w a
 have b2:=bAl (w.alloc a) b
 have b3:=bAl ((w.alloc a).alloc b) c
 have s1:(w.alloc a).heap.size=w.heap.size+1:=by simp
 have s2:((w.alloc a).alloc b).heap.size=w.heap.size+1+1:=by simp
 refine ⟨b1.trans ((b2.mono b1.size).trans (b3.mono (Nat.le_trans b1.size b2.size))),?_,?_,?_⟩
 ·rw [b3.block _ (by omega),b2.block _ (by omega)];exact heap_alloc_new _ _
 ·rw [b3.block _ (by omega),<- s1];exact heap_alloc_new _ _
 ·rw [<- s2];exact heap_alloc_new _ _
theorem gBi {w w1 w4:World}{v v':Value}(hb:Below w.heap.size w w1)(hv:∀ k,v.ownBlock=some k->w.heap.size<=k)(g:Grew w1 w4 v v'):Below w.heap.size w w4/\∀ k,v'.ownBlock=some k->w.heap.size<=k:=by
 refine ⟨⟨g.grown.os.trans hb.os,g.grown.tape.trans hb.tape,g.grown.output.trans hb.output,Nat.le_trans hb.size g.grown.size,fun k hk=>(g.grown.block k (Nat.lt_of_lt_of_le hk hb.size) fun e=>?_).trans (hb.block k hk)⟩,fun k hk=>?_⟩
 ·have:=hv k e.symm;omega
 ·rcases g.moved with e | ⟨j,e,hj⟩
  ·exact hv k (by rw [<- e];exact hk)
  ·rw [e] at hk;simp at hk;have:=hb.size;omega
abbrev gBox (g:GV):Obj:=.cells #[.slice g.ta g.ts.length g.tc,.slice g.na g.ns.length g.nc,.int .i64 g.start,.slice g.pa g.ps.length g.pc,.slice g.la g.ls.length g.lc] 26
def inT (g:GV)(n:Int):Bool:=decide (0<=n/\n < g.ts.length)
def inN (g:GV)(n:Int):Bool:=decide (0<=n/\n < g.ns.length)
def inG (g:GV)(k n:Int):Bool:=if k=1 then inT g n else if k=2 then inN g n else false
theorem isterm_any (g:GV)(n:Int)(w:World)(hl:g.ts.length<=140737488355328):Calls Tryz.prog 75 #[g.val,.int .i64 n] w fun e w'=>e=.returned (.bool (inT g n))/\Below w.heap.size w w':=by
 have fin:=bAl w (gBox g)
 by_cases h0:0<=n
 ·by_cases h1:n < g.ts.length
  ·have E:Hid (inT g n=true):=by show _=_;simp [inT,h0,h1]
   go_enter Tryz.func75,Tryz.ntmps75
   go_wp2
   go_ret
   exact ⟨by rw [E.out];rfl,fin⟩
  ·have E:Hid (inT g n=false):=by show _=_;simp [inT,h1]
   go_enter Tryz.func75,Tryz.ntmps75
   go_wp2
   go_ret
   exact ⟨by rw [E.out];rfl,fin⟩
 ·have E:Hid (inT g n=false):=by show _=_;simp [inT,h0]
  go_enter Tryz.func75,Tryz.ntmps75
  go_wp2
  go_ret
  exact ⟨by rw [E.out];rfl,fin⟩
theorem isnon_any (g:GV)(n:Int)(w:World)(hl:g.ns.length<=140737488355328):Calls Tryz.prog 49 #[g.val,.int .i64 n] w fun e w'=>e=.returned (.bool (inN g n))/\Below w.heap.size w w':=by
 have fin:=bAl w (gBox g)
 by_cases h0:0<=n
 ·by_cases h1:n < g.ns.length
  ·have E:Hid (inN g n=true):=by show _=_;simp [inN,h0,h1]
   go_enter Tryz.func49,Tryz.ntmps49
   go_wp2
   go_ret
   exact ⟨by rw [E.out];rfl,fin⟩
  ·have E:Hid (inN g n=false):=by show _=_;simp [inN,h1]
   go_enter Tryz.func49,Tryz.ntmps49
   go_wp2
   go_ret
   exact ⟨by rw [E.out];rfl,fin⟩
 ·have E:Hid (inN g n=false):=by show _=_;simp [inN,h0]
  go_enter Tryz.func49,Tryz.ntmps49
  go_wp2
  go_ret
  exact ⟨by rw [E.out];rfl,fin⟩
abbrev syBox (k n:Int):Obj:=.cells #[.int .i64 k,.int .i64 n] 49
theorem two_box (w:World)(g:GV)(k n:Int):Below w.heap.size w ((w.alloc (gBox g)).alloc (syBox k n)):=(bAl w _).alloc (bAl w _).size _
theorem in_g (g:GV)(k n:Int)(w:World)(h1:g.ts.length<=140737488355328)(h2:g.ns.length<=140737488355328):Calls Tryz.prog 70 #[g.val,.agg #[.int .i64 k,.int .i64 n]] w fun e w'=>e=.returned (.bool (inG g k n))/\Below w.heap.size w w':=by
 have fin:=two_box w g k n
 by_cases k1:k=1
 ·subst k1
  have E:Hid (inG g 1 n=inT g n):=rfl
  go_enter Tryz.func70,Tryz.ntmps70
  go_wp2_with (first
   | (go_at_call 75;refine (isterm_any g n _ h1).mono ?_;rintro e w1 ⟨rfl,b1⟩;have B1:=fin.trans (b1.mono fin.size);clear b1))
  go_ret
  exact ⟨by rw [E.out];rfl,B1⟩
 by_cases k2:k=2
 ·subst k2
  have E:Hid (inG g 2 n=inN g n):=rfl
  go_enter Tryz.func70,Tryz.ntmps70
  go_wp2_with (first
   | (go_at_call 49;refine (isnon_any g n _ h2).mono ?_;rintro e w1 ⟨rfl,b1⟩;have B1:=fin.trans (b1.mono fin.size);clear b1))
  go_ret
  exact ⟨by rw [E.out];rfl,B1⟩
 have q1:(k == 1)=false:=by simp [k1]
 have q2:(k == 2)=false:=by simp [k2]
 have E:Hid (inG g k n=false):=by show _=_;unfold inG;rw [if_neg k1,if_neg k2]
 go_enter Tryz.func70,Tryz.ntmps70
 go_wp2
 go_ret
 exact ⟨by rw [E.out];rfl,fin⟩
theorem refin_g (g:GV)(k n:Int)(w:World)(h1:g.ts.length<=140737488355328)(h2:g.ns.length<=140737488355328):Calls Tryz.prog 46 #[g.val,.agg #[.int .i64 k,.int .i64 n]] w fun e w'=>e=.returned (.bool (inG g k n))/\Below w.heap.size w w':=by
 have fin:=two_box w g k n
 by_cases k1:k=1
 ·subst k1
  have hc:(0<=n/\n < g.ts.length/\Hid (inG g 1 n=true))∨(0<=n/\¬ n < g.ts.length/\Hid (inG g 1 n=false))∨(¬ 0<=n/\Hid (inG g 1 n=false)):=by
   by_cases a:0<=n
   ·by_cases b:n < g.ts.length
    ·exact .inl ⟨a,b,by show _=_;simp [inG,inT,a,b]⟩
    ·exact .inr (.inl ⟨a,b,by show _=_;simp [inG,inT,b]⟩)
   ·exact .inr (.inr ⟨a,by show _=_;simp [inG,inT,a]⟩)
  rcases hc with ⟨a,b,E⟩ | ⟨a,b,E⟩ | ⟨a,E⟩
  all_goals
   go_enter Tryz.func46,Tryz.ntmps46
   go_wp2
   go_ret
   exact ⟨by rw [E.out];rfl,fin⟩
 by_cases k2:k=2
 ·subst k2
  have hc:(0<=n/\n < g.ns.length/\Hid (inG g 2 n=true))∨(0<=n/\¬ n < g.ns.length/\Hid (inG g 2 n=false))∨(¬ 0<=n/\Hid (inG g 2 n=false)):=by
   by_cases a:0<=n
   ·by_cases b:n < g.ns.length
    ·exact .inl ⟨a,b,by show _=_;simp [inG,inN,a,b]⟩
    ·exact .inr (.inl ⟨a,b,by show _=_;simp [inG,inN,b]⟩)
   ·exact .inr (.inr ⟨a,by show _=_;simp [inG,inN,a]⟩)
  rcases hc with ⟨a,b,E⟩ | ⟨a,b,E⟩ | ⟨a,E⟩
  all_goals
   go_enter Tryz.func46,Tryz.ntmps46
   go_wp2
   go_ret
   exact ⟨by rw [E.out];rfl,fin⟩
 have q1:(k == 1)=false:=by simp [k1]
 have q2:(k == 2)=false:=by simp [k2]
 have E:Hid (inG g k n=false):=by show _=_;unfold inG;rw [if_neg k1,if_neg k2]
 go_enter Tryz.func46,Tryz.ntmps46
 go_wp2
 go_ret
 exact ⟨by rw [E.out];rfl,fin⟩
end Go.Proofs.YtockbobpmiagiaaGreatDoor
