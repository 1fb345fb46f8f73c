import Derived.Test.YthaamdognbncnaaGreatDoorPTM41ToTM43
namespace Go.Proofs.YthaamdognbncnaaGreatDoor
set_option linter.unusedVariables false
set_option maxRecDepth 100000
set_option maxHeartbeats 16000000
open Go.RowKit
theorem checkG_of {g:GV}{nm:Int×Int}(tl:1<=g.ts.length/\g.ts.length<=64)(nl:1<=g.ns.length/\g.ns.length<=64)(hn:nm.1=0)(st:inN g g.start=true)(pl:1<=g.ps.length/\g.ps.length<=256)(ps:∀ i,i < g.ps.length->prodU g i=0)(ll:g.ls.length<=32)(ls:∀ i,i < g.ls.length->lU_ g i=0):cG_ g nm=(0,0):=by
 have hp:=firstU_none ps
 have hl:=firstU_none ls
 unfold cG_
 rw [if_neg (by omega),if_neg (by omega),if_neg (by simpa using hn),if_neg (by simp [st]),if_neg (by omega),if_neg (by rw [hp];simp),if_neg (by omega),hl]
theorem formsF_of {form:ByteArray->Bool}:∀ (ss seen:List ByteArray),(∀ s∈ss,form s=true)->(∀ s∈ss,s ∉ seen)->ss.Nodup->(fF_ form ss seen).1=0/\(fF_ form ss seen).2.2=seen++ss
 | [],seen,_,_,_=>by simp [fF_]
 | a :: r,seen,h1,h2,h3=>by
  obtain ⟨h3a,h3b⟩:=List.nodup_cons.1 h3
  have hi:inB seen a=false:=by
   rw [Bool.eq_false_iff]
   intro e
   simp [inB] at e
   exact h2 a (by simp) e
  unfold fF_
  rw [if_neg (by simp [h1 a (by simp)]),if_neg (by simp [hi])]
  have:=formsF_of r (seen++[a]) (fun s hs=>h1 s (by simp [hs])) (fun s hs hm=>by
   rcases List.mem_append.1 hm with hm | hm
   ·exact h2 s (by simp [hs]) hm
   ·rw [List.mem_singleton.1 hm] at hs;exact h3a hs) h3b
  simpa using this
theorem formsF_to {form:ByteArray->Bool}:∀ (ss seen:List ByteArray),(fF_ form ss seen).1=0->(∀ s∈ss,form s=true)/\(∀ s∈ss,s ∉ seen)/\ss.Nodup/\(fF_ form ss seen).2.2=seen++ss
 | [],seen,_=>by simp [fF_]
 | a :: r,seen,h=>by
  unfold fF_ at h ⊢
  by_cases h1:form a=false
  ·rw [if_pos h1] at h;exact absurd h (by simp)
  rw [if_neg h1] at h ⊢
  by_cases h2:inB seen a=true
  ·rw [if_pos h2] at h;exact absurd h (by simp)
  rw [if_neg h2] at h ⊢
  obtain ⟨q1,q2,q3,q4⟩:=formsF_to r (seen++[a]) h
  have hn:a ∉ seen:=fun e=>h2 (by simp [inB,e])
  refine ⟨fun s hs=>?_,fun s hs=>?_,List.nodup_cons.2 ⟨fun e=>q2 a e (by simp),q3⟩,by rw [q4];simp⟩
  ·rcases List.mem_cons.1 hs with rfl | hs
   ·simpa using h1
   ·exact q1 s hs
  ·rcases List.mem_cons.1 hs with rfl | hs
   ·exact hn
   ·exact fun e=>q2 s hs (by simp [e])
theorem checkF_to {ts ns:List ByteArray}(h:(cF_ ts ns).1=0):(∀ s∈ts,termS s=true)/\(∀ s∈ns,wordS s=true)/\ts.Nodup/\ns.Nodup/\∀ s∈ns,s ∉ ts:=by
 unfold cF_ at h
 by_cases h1:64 < ts.length
 ·rw [if_pos h1] at h;exact absurd h (by simp)
 rw [if_neg h1] at h
 by_cases h2:64 < ns.length
 ·rw [if_pos h2] at h;exact absurd h (by simp)
 rw [if_neg h2] at h
 by_cases h3:(fF_ termS ts []).1=0
 case neg=>rw [if_pos h3] at h;exact absurd h h3
 rw [if_neg (by simpa using h3)] at h
 by_cases h4:(fF_ wordS ns (fF_ termS ts []).2.2).1=0
 case neg=>rw [if_pos h4] at h;exact absurd h h4
 obtain ⟨a1,_,a3,a4⟩:=formsF_to _ _ h3
 obtain ⟨b1,b2,b3,_⟩:=formsF_to _ _ h4
 rw [a4] at b2
 exact ⟨a1,b1,a3,b3,fun s hs=>by simpa using b2 s hs⟩
theorem checkF_of {ts ns:List ByteArray}(l1:ts.length<=64)(l2:ns.length<=64)(h1:∀ s∈ts,termS s=true)(h2:∀ s∈ns,wordS s=true)(h3:ts.Nodup)(h4:ns.Nodup)(h5:∀ s∈ns,s ∉ ts):(cF_ ts ns).1=0:=by
 have q1:=formsF_of ts [] h1 (fun _ _=>by simp) h3
 have q2:=formsF_of ns (fF_ termS ts []).2.2 h2 (fun s hs=>by rw [q1.2];simpa using h5 s hs) h4
 unfold cF_
 rw [if_neg (by omega),if_neg (by omega),if_neg (by simpa using q1.1),if_neg (by simpa using q2.1)]
theorem checkF_ok {g:GV}{at_:Int}(h:cG_ g (cF_ g.ts g.ns)=(0,at_)):(cF_ g.ts g.ns).1=0:=by
 unfold cG_ at h
 by_cases h1:g.ts.length=0∨64 < g.ts.length
 ·rw [if_pos h1] at h;exact absurd (congrArg (·.1) h) (by simp)
 rw [if_neg h1] at h
 by_cases h2:g.ns.length=0∨64 < g.ns.length
 ·rw [if_pos h2] at h;exact absurd (congrArg (·.1) h) (by simp)
 rw [if_neg h2] at h
 by_cases h3:(cF_ g.ts g.ns).1=0
 ·exact h3
 ·rw [if_pos h3] at h;exact congrArg (·.1) h
theorem prod_twice {g:GV}(h:OkC g)(i:Nat)(hi:i < g.ps.length):((g.ps.take i).any fun q=>q.left == (g.ps.getD i .none).left && q.right == (g.ps.getD i .none).right)=false:=by
 have:=h.ps i hi
 unfold prodU at this
 cases e:((g.ps.take i).any fun q=>q.left == (g.ps.getD i .none).left && q.right == (g.ps.getD i .none).right) with
 | false=>rfl
 | true =>
  rw [e] at this
  split at this
  ·cases this
  ·split at this
   ·cases this
   ·split at this
    ·cases this
    ·rw [if_pos rfl] at this;cases this
theorem level_named {g:GV}(h:OkC g)(i:Nat)(hi:i < g.ls.length):∀ n∈(g.ls.getD i .none).terms,n ∉ nU_ g.ls i:=by
 have:=h.ls i hi
 unfold lU_ at this
 intro n hn hm
 have e:((g.ls.getD i .none).terms.any fun n=>(nU_ g.ls i).contains n)=true:=by
  rw [List.any_eq_true]
  exact ⟨n,hn,by simpa using hm⟩
 rw [e] at this
 split at this
 ·cases this
 ·split at this
  ·cases this
  ·split at this
   ·cases this
   ·rw [if_pos rfl] at this;cases this
open Go.RowKit Go.Shelf Go.Maps
theorem OkC.prw {g:GV}(ok:OkC g):PrW g:=by
 have htl:=ok.tl.2
 refine ⟨fun p hp=>?_,by have:=ok.ll;omega,fun l hl=>?_⟩
 ·obtain ⟨i,hi,rfl⟩:=List.getElem_of_mem hp
  have:=ok.prec i hi
  have e:g.ps.getD i .none=g.ps[i]:=by simp [List.getD,hi]
  rw [e] at this
  exact wf_small (by omega) (by omega)
 ·obtain ⟨i,hi,rfl⟩:=List.getElem_of_mem hl
  have h1:=ok.level i hi
  have h2:=ok.terms i hi
  have e:g.ls.getD i .none=g.ls[i]:=by simp [List.getD,hi]
  rw [e] at h1 h2
  refine ⟨by omega,fun x hx=>?_⟩
  have:=h1.2.1 x hx
  exact wf_small (by omega) (by omega)
def cntU (M:List Bool)(i:Nat):Int:=(((List.range i).filter fun j=>M.getD j false).length:Nat)
theorem cntU_succ (M:List Bool)(i:Nat):cntU M (i+1)=if M.getD i false=true then cntU M i+1 else cntU M i:=by
 unfold cntU
 rw [List.range_succ,List.filter_append,List.length_append]
 by_cases h:M.getD i false=true
 ·rw [if_pos h,List.filter_cons_of_pos (p:=fun j=>M.getD j false) h]
  simp
 ·rw [if_neg h,List.filter_cons_of_neg (p:=fun j=>M.getD j false) h]
  simp
theorem cntU_le (M:List Bool)(i:Nat):0<=cntU M i/\cntU M i<=i:=by
 unfold cntU
 have:=List.length_filter_le (fun j=>M.getD j false) (List.range i)
 rw [List.length_range] at this
 omega
theorem nuD {T N M:List Bool}{d:Int}(hM:∀ i:Nat,mkY T N (d,(i:Int))=M.getD i false)(a:(Int×Int->Option Int)×(Int->Int))(ha:a.2 d=0):∀ k:Nat,(syD d k).foldl (nuStep T N) a=(fun s=>if s.1=d/\0<=s.2/\s.2 < (k:Int)/\M.getD s.2.toNat false=true then some (cntU M s.2.toNat) else a.1 s,fun e=>if e=d then cntU M k else a.2 e)
 | 0=>by
  refine Prod.ext ?_ ?_
  ·funext s
   show a.1 s=_
   dsimp only
   rw [if_neg (by intro q;have:=q.2.1;have:=q.2.2.1;omega)]
  ·funext e
   show a.2 e=_
   dsimp only
   by_cases h:e=d
   ·subst h;rw [if_pos rfl,ha];rfl
   ·rw [if_neg h]
 | k+1=>by
  rw [syD_succ,List.foldl_append,nuD hM a ha k]
  show nuStep T N _ (d,(k:Int))=_
  unfold nuStep
  rw [hM k]
  by_cases h:M.getD k false=true
  ·rw [if_pos h]
   refine Prod.ext ?_ ?_
   ·funext s
    dsimp only
    by_cases e:s=(d,(k:Int))
    ·subst e
     rw [if_pos rfl,if_pos rfl,if_pos ⟨rfl,by dsimp only;omega,by dsimp only;omega,by simpa using h⟩]
     simp
    ·rw [if_neg e]
     by_cases q:s.1=d/\0<=s.2/\s.2 < (k:Int)/\M.getD s.2.toNat false=true
     ·rw [if_pos q,if_pos ⟨q.1,q.2.1,by omega,q.2.2.2⟩]
     ·rw [if_neg q,if_neg (fun q'=>q ⟨q'.1,q'.2.1,by
       have:s.2≠(k:Int):=fun e'=>e (Prod.ext q'.1 e')
       omega,q'.2.2.2⟩)]
   ·funext e
    dsimp only
    by_cases q:e=d
    ·subst q;rw [if_pos rfl,if_pos rfl,if_pos rfl,cntU_succ,if_pos h]
    ·rw [if_neg q,if_neg q,if_neg q]
  ·rw [if_neg h]
   refine Prod.ext ?_ ?_
   ·funext s
    dsimp only
    by_cases q:s.1=d/\0<=s.2/\s.2 < (k:Int)/\M.getD s.2.toNat false=true
    ·rw [if_pos q,if_pos ⟨q.1,q.2.1,by omega,q.2.2.2⟩]
    ·rw [if_neg q,if_neg (fun q'=>q ⟨q'.1,q'.2.1,by
      have:s.2≠(k:Int):=fun e'=>h (by have:=q'.2.2.2;rw [e'] at this;simpa using this)
      omega,q'.2.2.2⟩)]
   ·funext e
    dsimp only
    by_cases q:e=d
    ·subst q;rw [if_pos rfl,if_pos rfl,cntU_succ,if_neg h]
    ·rw [if_neg q,if_neg q]
theorem nuF_at (T N:List Bool)(nt nn:Nat):(nuF T N (syD 1 nt++syD 2 nn)).1=fun s=>if s.1=2/\0<=s.2/\s.2 < (nn:Int)/\N.getD s.2.toNat false=true then some (cntU N s.2.toNat) else if s.1=1/\0<=s.2/\s.2 < (nt:Int)/\T.getD s.2.toNat false=true then some (cntU T s.2.toNat) else none:=by
 unfold nuF
 rw [List.foldl_append,nuD (d:=1) (M:=T) (fun i=>by simp [mkY]) _ rfl nt,nuD (d:=2) (M:=N) (fun i=>by simp [mkY]) _ (by simp) nn]
theorem nuF_one {T N:List Bool}{nt nn i:Nat}(hi:i < nt):(nuF T N (syD 1 nt++syD 2 nn)).1 (1,(i:Int))=if T.getD i false=true then some (cntU T i) else none:=by
 rw [nuF_at]
 dsimp only
 rw [if_neg (by omega)]
 by_cases h:T.getD i false=true
 ·rw [if_pos h,if_pos ⟨rfl,by omega,by omega,by simpa using h⟩];simp
 ·rw [if_neg h,if_neg (fun q=>h (by simpa using q.2.2.2))]
theorem nuF_two {T N:List Bool}{nt nn i:Nat}(hi:i < nn):(nuF T N (syD 1 nt++syD 2 nn)).1 (2,(i:Int))=if N.getD i false=true then some (cntU N i) else none:=by
 rw [nuF_at]
 dsimp only
 by_cases h:N.getD i false=true
 ·rw [if_pos h,if_pos ⟨rfl,by omega,by omega,by simpa using h⟩];simp
 ·rw [if_neg h,if_neg (fun q=>h (by simpa using q.2.2.2)),if_neg (by omega)]
theorem nuF_prec {T N:List Bool}{nt nn:Nat}{x:Int}(hx:x < 0):(nuF T N (syD 1 nt++syD 2 nn)).1 (1,x)=none:=by
 rw [nuF_at]
 dsimp only
 rw [if_neg (by omega),if_neg (by omega)]
theorem cntU_mono (M:List Bool){i j:Nat}(h:i<=j):cntU M i<=cntU M j:=by
 induction h with
 | refl=>exact Int.le_refl _
 | step _ ih =>
  rename_i m _
  rw [cntU_succ]
  split<;>omega
theorem cntU_lt {M:List Bool}{i j:Nat}(h:i < j)(hi:M.getD i false=true):cntU M i < cntU M j:=by
 have h1:=cntU_mono M (i:=i+1) (j:=j) h
 rw [cntU_succ,if_pos hi] at h1
 omega
theorem cntU_inj {M:List Bool}{i j:Nat}(hi:M.getD i false=true)(hj:M.getD j false=true)(h:cntU M i=cntU M j):i=j:=by
 rcases Nat.lt_trichotomy i j with q | q | q
 ·have:=cntU_lt q hi;omega
 ·exact q
 ·have:=cntU_lt q hj;omega
def NumF (f:Int×Int->Option Int)(d:Int)(M:List Bool)(n:Nat):Prop:=∀ i,i < n->f (d,(i:Int))=if M.getD i false=true then some (cntU M i) else none
theorem NumF.some {f:Int×Int->Option Int}{d:Int}{M:List Bool}{n:Nat}(h:NumF f d M n){i:Nat}(hi:i < n):(f (d,(i:Int))).isSome=M.getD i false:=by
 rw [h i hi]
 cases M.getD i false<;>rfl
theorem nmU_sub (f:Int×Int->Option Int)(d:Int)(ss:List ByteArray):∀ k,k<=ss.length->(nmU f d ss k).Sublist (ss.take k)
 | 0,_=>by simp [nmU]
 | k+1,hk=>by
  have e:ss.take (k+1)=ss.take k++[ss.getD k ByteArray.empty]:=by
   rw [List.take_add_one,List.getElem?_eq_getElem (by omega),List.getD_eq_getElem?_getD,List.getElem?_eq_getElem (by omega)]
   rfl
  rw [nmU_succ,e]
  refine List.Sublist.append (nmU_sub f d ss k (by omega)) ?_
  split
  ·exact List.Sublist.refl _
  ·exact List.nil_sublist _
theorem nmU_cnt {f:Int×Int->Option Int}{d:Int}{M:List Bool}{n:Nat}(h:NumF f d M n)(ss:List ByteArray):∀ k,k<=n->((nmU f d ss k).length:Int)=cntU M k
 | 0,_=>rfl
 | k+1,hk=>by
  rw [nmU_succ,List.length_append,cntU_succ,h.some (by omega)]
  have:=nmU_cnt h ss k (by omega)
  split
  ·simp;omega
  ·simp;omega
section
variable {g x:GV} {M T N:List Bool}
structure TrK (g x:GV)(M T N:List Bool):Prop where
 ok:OkC g
 nm:(cF_ g.ts g.ns).1=0
 ml:MLst g.ps g.ns.length true M
 ms:M.getD g.start.toNat false=true
 rl:RLst (gF g fun p=>wU_ true M p.right) T N
 tt:T.contains true=true
 tr:TrG (nuF T N (syD 1 g.ts.length++syD 2 g.ns.length)).1 (sU_ N M) g x
theorem TrK.one (h:TrK g x M T N):NumF (nuF T N (syD 1 g.ts.length++syD 2 g.ns.length)).1 1 T g.ts.length:=fun i hi=>nuF_one hi
theorem TrK.two (h:TrK g x M T N):NumF (nuF T N (syD 1 g.ts.length++syD 2 g.ns.length)).1 2 N g.ns.length:=fun i hi=>nuF_two hi
theorem TrK.tsl (h:TrK g x M T N):(x.ts.length:Int)=cntU T g.ts.length:=by rw [h.tr.ts];exact nmU_cnt h.one g.ts _ (Nat.le_refl _)
theorem TrK.nsl (h:TrK g x M T N):(x.ns.length:Int)=cntU N g.ns.length:=by rw [h.tr.ns];exact nmU_cnt h.two g.ns _ (Nat.le_refl _)
theorem TrK.tsub (h:TrK g x M T N):x.ts.Sublist g.ts:=by
 rw [h.tr.ts]
 have:=nmU_sub (nuF T N (syD 1 g.ts.length++syD 2 g.ns.length)).1 1 g.ts g.ts.length (Nat.le_refl _)
 rwa [List.take_length] at this
theorem TrK.nsub (h:TrK g x M T N):x.ns.Sublist g.ns:=by
 rw [h.tr.ns]
 have:=nmU_sub (nuF T N (syD 1 g.ts.length++syD 2 g.ns.length)).1 2 g.ns g.ns.length (Nat.le_refl _)
 rwa [List.take_length] at this
theorem TrK.names (h:TrK g x M T N):(cF_ x.ts x.ns).1=0:=by
 obtain ⟨h1,h2,h3,h4,h5⟩:=checkF_to h.nm
 have l1:=h.tsub.length_le
 have l2:=h.nsub.length_le
 have k1:=h.ok.tl.2
 have k2:=h.ok.nl.2
 exact checkF_of (by omega) (by omega) (fun s hs=>h1 s (h.tsub.subset hs)) (fun s hs=>h2 s (h.nsub.subset hs)) (h3.sublist h.tsub) (h4.sublist h.nsub) (fun s hs hs'=>h5 s (h.nsub.subset hs) (h.tsub.subset hs'))
theorem TrK.tpos (h:TrK g x M T N):1<=x.ts.length:=by
 have h1:=h.tsl
 obtain ⟨i,hi,e⟩:=List.mem_iff_getElem.1 (List.contains_iff_mem.1 h.tt)
 have hit:T.getD i false=true:=by simp [List.getD,hi,e]
 have hl:i < g.ts.length:=by have:=h.rl.tl;rw [<- show (gF g fun p=>wU_ true M p.right).ts=g.ts from rfl,<- this];exact hi
 have h2:=cntU_lt hl hit
 have h3:=cntU_le T i
 omega
theorem TrK.start (h:TrK g x M T N):x.start=cntU N g.start.toNat/\0<=x.start/\x.start < x.ns.length:=by
 have st:=h.ok.st
 obtain ⟨m,hm⟩:∃ m:Nat,g.start=(m:Int):=⟨g.start.toNat,by omega⟩
 have hml:m < g.ns.length:=by omega
 have hn:N.getD m false=true:=by have:=h.rl.st;rw [show (gF g fun p=>wU_ true M p.right).start=g.start from rfl,hm] at this;simpa using this
 have e:x.start=cntU N m:=by
  rw [h.tr.st,hm,h.two m hml,if_pos hn]
  rfl
 have e2:g.start.toNat=m:=by omega
 have h1:=cntU_lt hml hn
 have h2:=cntU_le N m
 have h3:=h.nsl
 rw [e,e2]
 omega
end
theorem pairs_apart {g:GV}(ok:OkC g):g.ps.Pairwise fun p q=>¬ (p.left=q.left/\p.right=q.right):=by
 rw [List.pairwise_iff_getElem]
 intro i j hi hj hij e
 have h:=prod_twice ok j hj
 rw [List.any_eq_false] at h
 have em:g.ps[i]∈g.ps.take j:=by
  rw [List.mem_take_iff_getElem]
  exact ⟨i,by omega,rfl⟩
 have ej:g.ps.getD j .none=g.ps[j]:=by simp [List.getD,hj]
 have:=h _ em
 rw [ej] at this
 exact this (by simp [e.1,e.2])
section
variable {g x:GV} {M T N:List Bool}
theorem TrK.left (h:TrK g x M T N){p:PV}(hp:p∈g.ps):∃ m:Nat,p.left=(m:Int)/\m < g.ns.length:=by
 obtain ⟨i,hi,rfl⟩:=List.getElem_of_mem hp
 have:=h.ok.left i hi
 have e:g.ps.getD i .none=g.ps[i]:=by simp [List.getD,hi]
 rw [e] at this
 exact ⟨(g.ps[i]).left.toNat,by omega,by omega⟩
theorem TrK.syms (h:TrK g x M T N){p:PV}(hp:p∈g.ps)(hs:sU_ N M p=true){s:Int×Int}(hm:s∈p.right):∃ i:Nat,s.2=(i:Int)/\((s.1=1/\i < g.ts.length/\T.getD i false=true)∨(s.1=2/\i < g.ns.length/\N.getD i false=true)):=by
 have hw:wU_ true M p.right=true:=by unfold sU_ at hs;simp at hs;exact hs.2
 have hl:N.getD p.left.toNat false=true:=by unfold sU_ at hs;simp at hs;simpa [List.getD] using hs.1
 have hin:=h.rl.clo p (List.mem_filter.2 ⟨hp,hw⟩) hl s hm
 obtain ⟨i,hi,rfl⟩:=List.getElem_of_mem hp
 have hg:=h.ok.inG i hi
 have e:g.ps.getD i .none=g.ps[i]:=by simp [List.getD,hi]
 rw [e] at hg
 have:=hg s hm
 unfold inG at this
 by_cases h1:s.1=1
 ·have q:0<=s.2/\s.2 < g.ts.length:=by simpa [h1,inT] using this
  refine ⟨s.2.toNat,by omega,.inl ⟨h1,by omega,hin.1 h1⟩⟩
 ·by_cases h2:s.1=2
  ·have q:0<=s.2/\s.2 < g.ns.length:=by simpa [h1,h2,inN] using this
   exact ⟨s.2.toNat,by omega,.inr ⟨h2,by omega,hin.2 h2⟩⟩
  ·simp [h1,h2] at this
theorem TrK.num (h:TrK g x M T N){s:Int×Int}{i:Nat}(e:s.2=(i:Int))(hs:(s.1=1/\i < g.ts.length/\T.getD i false=true)∨(s.1=2/\i < g.ns.length/\N.getD i false=true)):((nuF T N (syD 1 g.ts.length++syD 2 g.ns.length)).1 s).getD 0=if s.1=1 then cntU T i else cntU N i:=by
 obtain ⟨s1,s2⟩:=s
 simp only at e hs ⊢
 subst e
 rcases hs with ⟨rfl,h1,h2⟩ | ⟨rfl,h1,h2⟩
 ·rw [h.one i h1,if_pos h2,if_pos rfl]
  rfl
 ·rw [h.two i h1,if_pos h2,if_neg (by decide)]
  rfl
theorem TrK.numr (h:TrK g x M T N){s:Int×Int}{i:Nat}(e:s.2=(i:Int))(hs:(s.1=1/\i < g.ts.length/\T.getD i false=true)∨(s.1=2/\i < g.ns.length/\N.getD i false=true)):inG x s.1 (((nuF T N (syD 1 g.ts.length++syD 2 g.ns.length)).1 s).getD 0)=true:=by
 rw [h.num e hs]
 have ht:=h.tsl
 have hn:=h.nsl
 rcases hs with ⟨h1,h2,h3⟩ | ⟨h1,h2,h3⟩
 ·have a:=cntU_lt h2 h3
  have b:=cntU_le T i
  rw [if_pos h1]
  unfold inG inT
  rw [h1]
  simp
  omega
 ·have a:=cntU_lt h2 h3
  have b:=cntU_le N i
  rw [if_neg (by omega)]
  unfold inG inN
  rw [h1]
  simp
  omega
theorem TrK.inj (h:TrK g x M T N){p q:PV}(hp:p∈g.ps)(hsp:sU_ N M p=true)(hq:q∈g.ps)(hsq:sU_ N M q=true)(e1:(prU7 (nuF T N (syD 1 g.ts.length++syD 2 g.ns.length)).1 p).1=(prU7 (nuF T N (syD 1 g.ts.length++syD 2 g.ns.length)).1 q).1)(e2:(prU7 (nuF T N (syD 1 g.ts.length++syD 2 g.ns.length)).1 p).2.1=(prU7 (nuF T N (syD 1 g.ts.length++syD 2 g.ns.length)).1 q).2.1):p.left=q.left/\p.right=q.right:=by
 obtain ⟨a,ha,hal⟩:=h.left hp
 obtain ⟨b,hb,hbl⟩:=h.left hq
 have na:N.getD a false=true:=by unfold sU_ at hsp;rw [ha] at hsp;simp at hsp;simpa [List.getD] using hsp.1
 have nb:N.getD b false=true:=by unfold sU_ at hsq;rw [hb] at hsq;simp at hsq;simpa [List.getD] using hsq.1
 refine ⟨?_,?_⟩
 ·unfold prU7 at e1
  simp only at e1
  rw [ha,hb,h.two a hal,h.two b hbl,if_pos na,if_pos nb] at e1
  rw [ha,hb,cntU_inj na nb e1]
 ·unfold prU7 at e2
  simp only at e2
  have hl:p.right.length=q.right.length:=by simpa using congrArg List.length e2
  refine List.ext_getElem hl fun i h1 h2=>?_
  have e3:(p.right.map fun s=>(s.1,((nuF T N (syD 1 g.ts.length++syD 2 g.ns.length)).1 s).getD 0))[i]'(by simpa using h1)=(q.right.map fun s=>(s.1,((nuF T N (syD 1 g.ts.length++syD 2 g.ns.length)).1 s).getD 0))[i]'(by simpa using h2):=by simp only [e2]
  rw [List.getElem_map,List.getElem_map] at e3
  obtain ⟨i1,u1,v1⟩:=h.syms hp hsp (List.getElem_mem h1)
  obtain ⟨i2,u2,v2⟩:=h.syms hq hsq (List.getElem_mem h2)
  rw [h.num u1 v1,h.num u2 v2] at e3
  simp only [Prod.mk.injEq] at e3
  obtain ⟨k1,k2⟩:=e3
  refine Prod.ext k1 ?_
  rw [u1,u2]
  rcases v1 with ⟨a1,a2,a3⟩ | ⟨a1,a2,a3⟩<;>rcases v2 with ⟨b1,b2,b3⟩ | ⟨b1,b2,b3⟩
  ·rw [if_pos a1,if_pos b1] at k2;rw [cntU_inj a3 b3 k2]
  ·omega
  ·omega
  ·rw [if_neg (by omega),if_neg (by omega)] at k2;rw [cntU_inj a3 b3 k2]
theorem TrK.apart (h:TrK g x M T N):x.ps.Pairwise fun p q=>¬ (p.left=q.left/\p.right=q.right):=by
 have h1:(g.ps.filter (sU_ N M)).Pairwise fun p q=>¬ ((prU7 (nuF T N (syD 1 g.ts.length++syD 2 g.ns.length)).1 p).1=(prU7 (nuF T N (syD 1 g.ts.length++syD 2 g.ns.length)).1 q).1/\(prU7 (nuF T N (syD 1 g.ts.length++syD 2 g.ns.length)).1 p).2.1=(prU7 (nuF T N (syD 1 g.ts.length++syD 2 g.ns.length)).1 q).2.1):=by
  refine ((pairs_apart h.ok).filter _).imp_of_mem fun {p q} hp hq hn e=>hn ?_
  obtain ⟨p1,p2⟩:=List.mem_filter.1 hp
  obtain ⟨q1,q2⟩:=List.mem_filter.1 hq
  exact h.inj p1 p2 q1 q2 e.1 e.2
 have h2:((g.ps.filter (sU_ N M)).map (prU7 (nuF T N (syD 1 g.ts.length++syD 2 g.ns.length)).1)).Pairwise fun a b=>¬ (a.1=b.1/\a.2.1=b.2.1):=List.pairwise_map.2 h1
 rw [<- h.tr.ps] at h2
 exact List.pairwise_map.1 h2
theorem TrK.from (h:TrK g x M T N){q:PV}(hq:q∈x.ps):∃ p∈g.ps,sU_ N M p=true/\q.core=prU7 (nuF T N (syD 1 g.ts.length++syD 2 g.ns.length)).1 p:=by
 have:q.core∈x.ps.map PV.core:=List.mem_map_of_mem hq
 rw [h.tr.ps] at this
 obtain ⟨p,hp,e⟩:=List.mem_map.1 this
 obtain ⟨p1,p2⟩:=List.mem_filter.1 hp
 exact ⟨p,p1,p2,e.symm⟩
theorem TrK.prods (h:TrK g x M T N)(i:Nat)(hi:i < x.ps.length):prodU x i=0:=by
 have e:x.ps.getD i .none=x.ps[i]:=by simp [List.getD,hi]
 obtain ⟨p,hp,hs,hc⟩:=h.from (List.getElem_mem hi)
 obtain ⟨a,ha,hal⟩:=h.left hp
 have na:N.getD a false=true:=by have hs':=hs;unfold sU_ at hs';rw [ha] at hs';simp at hs';simpa [List.getD] using hs'.1
 unfold PV.core prU7 at hc
 simp only [Prod.mk.injEq] at hc
 obtain ⟨c1,c2,c3⟩:=hc
 have hr:p.right.length<=16:=by
  obtain ⟨j,hj,rfl⟩:=List.getElem_of_mem hp
  have:=h.ok.right j hj
  have e:g.ps.getD j .none=g.ps[j]:=by simp [List.getD,hj]
  rwa [e] at this
 unfold prodU
 rw [e]
 rw [if_neg,if_neg,if_neg,if_neg,if_neg]
 ·rintro ⟨q1,q2⟩
  rw [c3] at q1 q2
  have hpr:-1<=p.prec/\p.prec < g.ts.length:=by
   obtain ⟨j,hj,rfl⟩:=List.getElem_of_mem hp
   have:=h.ok.prec j hj
   have e:g.ps.getD j .none=g.ps[j]:=by simp [List.getD,hj]
   rwa [e] at this
  by_cases hneg:p.prec < 0
  ·rw [nuF_prec hneg] at q1
   exact q1 rfl
  ·obtain ⟨m,hm⟩:∃ m:Nat,p.prec=(m:Int):=⟨p.prec.toNat,by omega⟩
   have hml:m < g.ts.length:=by omega
   rw [hm,h.one m hml] at q1 q2
   by_cases ht:T.getD m false=true
   ·rw [if_pos ht] at q2
    have a1:=cntU_lt hml ht
    have a2:=cntU_le T m
    have a3:=h.tsl
    unfold inT at q2
    simp at q2
    omega
   ·rw [if_neg ht] at q1
    exact q1 rfl
 ·intro q1
  rw [List.any_eq_true] at q1
  obtain ⟨q,hq,hqq⟩:=q1
  obtain ⟨j,hj,rfl⟩:=List.mem_take_iff_getElem.1 hq
  have hp2:=(List.pairwise_iff_getElem.1 h.apart) j i (by omega) hi (by omega)
  simp at hqq
  exact hp2 hqq
 ·intro q1
  rw [List.any_eq_true] at q1
  obtain ⟨s,hs',hq⟩:=q1
  rw [c2] at hs'
  obtain ⟨t,ht,rfl⟩:=List.mem_map.1 hs'
  obtain ⟨k,u,v⟩:=h.syms hp hs ht
  have:=h.numr u v
  simp only at hq
  rw [this] at hq
  simp at hq
 ·rw [c2,List.length_map]
  omega
 ·rw [c1,ha,h.two a hal,if_pos na]
  have a1:=cntU_lt hal na
  have a2:=cntU_le N a
  have a3:=h.nsl
  unfold inN
  simp
  omega
end
theorem rises_pairT {l:List Int}:risesU l=true ↔ l.Pairwise (· < ·):=by
 unfold risesU
 rw [List.all_eq_true]
 constructor
 ·intro h
  have st:∀ i,(hi:i+1 < l.length)->l[i]'(by omega) < l[i+1]:=fun i hi=>by
   have:=h i (List.mem_range.2 (by omega))
   have h1:i < l.length:=by omega
   simpa [List.getD,h1,hi] using this
  rw [List.pairwise_iff_getElem]
  intro i j hi hj hij
  have go:∀ d,(hd:i+d+1 < l.length)->l[i] < l[i+d+1]:=by
   intro d
   induction d with
   | zero=>intro hd;exact st i (by omega)
   | succ d ih =>
    intro hd
    have h1:=ih (by omega)
    have h2:=st (i+d+1) (by omega)
    have e:i+(d+1)+1=i+d+1+1:=by omega
    simp only [e]
    omega
  have:=go (j - i - 1) (by omega)
  have e:i+(j - i - 1)+1=j:=by omega
  simpa only [e] using this
 ·intro h i hi
  have hi:=List.mem_range.1 hi
  rw [List.pairwise_iff_getElem] at h
  have:=h i (i+1) (by omega) (by omega) (by omega)
  have h1:i < l.length:=by omega
  have h2:i+1 < l.length:=by omega
  simpa [List.getD,h1,h2] using this
theorem levels_apart {g:GV}(ok:OkC g):g.ls.Pairwise fun a b=>∀ n∈b.terms,n ∉ a.terms:=by
 rw [List.pairwise_iff_getElem]
 intro i j hi hj hij n hn hn'
 have ej:g.ls.getD j .none=g.ls[j]:=by simp [List.getD,hj]
 refine level_named ok j hj n (by rw [ej];exact hn) ?_
 unfold nU_
 rw [List.mem_flatMap]
 exact ⟨g.ls[i],List.mem_take_iff_getElem.2 ⟨i,by omega,rfl⟩,hn'⟩
section
variable {g x:GV} {M T N:List Bool}
theorem TrK.some_prod (h:TrK g x M T N):∃ p∈g.ps,sU_ N M p=true:=by
 have hst:N.getD g.start.toNat false=true:=h.rl.st
 have key:=h.ml.lst (fun i=>M.getD i false=true/\(i=g.start.toNat->∃ p∈g.ps,p.left.toNat=i/\wU_ true M p.right=true)) (fun p hp hs=>by
  have hw:wU_ true M p.right=true:=by
   unfold wU_
   rw [List.all_eq_true]
   intro s hs'
   obtain ⟨q1,q2⟩:=hs s hs'
   unfold wh1
   by_cases h2:s.1=2
   ·rw [(q1 h2).1];simp [h2]
   ·simp [h2]
  exact ⟨h.ml.clo p hp hw,fun _=>⟨p,hp,rfl,hw⟩⟩) g.start.toNat h.ms
 obtain ⟨p,hp,e,hw⟩:=key.2 rfl
 refine ⟨p,hp,?_⟩
 unfold sU_
 rw [e,hst,hw]
 rfl
theorem TrK.psl (h:TrK g x M T N):1<=x.ps.length/\x.ps.length<=256:=by
 have e:x.ps.length=(g.ps.filter (sU_ N M)).length:=by simpa using congrArg List.length h.tr.ps
 have h1:=List.length_filter_le (sU_ N M) g.ps
 have h2:=h.ok.pl.2
 obtain ⟨p,hp,hs⟩:=h.some_prod
 have h3:0 < (g.ps.filter (sU_ N M)).length:=List.length_pos_iff.2 (fun e'=>by
  have:=List.mem_filter.2 ⟨hp,hs⟩
  rw [e'] at this
  cases this)
 omega
theorem TrK.term (h:TrK g x M T N){t y:Int}(h0:0<=t)(h1:t < g.ts.length)(e:(nuF T N (syD 1 g.ts.length++syD 2 g.ns.length)).1 (1,t)=some y):∃ i:Nat,t=(i:Int)/\i < g.ts.length/\T.getD i false=true/\y=cntU T i:=by
 obtain ⟨i,rfl⟩:∃ i:Nat,t=(i:Int):=⟨t.toNat,by omega⟩
 rw [h.one i (by omega)] at e
 by_cases ht:T.getD i false=true
 ·rw [if_pos ht] at e
  exact ⟨i,rfl,by omega,ht,(Option.some.inj e).symm⟩
 ·rw [if_neg ht] at e
  cases e
theorem TrK.lev (h:TrK g x M T N){l:LV}(hl:l∈g.ls):(1<=l.assoc/\l.assoc<=3)/\(∀ n∈l.terms,0<=n/\n < g.ts.length)/\l.terms.Pairwise (· < ·):=by
 obtain ⟨i,hi,rfl⟩:=List.getElem_of_mem hl
 have e:g.ls.getD i .none=g.ls[i]:=by simp [List.getD,hi]
 have h1:=h.ok.level i hi
 rw [e] at h1
 refine ⟨h1.1,h1.2.1,?_⟩
 have h2:=h.ok.ls i hi
 unfold lU_ at h2
 rw [e] at h2
 by_cases r:risesU (g.ls[i]).terms=true
 ·exact rises_pairT.1 r
 ·rw [Bool.not_eq_true] at r
  rw [if_neg,if_neg,if_pos r] at h2
  ·cases h2
  ·rw [List.any_eq_true]
   rintro ⟨n,hn,hq⟩
   have:=h1.2.1 n hn
   unfold inT at hq
   simp at hq
   omega
  ·rintro (q | q | q)
   ·have:=h1.1;omega
   ·have:=h1.1;omega
   ·rw [List.eq_nil_of_length_eq_zero q] at r
    cases r
theorem TrK.lfrom (h:TrK g x M T N){y:LV}(hy:y∈x.ls):∃ l∈g.ls,y.assoc=l.assoc/\y.terms=l.terms.filterMap (fun t=>(nuF T N (syD 1 g.ts.length++syD 2 g.ns.length)).1 (1,t))/\y.terms≠[]:=by
 have:y.core∈x.ls.map LV.core:=List.mem_map_of_mem hy
 rw [h.tr.ls] at this
 unfold lvsU at this
 obtain ⟨l,hl,e⟩:=List.mem_filterMap.1 this
 unfold lv1 at e
 split at e
 ·cases e
 ·rename_i hne
  have e:=Option.some.inj e
  unfold LV.core at e
  simp only [Prod.mk.injEq] at e
  exact ⟨l,hl,e.1.symm,e.2.symm,by rw [<- e.2];exact hne⟩
theorem TrK.lapart (h:TrK g x M T N):x.ls.Pairwise fun a b=>∀ n∈b.terms,n ∉ a.terms:=by
 have h1:(lvsU (nuF T N (syD 1 g.ts.length++syD 2 g.ns.length)).1 g.ls).Pairwise fun a b=>∀ n∈b.2,n ∉ a.2:=by
  unfold lvsU
  refine List.Pairwise.filterMap (R:=fun (a b:LV)=>(a∈g.ls/\b∈g.ls)/\∀ n∈b.terms,n ∉ a.terms) _ (fun a b hab u hu v hv n hn hn'=>?_) ((levels_apart h.ok).imp_of_mem fun {a b} ha hb hab=>⟨⟨ha,hb⟩,hab⟩)
  unfold lv1 at hu hv
  split at hu
  ·cases hu
  split at hv
  ·cases hv
  have hu:=Option.some.inj hu
  have hv:=Option.some.inj hv
  subst hu hv
  simp only at hn hn'
  obtain ⟨t,ht,et⟩:=List.mem_filterMap.1 hn
  obtain ⟨s,hs,es⟩:=List.mem_filterMap.1 hn'
  have rt:=(h.lev hab.1.2).2.1 t ht
  have rs:=(h.lev hab.1.1).2.1 s hs
  obtain ⟨i,rfl,i1,i2,i3⟩:=h.term rt.1 rt.2 et
  obtain ⟨j,rfl,j1,j2,j3⟩:=h.term rs.1 rs.2 es
  have:=cntU_inj i2 j2 (i3.symm.trans j3)
  subst this
  exact hab.2 _ ht hs
 rw [<- h.tr.ls] at h1
 exact List.pairwise_map.1 h1
theorem TrK.levels (h:TrK g x M T N)(i:Nat)(hi:i < x.ls.length):lU_ x i=0:=by
 have e:x.ls.getD i .none=x.ls[i]:=by simp [List.getD,hi]
 obtain ⟨l,hl,c1,c2,c3⟩:=h.lfrom (List.getElem_mem hi)
 obtain ⟨d1,d2,d3⟩:=h.lev hl
 have ht:=h.tsl
 unfold lU_
 rw [e]
 rw [if_neg,if_neg,if_neg,if_neg]
 ·rw [List.any_eq_true]
  rintro ⟨n,hn,hq⟩
  rw [List.contains_iff_mem] at hq
  unfold nU_ at hq
  obtain ⟨y,hy,hq⟩:=List.mem_flatMap.1 hq
  obtain ⟨j,hj,rfl⟩:=List.mem_take_iff_getElem.1 hy
  exact (List.pairwise_iff_getElem.1 h.lapart) j i (by omega) hi (by omega) n hn hq
 ·rw [Bool.not_eq_false]
  rw [rises_pairT,c2]
  refine List.Pairwise.filterMap (R:=fun (a b:Int)=>((0<=a/\a < g.ts.length)/\(0<=b/\b < g.ts.length))/\a < b) _ (fun a b hab u hu v hv=>?_) (d3.imp_of_mem fun {a b} ha hb hab=>⟨⟨d2 a ha,d2 b hb⟩,hab⟩)
  obtain ⟨p,rfl,p1,p2,p3⟩:=h.term hab.1.1.1 hab.1.1.2 hu
  obtain ⟨q,rfl,q1,q2,q3⟩:=h.term hab.1.2.1 hab.1.2.2 hv
  have:=cntU_lt (M:=T) (i:=p) (j:=q) (by have:=hab.2;omega) p2
  omega
 ·rw [List.any_eq_true]
  rintro ⟨n,hn,hq⟩
  rw [c2] at hn
  obtain ⟨t,ht',et⟩:=List.mem_filterMap.1 hn
  obtain ⟨p,rfl,p1,p2,p3⟩:=h.term (d2 t ht').1 (d2 t ht').2 et
  have a1:=cntU_lt p1 p2
  have a2:=cntU_le T p
  unfold inT at hq
  simp at hq
  omega
 ·rintro (q | q | q)
  ·omega
  ·omega
  ·exact c3 (List.eq_nil_of_length_eq_zero q)
theorem TrK.check (h:TrK g x M T N):cG_ x (cF_ x.ts x.ns)=(0,0):=by
 have t1:=h.tsub.length_le
 have t2:=h.ok.tl.2
 have t3:=h.tpos
 have n1:=h.nsub.length_le
 have n2:=h.ok.nl.2
 have st:=h.start.2
 have l1:x.ls.length<=32:=by
  have e:x.ls.length=(lvsU (nuF T N (syD 1 g.ts.length++syD 2 g.ns.length)).1 g.ls).length:=by simpa using congrArg List.length h.tr.ls
  have:=List.length_filterMap_le (lv1 (nuF T N (syD 1 g.ts.length++syD 2 g.ns.length)).1) g.ls
  unfold lvsU at e
  have:=h.ok.ll
  omega
 exact checkG_of ⟨t3,by omega⟩ ⟨by omega,by omega⟩ h.names (by unfold inN;simp;omega) h.psl h.prods l1 h.levels
end
theorem cntU_onto {M:List Bool}:∀ (n:Nat) (i:Nat),(i:Int) < cntU M n->∃ j,j < n/\M.getD j false=true/\cntU M j=i
 | 0,i,h=>by unfold cntU at h;simp at h;omega
 | n+1,i,h=>by
  rw [cntU_succ] at h
  by_cases hm:M.getD n false=true
  ·rw [if_pos hm] at h
   by_cases e:(i:Int)=cntU M n
   ·exact ⟨n,by omega,hm,e.symm⟩
   ·obtain ⟨j,h1,h2,h3⟩:=cntU_onto (M:=M) n i (by omega)
    exact ⟨j,by omega,h2,h3⟩
  ·rw [if_neg hm] at h
   obtain ⟨j,h1,h2,h3⟩:=cntU_onto (M:=M) n i h
   exact ⟨j,by omega,h2,h3⟩
theorem rep_yes {n i:Nat}(h:i < n):(List.replicate n true).getD i false=true:=by simp [List.getD,h]
theorem rep_in {n i:Nat}(h:(List.replicate n true).getD i false=true):i < n:=by
 by_cases q:i < n
 ·exact q
 ·simp [List.getD,q] at h
section
variable {g x:GV} {M T N:List Bool}
theorem TrK.nm_le (h:TrK g x M T N){j:Nat}(hj:N.getD j false=true):M.getD j false=true :=
 (h.rl.lst (fun _=>True) (fun i=>M.getD i false=true) ⟨h.ms,fun p hp _ s hs=>by
  obtain ⟨hp1,hp2⟩:=List.mem_filter.1 hp
  exact ⟨fun _=>trivial,(whole_in hp2 s hs).1⟩⟩).1 j hj
theorem TrK.to (h:TrK g x M T N){p:PV}(hp:p∈g.ps)(hs:sU_ N M p=true):∃ q∈x.ps,q.core=prU7 (nuF T N (syD 1 g.ts.length++syD 2 g.ns.length)).1 p:=by
 have:prU7 (nuF T N (syD 1 g.ts.length++syD 2 g.ns.length)).1 p∈x.ps.map PV.core:=by
  rw [h.tr.ps]
  exact List.mem_map_of_mem (List.mem_filter.2 ⟨hp,hs⟩)
 obtain ⟨q,hq,e⟩:=List.mem_map.1 this
 exact ⟨q,hq,e⟩
theorem TrK.lefts (h:TrK g x M T N){p:PV}(hp:p∈g.ps)(hs:sU_ N M p=true){q:PV}(e:q.core=prU7 (nuF T N (syD 1 g.ts.length++syD 2 g.ns.length)).1 p):q.left=cntU N p.left.toNat/\q.right=p.right.map (fun s=>(s.1,((nuF T N (syD 1 g.ts.length++syD 2 g.ns.length)).1 s).getD 0)):=by
 obtain ⟨a,ha,hal⟩:=h.left hp
 have na:N.getD a false=true:=by unfold sU_ at hs;rw [ha] at hs;simp at hs;simpa [List.getD] using hs.1
 unfold PV.core prU7 at e
 simp only [Prod.mk.injEq] at e
 refine ⟨?_,e.2.1⟩
 rw [e.1,ha,h.two a hal,if_pos na]
 simp
theorem TrK.fruit (h:TrK g x M T N):MLst x.ps x.ns.length true (List.replicate x.ns.length true):=by
 refine ⟨by simp,fun q hq _=>?_,fun C hC i hi=>?_⟩
 ·obtain ⟨j,hj,rfl⟩:=List.getElem_of_mem hq
  have e:x.ps.getD j .none=x.ps[j]:=by simp [List.getD,hj]
  have:=(OkC.of (by rw [h.check])).left j hj
  rw [e] at this
  exact rep_yes (by omega)
 ·have hi:=rep_in hi
  obtain ⟨j,h1,h2,h3⟩:=cntU_onto (M:=N) g.ns.length i (by rw [<- h.nsl];omega)
  have key:=h.ml.lst (fun i=>M.getD i false=true/\(N.getD i false=true->C (cntU N i).toNat)) (fun p hp hs=>by
   have hw:wU_ true M p.right=true:=by
    unfold wU_
    rw [List.all_eq_true]
    intro s hs'
    unfold wh1
    by_cases h2:s.1=2
    ·rw [((hs s hs').1 h2).1];simp [h2]
    ·simp [h2]
   refine ⟨h.ml.clo p hp hw,fun hn=>?_⟩
   have hst:sU_ N M p=true:=by unfold sU_;rw [hn,hw];rfl
   obtain ⟨q,hq,e⟩:=h.to hp hst
   obtain ⟨e1,e2⟩:=h.lefts hp hst e
   have:=hC q hq (fun t ht=>by
    rw [e2] at ht
    obtain ⟨s,hs',rfl⟩:=List.mem_map.1 ht
    refine ⟨fun k2=>?_,fun _=>rfl⟩
    simp only at k2 ⊢
    obtain ⟨i,u,v⟩:=h.syms hp hst hs'
    rw [h.num u v,if_neg (by omega)]
    rcases v with ⟨v1,_⟩ | ⟨v1,v2,v3⟩
    ·omega
    ·have:=((hs s hs').1 v1).2
     rw [u] at this
     simpa using this v3)
   rwa [e1] at this) j (h.nm_le h2)
  have:=key.2 h2
  rw [h3] at this
  simpa using this
theorem TrK.reach (h:TrK g x M T N):RLst x (List.replicate x.ts.length true) (List.replicate x.ns.length true):=by
 have ok:OkC x:=OkC.of (by rw [h.check])
 refine ⟨by simp,by simp,rep_yes (by have:=ok.st;omega),fun q hq _ s hs=>?_,fun Ct Cn hC=>?_⟩
 ·obtain ⟨j,hj,rfl⟩:=List.getElem_of_mem hq
  have e:x.ps.getD j .none=x.ps[j]:=by simp [List.getD,hj]
  have hg:=ok.inG j hj
  rw [e] at hg
  have:=hg s hs
  unfold inG at this
  refine ⟨fun h1=>?_,fun h2=>?_⟩
  ·have q:0<=s.2/\s.2 < x.ts.length:=by simpa [h1,inT] using this
   exact rep_yes (by omega)
  ·have q:0<=s.2/\s.2 < x.ns.length:=by simpa [h2,inN] using this
   exact rep_yes (by omega)
 ·have key:=h.rl.lst (fun i=>T.getD i false=true/\Ct (cntU T i).toNat) (fun i=>N.getD i false=true/\Cn (cntU N i).toNat) ⟨⟨h.rl.st,by have:=hC.1;rw [h.start.1] at this;exact this⟩,fun p hp hl s hs=>by
   obtain ⟨hp1,hp2⟩:=List.mem_filter.1 hp
   have hst:sU_ N M p=true:=by unfold sU_;rw [hl.1,hp2];rfl
   obtain ⟨q,hq,e⟩:=h.to hp1 hst
   obtain ⟨e1,e2⟩:=h.lefts hp1 hst e
   obtain ⟨i,u,v⟩:=h.syms hp1 hst hs
   have hx:=hC.2 q hq (by rw [e1];exact hl.2) (s.1,((nuF T N (syD 1 g.ts.length++syD 2 g.ns.length)).1 s).getD 0) (by rw [e2];exact List.mem_map_of_mem (f:=fun s=>(s.1,((nuF T N (syD 1 g.ts.length++syD 2 g.ns.length)).1 s).getD 0)) hs)
   rw [h.num u v] at hx
   rcases v with ⟨v1,v2,v3⟩ | ⟨v1,v2,v3⟩
   ·rw [if_pos v1] at hx
    refine ⟨fun _=>⟨by rw [u];simpa using v3,by rw [u];simpa using hx.1 v1⟩,fun k=>by omega⟩
   ·rw [if_neg (by omega)] at hx
    refine ⟨fun k=>by omega,fun _=>⟨by rw [u];simpa using v3,by rw [u];simpa using hx.2 v1⟩⟩⟩
  refine ⟨fun i hi=>?_,fun i hi=>?_⟩
  ·have hi:=rep_in hi
   obtain ⟨j,h1,h2,h3⟩:=cntU_onto (M:=N) g.ns.length i (by rw [<- h.nsl];omega)
   have:=(key.1 j h2).2
   rw [h3] at this
   simpa using this
  ·have hi:=rep_in hi
   obtain ⟨j,h1,h2,h3⟩:=cntU_onto (M:=T) g.ts.length i (by rw [<- h.tsl];omega)
   have:=(key.2 j h2).2
   rw [h3] at this
   simpa using this
end
theorem cntU_all {n:Nat}:∀ i,i<=n->cntU (List.replicate n true) i=i
 | 0,_=>rfl
 | i+1,h=>by
  rw [cntU_succ,if_pos (rep_yes (by omega)),cntU_all i (by omega)]
  rfl
theorem whole_all {n:Nat}{l:List (Int×Int)}(h:∀ s∈l,s.1=2->0<=s.2/\s.2 < n):wU_ true (List.replicate n true) l=true:=by
 unfold wU_
 rw [List.all_eq_true]
 intro s hs
 unfold wh1
 by_cases h2:s.1=2
 ·have:=h s hs h2
  rw [rep_yes (by omega)]
  simp [h2]
 ·simp [h2]
theorem nmU_all {f:Int×Int->Option Int}{d:Int}{ss:List ByteArray}{n:Nat}(hn:n=ss.length)(h:∀ i,i < n->(f (d,(i:Int))).isSome=true):∀ k,k<=n->nmU f d ss k=ss.take k
 | 0,_=>by simp [nmU]
 | k+1,hk=>by
  rw [nmU_succ,nmU_all hn h k (by omega),if_pos (h k (by omega)),List.take_add_one,List.getElem?_eq_getElem (by omega),List.getD_eq_getElem?_getD,List.getElem?_eq_getElem (by omega)]
  rfl
theorem fm_congr7 {α β:Type}{f g:α->Option β}:∀ {l:List α},(∀ a∈l,f a=g a)->l.filterMap f=l.filterMap g
 | [],_=>rfl
 | a :: l,h=>by
  rw [List.filterMap_cons,List.filterMap_cons,h a (by simp),fm_congr7 (l:=l) fun b hb=>h b (by simp [hb])]
structure Tidy7 (x:GV):Prop where
 ok:OkC x
 fr:MLst x.ps x.ns.length true (List.replicate x.ns.length true)
 re:RLst x (List.replicate x.ts.length true) (List.replicate x.ns.length true)
theorem TrK.tidy {g x:GV}{M T N:List Bool}(h:TrK g x M T N):Tidy7 x:=⟨OkC.of (by rw [h.check]),h.fruit,h.reach⟩
section
variable {x c:GV}
theorem Tidy7.sy (h:Tidy7 x){p:PV}(hp:p∈x.ps){s:Int×Int}(hs:s∈p.right):(s.1=1/\0<=s.2/\s.2 < x.ts.length)∨(s.1=2/\0<=s.2/\s.2 < x.ns.length):=by
 obtain ⟨j,hj,rfl⟩:=List.getElem_of_mem hp
 have e:x.ps.getD j .none=x.ps[j]:=by simp [List.getD,hj]
 have hg:=h.ok.inG j hj
 rw [e] at hg
 have:=hg s hs
 unfold inG at this
 by_cases h1:s.1=1
 ·exact .inl ⟨h1,by simpa [h1,inT] using this⟩
 ·by_cases h2:s.1=2
  ·exact .inr ⟨h2,by simpa [h1,h2,inN] using this⟩
  ·simp [h1,h2] at this
theorem Tidy7.lf (h:Tidy7 x){p:PV}(hp:p∈x.ps):0<=p.left/\p.left < x.ns.length:=by
 obtain ⟨j,hj,rfl⟩:=List.getElem_of_mem hp
 have e:x.ps.getD j .none=x.ps[j]:=by simp [List.getD,hj]
 have:=h.ok.left j hj
 rwa [e] at this
theorem Tidy7.wh (h:Tidy7 x){p:PV}(hp:p∈x.ps):wU_ true (List.replicate x.ns.length true) p.right=true:=whole_all fun s hs h2=>by
 rcases h.sy hp hs with q | q
 ·omega
 ·exact q.2
theorem Tidy7.barren (h:Tidy7 x):BrL x []:=⟨_,h.fr,by
 unfold offU
 have:(List.range x.ns.length).filter (fun i=>decide ((List.replicate x.ns.length true).getD i false=false))=[]:=List.filter_eq_nil_iff.2 fun i hi=>by
  rw [rep_yes (List.mem_range.1 hi)];decide
 rw [this]
 rfl⟩
theorem offU_all {n:Nat}:offU false (List.replicate n true) n=[]:=by
 unfold offU
 have:(List.range n).filter (fun i=>decide ((List.replicate n true).getD i false=false))=[]:=List.filter_eq_nil_iff.2 fun i hi=>by
  rw [rep_yes (List.mem_range.1 hi)];decide
 rw [this]
 rfl
theorem Tidy7.unreached (h:Tidy7 x):UnL x []:=⟨_,_,h.re,by unfold offY;rw [offU_all,offU_all];rfl⟩
theorem Tidy7.gf (h:Tidy7 x):gF x (fun p=>wU_ true (List.replicate x.ns.length true) p.right)=x:=by
 have e:x.ps.filter (fun p=>wU_ true (List.replicate x.ns.length true) p.right)=x.ps:=List.filter_eq_self.2 fun p hp=>h.wh hp
 show { x with ps:=x.ps.filter (fun p=>wU_ true (List.replicate x.ns.length true) p.right) }=x
 rw [e]
theorem Tidy7.stay (h:Tidy7 x):x.ps.filter (sU_ (List.replicate x.ns.length true) (List.replicate x.ns.length true))=x.ps:=List.filter_eq_self.2 fun p hp=>by
 unfold sU_
 have:=h.lf hp
 rw [h.wh hp,rep_yes (by omega)]
 rfl
theorem Tidy7.same (h:Tidy7 x){k:Int}(ht:TrOk x k c):k=0/\SameG x c:=by
 obtain ⟨M,hM,ho⟩:=ht
 obtain rfl:=hM.one h.fr
 have st:=h.ok.st
 rcases ho with ⟨q,_⟩ | ⟨_,T,N,hR,ho⟩
 ·rw [rep_yes (by omega)] at q;cases q
 rw [h.gf] at hR
 obtain ⟨rfl,rfl⟩:=hR.one h.re
 have t1:=h.ok.tl.1
 rcases ho with ⟨q,_⟩ | ⟨_,hk,tr⟩
 ·exfalso
  have:(List.replicate x.ts.length true).contains true=true:=by
   rw [List.contains_iff_mem]
   exact List.mem_replicate.2 ⟨by omega,rfl⟩
  rw [this] at q
  cases q
 have one:∀ i,i < x.ts.length->(nuF (List.replicate x.ts.length true) (List.replicate x.ns.length true) (syD 1 x.ts.length++syD 2 x.ns.length)).1 (1,(i:Int))=some (i:Int):=fun i hi=>by
  rw [nuF_one hi,if_pos (rep_yes hi),cntU_all i (by omega)]
 have two:∀ i,i < x.ns.length->(nuF (List.replicate x.ts.length true) (List.replicate x.ns.length true) (syD 1 x.ts.length++syD 2 x.ns.length)).1 (2,(i:Int))=some (i:Int):=fun i hi=>by
  rw [nuF_two hi,if_pos (rep_yes hi),cntU_all i (by omega)]
 have pre:∀ y:Int,y < 0->(nuF (List.replicate x.ts.length true) (List.replicate x.ns.length true) (syD 1 x.ts.length++syD 2 x.ns.length)).1 (1,y)=none:=fun y hy=>nuF_prec hy
 generalize (nuF (List.replicate x.ts.length true) (List.replicate x.ns.length true) (syD 1 x.ts.length++syD 2 x.ns.length)).1=f at *
 have one':∀ y:Int,0<=y->y < x.ts.length->f (1,y)=some y:=fun y h0 h1=>by
  obtain ⟨i,rfl⟩:∃ i:Nat,y=(i:Int):=⟨y.toNat,by omega⟩
  exact one i (by omega)
 have two':∀ y:Int,0<=y->y < x.ns.length->f (2,y)=some y:=fun y h0 h1=>by
  obtain ⟨i,rfl⟩:∃ i:Nat,y=(i:Int):=⟨y.toNat,by omega⟩
  exact two i (by omega)
 refine ⟨hk,⟨?_,?_,?_,?_,?_⟩⟩
 ·rw [tr.ts,nmU_all rfl (fun i hi=>by rw [one i hi];rfl) _ (Nat.le_refl _),List.take_length]
 ·rw [tr.ns,nmU_all rfl (fun i hi=>by rw [two i hi];rfl) _ (Nat.le_refl _),List.take_length]
 ·rw [tr.st,two' _ st.1 st.2]
  rfl
 ·rw [tr.ps,h.stay]
  apply List.map_congr_left
  intro p hp
  have hl:=h.lf hp
  unfold prU7 PV.core
  rw [two' _ hl.1 hl.2]
  have hr:p.right.map (fun s=>(s.1,(f s).getD 0))=p.right:=by
   refine (List.map_congr_left (g:=id) fun s hs=>?_).trans (List.map_id _)
   show _=s
   obtain ⟨s1,s2⟩:=s
   rcases h.sy hp hs with ⟨q1,q2,q3⟩ | ⟨q1,q2,q3⟩
   ·simp only at q1 q2 q3
    subst q1
    rw [one' _ q2 q3]
    rfl
   ·simp only at q1 q2 q3
    subst q1
    rw [two' _ q2 q3]
    rfl
  have hpr:(f (1,p.prec)).getD (-1)=p.prec:=by
   obtain ⟨j,hj,rfl⟩:=List.getElem_of_mem hp
   have e:x.ps.getD j .none=x.ps[j]:=by simp [List.getD,hj]
   have:=h.ok.prec j hj
   rw [e] at this
   by_cases hn:(x.ps[j]).prec < 0
   ·rw [pre _ hn]
    show (-1:Int)=_
    omega
   ·rw [one' _ (by omega) this.2]
    rfl
  rw [hr,hpr]
  rfl
 ·rw [tr.ls]
  unfold lvsU
  have:x.ls.filterMap (lv1 f)=x.ls.filterMap (fun l=>some l.core):=by
   apply fm_congr7
   intro l hl
   obtain ⟨j,hj,rfl⟩:=List.getElem_of_mem hl
   have e:x.ls.getD j .none=x.ls[j]:=by simp [List.getD,hj]
   have h1:=h.ok.level j hj
   rw [e] at h1
   have ht:(x.ls[j]).terms.filterMap (fun y=>f (1,y))=(x.ls[j]).terms:=by
    have:(x.ls[j]).terms.filterMap (fun y=>f (1,y))=(x.ls[j]).terms.filterMap some:=by
     apply fm_congr7
     intro y hy
     exact one' y (h1.2.1 y hy).1 (h1.2.1 y hy).2
    rw [this,List.filterMap_some]
   have hne:(x.ls[j]).terms≠[]:=by
    have h2:=h.ok.ls j hj
    unfold lU_ at h2
    rw [e] at h2
    intro q
    rw [if_pos (.inr (.inr (by rw [q];rfl)))] at h2
    cases h2
   unfold lv1
   rw [ht,if_neg hne]
   rfl
  rw [this]
  simp
end
end Go.Proofs.YthaamdognbncnaaGreatDoor
