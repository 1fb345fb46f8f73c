import Derived.Test.YteciabdjkaackaaGreatPPlainToGDec14
namespace Go.Proofs.YteciabdjkaackaaGreat
set_option linter.unusedVariables false
open Go.RowKit
theorem mem_getD {α:Type}{l:List α}{d:α}{j:Nat}(h:j < l.length):l.getD j d∈l:=by
 have e:l.getD j d=l[j]:=by simp [List.getD,h]
 rw [e];exact List.getElem_mem h
theorem firstU_all {f:Nat->Int}:∀ (c i:Nat),(firstU f c i).1=0->∀ j,j < c->f (i+j)=0
 | 0,_,_,j,hj=>absurd hj (by omega)
 | c+1,i,h,j,hj=>by
  unfold firstU at h
  by_cases hz:f i=0
  ·rw [if_neg (by simpa using hz)] at h
   match j with
   | 0=>exact hz
   | j+1 =>
    have:=firstU_all c (i+1) h j (by omega)
    rw [show i+(j+1)=i+1+j by omega]
    exact this
  ·rw [if_pos hz] at h
   exact absurd h hz
theorem wordS_size {s:ByteArray}(h:wordS s=true):s.size<=32:=by
 simp only [wordS,Bool.and_eq_true,decide_eq_true_eq] at h
 exact h.1.1.2
theorem quotedS_size {s:ByteArray}(h:qS_ s=true):s.size<=32:=by
 simp only [qS_,Bool.and_eq_true,decide_eq_true_eq] at h
 exact h.1.1.1.2
theorem termS_size {s:ByteArray}(h:termS s=true):s.size<=32:=by
 simp only [termS,Bool.or_eq_true] at h
 exact h.elim wordS_size quotedS_size
theorem formsF_each {form:ByteArray->Bool}:∀ (ss seen:List ByteArray),(fF_ form ss seen).1=0->∀ s∈ss,form s=true
 | [],_,_,s,hs=>by cases hs
 | a :: r,seen,h,s,hs=>by
  unfold fF_ at h
  by_cases h1:form a=false
  ·rw [if_pos h1] at h;exact absurd h (by simp)
  ·rw [if_neg h1] at h
   by_cases h2:inB seen a=true
   ·rw [if_pos h2] at h;exact absurd h (by simp)
   ·rw [if_neg h2] at h
    rcases List.mem_cons.1 hs with rfl | hs
    ·simpa using h1
    ·exact formsF_each r _ h s hs
theorem checkF_each {ts ns:List ByteArray}(h:(cF_ ts ns).1=0):(∀ s∈ts,s.size<=32)/\∀ s∈ns,s.size<=32:=by
 unfold cF_ at h
 split at h
 ·exact absurd h (by simp)
 ·split at h
  ·exact absurd h (by simp)
  ·by_cases h1:(fF_ termS ts []).1=0
   ·rw [if_neg (by simpa using h1)] at h
    by_cases h2:(fF_ wordS ns (fF_ termS ts []).2.2).1=0
    ·exact ⟨fun s hs=>termS_size (formsF_each _ _ h1 s hs),fun s hs=>wordS_size (formsF_each _ _ h2 s hs)⟩
    ·rw [if_pos h2] at h;exact absurd h h2
   ·rw [if_pos h1] at h;exact absurd h h1
structure OkC (g:GV):Prop where
 tl:1<=g.ts.length/\g.ts.length<=64
 nl:1<=g.ns.length/\g.ns.length<=64
 ts:∀ s∈g.ts,s.size<=32
 ns:∀ s∈g.ns,s.size<=32
 st:0<=g.start/\g.start < g.ns.length
 pl:1<=g.ps.length/\g.ps.length<=256
 ps:∀ i,i < g.ps.length->prodU g i=0
 ll:g.ls.length<=32
 ls:∀ i,i < g.ls.length->lU_ g i=0
theorem OkC.of {g:GV}(h:(cG_ g (cF_ g.ts g.ns)).1=0):OkC g:=by
 unfold cG_ at h
 by_cases h1:g.ts.length=0∨64 < g.ts.length
 ·rw [if_pos h1] at h;exact absurd h (by simp)
 rw [if_neg h1] at h
 by_cases h2:g.ns.length=0∨64 < g.ns.length
 ·rw [if_pos h2] at h;exact absurd h (by simp)
 rw [if_neg h2] at h
 by_cases h3:(cF_ g.ts g.ns).1=0
 case neg=>rw [if_pos h3] at h;exact absurd h h3
 rw [if_neg (by simpa using h3)] at h
 by_cases h4:inN g g.start=false
 ·rw [if_pos h4] at h;exact absurd h (by simp)
 rw [if_neg h4] at h
 by_cases h5:g.ps.length=0∨256 < g.ps.length
 ·rw [if_pos h5] at h;exact absurd h (by simp)
 rw [if_neg h5] at h
 by_cases h6:(firstU (prodU g) g.ps.length 0).1=0
 case neg=>rw [if_pos h6] at h;exact absurd h h6
 rw [if_neg (by simpa using h6)] at h
 by_cases h7:32 < g.ls.length
 ·rw [if_pos h7] at h;exact absurd h (by simp)
 rw [if_neg h7] at h
 have hn:=checkF_each h3
 refine ⟨by omega,by omega,hn.1,hn.2,?_,by omega,fun i hi=>?_,by omega,fun i hi=>?_⟩
 ·simpa [inN] using h4
 ·simpa using firstU_all _ _ h6 i hi
 ·simpa using firstU_all _ _ h i hi
theorem OkC.right {g:GV}(h:OkC g)(i:Nat)(hi:i < g.ps.length):(g.ps.getD i .none).right.length<=16:=by
 have:=h.ps i hi
 unfold prodU at this
 by_cases h1:inN g (g.ps.getD i .none).left=false
 ·rw [if_pos h1] at this;exact absurd this (by omega)
 rw [if_neg h1] at this
 by_cases h2:16 < (g.ps.getD i .none).right.length
 ·rw [if_pos h2] at this;exact absurd this (by omega)
 ·omega
theorem OkC.inG {g:GV}(h:OkC g)(i:Nat)(hi:i < g.ps.length):∀ s∈(g.ps.getD i .none).right,inG g s.1 s.2=true:=by
 have:=h.ps i hi
 unfold prodU at this
 by_cases h1:inN g (g.ps.getD i .none).left=false
 ·rw [if_pos h1] at this;exact absurd this (by omega)
 rw [if_neg h1] at this
 by_cases h2:16 < (g.ps.getD i .none).right.length
 ·rw [if_pos h2] at this;exact absurd this (by omega)
 rw [if_neg h2] at this
 by_cases h3:((g.ps.getD i .none).right.any fun s=>!Go.Proofs.YteciabdjkaackaaGreat.inG g s.1 s.2)=true
 ·rw [if_pos h3] at this;exact absurd this (by omega)
 ·intro s hs
  have h4:=Bool.not_eq_true _ ▸ h3
  rw [List.any_eq_false] at h4
  simpa using h4 s hs
theorem inG_is {g:GV}{a b:Int}(h:inG g a b=true):(a=1/\0<=b/\b < g.ts.length)∨(a=2/\0<=b/\b < g.ns.length):=by
 unfold inG at h
 by_cases h1:a=1
 ·rw [if_pos h1] at h
  exact .inl ⟨h1,by simpa [inT] using h⟩
 ·rw [if_neg h1] at h
  by_cases h2:a=2
  ·rw [if_pos h2] at h
   exact .inr ⟨h2,by simpa [inN] using h⟩
  ·rw [if_neg h2] at h;cases h
theorem OkC.level {g:GV}(h:OkC g)(i:Nat)(hi:i < g.ls.length):(1<=(g.ls.getD i .none).assoc/\(g.ls.getD i .none).assoc<=3)/\(∀ n∈(g.ls.getD i .none).terms,0<=n/\n < g.ts.length)/\risesU (g.ls.getD i .none).terms=true:=by
 have:=h.ls i hi
 unfold lU_ at this
 by_cases h1:(g.ls.getD i .none).assoc < 1∨3 < (g.ls.getD i .none).assoc∨(g.ls.getD i .none).terms.length=0
 ·rw [if_pos h1] at this;exact absurd this (by omega)
 rw [if_neg h1] at this
 by_cases h2:((g.ls.getD i .none).terms.any fun n=>!inT g n)=true
 ·rw [if_pos h2] at this;exact absurd this (by omega)
 rw [if_neg h2] at this
 by_cases h3:risesU (g.ls.getD i .none).terms=false
 ·rw [if_pos h3] at this;exact absurd this (by omega)
 refine ⟨by omega,fun n hn=>?_,by simpa using h3⟩
 have h4:=Bool.not_eq_true _ ▸ h2
 rw [List.any_eq_false] at h4
 simpa [inT] using h4 n hn
theorem rises_le {l:List Int}(h:risesU l=true):∀ j,j < l.length->l.getD 0 0+j<=l.getD j 0
 | 0,_=>by simp
 | j+1,hj=>by
  have ih:=rises_le h j (by omega)
  unfold risesU at h
  rw [List.all_eq_true] at h
  have:=h j (by simp;omega)
  simp only [decide_eq_true_eq] at this
  omega
theorem rises_len {l:List Int}{n:Nat}(h:risesU l=true)(hb:∀ x∈l,0<=x/\x < n):l.length<=n:=by
 rcases Nat.eq_zero_or_pos l.length with e | e
 ·omega
 ·have h1:=rises_le h (l.length - 1) (by omega)
  have m0:l.getD 0 0∈l:=mem_getD e
  have m1:l.getD (l.length - 1) 0∈l:=mem_getD (by omega)
  have:=hb _ m0
  have:=hb _ m1
  omega
theorem OkC.terms {g:GV}(h:OkC g)(i:Nat)(hi:i < g.ls.length):(g.ls.getD i .none).terms.length<=64:=by
 obtain ⟨_,h1,h2⟩:=h.level i hi
 exact Nat.le_trans (rises_len h2 h1) h.tl.2
theorem getD_mem {α:Type}{l:List α}{d x:α}(h:x∈l):∃ i,i < l.length/\x=l.getD i d:=by
 obtain ⟨i,hi,rfl⟩:=List.getElem_of_mem h
 exact ⟨i,hi,by simp [List.getD,hi]⟩
theorem GAt.ok {n:Nat}{w:World}{g:GV}(h:GAt n w g)(ok:OkC g):GAt 1048576 w g:=by
 have h1:=ok.tl
 have h2:=ok.nl
 have h3:=ok.pl
 have h4:=ok.ll
 refine ⟨h.t,h.n_,h.p,h.l,h.tz,h.nz,by omega,by omega,by omega,by omega,fun p hp=>?_,fun p hp=>?_⟩
 ·obtain ⟨i,hi,rfl⟩:=getD_mem (d:=PV.none) hp
  have:=ok.right i hi
  omega
 ·obtain ⟨i,hi,rfl⟩:=getD_mem (d:=LV.none) hp
  have:=ok.terms i hi
  omega
structure GB (g:GV)(w wr:World):Prop where
 at_:GAt 140737488355328 wr g
 g0:wr.cell? ⟨w.heap.size,0,none⟩=some (.slice g.ta g.ts.length g.tc)
 g1:wr.cell? ⟨w.heap.size,1,none⟩=some (.slice g.na g.ns.length g.nc)
 g2:wr.cell? ⟨w.heap.size,2,none⟩=some (.int .i64 g.start)
 g3:wr.cell? ⟨w.heap.size,3,none⟩=some (.slice g.pa g.ps.length g.pc)
 g4:wr.cell? ⟨w.heap.size,4,none⟩=some (.slice g.la g.ls.length g.lc)
 lt0:w.heap.size < wr.heap.size
theorem GB.new {g:GV}{w:World}(h:GAt 140737488355328 w g){t:TypeId}:GB g w (w.alloc (.cells #[.slice g.ta g.ts.length g.tc,.slice g.na g.ns.length g.nc,.int .i64 g.start,.slice g.pa g.ps.length g.pc,.slice g.la g.ls.length g.lc] t)):=by
 have e1:=heap_alloc_new w (.cells #[.slice g.ta g.ts.length g.tc,.slice g.na g.ns.length g.nc,.int .i64 g.start,.slice g.pa g.ps.length g.pc,.slice g.la g.ls.length g.lc] t)
 refine ⟨h.later (bAl w _),?_,?_,?_,?_,?_,lt_of_block e1⟩
 ·rw [cQa e1];rfl
 ·rw [cQa e1];rfl
 ·rw [cQa e1];rfl
 ·rw [cQa e1];rfl
 ·rw [cQa e1];rfl
theorem GB.later {g:GV}{w wr w':World}(h:GB g w wr)(hb:Below wr.heap.size wr w'):GB g w w':=by
 have e0:∀ j,w'.cell? ⟨w.heap.size,j,none⟩=wr.cell? ⟨w.heap.size,j,none⟩:=fun j=>hb.cell (p:=⟨w.heap.size,j,none⟩) h.lt0
 exact ⟨h.at_.later hb,(e0 0).trans h.g0,(e0 1).trans h.g1,(e0 2).trans h.g2,(e0 3).trans h.g3,(e0 4).trans h.g4,Nat.lt_of_lt_of_le h.lt0 hb.size⟩
theorem names_b (a1 a2:Option Addr)(c1 c2:Nat)(ts ns:List ByteArray)(w:World)(er at_:Int)(he:cF_ ts ns=(er,at_))(hz1:∀ s∈ts,s.size<=maxLen)(hz2:∀ s∈ns,s.size<=maxLen)(hr1:StrRow w a1 ts)(hr2:StrRow w a2 ns) :
  Calls Tryz.prog 94 #[.slice a1 ts.length c1,.slice a2 ns.length c2] w fun e w'=>e=.returned (.tuple #[.int .i64 er,.int .i64 at_])/\Below w.heap.size w w' :=
 (refcheck_any a1 a2 c1 c2 _ _ ts ns w rfl rfl hz1 hz2 hr1 hr2).mono fun e w' ⟨_,_,h,h1,h2,hb⟩=>⟨by rw [h,h1,h2,he],hb⟩
theorem eq0_b (n:Nat):((n:Int) == 0)=decide (n=0):=by
 by_cases h:n=0
 ·simp [h]
 ·simp only [h,decide_false,beq_eq_false_iff_ne,ne_eq];omega
set_option maxRecDepth 100000 in
set_option maxHeartbeats 4000000 in
theorem refcheck_G (g:GV)(w:World)(h:GAt 140737488355328 w g)(er at_:Int)(hE:cG_ g (cF_ g.ts g.ns)=(er,at_)) :
  Calls Tryz.prog 72 #[g.val] w fun e w'=>e=.returned (.tuple #[.int .i64 er,.int .i64 at_])/\Below w.heap.size w w':=by
 have HB0:Hid (Below w.heap.size w (w.alloc (gBox g))):=bAl w _
 have HG:Hid (∀ wr,Below (w.alloc (gBox g)).heap.size (w.alloc (gBox g)) wr->GB g w wr):=fun wr hb=>(GB.new h).later hb
 have HF:Hid (∀ wr,Below (w.alloc (gBox g)).heap.size (w.alloc (gBox g)) wr->Below w.heap.size w wr):=fun wr hb=>HB0.out.trans (hb.mono HB0.out.size)
 have HH:Hid (GAt 140737488355328 w g):=h
 have htl:=h.tl
 have hnl:=h.nl
 have hpl:=h.pl
 have hll:=h.ll
 clear h
 have HE0:Hid (cG_ g (cF_ g.ts g.ns)=(er,at_)):=hE
 unfold cG_ at hE
 by_cases a1:g.ts.length=0∨64 < g.ts.length
 ·rw [if_pos a1] at hE
  simp only [Prod.mk.injEq] at hE
  obtain ⟨rfl,rfl⟩:=hE
  by_cases a2:g.ts.length=0
  ·have t1:((g.ts.length:Int) == 0)=true:=by rw [eq0_b];simpa using a2
   clear a1 a2
   go_enter Tryz.func72,Tryz.ntmps72
   go_wp2
   go_returns
   exact ⟨rfl,HB0.out⟩
  ·have t1:((g.ts.length:Int) == 0)=false:=by rw [eq0_b];simpa using a2
   have t2:decide ((g.ts.length:Int) > 64)=true:=by simp;omega
   clear a1 a2
   go_enter Tryz.func72,Tryz.ntmps72
   go_wp2
   go_returns
   exact ⟨rfl,HB0.out⟩
 ·rw [if_neg a1] at hE
  have t1:((g.ts.length:Int) == 0)=false:=by rw [eq0_b];simp only [decide_eq_false_iff_not];omega
  have t2:decide ((g.ts.length:Int) > 64)=false:=by simp;omega
  have k1:¬ 64 < g.ts.length:=by omega
  clear a1
  by_cases a1:g.ns.length=0∨64 < g.ns.length
  ·rw [if_pos a1] at hE
   simp only [Prod.mk.injEq] at hE
   obtain ⟨rfl,rfl⟩:=hE
   by_cases a2:g.ns.length=0
   ·have t3:((g.ns.length:Int) == 0)=true:=by rw [eq0_b];simpa using a2
    clear a1 a2
    go_enter Tryz.func72,Tryz.ntmps72
    go_wp2
    go_returns
    exact ⟨rfl,HB0.out⟩
   ·have t3:((g.ns.length:Int) == 0)=false:=by rw [eq0_b];simpa using a2
    have t4:decide ((g.ns.length:Int) > 64)=true:=by simp;omega
    clear a1 a2
    go_enter Tryz.func72,Tryz.ntmps72
    go_wp2
    go_returns
    exact ⟨rfl,HB0.out⟩
  ·rw [if_neg a1] at hE
   have t3:((g.ns.length:Int) == 0)=false:=by rw [eq0_b];simp only [decide_eq_false_iff_not];omega
   have t4:decide ((g.ns.length:Int) > 64)=false:=by simp;omega
   clear a1
   obtain ⟨ne,na,HNM⟩:∃ ne na,Hid (cF_ g.ts g.ns=(ne,na)):=⟨_,_,rfl⟩
   rw [HNM.out] at hE
   simp only at hE
   have CN:Hid (∀ wr,Below (w.alloc (gBox g)).heap.size (w.alloc (gBox g)) wr->Calls Tryz.prog 94 #[.slice g.ta g.ts.length g.tc,.slice g.na g.ns.length g.nc] wr fun e w'=>e=.returned (.tuple #[.int .i64 ne,.int .i64 na])/\Below wr.heap.size wr w'):=fun wr hb=>names_b g.ta g.na g.tc g.nc g.ts g.ns wr ne na HNM.out HH.out.tz HH.out.nz (HG.out wr hb).at_.t (HG.out wr hb).at_.n_
   by_cases a2:ne≠0
   ·rw [if_pos a2] at hE
    simp only [Prod.mk.injEq] at hE
    obtain ⟨rfl,rfl⟩:=hE
    have t5:(ne != 0)=true:=by simpa using a2
    clear a2
    go_enter Tryz.func72,Tryz.ntmps72
    go_wp2_with (go_at_call 94;refine (CN.out _ (Below.refl _ _)).mono ?_;rintro e w1 ⟨rfl,hb1⟩)
    go_returns
    exact ⟨rfl,HF.out _ hb1⟩
   ·rw [if_neg a2] at hE
    obtain rfl:ne=0:=by simpa using a2
    clear a2
    by_cases a3:inN g g.start=false
    ·rw [if_pos a3] at hE
     simp only [Prod.mk.injEq] at hE
     obtain ⟨rfl,rfl⟩:=hE
     have a4:g.start < 0∨¬ g.start < 0/\g.start ≥ g.ns.length:=by unfold inN at a3;simp at a3;omega
     clear a3
     rcases a4 with a4 | ⟨a4,a5⟩
     ·have t6:decide (g.start < 0)=true:=by simpa using a4
      go_enter Tryz.func72,Tryz.ntmps72
      go_wp2_with (go_at_call 94;refine (CN.out _ (Below.refl _ _)).mono ?_;rintro e w1 ⟨rfl,hb1⟩;have k2:=(HG.out w1 hb1).g2;have kk1:=(HG.out w1 hb1).g1)
      go_returns
      exact ⟨rfl,HF.out _ hb1⟩
     ·have t6:decide (g.start < 0)=false:=by simpa using a4
      have t7:decide (g.start ≥ (g.ns.length:Int))=true:=by simpa using a5
      go_enter Tryz.func72,Tryz.ntmps72
      go_wp2_with (go_at_call 94;refine (CN.out _ (Below.refl _ _)).mono ?_;rintro e w1 ⟨rfl,hb1⟩;have k2:=(HG.out w1 hb1).g2;have kk1:=(HG.out w1 hb1).g1)
      go_returns
      exact ⟨rfl,HF.out _ hb1⟩
    ·rw [if_neg a3] at hE
     have a4:¬ g.start < 0/\¬ g.start ≥ (g.ns.length:Int):=by simp only [Bool.not_eq_false] at a3;unfold inN at a3;simp at a3;omega
     have t6:decide (g.start < 0)=false:=by simpa using a4.1
     have t7:decide (g.start ≥ (g.ns.length:Int))=false:=by simpa using a4.2
     clear a3 a4
     by_cases a5:g.ps.length=0∨256 < g.ps.length
     ·rw [if_pos a5] at hE
      simp only [Prod.mk.injEq] at hE
      obtain ⟨rfl,rfl⟩:=hE
      by_cases a6:g.ps.length=0
      ·have t8:((g.ps.length:Int) == 0)=true:=by rw [eq0_b];simpa using a6
       clear a5 a6
       go_enter Tryz.func72,Tryz.ntmps72
       go_wp2_with (go_at_call 94;refine (CN.out _ (Below.refl _ _)).mono ?_;rintro e w1 ⟨rfl,hb1⟩;have k2:=(HG.out w1 hb1).g2;have kk1:=(HG.out w1 hb1).g1;have k3:=(HG.out w1 hb1).g3)
       go_returns
       exact ⟨rfl,HF.out _ hb1⟩
      ·have t8:((g.ps.length:Int) == 0)=false:=by rw [eq0_b];simpa using a6
       have t9:decide ((g.ps.length:Int) > 256)=true:=by simp;omega
       clear a5 a6
       go_enter Tryz.func72,Tryz.ntmps72
       go_wp2_with (go_at_call 94;refine (CN.out _ (Below.refl _ _)).mono ?_;rintro e w1 ⟨rfl,hb1⟩;have k2:=(HG.out w1 hb1).g2;have kk1:=(HG.out w1 hb1).g1;have k3:=(HG.out w1 hb1).g3)
       go_returns
       exact ⟨rfl,HF.out _ hb1⟩
     ·rw [if_neg a5] at hE
      have t8:((g.ps.length:Int) == 0)=false:=by rw [eq0_b];simp only [decide_eq_false_iff_not];omega
      have t9:decide ((g.ps.length:Int) > 256)=false:=by simp;omega
      have HEE:Hid ((if (firstU (prodU g) g.ps.length 0).1≠0 then firstU (prodU g) g.ps.length 0 else if 32 < g.ls.length then (37,0) else firstU (lU_ g) g.ls.length 0)=(er,at_)):=hE
      clear a5 hE
      have CP:Hid (∀ wr (i:Nat),Below (w.alloc (gBox g)).heap.size (w.alloc (gBox g)) wr->i < g.ps.length->Calls Tryz.prog 95 #[g.val,.int .i64 i] wr fun e w'=>e=.returned (.int .i64 (prodU g i))/\Below wr.heap.size wr w'):=fun wr i hb hi=>refprod_any g i wr (HG.out wr hb).at_ hi
      have CL:Hid (∀ wr (i:Nat),Below (w.alloc (gBox g)).heap.size (w.alloc (gBox g)) wr->i < g.ls.length->Calls Tryz.prog 96 #[g.val,.int .i64 i] wr fun e w'=>e=.returned (.int .i64 (lU_ g i))/\Below wr.heap.size wr w'):=fun wr i hb hi=>reflevel_any g i wr (HG.out wr hb).at_ hi
      go_enter Tryz.func72,Tryz.ntmps72
      go_wp2_with (go_at_call 94;refine (CN.out _ (Below.refl _ _)).mono ?_;rintro e w1 ⟨rfl,hb1⟩;have k2:=(HG.out w1 hb1).g2;have kk1:=(HG.out w1 hb1).g1;have k3:=(HG.out w1 hb1).g3)
      clear k2 kk1 k3
      generalize w.alloc (gBox g)=W at *
      go_loopw [6] (fun z wr=>∃ k:Nat,k<=g.ps.length/\z=.int .i64 k/\Below W.heap.size W wr/\Hid (∀ j,j < k->prodU g j=0)) (fun z _=>g.ps.length - (intOf z).toNat)
      case atStart=>exact ⟨0,Nat.zero_le _,rfl,hb1,fun j hj=>by omega⟩
      case round =>
       clear hb1
       obtain ⟨k,hk,rfl,hb,HA⟩:=hrel
       have HW:Hid (GB g w wr):=HG.out wr hb
       have q0:=HW.out.g0
       have q1:=HW.out.g1
       have q2:=HW.out.g2
       have q3:=HW.out.g3
       have q4:=HW.out.g4
       by_cases hlt:k < g.ps.length
       ·have HIT:Hid (prodU g k≠0->(prodU g k,(k:Int))=(er,at_)):=fun e=>by
         have h1:=firstU_hit hlt HA.out e
         have h2:=HEE.out
         rw [h1,if_pos e] at h2
         exact h2
        have HST:Hid (prodU g k=0->∀ j,j < k+1->prodU g j=0):=fun e j hj=>by
         rcases Nat.lt_succ_iff_lt_or_eq.1 hj with r | rfl
         ·exact HA.out j r
         ·exact e
        have cp:=CP.out wr k hb hlt
        have CPk:Hid (Calls Tryz.prog 95 #[g.val,.int .i64 k] wr fun e w'=>e=.returned (.int .i64 (prodU g k))/\Below wr.heap.size wr w'):=cp
        clear cp HA
        generalize prodU g k=x at *
        by_cases hx:x=0
        ·have HS1:Hid _:=HST.out hx
         subst hx
         clear HIT HST
         go_wp2_with (go_at_call 95;refine CPk.out.mono ?_;rintro e w2 ⟨rfl,hb2⟩)
         go_roundw
         case rel=>exact ⟨k+1,by omega,by go_num,hb.trans (hb2.mono hb.size),HS1.out⟩
         case measure=>simp [intOf];omega
        ·have HS1:Hid _:=HIT.out hx
         have t10:(x != 0)=true:=by simpa using hx
         clear HIT HST hx
         go_wp2_with (go_at_call 95;refine CPk.out.mono ?_;rintro e w2 ⟨rfl,hb2⟩)
         go_returns
         have:=HS1.out
         simp only [Prod.mk.injEq] at this
         obtain ⟨rfl,rfl⟩:=this
         exact ⟨rfl,HF.out _ (hb.trans (hb2.mono hb.size))⟩
       ·have HL:Hid ((if 32 < g.ls.length then (37,0) else firstU (lU_ g) g.ls.length 0)=(er,at_)):=by
         have h2:=HEE.out
         rw [firstU_none fun j hj=>HA.out j (by omega)] at h2
         exact h2
        clear HEE HA CP
        by_cases a6:32 < g.ls.length
        ·have t10:decide ((g.ls.length:Int) > 32)=true:=by simp;omega
         have HL2:=HL.out
         rw [if_pos a6] at HL2
         simp only [Prod.mk.injEq] at HL2
         obtain ⟨rfl,rfl⟩:=HL2
         clear a6
         go_wp2
         go_returns
         exact ⟨rfl,HF.out _ hb⟩
        ·have t10:decide ((g.ls.length:Int) > 32)=false:=by simp;omega
         have HL2:Hid (firstU (lU_ g) g.ls.length 0=(er,at_)):=by
          have h2:=HL.out
          rw [if_neg a6] at h2
          exact h2
         clear a6 HL
         go_wp2
         obtain ⟨wo,rfl⟩:∃ wo:World,wo=wr:=⟨_,rfl⟩
         go_loopw [7] (fun z wr=>∃ k:Nat,k<=g.ls.length/\z=.int .i64 k/\Below W.heap.size W wr/\Hid (∀ j,j < k->lU_ g j=0)) (fun z _=>g.ls.length - (intOf z).toNat)
         case atStart=>exact ⟨0,Nat.zero_le _,rfl,hb,fun j hj=>by omega⟩
         case round =>
          clear hb HW q0 q1 q2 q3 q4 hlt hk
          obtain ⟨k,hk,rfl,hb,HA⟩:=hrel
          have HW:Hid (GB g w wr):=HG.out wr hb
          have q0:=HW.out.g0
          have q1:=HW.out.g1
          have q2:=HW.out.g2
          have q3:=HW.out.g3
          have q4:=HW.out.g4
          by_cases hlt:k < g.ls.length
          ·have HIT:Hid (lU_ g k≠0->(lU_ g k,(k:Int))=(er,at_)):=fun e=>by
            have h1:=firstU_hit hlt HA.out e
            have h2:=HL2.out
            rw [h1] at h2
            exact h2
           have HST:Hid (lU_ g k=0->∀ j,j < k+1->lU_ g j=0):=fun e j hj=>by
            rcases Nat.lt_succ_iff_lt_or_eq.1 hj with r | rfl
            ·exact HA.out j r
            ·exact e
           have CPk:Hid (Calls Tryz.prog 96 #[g.val,.int .i64 k] wr fun e w'=>e=.returned (.int .i64 (lU_ g k))/\Below wr.heap.size wr w'):=CL.out wr k hb hlt
           clear HA
           generalize lU_ g k=x at *
           by_cases hx:x=0
           ·have HS1:Hid _:=HST.out hx
            subst hx
            clear HIT HST
            go_wp2_with (go_at_call 96;refine CPk.out.mono ?_;rintro e w2 ⟨rfl,hb2⟩)
            go_roundw
            case rel=>exact ⟨k+1,by omega,by go_num,hb.trans (hb2.mono hb.size),HS1.out⟩
            case measure=>simp [intOf];omega
           ·have HS1:Hid _:=HIT.out hx
            have t11:(x != 0)=true:=by simpa using hx
            clear HIT HST hx
            go_wp2_with (go_at_call 96;refine CPk.out.mono ?_;rintro e w2 ⟨rfl,hb2⟩)
            go_returns
            have:=HS1.out
            simp only [Prod.mk.injEq] at this
            obtain ⟨rfl,rfl⟩:=this
            exact ⟨rfl,HF.out _ (hb.trans (hb2.mono hb.size))⟩
          ·have HL3:=HL2.out
           rw [firstU_none fun j hj=>HA.out j (by omega)] at HL3
           simp only [Prod.mk.injEq] at HL3
           obtain ⟨rfl,rfl⟩:=HL3
           clear HA HL2
           go_wp2
           go_returns
           exact ⟨rfl,HF.out _ hb⟩
theorem refmay_G (g:GV)(w:World)(h:GAt 140737488355328 w g) :
  Calls Tryz.prog 30 #[g.val] w fun e w'=>e=.returned (.int .i64 (cG_ g (cF_ g.ts g.ns)).1)/\Below w.heap.size w w':=by
 obtain ⟨er,at_,HE⟩:∃ er at_,Hid (cG_ g (cF_ g.ts g.ns)=(er,at_)):=⟨_,_,rfl⟩
 have hx:(cG_ g (cF_ g.ts g.ns)).1=er:=by rw [HE.out]
 rw [hx]
 have HC:Hid (∀ w',Below w.heap.size w w'->Calls Tryz.prog 72 #[g.val] w' fun e w''=>e=.returned (.tuple #[.int .i64 er,.int .i64 at_])/\Below w'.heap.size w' w''):=fun w' hb=>refcheck_G g w' (h.later hb) er at_ HE.out
 have HGB:Hid (GB g w (w.alloc (gBox g))):=GB.new h
 have q0:=HGB.out.g0
 have q1:=HGB.out.g1
 have q2:=HGB.out.g2
 have q3:=HGB.out.g3
 have q4:=HGB.out.g4
 clear hx h
 go_enter Tryz.func30,Tryz.ntmps30
 go_wp2_with (go_at_call 72;refine (HC.out _ (by go_grown)).mono ?_;rintro e w2 ⟨rfl,hb2⟩)
 go_ret
 exact ⟨rfl,by first | exact hb2 | exact (bAl w _).trans (hb2.mono (bAl w _).size)⟩
end Go.Proofs.YteciabdjkaackaaGreat
