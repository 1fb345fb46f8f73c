import Derived.Test.YteciabdjkaackaaGreatPVD1ToVD2h
namespace Go.Proofs.YteciabdjkaackaaGreat
set_option linter.unusedVariables false
open Go.RowKit
set_option linter.unusedSimpArgs false in
set_option maxRecDepth 100000 in
set_option maxHeartbeats 8000000 in
theorem rFromLeft_S {w:World}{g:GV}{pa wa:Option Addr}{pc wc:Nat}{l:List Int}{L:List (Int×ByteArray)}(okc:OkC g)(hg:GAt 1048576 w g)(hli:InRow w pa l)(hLi:TkRow w wa L)(hb:l.length<=1048576)(hB:L.length<=1048576) :
  Calls Tryz.prog 31 #[g.val,.slice pa l.length pc,.slice wa L.length wc] w fun e w'=>∃ T,samV T (anT (fromU (cpU 0 g.ps.length l) (deriveU g l L))).1/\TAt w' T/\e=.returned (.tuple #[T.val,.int .i64 (anT (fromU (cpU 0 g.ps.length l) (deriveU g l L))).2.1,.int .i64 (anT (fromU (cpU 0 g.ps.length l) (deriveU g l L))).2.2])/\Below w.heap.size w w':=by
 obtain ⟨W0,hW0⟩:∃ W0,(w.alloc (gBox g)).alloc zTree=W0:=⟨_,rfl⟩
 obtain ⟨k1,k2,k3⟩:=two_allocT w (gBox g) zTree
 rw [hW0] at k1 k2 k3
 have X0:Hid (Below w.heap.size w W0/\W0.heap[w.heap.size]?=some (gBox g)/\W0.heap[w.heap.size+1]?=some zTree):=⟨k1,k2,k3⟩
 have CN:Hid (Calls Tryz.prog 73 #[g.val,.slice pa l.length pc] W0 fun e w'=>e=.returned (.tuple #[.int .i64 (cpU 0 g.ps.length l).1,.int .i64 (cpU 0 g.ps.length l).2])/\Below W0.heap.size W0 w'):=numbers_S (hli.later k1) (by omega)
 have RD:Hid (∀ w',Below W0.heap.size W0 w'->w'.heap[w.heap.size]?=some (gBox g)/\GAt 1048576 w' g/\InRow w' pa l/\TkRow w' wa L):=fun w' hbb=>⟨(hbb.block _ (lt_of_block k2)).trans k2,(hg.later k1).later hbb,(hli.later k1).later hbb,(hLi.later k1).later hbb⟩
 have HZ:Hid (l.length<=1048576/\L.length<=1048576/\∀ p,(rgP g p).length<=1048576):=⟨hb,hB,pend_len hg.rl⟩
 have OK:Hid (OkC g):=okc
 have FN:Hid (∀ (w9:World) (T:TV),Below W0.heap.size W0 w9->TAt w9 T->(∀ a∈adsL (kidsA T),w.heap.size+1 < a.1)->w9.heap[w.heap.size+1]?=some zTree/\TBx (set4 w9 (w.heap.size+1) 0 T) (w.heap.size+1) 0 T/\Below w.heap.size w (set4 w9 (w.heap.size+1) 0 T)/\TAt (set4 w9 (w.heap.size+1) 0 T) T):=fun w9 T h1 h2 h3=>vfin k1 k3 h1 h2 h3
 have NO:Hid (∀ w9:World,Below W0.heap.size W0 w9->w9.heap[w.heap.size+1]?=some zTree/\TBx (set4 w9 (w.heap.size+1) 0 .none) (w.heap.size+1) 0 .none/\Below w.heap.size w (set4 w9 (w.heap.size+1) 0 .none)):=fun w9 h1=>by
  obtain ⟨q1,q2,q3,-⟩:=vfin (T:=TV.none) k1 k3 h1 (TAt.mk _ (fun h=>absurd rfl h) (fun k hk=>by cases hk)) (fun a ha=>by cases ha)
  exact ⟨q1,q2,q3⟩
 have UU:Hid (∀ u:Option TV×Int×Int,∀ w',u.1=none->∃ T,samV T (anT u).1/\TAt w' T/\Value.tuple #[TV.none.val,.int .i64 u.2.1,.int .i64 u.2.2]=.tuple #[T.val,.int .i64 (anT u).2.1,.int .i64 (anT u).2.2]):=fun u w' hu=>by
  obtain ⟨ot,e1,e2⟩:=u
  cases hu
  exact ⟨TV.none,samV_refl _,TAt.mk _ (fun h=>absurd rfl h) (fun k hk=>by cases hk),rfl⟩
 obtain ⟨u,hu⟩:∃ u,fromU (cpU 0 g.ps.length l) (deriveU g l L)=u:=⟨_,rfl⟩
 have HU:Hid (fromU (cpU 0 g.ps.length l) (deriveU g l L)=u):=hu
 have CO:Hid ((cpU 0 g.ps.length l).1=0->l≠[]/\(∀ x∈l,0<=x/\x < g.ps.length)/\cpU 0 g.ps.length l=(0,0)):=fun h=>(cp_ok h).2
 obtain ⟨c1,c2,hc⟩:∃ c1 c2,cpU 0 g.ps.length l=(c1,c2):=⟨_,_,rfl⟩
 rw [hu]
 rw [hc] at CN HU CO
 obtain ⟨x0,x1,x2,x3,x4⟩:=gbx_cells k2
 clear okc hg hli hLi hb hB k1 k2 k3 hu hc
 dsimp only at CN CO
 go_enter Tryz.func31,Tryz.ntmps31
 go_upto_region 1 with fail
 refine wp_world (fun w'=>w'=W0) hW0 fun w1 h1=>?_
 obtain rfl:=h1
 clear hW0
 go_upto_region 2 with (go_at_call 73;refine CN.out.mono ?_;rintro e w2 ⟨rfl,b2⟩;have H2:Hid (Below w1.heap.size w1 w2):=b2;clear b2 x0 x1 x2 x3 x4)
 clear CN
 by_cases h0:c1=0
 ·obtain ⟨hne,hin,hcc⟩:=CO.out h0
  obtain ⟨rfl,rfl⟩:c1=0/\c2=0:=by simpa using hcc
  have HI:Hid (∀ x∈l,0<=x/\x < g.ps.length):=hin
  have HU2:Hid (deriveU g l L=u):=by have:=HU.out;unfold fromU at this;rwa [if_neg (by simp)] at this
  have t1:((0:Int) != 0)=false:=by decide
  clear h0 hcc CO HU
  go_upto_region 5 with fail
  clear t1
  have hpos:0 < l.length:=List.length_pos_iff.2 hne
  obtain ⟨n0,hn0⟩:∃ n:Nat,l.getD 0 0=(n:Int):=⟨(l.getD 0 0).toNat,by have:=(hin (l.getD 0 0) (by simp [List.getD,hpos])).1;omega⟩
  have hn0l:n0 < g.ps.length:=by have:=(hin (l.getD 0 0) (by simp [List.getD,hpos])).2;omega
  have hpne:g.ps≠[]:=fun e=>by rw [e] at hn0l;simp at hn0l
  obtain ⟨pb,po,hpa,-⟩:=(RD.out _ (Below.refl _ _)).2.1.p.cells hpne
  obtain ⟨lb,lo,hla,-,-⟩:=(RD.out _ (Below.refl _ _)).2.2.1 hne
  subst hla
  have RP:Hid (∀ w',Below w1.heap.size w1 w'->∀ n,n < g.ps.length->w'.cell? ⟨pb,po+n*3,none⟩=some (.int .i64 (g.ps.getD n .none).left)/\w'.cell? ⟨pb,po+n*3+1,none⟩=some (.slice (g.ps.getD n .none).ra (g.ps.getD n .none).right.length (g.ps.getD n .none).rc)/\w'.cell? ⟨pb,po+n*3+2,none⟩=some (.int .i64 (g.ps.getD n .none).prec)):=fun w' hbb n hn=>by
   obtain ⟨pb',po',hpa',-,q⟩:=(RD.out _ hbb).2.1.p.cells hpne
   rw [hpa] at hpa'
   simp only [Option.some.injEq,Addr.mk.injEq,and_true] at hpa'
   obtain ⟨rfl,rfl⟩:=hpa'
   exact q n hn
  have RS:Hid (∀ w',Below w1.heap.size w1 w'->∀ n,n < g.ps.length->SymRow w' (g.ps.getD n .none).ra (g.ps.getD n .none).right):=fun w' hbb n hn=>(RD.out _ hbb).2.1.p.rows _ (by simp [List.getD,hn])
  have RL:Hid (∀ w',Below w1.heap.size w1 w'->∀ n,n < l.length->w'.cell? ⟨lb,lo+n,none⟩=some (.int .i64 (l.getD n 0))):=fun w' hbb n hn=>by
   obtain ⟨lb',lo',hla',-,q⟩:=(RD.out _ hbb).2.2.1 hne
   simp only [Option.some.injEq,Addr.mk.injEq,and_true] at hla'
   obtain ⟨rfl,rfl⟩:=hla'
   exact q n hn
  have RG:Hid (∀ w',Below w1.heap.size w1 w'->w'.cell? ⟨w.heap.size,3,none⟩=some (.slice (some ⟨pb,po,none⟩) g.ps.length g.pc)):=fun w' hbb=>by
   have:=(gbx_cells (RD.out _ hbb).1).2.2.2.1
   rwa [hpa] at this
  have LE:Hid (lfP g (l.getD 0 0)=(g.ps.getD n0 .none).left):=by show _=_;unfold lfP;rw [hn0];rfl
  obtain ⟨left0,hleft0⟩:∃ z,(g.ps.getD n0 .none).left=z:=⟨_,rfl⟩
  have R0:Hid (∀ w',Below w1.heap.size w1 w'->w'.cell? ⟨w.heap.size,3,none⟩=some (.slice (some ⟨pb,po,none⟩) g.ps.length g.pc)/\w'.cell? ⟨lb,lo,none⟩=some (.int .i64 (n0:Int))/\w'.cell? ⟨pb,po+n0*3,none⟩=some (.int .i64 left0)):=fun w' hbb=>⟨RG.out w' hbb,by have:=RL.out w' hbb 0 hpos;rw [hn0] at this;exact this,by have:=(RP.out w' hbb n0 hn0l).1;rw [hleft0] at this;exact this⟩
  rw [hleft0] at LE
  have g1:(n0:Int) < (g.ps.length:Int):=by omega
  have g2:(0:Int) < (l.length:Int):=by omega
  have HNE:Hid (l≠[]):=hne
  clear hne hin hn0 hn0l hleft0 hpa hpne
  obtain ⟨wd,hwd⟩:∃ wd:World,wd=w2.drew:=⟨_,rfl⟩
  have HD:Hid (Below w1.heap.size w1 wd):=by rw [hwd];exact H2.out.drew
  refine wp_region_x (S:=fun _=>fun w'=>Below w1.heap.size w1 w') (by kernel_rfl) ?_
  rw [<- hwd]
  clear hwd H2
  refine wpAnyX_takeSV (i:=0) (v:=?_) rfl (by kernel_rfl) (by decide +kernel) (by decide +kernel) (fun _ _ _ h=>h) (Or.inl ⟨by rfl,?_⟩) (HD.out) ?_
  rotate_left
  ·(intro wq hSw;obtain ⟨z0,z1,z2⟩:=R0.out wq hSw;clear hSw;go_simp;try (with_reducible rfl))
  (try simp only [Act.put,List.setIfInBounds_toArray,List.set_cons_zero,List.set_cons_succ])
  refine wpAnyX_takeSV (i:=1) (v:=?_) rfl (by kernel_rfl) (by decide +kernel) (by decide +kernel) (fun _ _ _ h=>h) (Or.inl ⟨by rfl,?_⟩) (HD.out) ?_
  rotate_left
  ·(intro wq hSw;obtain ⟨z0,z1,z2⟩:=R0.out wq hSw;clear hSw;go_simp;try (with_reducible rfl))
  (try simp only [Act.put,List.setIfInBounds_toArray,List.set_cons_zero,List.set_cons_succ])
  refine wpAnyX_takeSV (i:=2) (v:=?_) rfl (by kernel_rfl) (by decide +kernel) (by decide +kernel) (fun _ _ _ h=>h) (Or.inl ⟨by rfl,?_⟩) (HD.out) ?_
  rotate_left
  ·(intro wq hSw;obtain ⟨z0,z1,z2⟩:=R0.out wq hSw;clear hSw;go_simp;try (with_reducible rfl))
  (try simp only [Act.put,List.setIfInBounds_toArray,List.set_cons_zero,List.set_cons_succ])
  refine wpAnyX_takeSV (i:=3) (v:=?_) rfl (by kernel_rfl) (by decide +kernel) (by decide +kernel) (fun _ _ _ h=>h) (Or.inl ⟨by rfl,?_⟩) (HD.out) ?_
  rotate_left
  ·(intro wq hSw;obtain ⟨z0,z1,z2⟩:=R0.out wq hSw;clear hSw;go_simp;try (with_reducible rfl))
  (try simp only [Act.put,List.setIfInBounds_toArray,List.set_cons_zero,List.set_cons_succ])
  refine wpAnyX_takeSV (i:=4) (v:=?_) rfl (by kernel_rfl) (by decide +kernel) (by decide +kernel) (fun _ _ _ h=>h) (Or.inl ⟨by rfl,?_⟩) (HD.out) ?_
  rotate_left
  ·(intro wq hSw;obtain ⟨z0,z1,z2⟩:=R0.out wq hSw;clear hSw;go_simp;try (with_reducible rfl))
  (try simp only [Act.put,List.setIfInBounds_toArray,List.set_cons_zero,List.set_cons_succ])
  refine wpAnyX_takeSV (i:=5) (v:=?_) rfl (by kernel_rfl) (by decide +kernel) (by decide +kernel) (fun _ _ _ h=>h) (Or.inl ⟨by rfl,?_⟩) (HD.out) ?_
  rotate_left
  ·(intro wq hSw;obtain ⟨z0,z1,z2⟩:=R0.out wq hSw;clear hSw;go_simp;try (with_reducible rfl))
  (try simp only [Act.put,List.setIfInBounds_toArray,List.set_cons_zero,List.set_cons_succ])
  refine wpAnyX_takeSV (i:=6) (v:=?_) rfl (by kernel_rfl) (by decide +kernel) (by decide +kernel) (fun _ _ _ h=>h) (Or.inl ⟨by rfl,?_⟩) (HD.out) ?_
  rotate_left
  ·(intro wq hSw;obtain ⟨z0,z1,z2⟩:=R0.out wq hSw;clear hSw;go_simp;try (with_reducible rfl))
  (try simp only [Act.put,List.setIfInBounds_toArray,List.set_cons_zero,List.set_cons_succ])
  refine wpAnyX_takeSV (i:=7) (v:=?_) rfl (by kernel_rfl) (by decide +kernel) (by decide +kernel) (fun _ _ _ h=>h) (Or.inl ⟨by rfl,?_⟩) (HD.out) ?_
  rotate_left
  ·(intro wq hSw;obtain ⟨z0,z1,z2⟩:=R0.out wq hSw;clear hSw;go_simp;try (with_reducible rfl))
  (try simp only [Act.put,List.setIfInBounds_toArray,List.set_cons_zero,List.set_cons_succ])
  refine wpAnyX_takeSV (i:=8) (v:=?_) rfl (by kernel_rfl) (by decide +kernel) (by decide +kernel) (fun _ _ _ h=>h) (Or.inl ⟨by rfl,?_⟩) (HD.out) ?_
  rotate_left
  ·(intro wq hSw;obtain ⟨z0,z1,z2⟩:=R0.out wq hSw;clear hSw;go_simp;try (with_reducible rfl))
  (try simp only [Act.put,List.setIfInBounds_toArray,List.set_cons_zero,List.set_cons_succ])
  refine wX1 (j:=9) (by decide +kernel) rfl (fun K' hK=>?_)
  go_simp
  have T0:Hid (TwD w1 [] ([(2,left0)]:List (Int×Int)).reverse (.slice none 0 0) (.slice (some ⟨wd.heap.size,0,none⟩) 1 1) (wd.alloc (symBox (2,left0)))):=by
   have ba:=HD.out.trans ((bAl wd (symBox (2,left0))).mono HD.out.size)
   have hn:=HD.out.size
   refine ⟨RO.nil _,⟨rfl,.inr ⟨wd.heap.size,1,_,rfl,Nat.zero_le _,heap_alloc_new _ _,Nat.le_refl _,by decide,rfl,rfl⟩⟩,fun j hj=>(by simp [Value.ownBlock] at hj),fun j hj=>?_,fun j hj=>(by simp [Value.ownBlock] at hj),ba⟩
   have:wd.heap.size=j:=Option.some.inj hj
   omega
  have B3:Hid (Below w1.heap.size w1 (wd.alloc (symBox (2,left0)))):=T0.out.bel
  refine hK.out _ _ B3.out ?_
  clear hK K' HD
  generalize wd.alloc (symBox (2,left0))=w3 at *
  generalize wd.heap.size=nb at *
  (try simp only [Act.put,List.setIfInBounds_toArray,List.set_cons_zero,List.set_cons_succ])
  refine wX1 (j:=10) (by decide +kernel) rfl (fun K' hK=>?_)
  go_simp
  refine hK.out _ _ B3.out ?_
  clear hK K'
  (try simp only [Act.put,List.setIfInBounds_toArray,List.set_cons_zero,List.set_cons_succ])
  refine wXd (by decide +kernel) ?_
  clear g1 g2
  go_wp2
  go_loopg [11,12,13,14] (l.length+L.length+1) (fun gk vf vn vp vq wr=>∃ (x:DvU) (N:List (Int×Int)) (F:List SP) (n:Nat),vp=.int .i64 (x.u:Int)/\vq=.int .i64 (x.r:Int)/\TwD w1 F N.reverse vf vn wr/\LfP g l L x N F/\DrR g l L n x/\N.length<=1+x.u*1048576/\l.length+L.length < gk+(x.u+x.r))
  case atStart=>exact ⟨⟨0,0,([],[])⟩,[(2,left0)],[],_,rfl,rfl,T0.out,by have:=lf_start g l L;rw [LE.out] at this;exact this,dr_start g l L,by simp,by simp⟩
  case round =>
  clear T0 LE R0
  obtain ⟨x,N,F,n,rfl,rfl,hT,hP,hD,hN,hg⟩:=hrel
  have hul:=hP.ok.ul
  have hrl:=hP.ok.rl
  have hFl:=hP.ln
  have BB:Hid (Below w1.heap.size w1 wr):=hT.bel
  by_cases hw:wU_ x.A=true
  ·obtain ⟨rfl,t,ht,hft⟩:=lf_whole hP hw
   have hres:=hD.whole hw
   rw [ht] at hres
   obtain ⟨na,nc,rfl,_⟩:=RO.len hT.s
   obtain ⟨fa,fc,rfl,_⟩:=RO.len hT.o
   rw [HU2.out] at hres
   by_cases hu:x.u < l.length
   ·rw [if_pos hu] at hres
    have RES:Hid (u.1=none/\u.2.1=81/\u.2.2=(x.u:Int)):=by show _/\_/\_;rw [hres];exact ⟨rfl,rfl,rfl⟩
    have g1:x.u < l.length:=hu
    obtain ⟨z1,z2,z3⟩:=NO.out wr hT.bel
    have F3:Hid (TBx (set4 wr (w.heap.size+1) 0 .none) (w.heap.size+1) 0 .none/\Below w.heap.size w (set4 wr (w.heap.size+1) 0 .none)):=⟨z2,z3⟩
    obtain ⟨d0,d1,d2,d3,f0,f1,f2,f3⟩:=z_cells z1
    clear z1 z2 z3 hT hP hD hN hg hw hres ht hft hu hul hrl hFl HI HU2 RP RL RG RS HNE HZ OK FN NO RD X0 BB
    simp only [List.reverse_nil,List.length_nil]
    generalize x.u=xu at *
    generalize x.r=xr at *
    generalize l.length=ll at *
    generalize L.length=mm at *
    go_wp2
    change bodyPost _ _ _ _ _ (set4 wr (w.heap.size+1) 0 .none)
    generalize set4 wr (w.heap.size+1) 0 .none=w4 at *
    have y0:=F3.out.1.c0
    have y1:=F3.out.1.c1
    have y2:=F3.out.1.c2
    have y3:=F3.out.1.c3
    simp only [Nat.zero_add] at y1 y2 y3
    refine bodyPost_ret (v:=.tuple #[TV.none.val,.int .i64 81,.int .i64 (xu:Int)]) (by simp [results,Tryz.results31,go_sem,y0,y1,y2,y3]) rfl ?_
    obtain ⟨T,q1,q2,q3⟩:=UU.out u w4 RES.out.1
    rw [RES.out.2.1,RES.out.2.2] at q3
    exact ⟨T,q1,q2,by rw [q3],F3.out.2⟩
   ·rw [if_neg hu] at hres
    have g1:¬ x.u < l.length:=hu
    by_cases hr:x.r < L.length
    ·rw [if_pos hr] at hres
     have RES:Hid (u.1=none/\u.2.1=12/\u.2.2=(x.r:Int)):=by show _/\_/\_;rw [hres];exact ⟨rfl,rfl,rfl⟩
     have g2:x.r < L.length:=hr
     obtain ⟨z1,z2,z3⟩:=NO.out wr hT.bel
     have F3:Hid (TBx (set4 wr (w.heap.size+1) 0 .none) (w.heap.size+1) 0 .none/\Below w.heap.size w (set4 wr (w.heap.size+1) 0 .none)):=⟨z2,z3⟩
     obtain ⟨d0,d1,d2,d3,f0,f1,f2,f3⟩:=z_cells z1
     clear z1 z2 z3 hT hP hD hN hg hw hres ht hft hu hul hrl hFl HI HU2 RP RL RG RS HNE HZ OK FN NO RD X0 BB
     simp only [List.reverse_nil,List.length_nil]
     generalize x.u=xu at *
     generalize x.r=xr at *
     generalize l.length=ll at *
     generalize L.length=mm at *
     go_wp2
     change bodyPost _ _ _ _ _ (set4 wr (w.heap.size+1) 0 .none)
     generalize set4 wr (w.heap.size+1) 0 .none=w4 at *
     have y0:=F3.out.1.c0
     have y1:=F3.out.1.c1
     have y2:=F3.out.1.c2
     have y3:=F3.out.1.c3
     simp only [Nat.zero_add] at y1 y2 y3
     refine bodyPost_ret (v:=.tuple #[TV.none.val,.int .i64 12,.int .i64 (xr:Int)]) (by simp [results,Tryz.results31,go_sem,y0,y1,y2,y3]) rfl ?_
     obtain ⟨T,q1,q2,q3⟩:=UU.out u w4 RES.out.1
     rw [RES.out.2.1,RES.out.2.2] at q3
     exact ⟨T,q1,q2,by rw [q3],F3.out.2⟩
    ·rw [if_neg hr] at hres
     have g2:¬ x.r < L.length:=hr
     have RES:Hid (u=(some t,0,0)):=hres.symm.symm
     have CB:Hid (Calls Tryz.prog 43 #[.slice fa F.length fc] wr fun e w'=>∃ T,e=.returned (TV.val T)/\samV T t/\TAt w' T/\Below wr.heap.size wr w'/\∀ a∈adsL (kidsA T),wr.heap.size < a.1):=build_S F t hft wr fa fc hT.o (by have:=HZ.out.1;have:=HZ.out.2.1;omega)
     have SZ:Hid (w.heap.size+1 < wr.heap.size):=by have h1:=lt_of_block X0.out.2.2;have h2:=hT.bel.size;show _ < _;omega
     clear hT hP hD hN hg hw hres ht hft hu hr hul hrl hFl HI HU2 RP RL RG RS HNE HZ OK NO RD X0 UU
     simp only [List.reverse_nil,List.length_nil]
     generalize x.u=xu at *
     generalize x.r=xr at *
     generalize l.length=ll at *
     generalize L.length=mm at *
     generalize F.length=fl at *
     go_wp2_with (go_at_call 43;refine CB.out.mono ?_;rintro e w9 ⟨T,rfl,p1,p2,p3,p4⟩;obtain ⟨z1,z2,z3,z4⟩:=FN.out w9 T (BB.out.trans (p3.mono BB.out.size)) p2 (fun a ha=>(by have:=p4 a ha;have:=SZ.out;omega));have F3:Hid (TBx (set4 w9 (w.heap.size+1) 0 T) (w.heap.size+1) 0 T/\Below w.heap.size w (set4 w9 (w.heap.size+1) 0 T)/\TAt (set4 w9 (w.heap.size+1) 0 T) T/\samV T t):=⟨z2,z3,z4,p1⟩;obtain ⟨d0,d1,d2,d3,f0,f1,f2,f3⟩:=z_cells z1;clear p1 p2 p3 p4 z1 z2 z3 z4)
     change bodyPost _ _ _ _ _ (set4 w9 (w.heap.size+1) 0 T)
     generalize set4 w9 (w.heap.size+1) 0 T=w4 at *
     have y0:=F3.out.1.c0
     have y1:=F3.out.1.c1
     have y2:=F3.out.1.c2
     have y3:=F3.out.1.c3
     simp only [Nat.zero_add] at y1 y2 y3
     refine bodyPost_ret (v:=.tuple #[T.val,.int .i64 0,.int .i64 0]) (by simp [results,Tryz.results31,go_sem,y0,y1,y2,y3]) rfl ?_
     rw [RES.out]
     exact ⟨T,F3.out.2.2.2,F3.out.2.2.1,rfl,F3.out.2.1⟩
  ·have hwf:wU_ x.A=false:=by simpa using hw
   obtain ⟨T,hNT⟩:=lf_next hP hwf
   obtain ⟨m',rfl⟩:=hD.pos hP.ok
   obtain ⟨s1,s2,hs⟩:∃ s1 s2,nextU g l x.A=(s1,s2):=⟨_,_,rfl⟩
   rw [hs] at hNT
   subst hNT
   rw [List.reverse_cons] at hT
   obtain ⟨nb,nc,rfl,hnc,hcell,hpop⟩:=RO.pop (f:=syC) (fun _=>rfl) hT.s
   obtain ⟨fa,fc,rfl,_⟩:=RO.len hT.o
   have q0:=hcell 0 (by omega)
   have q1:=hcell 1 (by omega)
   simp only [syC,List.getElem?_cons_zero,List.getElem?_cons_succ,Nat.add_zero] at q0 q1
   have TT:Hid (TwD w1 F T.reverse (.slice fa F.length fc) (.slice (some ⟨nb,0,none⟩) T.reverse.length nc) wr):=⟨hT.o,hpop,hT.oo,fun j hj=>hT.so j (by rw [<- hj];rfl),fun j hj hj2=>hT.ne j hj (by rw [<- hj2];rfl),hT.bel⟩
   have HP:Hid (LfP g l L x ((s1,s2) :: T) F/\DrR g l L (m'+1) x/\wU_ x.A=false/\nextU g l x.A=(s1,s2)/\T.length+1<=1+x.u*1048576/\l.length+L.length < gk+(x.u+x.r)):=⟨hP,hD,hwf,hs,by simpa using hN,hg⟩
   have hlm:T.length<=2000000000000:=by
    have h1:=HP.out.2.2.2.2.1
    have h2:x.u*1048576<=1048576*1048576:=Nat.mul_le_mul_right _ (by have:=HZ.out.1;omega)
    omega
   have hrl1:T.reverse.length=T.length:=List.length_reverse
   rw [hrl1] at q0 q1 TT hnc
   have hsl:∀ w',(Instr.slice 100 (.slice (some ⟨nb,0,none⟩) (T.length+1) nc) none (some (.int .i64 (T.length:Int))) none).run Tryz.prog w'=.ok (.slice (some ⟨nb,0,none⟩) T.length nc) w':=fun w'=>slice_symB nb nc _ _ (by omega) w'
   have o1:IntKind.i64.wrap (((T.length+1:Nat):Int) - 1)=(T.length:Int):=by
    rw [show (((T.length+1:Nat):Int) - 1)=(T.length:Int) by omega]
    exact IntWalk.i64_in _ ⟨by omega,by omega⟩
   have o2:IntKind.i64.wrap ((T.length:Int)+1 - 1)=(T.length:Int):=by
    rw [show ((T.length:Int)+1 - 1)=(T.length:Int) by omega]
    exact IntWalk.i64_in _ ⟨by omega,by omega⟩
   have o3:IntKind.i64.wrap (T.length:Int)=(T.length:Int):=IntWalk.i64_in _ ⟨by omega,by omega⟩
   have g3:(T.length:Int) < (T.length:Int)+1:=by omega
   rw [hrl1]
   clear hrl1 hT hP hD hN hg hw hwf hs hcell hpop hnc
   obtain ⟨tm,htm⟩:∃ tm,T.length=tm:=⟨_,rfl⟩
   have HTM:Hid (T.length=tm/\tm<=2000000000000):=⟨htm,by omega⟩
   rw [htm] at q0 q1 TT hsl o1 o2 o3 g3 ⊢
   clear htm hlm
   obtain ⟨fl,hfl⟩:∃ fl,F.length=fl:=⟨_,rfl⟩
   have HFL:Hid (F.length=fl/\fl=x.u+x.r):=⟨hfl,by omega⟩
   rw [hfl] at TT ⊢
   have HUL:Hid (x.u<=l.length/\x.r<=L.length):=⟨hul,hrl⟩
   clear hfl hFl hul hrl hpos
   go_upto_region 9 with fail
   have B15:Hid (TwD w1 F T.reverse (.slice fa fl fc) (.slice (some ⟨nb,0,none⟩) tm nc) (wr.alloc (symBox (s1,s2)))/\(wr.alloc (symBox (s1,s2))).heap[wr.heap.size]?=some (symBox (s1,s2))):=⟨TT.out.any (bAl _ _),heap_alloc_new _ _⟩
   refine wp_world (fun w'=>TwD w1 F T.reverse (.slice fa fl fc) (.slice (some ⟨nb,0,none⟩) tm nc) w'/\w'.heap[wr.heap.size]?=some (symBox (s1,s2))) B15.out fun w5 h5=>?_
   have H5:Hid (TwD w1 F T.reverse (.slice fa fl fc) (.slice (some ⟨nb,0,none⟩) tm nc) w5/\w5.heap[wr.heap.size]?=some (symBox (s1,s2))):=h5
   have p0:w5.cell? ⟨wr.heap.size,0,none⟩=some (.int .i64 s1):=(cQa h5.2).trans rfl
   have p1:w5.cell? ⟨wr.heap.size,1,none⟩=some (.int .i64 s2):=(cQa h5.2).trans rfl
   clear h5 B15 TT q0 q1
   generalize wr.heap.size=b15 at *
   go_upto_region 10 with fail
   clear hsl o1 o2 o3 g3
   by_cases h1:s1=1
   ·subst h1
    have t1:((1:Int) == 1)=true:=by decide
    by_cases hr:x.r < L.length
    ·obtain ⟨k,tx,hkt⟩:∃ k tx,L.getD x.r (0,ByteArray.empty)=(k,tx):=⟨_,_,rfl⟩
     obtain ⟨tb,tf,hta,-,hc⟩:=(RD.out _ H5.out.1.bel).2.2.2 (by intro e;rw [e] at hr;simp at hr)
     obtain ⟨y0,y1⟩:=hc x.r hr
     rw [hkt] at y0 y1
     dsimp only at y0 y1
     subst hta
     clear hc
     have N5:Hid (∀ n,Below w5.heap.size w5 (w5.drewN n)):=fun n=>bDn (Below.refl _ _) n
     by_cases hk:k=s2
     ·subst hk
      have t2:(k != k)=false:=by simp
      obtain ⟨hst,hP'⟩:=lf_word (T:=T) OK.out HI.out HP.out.1 HP.out.2.2.1 (by rw [HP.out.2.2.2.1]) hr (by rw [hkt,HP.out.2.2.2.1]) (by rw [HP.out.2.2.2.1])
      have hD':=HP.out.2.1.step HI.out HP.out.1.ok HP.out.2.2.1 hst
      rw [hkt] at hP'
      have NX:Hid (∃ y:DvU,y.u=x.u/\y.r=x.r+1/\LfP g l L y T (F++[spW (k,tx)])/\DrR g l L m' y):=⟨⟨x.u,x.r+1,_⟩,rfl,rfl,hP',hD'⟩
      clear hst hP' hD'
      go_upto_region 11 with fail
      go_quiet (fail)
      obtain ⟨wd,hwd⟩:∃ wd:World,wd=w5.drewN nq:=⟨_,rfl⟩
      have H6:Hid (TwD w1 F T.reverse (.slice fa fl fc) (.slice (some ⟨nb,0,none⟩) tm nc) wd):=by rw [hwd];exact H5.out.1.any (N5.out nq)
      obtain ⟨ya,yb⟩:wd.cell? ⟨tb,tf+x.r*2,none⟩=some (.int .i64 k)/\wd.cell? ⟨tb,tf+x.r*2+1,none⟩=some (.string tx):=by rw [hwd];simpa using ⟨y0,y1⟩
      rw [<- hwd]
      clear hwd y0 y1 p0 p1 H5 t1 t2
      have NC:Hid (∀ j u,(flCells (spW (k,tx)))[j]?=some u->(wd.alloc (.cells #[.int .i64 (-1),.int .i64 k,.string tx,.int .i64 0] 128)).cell? ⟨wd.heap.size,j,none⟩=some u):=fl_word (heap_alloc_new wd _)
      have LN:Hid (F.length<=1000000000):=by have h1:=HFL.out;have h2:=HUL.out;have h3:=HZ.out;show _<=_;omega
      have o4:IntKind.i64.wrap ((x.r:Int)+1)=(x.r:Int)+1:=IntWalk.i64_in _ ⟨by omega,by have h2:=HUL.out;have h3:=HZ.out;omega⟩
      have H6o:Hid (RO 128 4 flCells (wd.alloc (.cells #[.int .i64 (-1),.int .i64 k,.string tx,.int .i64 0] 128)) (.slice fa fl fc) F):=H6.out.o.later (bAl _ _)
      go_wp2_with (at_builtin;refine wpList_ro_append rkFlat rfl _ _ rfl (.slice fa fl fc) F rfl H6o.out wd.heap.size 1 (spW (k,tx)) rfl NC.out LN.out ?_;intro a9 n9 c9 w9 ho9 hg9;have T9:Hid (TwD w1 (F++[spW (k,tx)]) T.reverse (.slice a9 n9 c9) (.slice (some ⟨nb,0,none⟩) tm nc) w9):=H6.out.out (bAl _ _) hg9 ho9;clear ho9 hg9 ya yb)
      obtain ⟨y,yu,yr,hy,hdy⟩:=NX.out
      go_roundg (gk - 1)
      case measure=>have h1:=HP.out.2.2.2.2.2;have h2:=HUL.out;omega
      case rel =>
       have h1:=HP.out.2.2.2.2
       have h2:=HUL.out
       exact ⟨y,T,F++[spW (k,tx)],m',by rw [yu],by rw [yr];go_num,T9.out,hy,hdy,by rw [yu];omega,by rw [yu,yr];omega⟩
     ·have t2:(k != s2)=true:=by simpa using hk
      have hst:stepU g l L x=.inl (82,(x.r:Int)):=by
       unfold stepU
       rw [HP.out.2.2.2.1]
       dsimp only
       rw [if_pos rfl,if_neg (by omega),hkt]
       exact if_neg hk
      have hres:=HP.out.2.1.fault HP.out.2.2.1 hst
      rw [HU2.out] at hres
      have RES:Hid (u.1=none/\u.2.1=82/\u.2.2=(x.r:Int)):=by show _/\_/\_;rw [hres];exact ⟨rfl,rfl,rfl⟩
      clear hst
      clear hk
      go_upto_region 11 with fail
      go_quiet (fail)
      obtain ⟨wd,hwd⟩:∃ wd:World,wd=w5.drewN nq:=⟨_,rfl⟩
      have H6:Hid (Below w1.heap.size w1 wd):=by rw [hwd];exact H5.out.1.bel.trans ((N5.out nq).mono H5.out.1.bel.size)
      rw [<- hwd]
      obtain ⟨z1,z2,z3⟩:=NO.out wd H6.out
      clear hwd y0 y1 p0 p1 H5 t1 t2 N5 hkt
      have F3:Hid (TBx (set4 wd (w.heap.size+1) 0 .none) (w.heap.size+1) 0 .none/\Below w.heap.size w (set4 wd (w.heap.size+1) 0 .none)):=⟨z2,z3⟩
      obtain ⟨d0,d1,d2,d3,f0,f1,f2,f3⟩:=z_cells z1
      clear hres z1 z2 z3 HI HU2 RP RL RG RS HNE HZ OK FN NO RD X0 BB HP HTM HFL HUL
      go_wp2
      change bodyPost _ _ _ _ _ (set4 wd (w.heap.size+1) 0 .none)
      generalize set4 wd (w.heap.size+1) 0 .none=w4 at *
      have y0:=F3.out.1.c0
      have y1:=F3.out.1.c1
      have y2:=F3.out.1.c2
      have y3:=F3.out.1.c3
      simp only [Nat.zero_add] at y1 y2 y3
      refine bodyPost_ret (v:=.tuple #[TV.none.val,.int .i64 82,.int .i64 (x.r:Int)]) (by simp [results,Tryz.results31,go_sem,y0,y1,y2,y3]) rfl ?_
      obtain ⟨TT',q1,q2,q3⟩:=UU.out u w4 RES.out.1
      rw [RES.out.2.1,RES.out.2.2] at q3
      exact ⟨TT',q1,q2,by rw [q3],F3.out.2⟩
    ·have N5:Hid (∀ n,Below w5.heap.size w5 (w5.drewN n)):=fun n=>bDn (Below.refl _ _) n
     have hst:stepU g l L x=.inl (82,(x.r:Int)):=by
      unfold stepU
      rw [HP.out.2.2.2.1]
      dsimp only
      rw [if_pos rfl,if_pos (by have:=HUL.out;omega)]
     have hres:=HP.out.2.1.fault HP.out.2.2.1 hst
     rw [HU2.out] at hres
     have RES:Hid (u.1=none/\u.2.1=82/\u.2.2=(x.r:Int)):=by show _/\_/\_;rw [hres];exact ⟨rfl,rfl,rfl⟩
     clear hst
     go_upto_region 11 with fail
     go_quiet (fail)
     obtain ⟨wd,hwd⟩:∃ wd:World,wd=w5.drewN nq:=⟨_,rfl⟩
     have H6:Hid (Below w1.heap.size w1 wd):=by rw [hwd];exact H5.out.1.bel.trans ((N5.out nq).mono H5.out.1.bel.size)
     rw [<- hwd]
     obtain ⟨z1,z2,z3⟩:=NO.out wd H6.out
     clear hwd p0 p1 H5 t1 N5
     have F3:Hid (TBx (set4 wd (w.heap.size+1) 0 .none) (w.heap.size+1) 0 .none/\Below w.heap.size w (set4 wd (w.heap.size+1) 0 .none)):=⟨z2,z3⟩
     obtain ⟨d0,d1,d2,d3,f0,f1,f2,f3⟩:=z_cells z1
     clear hres z1 z2 z3 HI HU2 RP RL RG RS HNE HZ OK FN NO RD X0 BB HP HTM HFL HUL
     go_wp2
     change bodyPost _ _ _ _ _ (set4 wd (w.heap.size+1) 0 .none)
     generalize set4 wd (w.heap.size+1) 0 .none=w4 at *
     have y0:=F3.out.1.c0
     have y1:=F3.out.1.c1
     have y2:=F3.out.1.c2
     have y3:=F3.out.1.c3
     simp only [Nat.zero_add] at y1 y2 y3
     refine bodyPost_ret (v:=.tuple #[TV.none.val,.int .i64 82,.int .i64 (x.r:Int)]) (by simp [results,Tryz.results31,go_sem,y0,y1,y2,y3]) rfl ?_
     obtain ⟨TT',q1,q2,q3⟩:=UU.out u w4 RES.out.1
     rw [RES.out.2.1,RES.out.2.2] at q3
     exact ⟨TT',q1,q2,by rw [q3],F3.out.2⟩
   ·have t1:(s1 == 1)=false:=by simpa using h1
    by_cases hu:x.u < l.length
    ·obtain ⟨n,hn⟩:∃ n:Nat,l.getD x.u 0=(n:Int):=⟨(l.getD x.u 0).toNat,by have:=(HI.out (l.getD x.u 0) (by simp [List.getD,hu])).1;omega⟩
     have hnl:n < g.ps.length:=by have:=(HI.out (l.getD x.u 0) (by simp [List.getD,hu])).2;omega
     obtain ⟨pv,hpv⟩:∃ pv,g.ps.getD n .none=pv:=⟨_,rfl⟩
     have R0:Hid (∀ w',Below w1.heap.size w1 w'->w'.cell? ⟨w.heap.size,3,none⟩=some (.slice (some ⟨pb,po,none⟩) g.ps.length g.pc)/\w'.cell? ⟨lb,lo+x.u,none⟩=some (.int .i64 (n:Int))/\w'.cell? ⟨pb,po+n*3,none⟩=some (.int .i64 pv.left)/\w'.cell? ⟨pb,po+n*3+1,none⟩=some (.slice pv.ra pv.right.length pv.rc)/\w'.cell? ⟨pb,po+n*3+2,none⟩=some (.int .i64 pv.prec)/\SymRow w' pv.ra pv.right):=fun w' hbb=>by
      obtain ⟨q0,q1,q2⟩:=RP.out w' hbb n hnl
      have q3:=RS.out w' hbb n hnl
      rw [hpv] at q0 q1 q2 q3
      exact ⟨RG.out w' hbb,by have:=RL.out w' hbb x.u hu;rwa [hn] at this,q0,q1,q2,q3⟩
     have RGP:Hid (rgP g (n:Int)=pv.right/\lfP g (n:Int)=pv.left):=by
      refine ⟨?_,?_⟩
      ·show (g.ps.getD (n:Int).toNat .none).right=_
       rw [Int.toNat_natCast,hpv]
      ·show (g.ps.getD (n:Int).toNat .none).left=_
       rw [Int.toNat_natCast,hpv]
     have g1:(n:Int) < (g.ps.length:Int):=by omega
     clear hpv
     go_upto_region 17 with fail
     obtain ⟨wd,hwd⟩:∃ wd:World,wd=w5.drew:=⟨_,rfl⟩
     have H6:Hid (TwD w1 F T.reverse (.slice fa fl fc) (.slice (some ⟨nb,0,none⟩) tm nc) wd/\wd.heap[b15]?=some (symBox (s1,s2))):=by rw [hwd];exact ⟨H5.out.1.any (Below.refl _ _).drew,H5.out.2⟩
     refine wp_region_x (S:=fun _=>fun w'=>Below w1.heap.size w1 w') (by kernel_rfl) ?_
     rw [<- hwd]
     clear hwd p0 p1 H5
     refine wpAnyX_takeSV (i:=0) (v:=?_) rfl (by kernel_rfl) (by decide +kernel) (by decide +kernel) (fun _ _ _ h=>h) (Or.inl ⟨by rfl,?_⟩) (H6.out.1.bel) ?_
     rotate_left
     ·(intro wq hSw;obtain ⟨z0,z1,z2,z3,z4,-⟩:=R0.out wq hSw;clear hSw;go_simp;try (with_reducible rfl))
     (try simp only [Act.put,List.setIfInBounds_toArray,List.set_cons_zero,List.set_cons_succ])
     refine wpAnyX_takeSV (i:=1) (v:=?_) rfl (by kernel_rfl) (by decide +kernel) (by decide +kernel) (fun _ _ _ h=>h) (Or.inl ⟨by rfl,?_⟩) (H6.out.1.bel) ?_
     rotate_left
     ·(intro wq hSw;obtain ⟨z0,z1,z2,z3,z4,-⟩:=R0.out wq hSw;clear hSw;go_simp;try (with_reducible rfl))
     (try simp only [Act.put,List.setIfInBounds_toArray,List.set_cons_zero,List.set_cons_succ])
     refine wpAnyX_takeSV (i:=2) (v:=?_) rfl (by kernel_rfl) (by decide +kernel) (by decide +kernel) (fun _ _ _ h=>h) (Or.inl ⟨by rfl,?_⟩) (H6.out.1.bel) ?_
     rotate_left
     ·(intro wq hSw;obtain ⟨z0,z1,z2,z3,z4,-⟩:=R0.out wq hSw;clear hSw;go_simp;try (with_reducible rfl))
     (try simp only [Act.put,List.setIfInBounds_toArray,List.set_cons_zero,List.set_cons_succ])
     refine wpAnyX_takeSV (i:=3) (v:=?_) rfl (by kernel_rfl) (by decide +kernel) (by decide +kernel) (fun _ _ _ h=>h) (Or.inl ⟨by rfl,?_⟩) (H6.out.1.bel) ?_
     rotate_left
     ·(intro wq hSw;obtain ⟨z0,z1,z2,z3,z4,-⟩:=R0.out wq hSw;clear hSw;go_simp;try (with_reducible rfl))
     (try simp only [Act.put,List.setIfInBounds_toArray,List.set_cons_zero,List.set_cons_succ])
     refine wpAnyX_takeSV (i:=4) (v:=?_) rfl (by kernel_rfl) (by decide +kernel) (by decide +kernel) (fun _ _ _ h=>h) (Or.inl ⟨by rfl,?_⟩) (H6.out.1.bel) ?_
     rotate_left
     ·(intro wq hSw;obtain ⟨z0,z1,z2,z3,z4,-⟩:=R0.out wq hSw;clear hSw;go_simp;try (with_reducible rfl))
     (try simp only [Act.put,List.setIfInBounds_toArray,List.set_cons_zero,List.set_cons_succ])
     refine wpAnyX_takeSV (i:=5) (v:=?_) rfl (by kernel_rfl) (by decide +kernel) (by decide +kernel) (fun _ _ _ h=>h) (Or.inl ⟨by rfl,?_⟩) (H6.out.1.bel) ?_
     rotate_left
     ·(intro wq hSw;obtain ⟨z0,z1,z2,z3,z4,-⟩:=R0.out wq hSw;clear hSw;go_simp;try (with_reducible rfl))
     (try simp only [Act.put,List.setIfInBounds_toArray,List.set_cons_zero,List.set_cons_succ])
     refine wpAnyX_takeSV (i:=6) (v:=?_) rfl (by kernel_rfl) (by decide +kernel) (by decide +kernel) (fun _ _ _ h=>h) (Or.inl ⟨by rfl,?_⟩) (H6.out.1.bel) ?_
     rotate_left
     ·(intro wq hSw;obtain ⟨z0,z1,z2,z3,z4,-⟩:=R0.out wq hSw;clear hSw;go_simp;try (with_reducible rfl))
     (try simp only [Act.put,List.setIfInBounds_toArray,List.set_cons_zero,List.set_cons_succ])
     refine wpAnyX_takeSV (i:=7) (v:=?_) rfl (by kernel_rfl) (by decide +kernel) (by decide +kernel) (fun _ _ _ h=>h) (Or.inl ⟨by rfl,?_⟩) (H6.out.1.bel) ?_
     rotate_left
     ·(intro wq hSw;obtain ⟨z0,z1,z2,z3,z4,-⟩:=R0.out wq hSw;clear hSw;go_simp;try (with_reducible rfl))
     (try simp only [Act.put,List.setIfInBounds_toArray,List.set_cons_zero,List.set_cons_succ])
     refine wX1 (j:=8) (by decide +kernel) rfl (fun K' hK=>?_)
     go_simp
     have B7:Hid (Below wd.heap.size wd (wd.alloc zPrV)/\(wd.alloc zPrV).heap[wd.heap.size]?=some zPrV):=⟨bAl _ _,heap_alloc_new _ _⟩
     refine hK.out _ _ (H6.out.1.bel.trans (B7.out.1.mono H6.out.1.bel.size)) ?_
     clear hK K'
     generalize wd.alloc zPrV=w6 at *
     have LB:Hid (w1.heap.size<=wd.heap.size/\b15 < wd.heap.size):=⟨H6.out.1.bel.size,lt_of_block H6.out.2⟩
     (try simp only [Act.put,List.setIfInBounds_toArray,List.set_cons_zero,List.set_cons_succ])
     have th7:w6.there wd.heap.size 0 3:=there3 B7.out.2
     have B8:Hid (Below wd.heap.size wd (w6.setCells wd.heap.size 0 [.int .i64 pv.left,.slice pv.ra pv.right.length pv.rc,.int .i64 pv.prec])/\(w6.setCells wd.heap.size 0 [.int .i64 pv.left,.slice pv.ra pv.right.length pv.rc,.int .i64 pv.prec]).heap[wd.heap.size]?=some (prBox pv)):=⟨setCs_below3 B7.out.1 (Nat.le_refl _),setCs_threeV B7.out.2⟩
     refine wX1 (j:=9) (by decide +kernel) rfl (fun K' hK=>?_)
     refine step_storeO rfl 116 (.tmp 16) (.tmp 96) rfl wd.heap.size 0 #[.int .i64 pv.left,.slice pv.ra pv.right.length pv.rc,.int .i64 pv.prec] rfl rfl th7 (by kernel_rfl) (by kernel_rfl) ?_
     refine hK.out _ _ (H6.out.1.bel.trans (B8.out.1.mono H6.out.1.bel.size)) ?_
     clear hK K' th7 B7
     change wpAnyX _ _ _ _ _ _ _ _ (w6.setCells wd.heap.size 0 [.int .i64 pv.left,.slice pv.ra pv.right.length pv.rc,.int .i64 pv.prec])
     generalize w6.setCells wd.heap.size 0 [.int .i64 pv.left,.slice pv.ra pv.right.length pv.rc,.int .i64 pv.prec]=w7 at *
     (try simp only [Act.put,List.setIfInBounds_toArray,List.set_cons_zero,List.set_cons_succ])
     refine wXd (by decide +kernel) ?_
     have H7:Hid (TwD w1 F T.reverse (.slice fa fl fc) (.slice (some ⟨nb,0,none⟩) tm nc) w7/\w7.heap[b15]?=some (symBox (s1,s2))/\w7.heap[wd.heap.size]?=some (prBox pv)):=⟨H6.out.1.any B8.out.1,(B8.out.1.block _ (lt_of_block H6.out.2)).trans H6.out.2,B8.out.2⟩
     clear H6 B8
     generalize wd.heap.size=b16 at *
     have p1:w7.cell? ⟨b15,1,none⟩=some (.int .i64 s2):=(cQa H7.out.2.1).trans rfl
     have r0:w7.cell? ⟨b16,0,none⟩=some (.int .i64 pv.left):=(cQa H7.out.2.2).trans rfl
     have r1:w7.cell? ⟨b16,1,none⟩=some (.slice pv.ra pv.right.length pv.rc):=(cQa H7.out.2.2).trans rfl
     by_cases hk:pv.left=s2
     ·subst hk
      have t2:(pv.left != pv.left)=false:=by simp
      obtain ⟨hst,hP'⟩:=lf_prod (T:=T) OK.out HI.out HP.out.1 HP.out.2.2.1 (by rw [HP.out.2.2.2.1];exact h1) hu (by rw [hn,RGP.out.2,HP.out.2.2.2.1]) (by rw [HP.out.2.2.2.1])
      have hD':=HP.out.2.1.step HI.out HP.out.1.ok HP.out.2.2.1 hst
      rw [hn] at hP' hD'
      rw [RGP.out.1] at hP'
      have NX:Hid (∃ y:DvU,y.u=x.u+1/\y.r=x.r/\LfP g l L y (pv.right++T) (F++[spP g (n:Int)])/\DrR g l L m' y):=⟨⟨x.u+1,x.r,_⟩,rfl,rfl,hP',hD'⟩
      have HRL:Hid (pv.right.length<=1048576):=by have:=HZ.out.2.2 (n:Int);rw [RGP.out.1] at this;exact this
      clear hst hP' hD' hn hnl h1 t1
      go_upto_region 20 with fail
      clear t2 r0 r1 p1
      obtain ⟨we,hwe⟩:∃ we:World,we=w7.drew:=⟨_,rfl⟩
      have H8:Hid (TwD w1 F T.reverse (.slice fa fl fc) (.slice (some ⟨nb,0,none⟩) tm nc) we/\we.heap[b16]?=some (prBox pv)):=by rw [hwe];exact ⟨H7.out.1.any (Below.refl _ _).drew,H7.out.2.2⟩
      refine wp_region_x (S:=fun _=>fun w'=>Below w1.heap.size w1 w'/\w'.heap[b16]?=some (prBox pv)) (by kernel_rfl) ?_
      rw [<- hwe]
      clear hwe H7
      have S8:Hid (Below w1.heap.size w1 we/\we.heap[b16]?=some (prBox pv)):=⟨H8.out.1.bel,H8.out.2⟩
      refine wpAnyX_takeSV (i:=0) (v:=?_) rfl (by kernel_rfl) (by decide +kernel) (by decide +kernel) (fun _ _ _ h=>h) (Or.inl ⟨by rfl,?_⟩) (S8.out) ?_
      rotate_left
      ·(intro wq hSw;obtain ⟨z0,z1,z2⟩:=R0.out wq hSw.1;have z5:wq.cell? ⟨b16,1,none⟩=some (.slice pv.ra pv.right.length pv.rc):=(cQa hSw.2).trans rfl;clear hSw;go_simp;try (with_reducible rfl))
      (try simp only [Act.put,List.setIfInBounds_toArray,List.set_cons_zero,List.set_cons_succ])
      refine wpAnyX_takeSV (i:=1) (v:=?_) rfl (by kernel_rfl) (by decide +kernel) (by decide +kernel) (fun _ _ _ h=>h) (Or.inl ⟨by rfl,?_⟩) (S8.out) ?_
      rotate_left
      ·(intro wq hSw;obtain ⟨z0,z1,z2⟩:=R0.out wq hSw.1;have z5:wq.cell? ⟨b16,1,none⟩=some (.slice pv.ra pv.right.length pv.rc):=(cQa hSw.2).trans rfl;clear hSw;go_simp;try (with_reducible rfl))
      (try simp only [Act.put,List.setIfInBounds_toArray,List.set_cons_zero,List.set_cons_succ])
      refine wpAnyX_takeSV (i:=2) (v:=?_) rfl (by kernel_rfl) (by decide +kernel) (by decide +kernel) (fun _ _ _ h=>h) (Or.inl ⟨by rfl,?_⟩) (S8.out) ?_
      rotate_left
      ·(intro wq hSw;obtain ⟨z0,z1,z2⟩:=R0.out wq hSw.1;have z5:wq.cell? ⟨b16,1,none⟩=some (.slice pv.ra pv.right.length pv.rc):=(cQa hSw.2).trans rfl;clear hSw;go_simp;try (with_reducible rfl))
      (try simp only [Act.put,List.setIfInBounds_toArray,List.set_cons_zero,List.set_cons_succ])
      refine wpAnyX_takeSV (i:=3) (v:=?_) rfl (by kernel_rfl) (by decide +kernel) (by decide +kernel) (fun _ _ _ h=>h) (Or.inl ⟨by rfl,?_⟩) (S8.out) ?_
      rotate_left
      ·(intro wq hSw;obtain ⟨z0,z1,z2⟩:=R0.out wq hSw.1;have z5:wq.cell? ⟨b16,1,none⟩=some (.slice pv.ra pv.right.length pv.rc):=(cQa hSw.2).trans rfl;clear hSw;go_simp;try (with_reducible rfl))
      (try simp only [Act.put,List.setIfInBounds_toArray,List.set_cons_zero,List.set_cons_succ])
      refine wpAnyX_takeSV (i:=4) (v:=?_) rfl (by kernel_rfl) (by decide +kernel) (by decide +kernel) (fun _ _ _ h=>h) (Or.inl ⟨by rfl,?_⟩) (S8.out) ?_
      rotate_left
      ·(intro wq hSw;obtain ⟨z0,z1,z2⟩:=R0.out wq hSw.1;have z5:wq.cell? ⟨b16,1,none⟩=some (.slice pv.ra pv.right.length pv.rc):=(cQa hSw.2).trans rfl;clear hSw;go_simp;try (with_reducible rfl))
      (try simp only [Act.put,List.setIfInBounds_toArray,List.set_cons_zero,List.set_cons_succ])
      refine wpAnyX_takeSV (i:=5) (v:=?_) rfl (by kernel_rfl) (by decide +kernel) (by decide +kernel) (fun _ _ _ h=>h) (Or.inl ⟨by rfl,?_⟩) (S8.out) ?_
      rotate_left
      ·(intro wq hSw;obtain ⟨z0,z1,z2⟩:=R0.out wq hSw.1;have z5:wq.cell? ⟨b16,1,none⟩=some (.slice pv.ra pv.right.length pv.rc):=(cQa hSw.2).trans rfl;clear hSw;go_simp;try (with_reducible rfl))
      (try simp only [Act.put,List.setIfInBounds_toArray,List.set_cons_zero,List.set_cons_succ])
      refine wpAnyX_takeSV (i:=6) (v:=?_) rfl (by kernel_rfl) (by decide +kernel) (by decide +kernel) (fun _ _ _ h=>h) (Or.inl ⟨by rfl,?_⟩) (S8.out) ?_
      rotate_left
      ·(intro wq hSw;obtain ⟨z0,z1,z2⟩:=R0.out wq hSw.1;have z5:wq.cell? ⟨b16,1,none⟩=some (.slice pv.ra pv.right.length pv.rc):=(cQa hSw.2).trans rfl;clear hSw;go_simp;try (with_reducible rfl))
      (try simp only [Act.put,List.setIfInBounds_toArray,List.set_cons_zero,List.set_cons_succ])
      refine wpAnyX_takeSV (i:=7) (v:=?_) rfl (by kernel_rfl) (by decide +kernel) (by decide +kernel) (fun _ _ _ h=>h) (Or.inl ⟨by rfl,?_⟩) (S8.out) ?_
      rotate_left
      ·(intro wq hSw;obtain ⟨z0,z1,z2⟩:=R0.out wq hSw.1;have z5:wq.cell? ⟨b16,1,none⟩=some (.slice pv.ra pv.right.length pv.rc):=(cQa hSw.2).trans rfl;clear hSw;go_simp;try (with_reducible rfl))
      (try simp only [Act.put,List.setIfInBounds_toArray,List.set_cons_zero,List.set_cons_succ])
      refine wpAnyX_takeSV (i:=8) (v:=?_) rfl (by kernel_rfl) (by decide +kernel) (by decide +kernel) (fun _ _ _ h=>h) (Or.inl ⟨by rfl,?_⟩) (S8.out) ?_
      rotate_left
      ·(intro wq hSw;obtain ⟨z0,z1,z2⟩:=R0.out wq hSw.1;have z5:wq.cell? ⟨b16,1,none⟩=some (.slice pv.ra pv.right.length pv.rc):=(cQa hSw.2).trans rfl;clear hSw;go_simp;try (with_reducible rfl))
      (try simp only [Act.put,List.setIfInBounds_toArray,List.set_cons_zero,List.set_cons_succ])
      refine wX1 (j:=9) (by decide +kernel) rfl (fun K' hK=>?_)
      go_simp
      have B9:Hid (Below we.heap.size we (we.alloc (.cells #[.int .i64 (n:Int),.int .i64 0,.string ⟨#[]⟩,.int .i64 (pv.right.length:Int)] 128))/\(we.alloc (.cells #[.int .i64 (n:Int),.int .i64 0,.string ⟨#[]⟩,.int .i64 (pv.right.length:Int)] 128)).heap[we.heap.size]?=some (.cells #[.int .i64 (n:Int),.int .i64 0,.string ⟨#[]⟩,.int .i64 ((rgP g (n:Int)).length:Int)] 128)):=⟨bAl _ _,by rw [RGP.out.1];exact heap_alloc_new _ _⟩
      refine hK.out _ _ ⟨S8.out.1.trans (B9.out.1.mono S8.out.1.size),(B9.out.1.block _ (lt_of_block S8.out.2)).trans S8.out.2⟩ ?_
      clear hK K'
      generalize we.alloc (.cells #[.int .i64 (n:Int),.int .i64 0,.string ⟨#[]⟩,.int .i64 (pv.right.length:Int)] 128)=w8 at *
      generalize hbe:we.heap.size=be at B9
      have NC:Hid (∀ j u,(flCells (spP g (n:Int)))[j]?=some u->w8.cell? ⟨be,j,none⟩=some u):=fl_prod B9.out.2
      have BE:Hid (Below we.heap.size we w8):=by rw [hbe];exact B9.out.1
      have LN:Hid (F.length<=1000000000):=by have h1:=HFL.out;have h2:=HUL.out;have h3:=HZ.out;show _<=_;omega
      try rw [hbe]
      clear hbe
      (try simp only [Act.put,List.setIfInBounds_toArray,List.set_cons_zero,List.set_cons_succ])
      refine wX1 (j:=10) (by decide +kernel) rfl (fun K' hK=>?_)
      refine step_ro_append rkFlat (by rfl) _ _ (by rfl) (.slice fa fl fc) F (by rfl) (H8.out.1.o.later BE.out) be 1 (spP g (n:Int)) (by rfl) NC.out LN.out ?_
      intro a9 n9 c9 w9 ho9 hg9
      have T9:Hid (TwD w1 (F++[spP g (n:Int)]) T.reverse (.slice a9 n9 c9) (.slice (some ⟨nb,0,none⟩) tm nc) w9/\w9.heap[b16]?=some (prBox pv)):=by
       have h16:w8.heap[b16]?=some (prBox pv):=(BE.out.block _ (lt_of_block H8.out.2)).trans H8.out.2
       exact ⟨H8.out.1.out BE.out hg9 ho9,(hg9.grown.block _ (lt_of_block h16) fun e=>ro_apart (H8.out.1.o.later BE.out) h16 (by decide) e.symm).trans h16⟩
      refine hK.out _ _ ⟨T9.out.1.bel,T9.out.2⟩ ?_
      clear hK K' ho9 hg9 NC LN BE B9 H8 S8
      (try simp only [Act.put,List.setIfInBounds_toArray,List.set_cons_zero,List.set_cons_succ])
      refine wX1 (j:=11) (by decide +kernel) rfl (fun K' hK=>?_)
      go_simp
      refine hK.out _ _ ⟨T9.out.1.bel,T9.out.2⟩ ?_
      clear hK K'
      (try simp only [Act.put,List.setIfInBounds_toArray,List.set_cons_zero,List.set_cons_succ])
      refine wXd (by decide +kernel) ?_
      have q0:w9.cell? ⟨b16,1,none⟩=some (.slice pv.ra pv.right.length pv.rc):=(cQa T9.out.2).trans rfl
      have o5:IntKind.i64.wrap ((pv.right.length:Int) - 1)=(pv.right.length:Int) - 1:=IntWalk.i64_in _ ⟨by omega,by have:=HRL.out;omega⟩
      go_upto_region 22 with fail
      clear q0 o5
      go_loopw [12,17] (fun vn z wq=>∃ j:Nat,j<=pv.right.length/\z=.int .i64 ((j:Int) - 1)/\TwD w1 (F++[spP g (n:Int)]) (T.reverse++(pv.right.drop j).reverse) (.slice a9 n9 c9) vn wq/\wq.heap[b16]?=some (prBox pv)) (fun _ z _=>(intOf z+1).toNat)
      case atStart=>exact ⟨pv.right.length,Nat.le_refl _,by go_num,by rw [List.drop_length,List.reverse_nil,List.append_nil];exact T9.out.1,T9.out.2⟩
      case round =>
       clear T9
       obtain ⟨j,hj,rfl,hT,hb⟩:=hrel
       obtain ⟨va,vc,rfl,_⟩:=RO.len hT.s
       rcases Nat.eq_zero_or_pos j with rfl | hpos
       ·rw [List.drop_zero] at hT
        have TT:Hid (TwD w1 (F++[spP g (n:Int)]) (pv.right++T).reverse (.slice a9 n9 c9) (.slice va (T.reverse++pv.right.reverse).length vc) wr):=by rw [List.reverse_append];exact hT
        have o6:IntKind.i64.wrap ((x.u:Int)+1)=(x.u:Int)+1:=IntWalk.i64_in _ ⟨by omega,by have h2:=HUL.out;have h3:=HZ.out;omega⟩
        clear hT hj hb
        rw [List.drop_zero]
        generalize (T.reverse++pv.right.reverse).length=vl at *
        go_wp2
        obtain ⟨y,yu,yr,hy,hdy⟩:=NX.out
        go_roundg (gk - 1)
        case measure=>have h1:=HP.out.2.2.2.2.2;have h2:=HUL.out;omega
        case rel =>
         have h1:=HP.out.2.2.2.2
         have h2:=HUL.out
         have h4:=HRL.out
         exact ⟨y,pv.right++T,F++[spP g (n:Int)],m',by rw [yu];go_num,by rw [yr],TT.out,hy,hdy,by rw [yu,List.length_append];omega,by rw [yu,yr];omega⟩
       ·obtain ⟨m,rfl⟩:∃ m,j=m+1:=⟨j - 1,by omega⟩
        have hlt:m < pv.right.length:=by omega
        obtain ⟨rb,ro,hra,-,hc⟩:=(R0.out _ hT.bel).2.2.2.2.2 (by intro e;rw [e] at hlt;simp at hlt)
        obtain ⟨y0,y1⟩:=hc m hlt
        have hdr:=drop_revV (T:=T.reverse) hlt
        obtain ⟨k1,k2,hkk⟩:∃ k1 k2,pv.right.getD m (0,0)=(k1,k2):=⟨_,_,rfl⟩
        rw [hkk] at y0 y1 hdr
        dsimp only at y0 y1
        have q0:wr.cell? ⟨b16,1,none⟩=some (.slice pv.ra pv.right.length pv.rc):=(cQa hb).trans rfl
        rw [hra] at q0
        have HT:Hid (TwD w1 (F++[spP g (n:Int)]) (T.reverse++(pv.right.drop (m+1)).reverse) (.slice a9 n9 c9) (.slice va (T.reverse++(pv.right.drop (m+1)).reverse).length vc) wr/\wr.heap[b16]?=some (prBox pv)):=⟨hT,hb⟩
        have HDR:Hid (T.reverse++(pv.right.drop m).reverse=(T.reverse++(pv.right.drop (m+1)).reverse)++[(k1,k2)]):=hdr
        have NC:Hid (∀ j u,(syC (k1,k2))[j]?=some u->(wr.alloc (symBox (k1,k2))).cell? ⟨wr.heap.size,j,none⟩=some u):=fun j u hu=>by
         rw [cQa (heap_alloc_new wr (symBox (k1,k2))),<- Array.getElem?_toList]
         exact hu
        have LN:Hid ((T.reverse++(pv.right.drop (m+1)).reverse).length<=8000000000000):=by
         have h1:=HTM.out
         have h2:=HRL.out
         show _<=_
         simp only [List.length_append,List.length_reverse,List.length_drop]
         omega
        have g4:(m:Int) < (pv.right.length:Int):=by omega
        have e0:((m+1:Nat):Int) - 1=(m:Int):=by omega
        rw [e0]
        have o2:IntKind.i64.wrap ((m:Int) - 1)=(m:Int) - 1:=IntWalk.i64_in _ ⟨by omega,by have:=HRL.out;omega⟩
        have NA:Hid ((T.reverse++(pv.right.drop (m+1)).reverse).length=(T.reverse++(pv.right.drop (m+1)).reverse).length):=rfl
        clear hT hb hc hj hpos e0 hdr hkk hra
        generalize T.reverse++(pv.right.drop (m+1)).reverse=D at *
        have H6o:Hid (SYo (wr.alloc (symBox (k1,k2))) (.slice va D.length vc) D):=HT.out.1.s.later (bAl _ _)
        obtain ⟨dl,hdl⟩:∃ dl,D.length=dl:=⟨_,rfl⟩
        rw [hdl] at H6o HT ⊢
        clear hdl NA
        have APP:Hid (∀ a7 n7 c7 w8,SYo w8 (.slice a7 n7 c7) (D++[(k1,k2)])->Grew (wr.alloc (symBox (k1,k2))) w8 (.slice va dl vc) (.slice a7 n7 c7)->TwD w1 (F++[spP g (n:Int)]) (D++[(k1,k2)]) (.slice a9 n9 c9) (.slice a7 n7 c7) w8/\w8.heap[b16]?=some (prBox pv)):=fun a7 n7 c7 w8 ho hg=>by
         have h16:(wr.alloc (symBox (k1,k2))).heap[b16]?=some (prBox pv):=((bAl wr _).block _ (lt_of_block HT.out.2)).trans HT.out.2
         exact ⟨HT.out.1.push (bAl _ _) hg ho,(hg.grown.block _ (lt_of_block h16) fun e=>ro_apart H6o.out h16 (by decide) e.symm).trans h16⟩
        go_wp2_with (at_builtin;refine wpList_sy_appendB rfl _ _ rfl (.slice va dl vc) D rfl H6o.out wr.heap.size 1 (k1,k2) rfl NC.out LN.out ?_;intro a7 n7 c7 w8 ho7 hg7;have T8:Hid (TwD w1 (F++[spP g (n:Int)]) (D++[(k1,k2)]) (.slice a9 n9 c9) (.slice a7 n7 c7) w8/\w8.heap[b16]?=some (prBox pv)):=APP.out _ _ _ _ ho7 hg7;clear ho7 hg7 y0 y1 q0)
        go_roundw
        case rel=>exact ⟨m,by omega,by go_num,by rw [HDR.out];exact T8.out.1,T8.out.2⟩
        case measure=>simp [intOf]
     ·have t2:(pv.left != s2)=true:=by simpa using hk
      have hst:stepU g l L x=.inl (81,(x.u:Int)):=by
       unfold stepU
       rw [HP.out.2.2.2.1]
       dsimp only
       rw [if_neg h1,if_neg (by omega)]
       refine if_neg ?_
       rw [hn]
       show ¬ lfP g (n:Int)=s2
       rw [RGP.out.2]
       exact hk
      have hres:=HP.out.2.1.fault HP.out.2.2.1 hst
      rw [HU2.out] at hres
      have RES:Hid (u.1=none/\u.2.1=81/\u.2.2=(x.u:Int)):=by show _/\_/\_;rw [hres];exact ⟨rfl,rfl,rfl⟩
      clear hst
      obtain ⟨z1,z2,z3⟩:=NO.out w7 H7.out.1.bel
      clear hk H7 g1 h1 hn hnl hu r1 R0 RGP LB
      have F3:Hid (TBx (set4 w7 (w.heap.size+1) 0 .none) (w.heap.size+1) 0 .none/\Below w.heap.size w (set4 w7 (w.heap.size+1) 0 .none)):=⟨z2,z3⟩
      obtain ⟨d0,d1,d2,d3,f0,f1,f2,f3⟩:=z_cells z1
      clear hres z1 z2 z3 HI HU2 RP RL RG RS HNE HZ OK FN NO RD X0 BB HP HTM HFL HUL
      go_wp2
      change bodyPost _ _ _ _ _ (set4 w7 (w.heap.size+1) 0 .none)
      generalize set4 w7 (w.heap.size+1) 0 .none=w4 at *
      have y0:=F3.out.1.c0
      have y1:=F3.out.1.c1
      have y2:=F3.out.1.c2
      have y3:=F3.out.1.c3
      simp only [Nat.zero_add] at y1 y2 y3
      refine bodyPost_ret (v:=.tuple #[TV.none.val,.int .i64 81,.int .i64 (x.u:Int)]) (by simp [results,Tryz.results31,go_sem,y0,y1,y2,y3]) rfl ?_
      obtain ⟨TT',q1,q2,q3⟩:=UU.out u w4 RES.out.1
      rw [RES.out.2.1,RES.out.2.2] at q3
      exact ⟨TT',q1,q2,by rw [q3],F3.out.2⟩
    ·have hst:stepU g l L x=.inl (11,(l.length:Int)):=by
      unfold stepU
      rw [HP.out.2.2.2.1]
      dsimp only
      have e:x.u=l.length:=by have:=HUL.out;omega
      rw [if_neg h1,if_pos e,e]
     have hres:=HP.out.2.1.fault HP.out.2.2.1 hst
     rw [HU2.out] at hres
     have RES:Hid (u.1=none/\u.2.1=11/\u.2.2=(l.length:Int)):=by show _/\_/\_;rw [hres];exact ⟨rfl,rfl,rfl⟩
     clear hst
     obtain ⟨z1,z2,z3⟩:=NO.out w5 H5.out.1.bel
     clear H5 h1
     have F3:Hid (TBx (set4 w5 (w.heap.size+1) 0 .none) (w.heap.size+1) 0 .none/\Below w.heap.size w (set4 w5 (w.heap.size+1) 0 .none)):=⟨z2,z3⟩
     obtain ⟨d0,d1,d2,d3,f0,f1,f2,f3⟩:=z_cells z1
     clear hres z1 z2 z3 HI HU2 RP RL RG RS HNE HZ OK FN NO RD X0 BB HP HTM HFL HUL
     go_wp2
     change bodyPost _ _ _ _ _ (set4 w5 (w.heap.size+1) 0 .none)
     generalize set4 w5 (w.heap.size+1) 0 .none=w4 at *
     have y0:=F3.out.1.c0
     have y1:=F3.out.1.c1
     have y2:=F3.out.1.c2
     have y3:=F3.out.1.c3
     simp only [Nat.zero_add] at y1 y2 y3
     refine bodyPost_ret (v:=.tuple #[TV.none.val,.int .i64 11,.int .i64 (l.length:Int)]) (by simp [results,Tryz.results31,go_sem,y0,y1,y2,y3]) rfl ?_
     obtain ⟨TT',q1,q2,q3⟩:=UU.out u w4 RES.out.1
     rw [RES.out.2.1,RES.out.2.2] at q3
     exact ⟨TT',q1,q2,by rw [q3],F3.out.2⟩
 ·have t1:(c1 != 0)=true:=by simpa using h0
  have RES:Hid (u=(none,c1,c2)):=by show _=_;rw [<- HU.out];unfold fromU;rw [if_pos h0]
  obtain ⟨z1,z2,z3⟩:=NO.out w2 H2.out
  have F3:Hid (TBx (set4 w2 (w.heap.size+1) 0 .none) (w.heap.size+1) 0 .none/\Below w.heap.size w (set4 w2 (w.heap.size+1) 0 .none)):=⟨z2,z3⟩
  obtain ⟨d0,d1,d2,d3,f0,f1,f2,f3⟩:=z_cells z1
  clear z1 z2 z3 h0
  go_wp2
  change bodyPost _ _ _ _ _ (set4 w2 (w.heap.size+1) 0 .none)
  generalize set4 w2 (w.heap.size+1) 0 .none=w4 at *
  have y0:=F3.out.1.c0
  have y1:=F3.out.1.c1
  have y2:=F3.out.1.c2
  have y3:=F3.out.1.c3
  simp only [Nat.zero_add] at y1 y2 y3
  refine bodyPost_ret (v:=.tuple #[TV.none.val,.int .i64 c1,.int .i64 c2]) (by simp [results,Tryz.results31,go_sem,y0,y1,y2,y3]) rfl ?_
  obtain ⟨T,q1,q2,q3⟩:=UU.out u w4 (by rw [RES.out])
  rw [RES.out] at q3
  rw [RES.out]
  rw [RES.out] at q1
  exact ⟨T,q1,q2,by rw [q3],F3.out.2⟩
end Go.Proofs.YteciabdjkaackaaGreat
