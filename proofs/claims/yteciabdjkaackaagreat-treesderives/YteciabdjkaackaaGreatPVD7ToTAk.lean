import Derived.Test.YteciabdjkaackaaGreatPVD6
import Derived.Test.YteciabdjkaackaaGreatPVD2
import Derived.Test.YteciabdjkaackaaGreatPVD4
namespace Go.Proofs.YteciabdjkaackaaGreat
set_option linter.unusedVariables false
open Go.RowKit
set_option linter.unusedSimpArgs false in
set_option maxRecDepth 100000 in
set_option maxHeartbeats 8000000 in
theorem derives_walk (g:GV)(pa wa:Option Addr)(pc wc:Nat)(l:List Int)(L:List (Int×ByteArray))(w:World)(hg:GAt 1048576 w g)(hpc:g.ps.length<=g.pc)(hli:InRow w pa l)(hLi:TkRow w wa L)(hb:l.length<=1048576)(hB:L.length<=1048576) :
  Calls Tryz.prog 4 #[g.val,.slice pa l.length pc,.slice wa L.length wc] w fun e w'=>e=.returned (.bool true)/\Below w.heap.size w w':=by
 obtain ⟨er,at_,hE⟩:∃ er at_,cG_ g (cF_ g.ts g.ns)=(er,at_):=⟨_,_,rfl⟩
 have HE:Hid (cG_ g (cF_ g.ts g.ns)=(er,at_)):=hE
 have e2:(w.alloc (gBox g)).heap.size=w.heap.size+1:=by simp
 have H0:Hid (HG (w.heap.size+1) (w.alloc (gBox g)) ((w.alloc (gBox g)).alloc gvBoxT) (w.heap.size+1) (fun _=>hNil) (fun _=>[]) 0 0 0):=by
  have:=hg_newT _ (w.alloc (gBox g)) (w.alloc (gBox g)) (Below.refl _ _) (Nat.le_refl _)
  rw [e2] at this
  exact this
 have B0:Hid (∀ wr,Below (w.heap.size+1) (w.alloc (gBox g)) wr->Below w.heap.size w wr/\wr.heap[w.heap.size]?=some (gBox g)):=fun wr b1=>by
  exact ⟨(bAl w _).trans (b1.mono (by omega)),blk_later (heap_alloc_new w (gBox g)) (by rw [e2];exact b1)⟩
 have BG:Hid (Below (w.heap.size+1) (w.alloc (gBox g)) ((w.alloc (gBox g)).alloc gvBoxT)):=by
  have b1:=bAl (w.alloc (gBox g)) gvBoxT
  rwa [e2] at b1
 have HA:Hid (∀ wr,Below w.heap.size w wr->GAt 1048576 wr g/\InRow wr pa l/\TkRow wr wa L):=fun wr hb=>⟨hg.later hb,hli.later hb,hLi.later hb⟩
 have HFI:Hid (GFine g):=GAt.fine hg
 have HL:Hid (l.length<=1048576/\L.length<=1048576/\g.ps.length<=g.pc):=⟨hb,hB,hpc⟩
 have kb:=fun (wr:World) (h:wr.heap[w.heap.size]?=some (gBox g))=>gbx_cells h
 obtain ⟨x0,x1,x2,x3,x4⟩:=gbx_cells (B0.out _ BG.out).2
 clear hg hpc hli hLi hb hB hE e2 kb
 go_enter Tryz.func4,Tryz.ntmps4
 go_upto_region 3 with (first
  | (go_at_call 25;refine (hg_gram H0.out (by omega) (by omega) (by omega) g HFI.out (fun wr hb=>((HA.out wr (B0.out wr (BG.out.trans hb)).1).1).mono (by omega))).mono ?_;rintro e w1 ⟨x,rfl,hs,hx,ho⟩;obtain ⟨V1,E1,k1⟩:=ho.ex;have SX:Hid (SameG g x):=hs;have A1:Hid (GX w1 x/\HG (w.heap.size+1) (w.alloc (gBox g)) w1 (w.heap.size+1) V1 E1 (0+g.ls.length) (0+2) (0+g.ps.length)/\Below w.heap.size w w1):=⟨hx,k1,(B0.out w1 k1.bel).1⟩;clear hs hx ho k1 x0 x1 x2 x3 x4)
  | (go_at_call 26;refine (hg_int A1.out.2.1 (by have:=HFI.out.ll;omega) pa pc l (by have:=HL.out.1;omega) (HA.out _ A1.out.2.2).2.1).mono ?_;rintro e w2 ⟨rfl,ho,nb⟩;obtain ⟨V2,E2,k2⟩:=ho.ex;have A2:Hid (GX w2 x/\HG (w.heap.size+1) (w.alloc (gBox g)) w2 (w.heap.size+1) V2 E2 (0+g.ls.length+1) (0+2) (0+g.ps.length)/\Below w.heap.size w w2/\NB w2 w1.heap.size l):=⟨A1.out.1.oth ho.oth,k2,(B0.out w2 k2.bel).1,nb⟩;clear ho k2 nb)
  | (go_at_call 27;refine (hg_tok A2.out.2.1 wa wc L (by have:=HL.out.2.1;omega) (HA.out _ A2.out.2.2.1).2.2).mono ?_;rintro e w3 ⟨rfl,hgt,htk,hsz,hkp⟩;have A3:Hid (GX w3 x/\HGT (w.heap.size+1) (w.alloc (gBox g)) (w.heap.size+1) (0+g.ls.length+1) (0+2) (0+g.ps.length) 1 w3/\NB w3 w1.heap.size l/\TkRow w3 (some ⟨w2.heap.size,0,none⟩) L):=⟨A2.out.1.tok hkp,hgt,A2.out.2.2.2.tok hkp,htk⟩;clear hgt htk hsz hkp))
 have HXC:Hid (x.ps.length<=x.pc/\cG_ x (cF_ x.ts x.ns)=(er,at_)):=by
  have h0:=B0.out _ A3.out.2.1.bel
  exact ⟨(A3.out.1.at SX.out ((HA.out _ h0.1).1)).2,by rw [same_checkV SX.out];exact HE.out⟩
 obtain ⟨i1,hi1⟩:∃ i,w1.heap.size=i:=⟨_,rfl⟩
 obtain ⟨i2,hi2⟩:∃ i,w2.heap.size=i:=⟨_,rfl⟩
 obtain ⟨n1,hn1⟩:∃ n,0+g.ls.length+1=n:=⟨_,rfl⟩
 obtain ⟨n4,hn4⟩:∃ n,0+g.ps.length=n:=⟨_,rfl⟩
 have HNN:Hid (n1<=5864062014720/\n4<=5864062014720):=⟨by have:=HFI.out.ll;omega,by have:=HFI.out.pl;omega⟩
 have D3:Hid (DvW w g x l L w3.heap.size i1 i2 n1 (0+2) n4 [] (w3.alloc (gBox x))):=by
  have hb:=bAl w3 (gBox x)
  have h0:=B0.out _ A3.out.2.1.bel
  obtain ⟨q1,-⟩:=(A3.out.1.later hb).at SX.out ((HA.out _ h0.1).1)
  have h5:=A3.out.2
  rw [hi1,hi2,hn1,hn4] at h5
  exact ⟨h0.1.trans (hb.mono h0.1.size),blk_later h0.2 hb,heap_alloc_new _ _,h5.1.later hb,q1.mono (by omega),h5.2.1.row.later hb,h5.2.2.later hb,fun y hy=>by cases hy⟩
 rw [hi1,hi2]
 clear A1 A2 A3 H0 BG HFI hi1 hi2 hn1 hn4
 generalize w3.alloc (gBox x)=W3 at *
 generalize w3.heap.size=bx at *
 obtain ⟨t1,e1,f1,hU1⟩:∃ t1 e1 f1,anT (fromU (cpU er g.ps.length l) (deriveU g l L))=(t1,e1,f1):=⟨_,_,_,rfl⟩
 obtain ⟨t2,e2,f2,hU2⟩:∃ t2 e2 f2,anT (fromU (cpU er g.ps.length l) (mirU g l L))=(t2,e2,f2):=⟨_,_,_,rfl⟩
 have HSZ:Hid (szT t1<=100000000/\szT t2<=100000000):=by
  have q1:=sz_left HE.out HL.out.1 HL.out.2.1
  have q2:=sz_right HE.out HL.out.1 HL.out.2.1
  rw [hU1] at q1
  rw [hU2] at q2
  exact ⟨q1,q2⟩
 have HNO:Hid (er≠0->(t1=TV.none/\e1=er/\f1=0)/\(t2=TV.none/\e2=er/\f2=0)):=fun h=>by
  have hc:cpU er g.ps.length l=(er,0):=by unfold cpU;rw [if_pos h]
  rw [hc] at hU1 hU2
  have hf:∀ u,fromU (er,0) u=(none,er,0):=fun u=>by unfold fromU;rw [if_pos h]
  rw [hf] at hU1 hU2
  simp only [anT,Prod.mk.injEq] at hU1 hU2
  exact ⟨⟨hU1.1.symm,hU1.2.1.symm,hU1.2.2.symm⟩,⟨hU2.1.symm,hU2.2.1.symm,hU2.2.2.symm⟩⟩
 have CL1:Hid (∀ Ts w',DvW w g x l L bx i1 i2 n1 (0+2) n4 Ts w'->Calls Tryz.prog 28 #[x.val,.slice (some ⟨i1,0,none⟩) l.length (l.length+3),.slice (some ⟨i2,0,none⟩) L.length (L.length+3)] w' fun e w''=>∃ T,e=.returned (.tuple #[T.val,.int .i64 e1,.int .i64 f1])/\samV T t1/\TAt w'' T/\DvW w g x l L bx i1 i2 n1 (0+2) n4 Ts w''):=fun Ts w' h=>(FromLeft_W h.gx HXC.out.1 er at_ HXC.out.2 h.r1 h.r2 HL.out.1 HL.out.2.1).mono fun e w'' ⟨q1,q2⟩=>by
  rw [same_lenV SX.out,derive_gr SX.out] at q2
  obtain ⟨T,a,b,c⟩:=ansE_T q2
  rw [hU1] at a c
  exact ⟨T,c,a,b.ta,h.later q1⟩
 have CL2:Hid (∀ Ts w',DvW w g x l L bx i1 i2 n1 (0+2) n4 Ts w'->Calls Tryz.prog 29 #[x.val,.slice (some ⟨i1,0,none⟩) l.length (l.length+3),.slice (some ⟨i2,0,none⟩) L.length (L.length+3)] w' fun e w''=>∃ T,e=.returned (.tuple #[T.val,.int .i64 e2,.int .i64 f2])/\samV T t2/\TAt w'' T/\DvW w g x l L bx i1 i2 n1 (0+2) n4 Ts w''):=fun Ts w' h=>(FromRight_W h.gx HXC.out.1 er at_ HXC.out.2 h.r1 h.r2 HL.out.1 HL.out.2.1).mono fun e w'' ⟨q1,q2⟩=>by
  rw [same_lenV SX.out,same_mirV (sameG_revV SX.out)] at q2
  obtain ⟨T,a,b,c⟩:=ansE_T q2
  rw [hU2] at a c
  exact ⟨T,c,a,b.ta,h.later q1⟩
 have CR1:Hid (er=0->∀ Ts w',DvW w g x l L bx i1 i2 n1 (0+2) n4 Ts w'->Calls Tryz.prog 31 #[g.val,.slice pa l.length pc,.slice wa L.length wc] w' fun e w''=>∃ T,e=.returned (.tuple #[T.val,.int .i64 e1,.int .i64 f1])/\samV T t1/\TAt w'' T/\DvW w g x l L bx i1 i2 n1 (0+2) n4 Ts w''):=fun h0 Ts w' h=>by
  have hE:=HE.out
  subst h0
  obtain ⟨a1,a2,a3⟩:=HA.out _ h.bel
  refine (rFromLeft_S (OkC.of (by rw [hE])) a1 a2 a3 HL.out.1 HL.out.2.1).mono ?_
  rintro e w'' ⟨T,q1,q2,rfl,q4⟩
  rw [hU1] at q1 ⊢
  exact ⟨T,rfl,q1,q2,h.later q4⟩
 have CR2:Hid (er=0->∀ Ts w',DvW w g x l L bx i1 i2 n1 (0+2) n4 Ts w'->Calls Tryz.prog 32 #[g.val,.slice pa l.length pc,.slice wa L.length wc] w' fun e w''=>∃ T,e=.returned (.tuple #[T.val,.int .i64 e2,.int .i64 f2])/\samV T t2/\TAt w'' T/\DvW w g x l L bx i1 i2 n1 (0+2) n4 Ts w''):=fun h0 Ts w' h=>by
  have hE:=HE.out
  subst h0
  obtain ⟨a1,a2,a3⟩:=HA.out _ h.bel
  refine (rFromRight_S (okc_revV hE) a1 a2 a3 HL.out.1 HL.out.2.1).mono ?_
  rintro e w'' ⟨T,q1,q2,rfl,q4⟩
  rw [hU2] at q1 ⊢
  exact ⟨T,rfl,q1,q2,h.later q4⟩
 have CM:Hid (∀ Ts w',DvW w g x l L bx i1 i2 n1 (0+2) n4 Ts w'->Calls Tryz.prog 30 #[g.val] w' fun e w''=>e=.returned (.int .i64 er)/\DvW w g x l L bx i1 i2 n1 (0+2) n4 Ts w''):=fun Ts w' h=>(refmay_G g w' ((HA.out _ h.bel).1.mono (by omega))).mono fun e w'' ⟨q1,q2⟩=>⟨by rw [q1,HE.out],h.later q2⟩
 have CI:Hid (∀ Ts w',DvW w g x l L bx i1 i2 n1 (0+2) n4 Ts w'->Calls Tryz.prog 23 #[.pointer (some ⟨w.heap.size+1,0,none⟩)] w' fun e w''=>e=.returned (.bool true)/\DvW w g x l L bx i1 i2 n1 (0+2) n4 Ts w''):=fun Ts w' h=>(h.gt.intact HNN.out.1 (by omega) HNN.out.2 (by omega)).mono fun e w'' ⟨q1,q2⟩=>⟨q1,h.later q2⟩
 have CW:Hid (∀ Ts w',DvW w g x l L bx i1 i2 n1 (0+2) n4 Ts w'->Calls Tryz.prog 24 #[] w' fun e w''=>e=.returned (.bool true)/\DvW w g x l L bx i1 i2 n1 (0+2) n4 Ts w''):=fun Ts w' h=>(works_W w').mono fun e w'' ⟨q1,q2⟩=>⟨q1,h.later q2⟩
 have CS:Hid (∀ Ts w' A B,DvW w g x l L bx i1 i2 n1 (0+2) n4 Ts w'->TAt w' A->TAt w' B->samV A B->szT A<=100000000->Calls Tryz.prog 13 #[A.val,B.val] w' fun e w''=>e=.returned (.bool true)/\DvW w g x l L bx i1 i2 n1 (0+2) n4 Ts w''):=fun Ts w' A B h ha hb hs hz=>(sameTree_W A B w' ha hb hs hz).mono fun e w'' ⟨q1,q2⟩=>⟨q1,h.later q2⟩
 clear hU1 hU2
 obtain ⟨x0,x1,x2,x3,x4⟩:=gbx_cells D3.out.bxx
 go_upto_region 4 with (go_at_call 28;refine (CL1.out _ _ D3.out).mono ?_;rintro e w4 ⟨T1,rfl,s1,ta,dd⟩;have D4:Hid (samV T1 t1/\DvW w g x l L bx i1 i2 n1 (0+2) n4 [(w4.heap.size,T1)] (w4.alloc (tBox T1))):=⟨s1,dd.add ta⟩;clear s1 ta dd x0 x1 x2 x3 x4)
 clear D3
 generalize w4.alloc (tBox T1)=W4 at *
 generalize w4.heap.size=b1 at *
 obtain ⟨x0,x1,x2,x3,x4⟩:=gbx_cells D4.out.2.bxx
 go_upto_region 5 with (go_at_call 29;refine (CL2.out _ _ D4.out.2).mono ?_;rintro e w5 ⟨T2,rfl,s2,ta,dd⟩;have D5:Hid (samV T2 t2/\DvW w g x l L bx i1 i2 n1 (0+2) n4 [(w5.heap.size,T2),(b1,T1)] (w5.alloc (tBox T2))):=⟨s2,dd.add ta⟩;clear s2 ta dd x0 x1 x2 x3 x4)
 have S1:Hid (samV T1 t1):=D4.out.1
 have S2:Hid (samV T2 t2):=D5.out.1
 have E5:Hid (DvW w g x l L bx i1 i2 n1 (0+2) n4 [(w5.heap.size,T2),(b1,T1)] (w5.alloc (tBox T2))):=D5.out.2
 clear D4 D5
 generalize w5.alloc (tBox T2)=W5 at *
 generalize w5.heap.size=b2 at *
 obtain ⟨x0,x1,x2,x3,x4⟩:=gbx_cells E5.out.box
 go_upto_region 6 with (go_at_call 30;refine (CM.out _ _ E5.out).mono ?_;rintro e w6 ⟨rfl,dd⟩;have E6:Hid (DvW w g x l L bx i1 i2 n1 (0+2) n4 [(b2,T2),(b1,T1)] w6):=dd;clear dd x0 x1 x2 x3 x4)
 clear E5 CL1 CL2 CM
 go_upto_region 8 with (first | (go_at_call 23;refine (CI.out _ _ E6.out).mono ?_;rintro e w7 ⟨rfl,dd⟩;have E7:Hid (DvW w g x l L bx i1 i2 n1 (0+2) n4 [(b2,T2),(b1,T1)] w7):=dd;clear dd) | (go_at_call 24;refine (CW.out _ _ E7.out).mono ?_;rintro e w8 ⟨rfl,dd⟩;have E8:Hid (DvW w g x l L bx i1 i2 n1 (0+2) n4 [(b2,T2),(b1,T1)] w8):=dd;clear dd))
 clear E6 E7 CI CW
 by_cases h0:er=0
 ·have CQ1:Hid _:=CR1.out h0
  have CQ2:Hid _:=CR2.out h0
  clear CR1 CR2
  subst h0
  have t1':((0:Int) != 0)=false:=by decide
  obtain ⟨x0,x1,x2,x3,x4⟩:=gbx_cells E8.out.box
  go_upto_region 11 with (go_at_call 31;refine (CQ1.out _ _ E8.out).mono ?_;rintro e w9 ⟨T3,rfl,s3,ta,dd⟩;have D9:Hid (samV T3 t1/\DvW w g x l L bx i1 i2 n1 (0+2) n4 [(w9.heap.size,T3),(b2,T2),(b1,T1)] (w9.alloc (tBox T3))):=⟨s3,dd.add ta⟩;clear s3 ta dd x0 x1 x2 x3 x4)
  clear E8
  generalize w9.alloc (tBox T3)=W9 at *
  generalize w9.heap.size=b3 at *
  obtain ⟨x0,x1,x2,x3,x4⟩:=gbx_cells D9.out.2.box
  go_upto_region 12 with (go_at_call 32;refine (CQ2.out _ _ D9.out.2).mono ?_;rintro e wA ⟨T4,rfl,s4,ta,dd⟩;have DA:Hid (samV T4 t2/\DvW w g x l L bx i1 i2 n1 (0+2) n4 [(wA.heap.size,T4),(b3,T3),(b2,T2),(b1,T1)] (wA.alloc (tBox T4))):=⟨s4,dd.add ta⟩;clear s4 ta dd x0 x1 x2 x3 x4)
  have S3:Hid (samV T3 t1):=D9.out.1
  have S4:Hid (samV T4 t2):=DA.out.1
  have EA:Hid (DvW w g x l L bx i1 i2 n1 (0+2) n4 [(wA.heap.size,T4),(b3,T3),(b2,T2),(b1,T1)] (wA.alloc (tBox T4))):=DA.out.2
  clear D9 DA CQ1 CQ2
  generalize wA.alloc (tBox T4)=WA at *
  generalize wA.heap.size=b4 at *
  have CA:Hid (Calls Tryz.prog 13 #[T1.val,T3.val] WA fun e w''=>e=.returned (.bool true)/\DvW w g x l L bx i1 i2 n1 (0+2) n4 [(b4,T4),(b3,T3),(b2,T2),(b1,T1)] w''):=CS.out _ _ _ _ EA.out (EA.out.env (b1,T1) (by simp)).2 (EA.out.env (b3,T3) (by simp)).2 (samV_trans _ _ _ S1.out (samV_symm _ _ S3.out)) (by rw [samV_size _ _ S1.out];exact HSZ.out.1)
  have CB:Hid (∀ WB,DvW w g x l L bx i1 i2 n1 (0+2) n4 [(b4,T4),(b3,T3),(b2,T2),(b1,T1)] WB->Calls Tryz.prog 13 #[T2.val,T4.val] WB fun e w''=>e=.returned (.bool true)/\DvW w g x l L bx i1 i2 n1 (0+2) n4 [(b4,T4),(b3,T3),(b2,T2),(b1,T1)] w''):=fun WB h=>CS.out _ _ _ _ h (h.env (b2,T2) (by simp)).2 (h.env (b4,T4) (by simp)).2 (samV_trans _ _ _ S2.out (samV_symm _ _ S4.out)) (by rw [samV_size _ _ S2.out];exact HSZ.out.2)
  obtain ⟨c0,c1,c2,c3⟩:=tb_cells (EA.out.env (b1,T1) (by simp)).1
  obtain ⟨d0,d1,d2,d3⟩:=tb_cells (EA.out.env (b3,T3) (by simp)).1
  have q1:(e1 == e1)=true:=by simp
  have q2:(e2 == e2)=true:=by simp
  have q3:(f1 == f1)=true:=by simp
  have q4:(f2 == f2)=true:=by simp
  clear CS S1 S2 S3 S4 HSZ HNO t1'
  go_wp2_with (first | (go_at_call 12;refine (num_V _ _).mono ?_;rintro e wX ⟨rfl,hX⟩;subst hX) | (go_at_call 13;refine CA.out.mono ?_;clear CA;rintro e wB ⟨rfl,hB⟩;have EB:Hid (DvW w g x l L bx i1 i2 n1 (0+2) n4 [(b4,T4),(b3,T3),(b2,T2),(b1,T1)] wB):=hB;clear hB c0 c1 c2 c3 d0 d1 d2 d3;obtain ⟨c0,c1,c2,c3⟩:=tb_cells (EB.out.env (b2,T2) (by simp)).1;obtain ⟨d0,d1,d2,d3⟩:=tb_cells (EB.out.env (b4,T4) (by simp)).1) | (go_at_call 13;refine (CB.out _ EB.out).mono ?_;clear CB;rintro e wC ⟨rfl,hC⟩;have EC:Hid (DvW w g x l L bx i1 i2 n1 (0+2) n4 [(b4,T4),(b3,T3),(b2,T2),(b1,T1)] wC):=hC;clear hC c0 c1 c2 c3 d0 d1 d2 d3))
  go_ret
  exact ⟨rfl,EC.out.bel⟩
 ·obtain ⟨⟨k1,k2,k3⟩,⟨k4,k5,k6⟩⟩:=HNO.out h0
  rw [k2,k3,k5,k6]
  rw [k1] at S1 HSZ
  rw [k4] at S2 HSZ
  have t1':(er != 0)=true:=by simpa using h0
  have q1:(er == er)=true:=by simp
  clear k1 k2 k3 k4 k5 k6
  have TN:∀ w':World,TAt w' TV.none:=fun w'=>TAt.mk _ (fun h=>absurd rfl h) (fun k hk=>by cases hk)
  have CA:Hid (∀ WB,DvW w g x l L bx i1 i2 n1 (0+2) n4 [(b2,T2),(b1,T1)] WB->Calls Tryz.prog 13 #[T1.val,TV.none.val] WB fun e w''=>e=.returned (.bool true)/\DvW w g x l L bx i1 i2 n1 (0+2) n4 [(b2,T2),(b1,T1)] w''):=fun WB h=>CS.out _ _ _ _ h (h.env (b1,T1) (by simp)).2 (TN _) S1.out (by rw [samV_size _ _ S1.out];exact HSZ.out.1)
  have CB:Hid (∀ WB,DvW w g x l L bx i1 i2 n1 (0+2) n4 [(b2,T2),(b1,T1)] WB->Calls Tryz.prog 13 #[T2.val,TV.none.val] WB fun e w''=>e=.returned (.bool true)/\DvW w g x l L bx i1 i2 n1 (0+2) n4 [(b2,T2),(b1,T1)] w''):=fun WB h=>CS.out _ _ _ _ h (h.env (b2,T2) (by simp)).2 (TN _) S2.out (by rw [samV_size _ _ S2.out];exact HSZ.out.2)
  obtain ⟨c0,c1,c2,c3⟩:=tb_cells (E8.out.env (b1,T1) (by simp)).1
  clear CS S1 S2 HSZ HNO TN h0 CR1 CR2
  go_wp2_with (first | (go_at_call 12;refine (num_V _ _).mono ?_;rintro e wX ⟨rfl,hX⟩;subst hX) | (go_at_call 13;refine (CA.out _ E8.out).mono ?_;clear CA;rintro e wB ⟨rfl,hB⟩;have EB:Hid (DvW w g x l L bx i1 i2 n1 (0+2) n4 [(b2,T2),(b1,T1)] wB):=hB;clear hB c0 c1 c2 c3;obtain ⟨c0,c1,c2,c3⟩:=tb_cells (EB.out.env (b2,T2) (by simp)).1) | (go_at_call 13;refine (CB.out _ EB.out).mono ?_;clear CB;rintro e wC ⟨rfl,hC⟩;have EC:Hid (DvW w g x l L bx i1 i2 n1 (0+2) n4 [(b2,T2),(b1,T1)] wC):=hC;clear hC c0 c1 c2 c3))
  go_ret
  exact ⟨rfl,EC.out.bel⟩
open Go.ChangeShapes Go.WideShapes Go.ChangeAt Go.RowKit
theorem gcellsTok:Tryz.prog.cellsOf 23=2:=by kernel_rfl
theorem gcellsStr1:Tryz.prog.cellsOf 9=1:=by kernel_rfl
section
variable {H:Type} {enc:TypeId×Value->H} {W:World}
set_option maxRecDepth 100000 in
theorem otok {fuel:Nat}{cs:List Value}{x:DataW H×List MemPlace}(h:DataW.trod enc Tryz.prog W 0 (fun _=>true) true fuel 23 cs=some x):∃ (k:Int) (s:ByteArray),cs=[.int .i64 k,.string s]:=by
 obtain ⟨xs,n,_,hx,hl,hlen,hf⟩:=DataW.trod_struct Tryz.underlying23 h
 rw [gcellsTok] at hl
 match xs,hlen,cs,hl with
 | [y0,y1],_,[e0,e1],_ =>
  have g0:=hf 0 _ rfl
  have g1:=hf 1 _ rfl
  simp [gcellsInt,gcellsStr1] at g0 g1
  obtain ⟨a,ha,_,_⟩:=DataW.trod_int Tryz.underlying3 g0
  obtain ⟨b,hb,_⟩:=DataW.trod_string Tryz.underlying9 g1
  simp only [List.cons.injEq,and_true] at ha hb
  subst ha;subst hb
  exact ⟨a,b,rfl⟩
end
section
variable {H:Type} {enc:TypeId×Value->H} {W:World}
set_option maxRecDepth 100000 in
theorem otoks {fuel:Nat}{cs:List Value}{x:DataW H×List MemPlace}(hf:DataW.trod enc Tryz.prog W 0 (fun _=>true) true fuel 52 cs=some x) :
  ∃ (a:Option Addr) (cap:Nat) (l:List (Int×ByteArray)),cs=[.slice a l.length cap]/\TkRow W a l/\LD l.length x.1:=by
 rcases Go.Deep.open_slice Tryz.underlying52 hf with ⟨hcs,hx⟩ | ⟨a,len,cap,m,n,D,Pl,hcs,_,hl,_,hm,hx,hel⟩
 ·exact ⟨none,0,[],hcs,fun h=>absurd rfl h,.inl ⟨by rw [hx],rfl⟩⟩
 ·have hm':m=cap:=by simpa using hm
  have each:∀ i,i < m->∃ q:Int×ByteArray,W.cell? (a.add (i*2))=some (.int .i64 q.1)/\W.cell? (a.add (i*2+1))=some (.string q.2):=by
   intro i hi
   obtain ⟨cs',h1,h2⟩:=hel i hi
   rw [gcellsTok] at h1
   obtain ⟨hl1,_,hcell⟩:=World.cells?_some h1
   obtain ⟨k,s,hs⟩:=otok h2
   subst hs
   have e0:=hcell 0 (by omega)
   have e1:=hcell 1 (by omega)
   rw [Go.Deep.add_add] at e0 e1
   exact ⟨(k,s),by simpa using e0,by simpa using e1⟩
  obtain ⟨f,hfs⟩:∃ f:Nat->Int×ByteArray,∀ i,i < m->W.cell? (a.add (i*2))=some (.int .i64 (f i).1)/\W.cell? (a.add (i*2+1))=some (.string (f i).2) :=
   ⟨fun i=>if h:i < m then Classical.choose (each i h) else (0,ByteArray.empty),fun i h=>by simp only [dif_pos h];exact Classical.choose_spec (each i h)⟩
  have hpl:((List.range len).map f).length=len:=by simp
  have hgd:∀ i,i < len->((List.range len).map f).getD i (0,ByteArray.empty)=f i:=fun i hi=>by simp [List.getD,hi]
  refine ⟨some a,cap,(List.range len).map f,by rw [hpl];exact hcs,fun hne=>?_,.inr ⟨_,_,by rw [hx],by simp⟩⟩
  obtain ⟨b,off,spot⟩:=a
  have h0:0 < len:=by
   rcases Nat.eq_zero_or_pos len with e | e
   ·subst e;simp at hne
   ·exact e
  have hc0:=(hfs 0 (by omega)).1
  have hspot:spot=none:=by simpa [Addr.add] using World.cell?_spot hc0
  subst hspot
  refine ⟨b,off,rfl,?_,fun i hi=>?_⟩
  ·have:=World.block_lt_of_cell? W _ hc0
   rw [aNn] at this
   exact this
  ·rw [hpl] at hi
   rw [hgd i hi]
   obtain ⟨e0,e1⟩:=hfs i (by omega)
   rw [aNn] at e0 e1
   exact ⟨e0,by rw [Nat.add_assoc];exact e1⟩
set_option maxRecDepth 100000 in
theorem open_toks {base:Nat}{v:Value}{d:DataW H}{p:List MemPlace}(hv:Value.okWide Tryz.prog W .any base 52 v)
  (h:DataW.Trod enc Tryz.prog W 0 (fun _=>true) true 52 v d p) :
  ∃ (a:Option Addr) (cap:Nat) (l:List (Int×ByteArray)),v=.slice a l.length cap/\TkRow W a l/\True/\LD l.length d:=by
 obtain ⟨a0,len0,cap0,rfl⟩:=okWide_slice Tryz.underlying52 hv
 obtain ⟨fuel,hf⟩:=h
 obtain ⟨a,cap,l,hcs,h1,h2⟩:=otoks hf
 simp only [Value.cells,List.cons.injEq,and_true] at hcs
 exact ⟨a,cap,l,hcs,h1,trivial,h2⟩
end
end Go.Proofs.YteciabdjkaackaaGreat
