import Derived.Test.YtlfiohdhcmmjbaaGreatDoorPTM57ToTM58
namespace Go.Proofs.YtlfiohdhcmmjbaaGreatDoor
set_option linter.unusedVariables false
set_option maxRecDepth 100000
set_option maxHeartbeats 16000000
open Go.RowKit Go.Shelf Go.Maps
set_option linter.unusedSimpArgs false in
set_option maxRecDepth 1000000 in
theorem Trim_Y (g:GV)(w:World)(h:GAt 140737488355328 w g)(er at_:Int)(hE:cG_ g (cF_ g.ts g.ns)=(er,at_)) :
  Calls Tryz.prog 22 #[g.val] w fun e w'=>∃ x k,e=.returned (.tuple #[x.val,.int .i64 k])/\TrR g er k x/\DG (w.heap.size+1+1) w' x/\Below w.heap.size w w':=by
 have B1:Hid (Below w.heap.size w ((w.alloc (gBox g)).alloc zG)/\((w.alloc (gBox g)).alloc zG).heap[w.heap.size]?=some (gBox g)/\((w.alloc (gBox g)).alloc zG).heap[w.heap.size+1]?=some zG):=by
  have q0:=heap_alloc_new w (gBox g)
  have q:=heap_alloc_new (w.alloc (gBox g)) zG
  rw [show (w.alloc (gBox g)).heap.size=w.heap.size+1 by simp] at q
  exact ⟨(bAl w _).trans ((bAl (w.alloc (gBox g)) _).mono (bAl w _).size),((bAl (w.alloc (gBox g)) _).block _ (by simp)).trans q0,q⟩
 have CK:Hid (Calls Tryz.prog 26 #[g.val] ((w.alloc (gBox g)).alloc zG) fun e w'=>e=.returned (.int .i64 er)/\Below ((w.alloc (gBox g)).alloc zG).heap.size ((w.alloc (gBox g)).alloc zG) w'):=(refmay_G g _ (h.later B1.out.1)).mono fun e w' ⟨q1,q2⟩=>⟨by rw [q1,hE],q2⟩
 obtain ⟨x0,x1,x2,x3,x4⟩:=gbc B1.out.2.1
 by_cases h0:er=0
 ·subst h0
  have ok:OkC g:=OkC.of (by rw [hE])
  have HG:Hid (∀ w',Below w.heap.size w w'->GAt 140737488355328 w' g/\FG w' g):=fun w' hb=>⟨h.later hb,ok.fg (h.later hb)⟩
  have OK:Hid (OkC g):=ok
  obtain ⟨sm,hsm⟩:∃ m:Nat,g.start=(m:Int):=⟨g.start.toNat,by have:=ok.st;omega⟩
  have slt:(sm:Int) < (g.ns.length:Int):=by have:=ok.st;omega
  have HSM:Hid (g.start=(sm:Int)):=hsm
  have hnl:=ok.nl
  have htl:=ok.tl
  have t1:((0:Int) != 0)=false:=by decide
  clear h hE ok hsm
  go_enter Tryz.func22,Tryz.ntmps22
  go_wp2_with (first
   | (go_at_call 26;refine CK.out.mono ?_;rintro e w2 ⟨rfl,b2⟩;have Bw2:Hid (Below w.heap.size w w2/\w2.heap[w.heap.size]?=some (gBox g)/\w2.heap[w.heap.size+1]?=some zG):=⟨B1.out.1.trans (b2.mono B1.out.1.size),(b2.block _ (lt_of_block B1.out.2.1)).trans B1.out.2.1,(b2.block _ (lt_of_block B1.out.2.2)).trans B1.out.2.2⟩;clear b2 CK x0 x1 x2 x3 x4;obtain ⟨x0,x1,x2,x3,x4⟩:=gbc Bw2.out.2.1;rw [HSM.out] at x2)
   | (go_at_call 34;rw [<- HSM.out];refine (fruit_R g w2 (HG.out _ Bw2.out.1).2).mono ?_))
  rintro e w3 ⟨fb,M,rfl,m3,bb3,l3,b3⟩
  have Bw3:Hid (Below w.heap.size w w3/\w3.heap[w.heap.size]?=some (gBox g)/\w3.heap[w.heap.size+1]?=some zG):=⟨Bw2.out.1.trans (b3.mono Bw2.out.1.size),(b3.block _ (lt_of_block Bw2.out.2.1)).trans Bw2.out.2.1,(b3.block _ (lt_of_block Bw2.out.2.2)).trans Bw2.out.2.2⟩
  have M3:Hid (MLst g.ps g.ns.length true M/\BB w3 fb M):=⟨m3,bb3⟩
  clear m3 bb3 l3 b3 x0 x1 x2 x3 x4
  obtain ⟨x0,x1,x2,x3,x4⟩:=gbc Bw3.out.2.1
  rw [HSM.out] at x2
  have cm:=M3.out.2.cell (i:=sm) (by rw [M3.out.1.len];omega)
  have HMS:Hid (g.start.toNat=sm):=(by show _=_;rw [HSM.out];rfl)
  obtain ⟨mv,hmv⟩:∃ mv,M.getD sm false=mv:=⟨_,rfl⟩
  rw [hmv] at cm
  have HMV:Hid (M.getD g.start.toNat false=mv):=(by show _=_;rw [HMS.out];exact hmv)
  clear hmv
  cases mv
  ·have REL:Hid (TrR g 0 71 gNil7):=⟨fun _=>⟨M,M3.out.1,.inl ⟨HMV.out,rfl,rfl⟩⟩,fun q=>absurd rfl q⟩
   obtain ⟨r0,r1,r2,r3,r4⟩:=zcells Bw3.out.2.2
   obtain ⟨e0,e1,e2,e3,e4⟩:=zfree Bw3.out.2.2
   go_wp2
   refine bodyPost_ret (v:=.tuple #[gNil7.val,.int .i64 71]) (by simp [results,Tryz.results22,go_sem,r0,r1,r2,r3,r4,gNil7]) rfl ?_
   exact ⟨gNil7,71,rfl,REL.out,DG.nil7 _ _,below_set5 Bw3.out.1 _ _ _ _ _⟩
  ·go_wp2
   refine loop1_7 g M w.heap.size (w.heap.size+1) fb w3.heap.size w3 Bw3.out.2.1 (HG.out _ Bw3.out.1).2 M3.out.2 M3.out.1.len _ (fun _ _ d _ _ h=>by cases d<;>exact h) _ _ ?_ ?_
   ·have S0:S1 g w3 w3.heap.size [] none 0 (w3.alloc (.cells #[.slice g.ta g.ts.length g.tc,.slice g.na g.ns.length g.nc,.int .i64 g.start,.slice none 0 0,.slice none 0 0] 26)):=⟨heap_alloc_new _ _,PY.nil _,(fun j hj=>by simp [Value.ownBlock] at hj),Nat.le_refl _,bAl _ _⟩
    rw [HSM.out] at S0
    exact ⟨⟨⟨rfl,rfl⟩,rfl,rfl,rfl,rfl⟩,0,none,0,Nat.zero_le _,rfl,S0⟩
   intro a5 w5 pa pc hK5 s5
   obtain ⟨⟨z1,z2⟩,h1,h2,h5,h6⟩:=hK5
   obtain ⟨f,rfl⟩:=act251 z1 z2
   change f 1=_ at h1
   change f 2=_ at h2
   change f 5=_ at h5
   change f 6=_ at h6
   have B5:Hid (Below w.heap.size w w5/\w5.heap[w.heap.size]?=some (gBox g)/\w5.heap[w.heap.size+1]?=some zG):=⟨Bw3.out.1.trans (s5.bel.mono Bw3.out.1.size),(s5.bel.block _ (lt_of_block Bw3.out.2.1)).trans Bw3.out.2.1,(s5.bel.block _ (lt_of_block Bw3.out.2.2)).trans Bw3.out.2.2⟩
   have S5:Hid (w5.heap[w3.heap.size]?=some (gBox (sG g M pa pc))/\FG w5 (sG g M pa pc)):=⟨s5.box,s5.fg (HG.out _ B5.out.1).2⟩
   have RC:Hid (Calls Tryz.prog 36 #[(sG g M pa pc).val] w5 fun e w'=>∃ tb nb T N,e=.returned (.tuple #[.slice (some ⟨tb,0,none⟩) g.ts.length g.ts.length,.slice (some ⟨nb,0,none⟩) g.ns.length g.ns.length])/\RLst (gF g fun p=>wU_ true M p.right) T N/\BB w' tb T/\BB w' nb N/\Below w5.heap.size w5 w'):=(reached_R (sG g M pa pc) w5 S5.out.2 OK.out.st).mono fun e w' ⟨tb,nb,T,N,q1,q2,q3,q4,q5,q6,q7⟩=>⟨tb,nb,T,N,q1,sG.rl M3.out.1 q2,q3,q4,q7⟩
   obtain ⟨e0,e1,e2,e3,e4,_⟩:=c5Z s5.box
   have T0:Hid True:=trivial
   unfold A251
   rw [h1,h2,h5,h6]
   clear h1 h2 h5 h6 z1 z2 s5 x0 x1 x2 x3 x4 cm
   go_wp2_with (first
    | (go_at_call 36;refine RC.out.mono ?_;rintro e w6 ⟨tb,nb,T,N,rfl,r6,t6,n6,b6⟩;have R6:Hid (RLst (gF g fun p=>wU_ true M p.right) T N):=r6;have W6:Hid (BB w6 tb T/\BB w6 nb N/\Below w5.heap.size w5 w6):=⟨t6,n6,b6⟩;clear r6 t6 n6 b6 RC e0 e1 e2 e3 e4)
    | (go_at_call 61;have T1:Hid True:=T0;clear T0;refine (closed_R tb g.ts.length T w6 R6.out.tl (by omega) W6.out.1).mono ?_;rintro e w7 ⟨v7,rfl,l7⟩;obtain ⟨t0,c10,rfl,nr7⟩:=nr_of l7 htl.1;have W7:Hid (NR w7 t0 g.ts.length T/\Below w6.heap.size w6 w7):=⟨nr7,l7.bel⟩;clear nr7 l7)
    | (go_at_call 61;have T2:Hid True:=T1;clear T1;refine (closed_R nb g.ns.length N w7 R6.out.nl (by omega) (W6.out.2.1.later W7.out.2)).mono ?_;rintro e w8 ⟨v8,rfl,l8⟩;obtain ⟨n0,c11,rfl,nr8⟩:=nr_of l8 hnl.1;have W8:Hid (NR w8 n0 g.ns.length N/\Below w7.heap.size w7 w8):=⟨nr8,l8.bel⟩;clear nr8 l8))
   have HW8:Hid (Below w.heap.size w w8):=by
    have s1:=B5.out.1
    have s2:=s1.trans (W6.out.2.2.mono s1.size)
    have s3:=s2.trans (W7.out.2.mono s2.size)
    exact s3.trans (W8.out.2.mono s3.size)
   have HB58:Hid (Below w5.heap.size w5 w8):=by
    have s2:=W6.out.2.2
    have s3:=s2.trans (W7.out.2.mono s2.size)
    exact s3.trans (W8.out.2.mono s3.size)
   have HB68:Hid (Below w6.heap.size w6 w8):=W7.out.2.trans (W8.out.2.mono W7.out.2.size)
   have D8:Hid (w8.heap[w.heap.size]?=some (gBox g)/\w8.heap[w.heap.size+1]?=some zG/\w8.heap[w3.heap.size]?=some (gBox (sG g M pa pc))/\FG w8 (sG g M pa pc)/\BB w8 tb T/\BB w8 nb N/\NR w8 t0 g.ts.length T/\NR w8 n0 g.ns.length N):=⟨(HB58.out.block _ (lt_of_block B5.out.2.1)).trans B5.out.2.1,(HB58.out.block _ (lt_of_block B5.out.2.2)).trans B5.out.2.2,(HB58.out.block _ (lt_of_block S5.out.1)).trans S5.out.1,S5.out.2.later HB58.out,W6.out.1.later HB68.out,W6.out.2.1.later HB68.out,W7.out.1.later W8.out.2,W8.out.1⟩
   have CV:Hid (∃ cv0,cntU N sm=cv0):=⟨_,rfl⟩
   obtain ⟨cv0,hcv⟩:=CV.out
   have HCV:Hid (cntU N sm=cv0):=hcv
   obtain ⟨lt,hlt0⟩:∃ lt,kpU7 T g.ts g.ts.length=lt:=⟨_,rfl⟩
   obtain ⟨ln,hln0⟩:∃ ln,kpU7 N g.ns g.ns.length=ln:=⟨_,rfl⟩
   have HLT:Hid (kpU7 T g.ts g.ts.length=lt):=hlt0
   have HLN:Hid (kpU7 N g.ns g.ns.length=ln):=hln0
   have GEN:Hid (∀ wq,Below w8.heap.size w8 wq->(r15S w.heap.size n0 sm (.slice g.ta g.ts.length g.tc) (.slice g.na g.ns.length g.nc) cv0) wq):=fun wq hq=>by
    obtain ⟨x0,x1,x2,_,_⟩:=gbc ((hq.block _ (lt_of_block D8.out.1)).trans D8.out.1)
    rw [HSM.out] at x2
    refine ⟨x0,x1,x2,?_⟩
    have:=(D8.out.2.2.2.2.2.2.2.later hq).2 sm (by omega)
    rwa [hcv] at this
   have KT:Hid (∀ wq,Below w8.heap.size w8 wq->Calls Tryz.prog 62 #[.slice g.ta g.ts.length g.tc,.slice (some ⟨tb,0,none⟩) g.ts.length g.ts.length] wq fun e w'=>∃ v,e=.returned v/\GBs wq lt v w'):=fun wq hq=>by
    rw [<- hlt0]
    exact kept_R tb g.ts.length T g.ta g.tc g.ts wq R6.out.tl rfl (by omega) (D8.out.2.2.2.2.1.later hq) (HG.out wq (HW8.out.trans (hq.mono HW8.out.size))).1.t
   have KN:Hid (∀ wq,Below w8.heap.size w8 wq->Calls Tryz.prog 62 #[.slice g.na g.ns.length g.nc,.slice (some ⟨nb,0,none⟩) g.ns.length g.ns.length] wq fun e w'=>∃ v,e=.returned v/\GBs wq ln v w'):=fun wq hq=>by
    rw [<- hln0]
    exact kept_R nb g.ns.length N g.na g.nc g.ns wq R6.out.nl rfl (by omega) (D8.out.2.2.2.2.2.1.later hq) (HG.out wq (HW8.out.trans (hq.mono HW8.out.size))).1.n_
   clear hcv CV hlt0 hln0 W6 W7 W8 HB58 HB68 S5 B5
   go_cut [12] from 88 (fun s wx=>∃ (b12:Nat) (a3:Option Addr) (c3:Nat) (a4:Option Addr) (c4:Nat),s=.pointer (some ⟨b12,0,none⟩)/\R15 lt ln w8 b12 a3 c3 a4 c4 cv0 wx)
   case first =>
    obtain ⟨wd,hwd⟩:∃ wd:World,wd=w8.drew:=⟨_,rfl⟩
    have BD:Hid (Below w8.heap.size w8 wd):=by rw [hwd];exact (Below.refl _ _).drew
    have hs:Hid ((r15S w.heap.size n0 sm (.slice g.ta g.ts.length g.tc) (.slice g.na g.ns.length g.nc) cv0) wd):=GEN.out wd BD.out
    refine wp_region_x (S:=SX 15 (fun _=>True) (r15S w.heap.size n0 sm (.slice g.ta g.ts.length g.tc) (.slice g.na g.ns.length g.nc) cv0)) (by kernel_rfl) ?_
    rw [<- hwd]
    clear hwd
    refine wtT (m:=15) (i:=0) (v:=?_) rfl (Or.inl ⟨by rfl,?_⟩) (SX.both trivial hs.out) ?_
    rotate_left
    ·(intro w hSw;obtain ⟨_,z0,z1,z2,z3⟩:=hSw;go_simp;try (with_reducible rfl))
    (try simp only [Act.put,lsA,lsZ,lsN])
    refine wtT (m:=15) (i:=1) (v:=?_) rfl (Or.inl ⟨by rfl,?_⟩) (SX.both trivial hs.out) ?_
    rotate_left
    ·(intro w hSw;obtain ⟨_,z0,z1,z2,z3⟩:=hSw;go_simp;try (with_reducible rfl))
    (try simp only [Act.put,lsA,lsZ,lsN])
    refine wtT (m:=15) (i:=2) (v:=?_) rfl (Or.inl ⟨by rfl,?_⟩) (SX.both trivial hs.out) ?_
    rotate_left
    ·(intro w hSw;obtain ⟨_,z0,z1,z2,z3⟩:=hSw;go_simp;try (with_reducible rfl))
    (try simp only [Act.put,lsA,lsZ,lsN])
    refine wtT (m:=15) (i:=4) (v:=?_) rfl (Or.inl ⟨by rfl,?_⟩) (SX.both trivial hs.out) ?_
    rotate_left
    ·(intro w hSw;obtain ⟨_,z0,z1,z2,z3⟩:=hSw;go_simp;try (with_reducible rfl))
    (try simp only [Act.put,lsA,lsZ,lsN])
    refine wtT (m:=15) (i:=5) (v:=?_) rfl (Or.inl ⟨by rfl,?_⟩) (SX.both trivial hs.out) ?_
    rotate_left
    ·(intro w hSw;obtain ⟨_,z0,z1,z2,z3⟩:=hSw;go_simp;try (with_reducible rfl))
    (try simp only [Act.put,lsA,lsZ,lsN])
    refine wtT (m:=15) (i:=6) (v:=?_) rfl (Or.inl ⟨by rfl,?_⟩) (SX.both trivial hs.out) ?_
    rotate_left
    ·(intro w hSw;obtain ⟨_,z0,z1,z2,z3⟩:=hSw;go_simp;try (with_reducible rfl))
    (try simp only [Act.put,lsA,lsZ,lsN])
    refine wtT (m:=15) (i:=8) (v:=?_) rfl (Or.inl ⟨by rfl,?_⟩) (SX.both trivial hs.out) ?_
    rotate_left
    ·(intro w hSw;obtain ⟨_,z0,z1,z2,z3⟩:=hSw;go_simp;try (with_reducible rfl))
    (try simp only [Act.put,lsA,lsZ,lsN])
    refine wtT (m:=15) (i:=9) (v:=?_) rfl (Or.inl ⟨by rfl,?_⟩) (SX.both trivial hs.out) ?_
    rotate_left
    ·(intro w hSw;obtain ⟨_,z0,z1,z2,z3⟩:=hSw;go_simp;try (with_reducible rfl))
    (try simp only [Act.put,lsA,lsZ,lsN])
    refine wtT (m:=15) (i:=10) (v:=?_) rfl (Or.inl ⟨by rfl,?_⟩) (SX.both trivial hs.out) ?_
    rotate_left
    ·(intro w hSw;obtain ⟨_,z0,z1,z2,z3⟩:=hSw;go_simp;try (with_reducible rfl))
    (try simp only [Act.put,lsA,lsZ,lsN])
    refine wtT (m:=15) (i:=11) (v:=?_) rfl (Or.inl ⟨by rfl,?_⟩) (SX.both trivial hs.out) ?_
    rotate_left
    ·(intro w hSw;obtain ⟨_,z0,z1,z2,z3⟩:=hSw;go_simp;try (with_reducible rfl))
    (try simp only [Act.put,lsA,lsZ,lsN])
    refine wtT (m:=15) (i:=12) (v:=?_) rfl (Or.inl ⟨by rfl,?_⟩) (SX.both trivial hs.out) ?_
    rotate_left
    ·(intro w hSw;obtain ⟨_,z0,z1,z2,z3⟩:=hSw;go_simp;try (with_reducible rfl))
    (try simp only [Act.put,lsA,lsZ,lsN])
    refine pickY (i:=3) (j:=14) (by decide +kernel) rfl rfl (fun K' hK=>?_) (fun K' hK=>?_)
    ·refine sCX rfl 62 #[.slice g.ta g.ts.length g.tc,.slice (some ⟨tb,0,none⟩) g.ts.length g.ts.length] _ (run_k2 ent_kept (v0:=.slice g.ta g.ts.length g.tc) (v1:=.slice (some ⟨tb,0,none⟩) g.ts.length g.ts.length) (by rfl) (by rfl) (by rfl) _) (KT.out wd BD.out) ?_
     rintro e w9 ⟨v_,rfl,g_⟩
     obtain ⟨a3,c3,rfl⟩:=gs_len g_.gs
     have Bw9:Hid (Below w8.heap.size w8 w9):=BD.out.trans (g_.bel.mono (BD.out).size)
     have Gw9:Hid (GBs wd lt (.slice a3 lt.length c3) w9):=g_
     clear g_
     have hsw9:Hid ((r15S w.heap.size n0 sm (.slice g.ta g.ts.length g.tc) (.slice g.na g.ns.length g.nc) cv0) w9):=GEN.out w9 Bw9.out
     refine ⟨_,rfl,hK.out _ _ (SX.both trivial hsw9.out) ?_⟩
     clear hK K'
     (try simp only [Act.put,lsA,lsZ,lsN])
     refine pickY (i:=7) (j:=14) (by decide +kernel) rfl rfl (fun K' hK=>?_) (fun K' hK=>?_)
     ·refine sCX rfl 62 #[.slice g.na g.ns.length g.nc,.slice (some ⟨nb,0,none⟩) g.ns.length g.ns.length] _ (run_k2 ent_kept (v0:=.slice g.na g.ns.length g.nc) (v1:=.slice (some ⟨nb,0,none⟩) g.ns.length g.ns.length) (by rfl) (by rfl) (by rfl) _) (KN.out w9 Bw9.out) ?_
      rintro e w10 ⟨v_,rfl,g_⟩
      obtain ⟨a4,c4,rfl⟩:=gs_len g_.gs
      have Bw10:Hid (Below w8.heap.size w8 w10):=Bw9.out.trans (g_.bel.mono (Bw9.out).size)
      have Gw10:Hid (GBs w9 ln (.slice a4 ln.length c4) w10):=g_
      clear g_
      have hsw10:Hid ((r15S w.heap.size n0 sm (.slice g.ta g.ts.length g.tc) (.slice g.na g.ns.length g.nc) cv0) w10):=GEN.out w10 Bw10.out
      refine ⟨_,rfl,hK.out _ _ (SX.both trivial hsw10.out) ?_⟩
      clear hK K'
      (try simp only [Act.put,lsA,lsZ,lsN])
      refine wtT (m:=15) (i:=13) (v:=?_) rfl (Or.inl ⟨by rfl,?_⟩) (SX.both trivial hsw10.out) ?_
      rotate_left
      ·(intro w hSw;obtain ⟨_,z0,z1,z2,z3⟩:=hSw;go_simp;try (with_reducible rfl))
      (try simp only [Act.put,lsA,lsZ,lsN])
      refine wX1 (j:=14) (by decide +kernel) rfl (fun K' hK=>?_)
      go_simp
      have BA:Hid (Below w8.heap.size w8 (w10.alloc zG)):=(Bw10.out).trans ((bAl _ _).mono (Bw10.out).size)
      refine hK.out _ _ (SX.both trivial (GEN.out _ BA.out)) ?_
      clear hK K'
      (try simp only [Act.put,lsA,lsZ,lsN])
      obtain ⟨r0,r1,r2,r3,r4⟩:=zcells (heap_alloc_new w10 zG)
      obtain ⟨e0,e1,e2,e3,e4⟩:=zfree (heap_alloc_new w10 zG)
      refine wX1 (j:=15) (by decide +kernel) rfl (fun K' hK=>?_)
      go_simp
      refine hK.out _ _ (SX.one trivial (by kernel_rfl)) ?_
      clear hK K' r0 r1 r2 r3 r4 e0 e1 e2 e3 e4
      (try simp only [Act.put,lsA,lsZ,lsN])
      refine wXd (by decide +kernel) ?_
      go_wp2_with fail
      go_meet
      exact ⟨_,a3,c3,a4,c4,rfl,R15.late BD.out Gw9.out Gw10.out cv0⟩
     ·go_simp
      have BA:Hid (Below w8.heap.size w8 (w9.alloc zG)):=(Bw9.out).trans ((bAl _ _).mono (Bw9.out).size)
      refine hK.out _ _ (SX.both trivial (GEN.out _ BA.out)) ?_
      clear hK K'
      (try simp only [Act.put,lsA,lsZ,lsN])
      refine wX1 (j:=7) (by decide +kernel) rfl (fun K' hK=>?_)
      refine sCX rfl 62 #[.slice g.na g.ns.length g.nc,.slice (some ⟨nb,0,none⟩) g.ns.length g.ns.length] _ (run_k2 ent_kept (v0:=.slice g.na g.ns.length g.nc) (v1:=.slice (some ⟨nb,0,none⟩) g.ns.length g.ns.length) (by rfl) (by rfl) (by rfl) _) (KN.out (w9.alloc zG) BA.out) ?_
      rintro e w10 ⟨v_,rfl,g_⟩
      obtain ⟨a4,c4,rfl⟩:=gs_len g_.gs
      have Bw10:Hid (Below w8.heap.size w8 w10):=BA.out.trans (g_.bel.mono (BA.out).size)
      have Gw10:Hid (GBs (w9.alloc zG) ln (.slice a4 ln.length c4) w10):=g_
      clear g_
      have hsw10:Hid ((r15S w.heap.size n0 sm (.slice g.ta g.ts.length g.tc) (.slice g.na g.ns.length g.nc) cv0) w10):=GEN.out w10 Bw10.out
      refine ⟨_,rfl,hK.out _ _ (SX.both trivial hsw10.out) ?_⟩
      clear hK K'
      (try simp only [Act.put,lsA,lsZ,lsN])
      refine wtT (m:=15) (i:=13) (v:=?_) rfl (Or.inl ⟨by rfl,?_⟩) (SX.both trivial hsw10.out) ?_
      rotate_left
      ·(intro w hSw;obtain ⟨_,z0,z1,z2,z3⟩:=hSw;go_simp;try (with_reducible rfl))
      (try simp only [Act.put,lsA,lsZ,lsN])
      have RM:=R15.mid BD.out Gw9.out Gw10.out cv0
      obtain ⟨r0,r1,r2,r3,r4⟩:=zcells RM.1
      obtain ⟨e0,e1,e2,e3,e4⟩:=zfree RM.1
      refine wX1 (j:=15) (by decide +kernel) rfl (fun K' hK=>?_)
      go_simp
      refine hK.out _ _ (SX.one trivial (by kernel_rfl)) ?_
      clear hK K' r0 r1 r2 r3 r4 e0 e1 e2 e3 e4
      (try simp only [Act.put,lsA,lsZ,lsN])
      refine wXd (by decide +kernel) ?_
      go_wp2_with fail
      go_meet
      exact ⟨_,a3,c3,a4,c4,rfl,RM.2⟩
    ·go_simp
     have BA:Hid (Below w8.heap.size w8 (wd.alloc zG)):=(BD.out).trans ((bAl _ _).mono (BD.out).size)
     refine hK.out _ _ (SX.both trivial (GEN.out _ BA.out)) ?_
     clear hK K'
     (try simp only [Act.put,lsA,lsZ,lsN])
     refine wX1 (j:=3) (by decide +kernel) rfl (fun K' hK=>?_)
     refine sCX rfl 62 #[.slice g.ta g.ts.length g.tc,.slice (some ⟨tb,0,none⟩) g.ts.length g.ts.length] _ (run_k2 ent_kept (v0:=.slice g.ta g.ts.length g.tc) (v1:=.slice (some ⟨tb,0,none⟩) g.ts.length g.ts.length) (by rfl) (by rfl) (by rfl) _) (KT.out (wd.alloc zG) BA.out) ?_
     rintro e w9 ⟨v_,rfl,g_⟩
     obtain ⟨a3,c3,rfl⟩:=gs_len g_.gs
     have Bw9:Hid (Below w8.heap.size w8 w9):=BA.out.trans (g_.bel.mono (BA.out).size)
     have Gw9:Hid (GBs (wd.alloc zG) lt (.slice a3 lt.length c3) w9):=g_
     clear g_
     have hsw9:Hid ((r15S w.heap.size n0 sm (.slice g.ta g.ts.length g.tc) (.slice g.na g.ns.length g.nc) cv0) w9):=GEN.out w9 Bw9.out
     refine ⟨_,rfl,hK.out _ _ (SX.both trivial hsw9.out) ?_⟩
     clear hK K'
     (try simp only [Act.put,lsA,lsZ,lsN])
     refine wX1 (j:=7) (by decide +kernel) rfl (fun K' hK=>?_)
     refine sCX rfl 62 #[.slice g.na g.ns.length g.nc,.slice (some ⟨nb,0,none⟩) g.ns.length g.ns.length] _ (run_k2 ent_kept (v0:=.slice g.na g.ns.length g.nc) (v1:=.slice (some ⟨nb,0,none⟩) g.ns.length g.ns.length) (by rfl) (by rfl) (by rfl) _) (KN.out w9 Bw9.out) ?_
     rintro e w10 ⟨v_,rfl,g_⟩
     obtain ⟨a4,c4,rfl⟩:=gs_len g_.gs
     have Bw10:Hid (Below w8.heap.size w8 w10):=Bw9.out.trans (g_.bel.mono (Bw9.out).size)
     have Gw10:Hid (GBs w9 ln (.slice a4 ln.length c4) w10):=g_
     clear g_
     have hsw10:Hid ((r15S w.heap.size n0 sm (.slice g.ta g.ts.length g.tc) (.slice g.na g.ns.length g.nc) cv0) w10):=GEN.out w10 Bw10.out
     refine ⟨_,rfl,hK.out _ _ (SX.both trivial hsw10.out) ?_⟩
     clear hK K'
     (try simp only [Act.put,lsA,lsZ,lsN])
     refine wtT (m:=15) (i:=13) (v:=?_) rfl (Or.inl ⟨by rfl,?_⟩) (SX.both trivial hsw10.out) ?_
     rotate_left
     ·(intro w hSw;obtain ⟨_,z0,z1,z2,z3⟩:=hSw;go_simp;try (with_reducible rfl))
     (try simp only [Act.put,lsA,lsZ,lsN])
     have RM:=R15.soon BD.out Gw9.out Gw10.out cv0
     obtain ⟨r0,r1,r2,r3,r4⟩:=zcells RM.1
     obtain ⟨e0,e1,e2,e3,e4⟩:=zfree RM.1
     refine wX1 (j:=15) (by decide +kernel) rfl (fun K' hK=>?_)
     go_simp
     refine hK.out _ _ (SX.one trivial (by kernel_rfl)) ?_
     clear hK K' r0 r1 r2 r3 r4 e0 e1 e2 e3 e4
     (try simp only [Act.put,lsA,lsZ,lsN])
     refine wXd (by decide +kernel) ?_
     go_wp2_with fail
     go_meet
     exact ⟨_,a3,c3,a4,c4,rfl,RM.2⟩
   case rest =>
    obtain ⟨b12,a3,c3,a4,c4,rfl,r15⟩:=hcut
    have R8:Hid (R15 lt ln w8 b12 a3 c3 a4 c4 cv0 wc):=r15
    clear r15 KT KN GEN
    have BWC:Hid (Below w.heap.size w wc):=HW8.out.trans (R8.out.bel.mono HW8.out.size)
    have RBC:Hid (∀ wq,Below w8.heap.size w8 wq->wq.heap[w.heap.size+1]?=some zG):=fun wq hq=>(hq.block _ (lt_of_block D8.out.2.1)).trans D8.out.2.1
    have SZ8:Hid (w.heap.size+1 < w8.heap.size):=lt_of_block D8.out.2.1
    obtain ⟨y0,y1,y2,y3,y4,y5⟩:=c5Z R8.out.box
    have hkn:=kp_nil (T:=T) (ss:=g.ts) R6.out.tl
    have hkn2:lt.length=0 ↔ T.contains true=false:=by
     have e:=HLT.out
     rw [<- e]
     exact hkn
    clear hkn
    by_cases hl0:lt.length=0
    ·have REL:Hid (TrR g 0 31 gNil7):=⟨fun _=>⟨M,M3.out.1,.inr ⟨HMV.out,T,N,R6.out,.inl ⟨hkn2.1 hl0,rfl,rfl⟩⟩⟩,fun q=>absurd rfl q⟩
     obtain ⟨r0,r1,r2,r3,r4⟩:=zcells (RBC.out wc R8.out.bel)
     obtain ⟨e0,e1,e2,e3,e4⟩:=zfree (RBC.out wc R8.out.bel)
     rw [hl0] at y0
     go_wp2
     refine bodyPost_ret (v:=.tuple #[gNil7.val,.int .i64 31]) (by simp [results,Tryz.results22,go_sem,r0,r1,r2,r3,r4,gNil7]) rfl ?_
     exact ⟨gNil7,31,rfl,REL.out,DG.nil7 _ _,below_set5 BWC.out _ _ _ _ _⟩
    ·have HTC:Hid (T.contains true=true):=by
      show _=_
      cases e:T.contains true with
      | false=>exact absurd (hkn2.2 e) hl0
      | true=>rfl
     have lne:¬ ((lt.length:Int)=0):=by omega
     have S0:Hid (S2 (.slice a3 lt.length c3) (.slice a4 ln.length c4) cv0 w8 b12 wc.heap.size wc [] none 0 wc):=⟨R8.out.box,PO.nil _ _,lt_of_block R8.out.box,Nat.le_refl _,R8.out.lo,R8.out.bel,fun _ _ _=>rfl⟩
     have DD2:Hid (D2 (sG g M pa pc) T N w3.heap.size tb nb t0 n0 w8):=⟨D8.out.2.2.1,D8.out.2.2.2.1,D8.out.2.2.2.2.1,D8.out.2.2.2.2.2.1,R6.out.tl,R6.out.nl,D8.out.2.2.2.2.2.2.1,D8.out.2.2.2.2.2.2.2,fun p hp=>by
      obtain ⟨i,hi,rfl⟩:=getD_mem (d:=PV.none) (List.mem_filter.1 hp).1
      exact (OK.out.prec i hi).2⟩
     have DD4:Hid (D4 g T w.heap.size tb t0 w8):=⟨D8.out.1,(HG.out w8 HW8.out).1.l,D8.out.2.2.2.2.1,R6.out.tl,D8.out.2.2.2.2.2.2.1,OK.out.ll,fun l hl=>by
      obtain ⟨i,hi,rfl⟩:=getD_mem (d:=LV.none) hl
      exact ⟨OK.out.terms i hi,(OK.out.level i hi).2.1⟩,htl.2⟩
     clear hkn2 hl0
     go_wp2
     refine loop2_7 (sG g M pa pc) T N w.heap.size (w.heap.size+1) w3.heap.size tb nb t0 c10 n0 c11 b12 wc.heap.size (.slice a3 lt.length c3) (.slice a4 ln.length c4) cv0 w8 wc DD2.out _ _ _ ?_ ?_
     ·exact ⟨⟨⟨rfl,rfl⟩,rfl,rfl,rfl,rfl,rfl,rfl,rfl,rfl⟩,0,[],none,0,Nat.zero_le _,rfl,Nat.le_refl _,rfl,S0.out⟩
     intro a6 wf L pa2 pc2 hK6 hL6 hc6 s6
     obtain ⟨⟨z1,z2⟩,h1,h2,h6,h8,h9,h10,h11,h12⟩:=hK6
     obtain ⟨f2,rfl⟩:=act251 z1 z2
     change f2 1=_ at h1
     change f2 2=_ at h2
     change f2 8=_ at h8
     change f2 10=_ at h10
     change f2 12=_ at h12
     have C6:Hid (L.map PV.core=(g.ps.filter (sU_ N M)).map (prU7 (nuF T N (syD 1 g.ts.length++syD 2 g.ns.length)).1)):=by
      show _=_
      rw [hc6]
      have e1:(sG g M pa pc).ps=g.ps.filter (fun p=>wU_ true M p.right):=some_whole M3.out.1
      rw [e1]
      have e2:(g.ps.filter fun p=>wU_ true M p.right).filter (pgF N)=g.ps.filter (sU_ N M):=some_stays N M g.ps
      rw [e2]
      apply List.map_congr_left
      intro p hp
      exact pgU_is (HG.out w8 HW8.out).2 R6.out (List.mem_filter.1 hp).1 (List.mem_filter.1 hp).2
     have S6:Hid (S4 (.slice a3 lt.length c3) (.slice a4 ln.length c4) cv0 w8 b12 wc.heap.size wc wf.heap.size L pa2 pc2 [] none 0 wf):=⟨s6.box,s6.po,s6.po.row.lt,fun x hx=>(s6.po.each x hx).lt,LO.nil _ _,s6.bH,s6.hH,Nat.le_refl _,s6.lo,s6.bel,s6.ex⟩
     unfold A251
     rw [h1,h2,h8,h10,h12]
     clear h1 h2 h6 h8 h9 h10 h11 h12 z1 z2 s6 hc6 hL6 y0 y1 y2 y3 y4 y5 S0
     go_wp2
     refine loop4_7 g T (nuF T N (syD 1 g.ts.length++syD 2 g.ns.length)).1 w.heap.size (w.heap.size+1) tb t0 c10 b12 wc.heap.size wc wf.heap.size (.slice a3 lt.length c3) (.slice a4 ln.length c4) cv0 L pa2 pc2 w8 DD4.out (fun l hl=>pgL_is R6.out.tl l.terms fun x hx=>(DD4.out.tt l hl).2 x hx |>.1) _ (fun _ _ d _ _ h=>by cases d<;>exact h) _ _ ?_ ?_
     ·exact ⟨⟨⟨rfl,rfl⟩,rfl,rfl,rfl,rfl,rfl⟩,0,[],none,0,Nat.zero_le _,rfl,Nat.le_refl _,rfl,S6.out⟩
     intro a7 wg LL la lc hK7 hc7 s7
     obtain ⟨⟨z1,z2⟩,h1,h2,h8,h10,h12⟩:=hK7
     obtain ⟨f3,rfl⟩:=act251 z1 z2
     change f3 2=_ at h2
     change f3 12=_ at h12
     have S7:Hid (S4 (.slice a3 lt.length c3) (.slice a4 ln.length c4) cv0 w8 b12 wc.heap.size wc wf.heap.size L pa2 pc2 LL la lc wg):=s7
     have TG:Hid (TrG (nuF T N (syD 1 g.ts.length++syD 2 g.ns.length)).1 (sU_ N M) g ⟨a3,c3,lt,a4,c4,ln,cv0,pa2,pc2,L,la,lc,LL⟩):=by
      refine ⟨?_,?_,?_,C6.out,hc7⟩
      ·show lt=_
       rw [<- HLT.out]
       refine kpU7_nm (fun i hi=>?_) _ (Nat.le_refl _)
       rw [nuF_one hi]
       cases T.getD i false<;>rfl
      ·show ln=_
       rw [<- HLN.out]
       refine kpU7_nm (fun i hi=>?_) _ (Nat.le_refl _)
       rw [nuF_two hi]
       cases N.getD i false<;>rfl
      ·show cv0=_
       rw [<- HCV.out,nu2 (nn:=g.ns.length) (show N.length=g.ns.length from R6.out.nl) OK.out.st.1 R6.out.st,HSM.out]
       rfl
     have REL:Hid (TrR g 0 0 ⟨a3,c3,lt,a4,c4,ln,cv0,pa2,pc2,L,la,lc,LL⟩):=⟨fun _=>⟨M,M3.out.1,.inr ⟨HMV.out,T,N,R6.out,.inr ⟨HTC.out,rfl,TG.out⟩⟩⟩,fun q=>absurd rfl q⟩
     have DD:Hid (DG (w.heap.size+1+1) wg ⟨a3,c3,lt,a4,c4,ln,cv0,pa2,pc2,L,la,lc,LL⟩):=by
      have s8:=SZ8.out
      have sb:=S7.out.bH
      have sl:=R8.out.lo
      have sf:=S7.out.HH
      refine ⟨⟨R8.out.gt.kept fun j hj=>S7.out.ex j (R8.out.gt.lt j hj) (R8.out.ot j hj).2,fun j hj=>by have:=(R8.out.ot j hj).1;omega⟩,⟨R8.out.gn.kept fun j hj=>S7.out.ex j (R8.out.gn.lt j hj) (R8.out.on j hj).2,fun j hj=>by have:=(R8.out.on j hj).1;omega⟩,S7.out.po.mono (by omega),S7.out.lv.mono (by omega),R8.out.tn⟩
     have BWG:Hid (Below w.heap.size w wg):=HW8.out.trans (s7.bel.mono HW8.out.size)
     obtain ⟨r0,r1,r2,r3,r4⟩:=zcells (RBC.out wg s7.bel)
     obtain ⟨e0,e1,e2,e3,e4⟩:=zfree (RBC.out wg s7.bel)
     obtain ⟨y0,y1,y2,y3,y4,y5⟩:=c5Z s7.box
     unfold A251
     rw [h2,h12]
     clear h1 h2 h8 h10 h12 z1 z2 s7 hc7 S6
     go_wp2
     refine bodyPost_ret (v:=.tuple #[.agg #[.slice a3 lt.length c3,.slice a4 ln.length c4,.int .i64 cv0,.slice pa2 L.length pc2,.slice la LL.length lc],.int .i64 0]) (by simp [results,Tryz.results22,go_sem,r0,r1,r2,r3,r4]) rfl ?_
     refine ⟨⟨a3,c3,lt,a4,c4,ln,cv0,pa2,pc2,L,la,lc,LL⟩,0,rfl,REL.out,DD.out.kept fun k hk hk2=>?_,below_set5 BWG.out _ _ _ _ _⟩
     exact (set5 (o:=wg.heap[k]'hk2) (by omega) (by simp) _ _ _ _ _ _ _ _ _ _).trans (by simp)
 ·have REL:Hid (TrR g er er gNil7):=⟨fun q=>absurd q h0,fun _=>⟨rfl,rfl⟩⟩
  have t1:(er != 0)=true:=by simpa using h0
  clear h hE h0
  go_enter Tryz.func22,Tryz.ntmps22
  go_wp2_with (go_at_call 26;refine CK.out.mono ?_;rintro e w2 ⟨rfl,b2⟩;have Bw2:Hid (Below w.heap.size w w2/\w2.heap[w.heap.size+1]?=some zG):=⟨B1.out.1.trans (b2.mono B1.out.1.size),(b2.block _ (lt_of_block B1.out.2.2)).trans B1.out.2.2⟩;clear b2 CK x0 x1 x2 x3 x4;obtain ⟨r0,r1,r2,r3,r4⟩:=zcells Bw2.out.2;obtain ⟨e0,e1,e2,e3,e4⟩:=zfree Bw2.out.2)
  refine bodyPost_ret (v:=.tuple #[gNil7.val,.int .i64 er]) (by simp [results,Tryz.results22,go_sem,r0,r1,r2,r3,r4,gNil7]) rfl ?_
  exact ⟨gNil7,er,rfl,REL.out,DG.nil7 _ _,below_set5 Bw2.out.1 _ _ _ _ _⟩
theorem filter_core7 {β:Type}{C:PV->Bool}{F:PV->β}(hC:∀ p q:PV,q.core=p.core->C q=C p)(hF:∀ p q:PV,q.core=p.core->F q=F p):∀ {ps qs:List PV},qs.map PV.core=ps.map PV.core->(qs.filter C).map F=(ps.filter C).map F
 | [],[],_=>rfl
 | [],q :: qs,h=>by simp at h
 | p :: ps,[],h=>by simp at h
 | p :: ps,q :: qs,h=>by
  simp only [List.map_cons,List.cons.injEq] at h
  have ih:=filter_core7 hC hF h.2
  have e:=hC p q h.1
  by_cases c:C p=true
  ·rw [List.filter_cons_of_pos c,List.filter_cons_of_pos (e.trans c),List.map_cons,List.map_cons,ih,hF p q h.1]
  ·rw [List.filter_cons_of_neg c,List.filter_cons_of_neg (by rw [e];exact c),ih]
theorem core_three7 {p q:PV}(h:q.core=p.core):q.left=p.left/\q.right=p.right/\q.prec=p.prec:=by
 unfold PV.core at h
 simp only [Prod.mk.injEq] at h
 exact h
theorem lvsU_same7 (f:Int×Int->Option Int):∀ {ls ms:List LV},ms.map LV.core=ls.map LV.core->lvsU f ms=lvsU f ls
 | [],[],_=>rfl
 | [],q :: qs,h=>by simp at h
 | p :: ps,[],h=>by simp at h
 | p :: ps,q :: qs,h=>by
  simp only [List.map_cons,List.cons.injEq] at h
  have ih:=lvsU_same7 f h.2
  have e:lv1 f q=lv1 f p:=by
   have:=h.1
   unfold LV.core at this
   simp only [Prod.mk.injEq] at this
   unfold lv1
   rw [this.1,this.2]
  unfold lvsU at ih ⊢
  rw [List.filterMap_cons,List.filterMap_cons,e,ih]
theorem RLst.same7 {g x:GV}{T N:List Bool}(e1:x.ts.length=g.ts.length)(e2:x.ns.length=g.ns.length)(e3:x.start=g.start)(e4:x.ps.map PV.core=g.ps.map PV.core)(h1:RLst x T N):RLst g T N:=by
 refine ⟨by rw [h1.tl,e1],by rw [h1.nl,e2],by rw [<- e3];exact h1.st,fun p hp hl s hq=>?_,fun Ct Cn hC=>h1.lst Ct Cn ⟨by rw [e3];exact hC.1,fun q hq hl s hm=>?_⟩⟩
 ·obtain ⟨q,hq',r1,r2⟩:=mem_coreT e4 hp
  exact h1.clo q hq' (by rw [r1];exact hl) s (by rw [r2];exact hq)
 ·obtain ⟨p,hp,r1,r2⟩:=mem_coreT e4.symm hq
  exact hC.2 p hp (by rw [r1];exact hl) s (by rw [r2];exact hm)
theorem TrG.same7 {g x y:GV}{f:Int×Int->Option Int}{N M:List Bool}(hs:SameG g x)(h:TrG f (sU_ N M) x y):TrG f (sU_ N M) g y:=by
 refine ⟨by rw [h.ts,hs.ts],by rw [h.ns,hs.ns],by rw [h.st,hs.start],h.ps.trans (filter_core7 (fun p q e=>?_) (fun p q e=>?_) hs.ps),h.ls.trans (lvsU_same7 f hs.ls)⟩
 ·obtain ⟨r1,r2,r3⟩:=core_three7 e
  unfold sU_
  rw [r1,r2]
 ·obtain ⟨r1,r2,r3⟩:=core_three7 e
  unfold prU7
  rw [r1,r2,r3]
theorem TrR.same7 {g x y:GV}{er k:Int}(hs:SameG g x)(h:TrR x er k y):TrR g er k y:=by
 refine ⟨fun e=>?_,h.2⟩
 obtain ⟨M,hM,a⟩:=h.1 e
 rw [hs.ns] at hM
 refine ⟨M,hM.same hs.ps,?_⟩
 rw [hs.start] at a
 rcases a with a | ⟨a1,T,N,aR,a2⟩
 ·exact .inl a
 ·refine .inr ⟨a1,T,N,RLst.same7 (x:=gF x fun p=>wU_ true M p.right) (by show x.ts.length=g.ts.length;rw [hs.ts]) (by show x.ns.length=g.ns.length;rw [hs.ns]) hs.start (filter_core7 (fun p q e=>by obtain ⟨r1,r2,r3⟩:=core_three7 e;rw [r2]) (fun p q e=>e) hs.ps) aR,?_⟩
  rcases a2 with a2 | ⟨a3,a4,a5⟩
  ·exact .inl a2
  ·refine .inr ⟨a3,a4,?_⟩
   rw [hs.ts,hs.ns] at a5
   exact a5.same7 hs
theorem WlR.same7 {g x y:GV}{er k:Int}(hs:SameG g x)(h:WlR x er k y):WlR g er k y:=by
 obtain ⟨k0,x0,t,r⟩:=h
 exact ⟨k0,x0,t.same7 hs,r⟩
theorem WlR.one7 {g x y:GV}{er k k':Int}(h:WlR g er k x)(h':WlR g er k' y):k'=k/\SameG x y:=by
 obtain ⟨k0,x0,t,r⟩:=h
 obtain ⟨k1,x1,t',r'⟩:=h'
 obtain ⟨rfl,s⟩:=t.one7 t'
 rcases r with ⟨n1,rfl,rfl⟩ | ⟨rfl,O,c,r⟩
 ·rcases r' with ⟨n2,rfl,rfl⟩ | ⟨e,_⟩
  ·exact ⟨rfl,rfl,rfl,rfl,rfl,rfl⟩
  ·exact absurd e n1
 ·rcases r' with ⟨n2,_⟩ | ⟨_,O',c',r'⟩
  ·exact absurd rfl n2
  ·obtain rfl:=(c'.same s).one c
   rcases r with ⟨n,rfl,rfl⟩ | ⟨rfl,rfl,rfl⟩
   ·rcases r' with ⟨_,rfl,rfl⟩ | ⟨e,_⟩
    ·exact ⟨rfl,rfl,rfl,rfl,rfl,rfl⟩
    ·exact absurd e n
   ·rcases r' with ⟨n,_⟩ | ⟨_,rfl,rfl⟩
    ·exact absurd rfl n
    ·exact ⟨rfl,s⟩
theorem TrR.at7 {g x:GV}{er at_ k:Int}(hE:cG_ g (cF_ g.ts g.ns)=(er,at_))(h:TrR g er k x){B:Nat}{w:World}(d:DG B w x):GAt 140737488355328 w x:=by
 by_cases hk:k=0
 ·subst hk
  obtain ⟨M,T,N,kn⟩:=(h.known hE).2
  exact (d.own7 kn.tidy.ok).1
 ·rw [h.nil7 hk]
  exact nil7_at w
theorem WlR.at7 {g x:GV}{er at_ k:Int}(hE:cG_ g (cF_ g.ts g.ns)=(er,at_))(h:WlR g er k x){B:Nat}{w:World}(d:DG B w x):GAt 140737488355328 w x:=by
 obtain ⟨k0,x0,t,⟨_,_,rfl⟩ | ⟨rfl,O,c,⟨_,_,rfl⟩ | ⟨_,_,rfl⟩⟩⟩:=h
 ·exact nil7_at w
 ·exact nil7_at w
 ·exact t.at7 hE d
set_option linter.unusedSimpArgs false in
theorem Wells_Y (g:GV)(w:World)(h:GAt 140737488355328 w g)(er at_:Int)(hE:cG_ g (cF_ g.ts g.ns)=(er,at_)) :
  Calls Tryz.prog 24 #[g.val] w fun e w'=>∃ x k,e=.returned (.tuple #[x.val,.int .i64 k])/\WlR g er k x/\DG (w.heap.size+1+1) w' x/\Below w.heap.size w w':=by
 have B1:Hid (Below w.heap.size w ((w.alloc (gBox g)).alloc zG)/\((w.alloc (gBox g)).alloc zG).heap[w.heap.size]?=some (gBox g)/\((w.alloc (gBox g)).alloc zG).heap[w.heap.size+1]?=some zG):=by
  have q0:=heap_alloc_new w (gBox g)
  have q:=heap_alloc_new (w.alloc (gBox g)) zG
  rw [show (w.alloc (gBox g)).heap.size=w.heap.size+1 by simp] at q
  exact ⟨(bAl w _).trans ((bAl (w.alloc (gBox g)) _).mono (bAl w _).size),((bAl (w.alloc (gBox g)) _).block _ (by simp)).trans q0,q⟩
 have TR:Hid (Calls Tryz.prog 22 #[g.val] ((w.alloc (gBox g)).alloc zG) fun e w'=>∃ x k,e=.returned (.tuple #[x.val,.int .i64 k])/\TrR g er k x/\DG (((w.alloc (gBox g)).alloc zG).heap.size+1+1) w' x/\Below ((w.alloc (gBox g)).alloc zG).heap.size ((w.alloc (gBox g)).alloc zG) w'):=Trim_Y g _ (h.later B1.out.1) er at_ hE
 have HE:Hid (cG_ g (cF_ g.ts g.ns)=(er,at_)):=hE
 obtain ⟨x0,x1,x2,x3,x4⟩:=gbc B1.out.2.1
 clear h hE
 go_enter Tryz.func24,Tryz.ntmps24
 go_wp2_with (go_at_call 22;refine TR.out.mono ?_)
 rintro e w2 ⟨x,k,rfl,t2,d2,b2⟩
 have Bw2:Hid (Below w.heap.size w w2/\w2.heap[w.heap.size+1]?=some zG):=⟨B1.out.1.trans (b2.mono B1.out.1.size),(b2.block _ (lt_of_block B1.out.2.2)).trans B1.out.2.2⟩
 have T2:Hid (TrR g er k x):=t2
 have D2:Hid (DG (w.heap.size+1+1) w2 x):=d2.mono (by simp)
 clear t2 d2 b2 x0 x1 x2 x3 x4 TR
 by_cases hk:k=0
 ·subst hk
  have KN:Hid (∃ M T N,TrK g x M T N):=(TrR.known HE.out T2.out).2
  have IN:Hid (∀ wq,Below w2.heap.size w2 wq->Calls Tryz.prog 13 #[x.val] wq fun e w'=>∃ a c l,e=.returned (.tuple #[.slice a l.length c,.int .i64 0])/\CiL x l/\Below wq.heap.size wq w'):=fun wq hb=>by
   obtain ⟨M,T,N,kn⟩:=KN.out
   have ck:=kn.check
   have ok:=kn.tidy.ok
   obtain ⟨y1,y2,y3⟩:=(D2.out.kept fun k _ hk=>hb.block k hk).own7 ok
   exact (Circular_Y x wq y1 0 0 ck y3).mono fun e w' ⟨a,c,l,q1,q2,_,q4⟩=>⟨a,c,l,q1,q2.1 rfl,q4⟩
  have t1:((0:Int) != 0)=false:=by decide
  have b3:Below w2.heap.size w2 (w2.alloc (gBox x)):=bAl _ _
  have X3:Hid ((w2.alloc (gBox x)).heap[w2.heap.size]?=some (gBox x)):=heap_alloc_new _ _
  have Bw3:Hid (Below w.heap.size w (w2.alloc (gBox x))/\(w2.alloc (gBox x)).heap[w.heap.size+1]?=some zG):=⟨Bw2.out.1.trans (b3.mono Bw2.out.1.size),(b3.block _ (lt_of_block Bw2.out.2)).trans Bw2.out.2⟩
  have CC:Hid (Calls Tryz.prog 13 #[x.val] (w2.alloc (gBox x)) fun e w'=>∃ a c l,e=.returned (.tuple #[.slice a l.length c,.int .i64 0])/\CiL x l/\Below (w2.alloc (gBox x)).heap.size (w2.alloc (gBox x)) w'):=IN.out _ b3
  have D3:Hid (DG (w.heap.size+1+1) (w2.alloc (gBox x)) x):=D2.out.kept fun k _ hk=>b3.block k hk
  obtain ⟨x0,x1,x2,x3,x4⟩:=gbc X3.out
  clear b3 IN
  go_wp2_with (go_at_call 13;refine CC.out.mono ?_)
  rintro e w4 ⟨a,c,l,rfl,c4,b4⟩
  have B4:Hid (Below w.heap.size w w4/\w4.heap[w.heap.size+1]?=some zG/\w4.heap[w2.heap.size]?=some (gBox x)):=⟨Bw3.out.1.trans (b4.mono Bw3.out.1.size),(b4.block _ (lt_of_block Bw3.out.2)).trans Bw3.out.2,(b4.block _ (lt_of_block X3.out)).trans X3.out⟩
  have D4:Hid (DG (w.heap.size+1+1) w4 x):=D3.out.kept fun k _ hk=>b4.block k hk
  have C4:Hid (CiL x l):=c4
  clear b4 c4 x0 x1 x2 x3 x4
  obtain ⟨x0,x1,x2,x3,x4⟩:=gbc B4.out.2.2
  obtain ⟨r0,r1,r2,r3,r4⟩:=zcells B4.out.2.1
  obtain ⟨e0,e1,e2,e3,e4⟩:=zfree B4.out.2.1
  cases l with
  | nil =>
   have REL:Hid (WlR g er 0 x):=⟨0,x,T2.out,.inr ⟨rfl,[],C4.out,.inr ⟨rfl,rfl,rfl⟩⟩⟩
   go_wp2
   refine bodyPost_ret (v:=.tuple #[x.val,.int .i64 0]) (by simp [results,Tryz.results24,go_sem,r0,r1,r2,r3,r4]) rfl ?_
   refine ⟨x,0,rfl,REL.out,D4.out.kept fun k hk hk2=>?_,below_set5 B4.out.1 _ _ _ _ _⟩
   exact (set5 (o:=w4.heap[k]'hk2) (by omega) (by simp) _ _ _ _ _ _ _ _ _ _).trans (by simp)
  | cons y l =>
   have REL:Hid (WlR g er 73 gNil7):=⟨0,x,T2.out,.inr ⟨rfl,y :: l,C4.out,.inl ⟨by simp,rfl,rfl⟩⟩⟩
   have hpos:(0:Int) < ((y :: l).length:Int):=by simp only [List.length_cons];omega
   go_wp2
   refine bodyPost_ret (v:=.tuple #[gNil7.val,.int .i64 73]) (by simp [results,Tryz.results24,go_sem,r0,r1,r2,r3,r4,gNil7]) rfl ?_
   exact ⟨gNil7,73,rfl,REL.out,DG.nil7 _ _,below_set5 B4.out.1 _ _ _ _ _⟩
 ·have t1:(k != 0)=true:=by simpa using hk
  have b3:Below w2.heap.size w2 (w2.alloc (gBox x)):=bAl _ _
  have Bw3:Hid (Below w.heap.size w (w2.alloc (gBox x))/\(w2.alloc (gBox x)).heap[w.heap.size+1]?=some zG):=⟨Bw2.out.1.trans (b3.mono Bw2.out.1.size),(b3.block _ (lt_of_block Bw2.out.2)).trans Bw2.out.2⟩
  obtain ⟨r0,r1,r2,r3,r4⟩:=zcells Bw3.out.2
  obtain ⟨e0,e1,e2,e3,e4⟩:=zfree Bw3.out.2
  have REL:Hid (WlR g er k gNil7):=⟨k,x,T2.out,.inl ⟨hk,rfl,rfl⟩⟩
  clear b3 hk
  go_wp2
  refine bodyPost_ret (v:=.tuple #[gNil7.val,.int .i64 k]) (by simp [results,Tryz.results24,go_sem,r0,r1,r2,r3,r4,gNil7]) rfl ?_
  exact ⟨gNil7,k,rfl,REL.out,DG.nil7 _ _,below_set5 Bw3.out.1 _ _ _ _ _⟩
structure TX7 (g x:GV)(w:World)(V:Nat->Value)(E:Nat->List HE)(b1:Nat)(X:List (Nat×GV))(wr:World):Prop where
 tw:TW g x w V E (0+g.ls.length) wr
 bx:wr.heap[b1]?=some (gBox x)
 own:∀ q∈X,wr.heap[q.1]?=some (gBox q.2)/\∃ B,DG B wr q.2
section
variable {g x y:GV} {w wr w':World} {V:Nat->Value} {E:Nat->List HE} {b1:Nat} {X:List (Nat×GV)}
theorem TX7.later (h:TX7 g x w V E b1 X wr)(hb:Below wr.heap.size wr w'):TX7 g x w V E b1 X w' :=
 ⟨h.tw.later hb,blk_later h.bx hb,fun q hq=>⟨blk_later (h.own q hq).1 hb,(h.own q hq).2.imp fun _ d=>d.kept fun k _ hk=>hb.block k hk⟩⟩
theorem TX7.add (h:TX7 g x w V E b1 X wr)(hb:Below wr.heap.size wr w'){B:Nat}(hd:DG B w' y):TX7 g x w V E b1 ((w'.heap.size,y) :: X) (w'.alloc (gBox y)) :=
 have k:=(h.later hb).later (bAl w' (gBox y))
 ⟨k.tw,k.bx,fun q hq=>by
  rcases List.mem_cons.1 hq with rfl | r
  ·exact ⟨heap_alloc_new _ _,B,hd.kept fun k _ hk=>(bAl w' (gBox y)).block k hk⟩
  ·exact k.own q r⟩
end
set_option linter.unusedSimpArgs false in
theorem trims_walk (g:GV)(w:World)(h:GAt 140737488355328 w g)(hfi:GFine g)(hT:TabB w) :
  Calls Tryz.prog 4 #[g.val] w fun e w'=>e=.returned (.bool true)/\Below w.heap.size w w':=by
 obtain ⟨er,at_,hE⟩:∃ er at_,cG_ g (cF_ g.ts g.ns)=(er,at_):=⟨_,_,rfl⟩
 have X0:Hid ((w.alloc (gBox g)).heap[w.heap.size]?=some (gBox g)):=heap_alloc_new _ _
 have H0:Hid (HG (w.heap.size+1) (w.alloc (gBox g)) ((w.alloc (gBox g)).alloc gvBoxT) (w.heap.size+1) (fun _=>hNil) (fun _=>[]) 0 0 0):=by
  have:=hg_newT (w.heap.size+1) (w.alloc (gBox g)) (w.alloc (gBox g)) (Below.refl _ _) (by simp)
  rw [show (w.alloc (gBox g)).heap.size=w.heap.size+1 by simp] at this
  exact this
 have B0:Hid (∀ wr,Below (w.heap.size+1) (w.alloc (gBox g)) wr->Below w.heap.size w wr/\wr.heap[w.heap.size]?=some (gBox g)/\GAt 140737488355328 wr g):=fun wr hb=>by
  have b1:Below w.heap.size w wr:=(bAl w _).trans (hb.mono (by omega))
  exact ⟨b1,(hb.block _ (by omega)).trans (heap_alloc_new _ _),h.later b1⟩
 have HFI:Hid (GFine g):=hfi
 have HE:Hid (cG_ g (cF_ g.ts g.ns)=(er,at_)):=hE
 have HXA:Hid (∀ x V E n1 wr,TW g x w V E n1 wr->GAt 140737488355328 wr x/\x.ps.length<=x.pc):=fun x V E n1 wr k=>⟨(k.gx.at k.same h).1,(k.gx.at k.same h).2⟩
 have HT:Hid (∀ wr,Below w.heap.size w wr->TabB wr):=fun wr hb=>hT.later hb
 have PT:Hid (∀ x V E b1 X wr,TX7 g x w V E b1 X wr->Calls Tryz.prog 21 #[x.val] wr fun e w'=>∃ y k B,e=.returned (.tuple #[y.val,.int .i64 k])/\TrR g er k y/\DG B w' y/\Below wr.heap.size wr w'):=fun x V E b1 X wr k=>(Trim_P x wr (HXA.out _ _ _ _ _ k.tw).1 (HXA.out _ _ _ _ _ k.tw).2 er at_ ((same_check k.tw.same).trans hE) (fun q=>OkC.prw (OkC.of (by rw [same_check k.tw.same,hE,q])))).mono fun e w' ⟨y,kk,q1,q2,q3,q4⟩=>⟨y,kk,_,q1,q2.same7 k.tw.same,q3,q4⟩
 have RT:Hid (∀ wr,Below w.heap.size w wr->Calls Tryz.prog 22 #[g.val] wr fun e w'=>∃ y k B,e=.returned (.tuple #[y.val,.int .i64 k])/\TrR g er k y/\DG B w' y/\Below wr.heap.size wr w'):=fun wr hb=>(Trim_Y g wr (h.later hb) er at_ hE).mono fun e w' ⟨y,kk,q1,q2,q3,q4⟩=>⟨y,kk,_,q1,q2,q3,q4⟩
 have PW:Hid (∀ x V E b1 X wr,TX7 g x w V E b1 X wr->Calls Tryz.prog 23 #[x.val] wr fun e w'=>∃ y k B,e=.returned (.tuple #[y.val,.int .i64 k])/\WlR g er k y/\DG B w' y/\Below wr.heap.size wr w'):=fun x V E b1 X wr k=>(Wells_P x wr (HXA.out _ _ _ _ _ k.tw).1 (HXA.out _ _ _ _ _ k.tw).2 er at_ ((same_check k.tw.same).trans hE) (HT.out _ k.tw.bel)).mono fun e w' ⟨y,kk,q1,q2,q3,q4⟩=>⟨y,kk,_,q1,q2.same7 k.tw.same,q3,q4⟩
 have RW:Hid (∀ wr,Below w.heap.size w wr->Calls Tryz.prog 24 #[g.val] wr fun e w'=>∃ y k B,e=.returned (.tuple #[y.val,.int .i64 k])/\WlR g er k y/\DG B w' y/\Below wr.heap.size wr w'):=fun wr hb=>(Wells_Y g wr (h.later hb) er at_ hE).mono fun e w' ⟨y,kk,q1,q2,q3,q4⟩=>⟨y,kk,_,q1,q2,q3,q4⟩
 have ST:Hid (∀ x V E b1 X wr y z b b' k,TX7 g x w V E b1 X wr->(b,y)∈X->(b',z)∈X->TrR g er k y->TrR g er k z->Calls Tryz.prog 25 #[y.val,z.val] wr fun e w'=>e=.returned (.bool true)/\Below wr.heap.size wr w'):=fun x V E b1 X wr y z b b' k t m m' r r'=>by
  obtain ⟨_,d⟩:=(t.own _ m).2
  obtain ⟨_,d'⟩:=(t.own _ m').2
  exact samegram_g wr z y 140737488355328 (Nat.le_refl _) (r'.at7 HE.out d') (r.at7 HE.out d) (r'.one7 r).2
 have SW:Hid (∀ x V E b1 X wr y z b b' k,TX7 g x w V E b1 X wr->(b,y)∈X->(b',z)∈X->WlR g er k y->WlR g er k z->Calls Tryz.prog 25 #[y.val,z.val] wr fun e w'=>e=.returned (.bool true)/\Below wr.heap.size wr w'):=fun x V E b1 X wr y z b b' k t m m' r r'=>by
  obtain ⟨_,d⟩:=(t.own _ m).2
  obtain ⟨_,d'⟩:=(t.own _ m').2
  exact samegram_g wr z y 140737488355328 (Nat.le_refl _) (r'.at7 HE.out d') (r.at7 HE.out d) (r'.one7 r).2
 obtain ⟨x0,x1,x2,x3,x4⟩:=gbc (b:=w.heap.size) (w':=(w.alloc (gBox g)).alloc gvBoxT) (((bAl (w.alloc (gBox g)) gvBoxT).block _ (by simp)).trans X0.out)
 have T0:Hid True:=trivial
 clear h hfi hE hT
 go_enter Tryz.func4,Tryz.ntmps4
 go_wp2_with (first
  | (go_at_call 7;refine (hg_gram H0.out (by omega) (by omega) (by omega) g HFI.out (fun wr hb=>(B0.out wr (H0.out.bel.trans hb)).2.2)).mono ?_;rintro e w1 ⟨x,rfl,hs,hx,ho⟩;obtain ⟨V1,E1,k1⟩:=ho.ex;have A1:Hid (TX7 g x w V1 E1 w1.heap.size [] (w1.alloc (gBox x))):=⟨TW.later ⟨(B0.out w1 (H0.out.bel.trans ho.bel)).1,(B0.out w1 (H0.out.bel.trans ho.bel)).2.1,k1,hs,hx⟩ (bAl _ _),heap_alloc_new _ _,fun q hq=>(by cases hq)⟩;clear hs hx ho k1 x0 x1 x2 x3 x4;obtain ⟨y0,y1,y2,y3,y4⟩:=gbc A1.out.bx)
  | (go_at_call 21;refine (PT.out _ _ _ _ _ _ A1.out).mono ?_;rintro e w2 ⟨a2,k2,C2,rfl,p2,d2,b2⟩;have P2:Hid (TrR g er k2 a2):=p2;have A2:Hid (TX7 g x w V1 E1 w1.heap.size [(w2.heap.size,a2)] (w2.alloc (gBox a2))):=A1.out.add b2 d2;clear p2 d2 b2 y0 y1 y2 y3 y4;obtain ⟨y0,y1,y2,y3,y4⟩:=gbc A2.out.tw.box)
  | (go_at_call 22;refine (RT.out _ A2.out.tw.bel).mono ?_;rintro e w3 ⟨a3,k3,C3,rfl,p3,d3,b3⟩;obtain rfl:k3=k2:=(P2.out.one7 p3).1;have P3:Hid (TrR g er k3 a3):=p3;have A3:Hid (TX7 g x w V1 E1 w1.heap.size [(w3.heap.size,a3),(w2.heap.size,a2)] (w3.alloc (gBox a3))):=A2.out.add b3 d3;clear p3 d3 b3 y0 y1 y2 y3 y4;obtain ⟨y0,y1,y2,y3,y4⟩:=gbc A3.out.bx)
  | (go_at_call 23;refine (PW.out _ _ _ _ _ _ A3.out).mono ?_;rintro e w4 ⟨a4,k4,C4,rfl,p4,d4,b4⟩;have P4:Hid (WlR g er k4 a4):=p4;have A4:Hid (TX7 g x w V1 E1 w1.heap.size [(w4.heap.size,a4),(w3.heap.size,a3),(w2.heap.size,a2)] (w4.alloc (gBox a4))):=A3.out.add b4 d4;clear p4 d4 b4 y0 y1 y2 y3 y4;obtain ⟨y0,y1,y2,y3,y4⟩:=gbc A4.out.tw.box)
  | (go_at_call 24;refine (RW.out _ A4.out.tw.bel).mono ?_;rintro e w5 ⟨a5,k5,C5,rfl,p5,d5,b5⟩;obtain rfl:k5=k4:=(P4.out.one7 p5).1;have P5:Hid (WlR g er k5 a5):=p5;have A5:Hid (TX7 g x w V1 E1 w1.heap.size [(w5.heap.size,a5),(w4.heap.size,a4),(w3.heap.size,a3),(w2.heap.size,a2)] (w5.alloc (gBox a5))):=A4.out.add b5 d5;clear p5 d5 b5 y0 y1 y2 y3 y4;obtain ⟨y0,y1,y2,y3,y4⟩:=gbc (A5.out.own (w2.heap.size,a2) (by simp)).1;obtain ⟨z0,z1,z2,z3,z4⟩:=gbc (A5.out.own (w3.heap.size,a3) (by simp)).1)
  | (go_at_call 25;have T1:Hid True:=T0;clear T0;refine (ST.out _ _ _ _ _ _ a2 a3 w2.heap.size w3.heap.size k3 A5.out (by simp) (by simp) P2.out P3.out).mono ?_;rintro e w6 ⟨rfl,b6⟩;have A6:Hid (TX7 g x w V1 E1 w1.heap.size [(w5.heap.size,a5),(w4.heap.size,a4),(w3.heap.size,a3),(w2.heap.size,a2)] w6):=A5.out.later b6;clear b6 y0 y1 y2 y3 y4 z0 z1 z2 z3 z4;obtain ⟨y0,y1,y2,y3,y4⟩:=gbc (A6.out.own (w4.heap.size,a4) (by simp)).1;obtain ⟨z0,z1,z2,z3,z4⟩:=gbc (A6.out.own (w5.heap.size,a5) (by simp)).1)
  | (go_at_call 25;have T2:Hid True:=T1;clear T1;refine (SW.out _ _ _ _ _ _ a4 a5 w4.heap.size w5.heap.size k5 A6.out (by simp) (by simp) P4.out P5.out).mono ?_;rintro e w7 ⟨rfl,b7⟩;have A7:Hid (TX7 g x w V1 E1 w1.heap.size [(w5.heap.size,a5),(w4.heap.size,a4),(w3.heap.size,a3),(w2.heap.size,a2)] w7):=A6.out.later b7;clear b7 y0 y1 y2 y3 y4 z0 z1 z2 z3 z4)
  | (go_at_call 17;refine (num07_P _ _).mono ?_;rintro e w9' ⟨rfl,rfl⟩)
  | (go_at_call 19;refine (gintact _ V1 tyG E1 w7 A7.out.tw.hg.inv A7.out.tw.hg.st (by have:=A7.out.tw.hg.l1;have:=HFI.out.ll;omega) (by have:=A7.out.tw.hg.l2;omega) (by have:=A7.out.tw.hg.l4;have:=HFI.out.pl;omega)).mono ?_;rintro e w8 ⟨rfl,b8⟩;have A8:Hid (TX7 g x w V1 E1 w1.heap.size [(w5.heap.size,a5),(w4.heap.size,a4),(w3.heap.size,a3),(w2.heap.size,a2)] w8):=A7.out.later b8;clear b8)
  | (go_at_call 20;refine (alive_T w8 (HT.out _ A8.out.tw.bel)).mono ?_;rintro e w9 ⟨rfl,b9⟩;have A9:Hid (TX7 g x w V1 E1 w1.heap.size [(w5.heap.size,a5),(w4.heap.size,a4),(w3.heap.size,a3),(w2.heap.size,a2)] w9):=A8.out.later b9;clear b9))
 go_ret
 exact ⟨rfl,A9.out.tw.bel⟩
end Go.Proofs.YtlfiohdhcmmjbaaGreatDoor
