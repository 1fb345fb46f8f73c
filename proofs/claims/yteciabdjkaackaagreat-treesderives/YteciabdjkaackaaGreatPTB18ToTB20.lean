import Derived.Test.YteciabdjkaackaaGreatPTB15ToTB17
import Derived.Test.YteciabdjkaackaaGreatPTRvToTRw
namespace Go.Proofs.YteciabdjkaackaaGreat
set_option linter.unusedVariables false
open Go.RowKit
def fbU (n:Nat):Nat->List Int->Option Nat
 | _,[]=>none
 | i,x :: l=>if 0<=x/\x < n then fbU n (i+1) l else some i
def cpU (er:Int)(n:Nat)(l:List Int):Int×Int:=if er≠0 then (er,0) else match fbU n 0 l with
 | some i=>(4,(i:Int))
 | none=>if l=[] then (1,0) else (0,0)
theorem fb_none {n:Nat}:∀ (l:List Int) (i:Nat),fbU n i l=none->∀ x∈l,0<=x/\x < n
 | [],_,_,x,hx=>by cases hx
 | y :: l,i,h,x,hx=>by
  rw [fbU] at h
  split at h
  ·rename_i q
   rcases List.mem_cons.1 hx with rfl | hx
   ·exact q
   ·exact fb_none l (i+1) h x hx
  ·cases h
theorem cp_ok {er:Int}{n:Nat}{l:List Int}(h:(cpU er n l).1=0):er=0/\l≠[]/\(∀ x∈l,0<=x/\x < n)/\cpU er n l=(0,0):=by
 unfold cpU at h ⊢
 by_cases h0:er=0
 ·rw [if_neg (by simpa using h0)] at h ⊢
  cases hf:fbU n 0 l with
  | some i=>rw [hf] at h;cases h
  | none =>
   rw [hf] at h
   dsimp only at h ⊢
   by_cases hl:l=[]
   ·rw [if_pos hl] at h;cases h
   ·rw [if_neg hl]
    exact ⟨h0,hl,fb_none l 0 hf,rfl⟩
 ·rw [if_pos h0] at h
  exact absurd h h0
set_option linter.unusedSimpArgs false in
set_option maxRecDepth 100000 in
set_option maxHeartbeats 4000000 in
theorem checkProds_W {w:World}{g:GV}{pa:Option Addr}{pc:Nat}{l:List Int}(hg:GAt 140737488355328 w g)(hpc:g.ps.length<=g.pc)(er at_:Int)(hE:cG_ g (cF_ g.ts g.ns)=(er,at_))(hli:InRow w pa l)(hl:l.length<=1000000000):Calls Tryz.prog 69 #[g.val,.slice pa l.length pc] w fun e w'=>e=.returned (.tuple #[.int .i64 (cpU er g.ps.length l).1,.int .i64 (cpU er g.ps.length l).2])/\Below w.heap.size w w':=by
 have X0:Hid (Below w.heap.size w (w.alloc (gBox g))/\(w.alloc (gBox g)).heap[w.heap.size]?=some (gBox g)):=⟨bAl _ _,heap_alloc_new _ _⟩
 have CK:Hid (∀ w',Below w.heap.size w w'->Calls Tryz.prog 79 #[g.val] w' fun e w''=>e=.returned (.tuple #[.int .i64 er,.int .i64 at_])/\Below w'.heap.size w' w''):=fun w' hb=>check_G g w' (hg.later hb) hpc er at_ hE
 have CP:Hid (∀ (n:Int) w',Calls Tryz.prog 85 #[g.val,.int .i64 n] w' fun e w''=>e=.returned (.bool (decide (0<=n) && decide (n < g.ps.length)))/\Below w'.heap.size w' w''):=fun n w'=>isProd_W g n w' hg.pl
 have HL:Hid (∀ w',Below w.heap.size w w'->InRow w' pa l):=fun w' hb=>hli.later hb
 obtain ⟨x0,x1,x2,x3,x4⟩:=gbx_cells X0.out.2
 clear hg hpc hE hli
 by_cases h0:er=0
 ·subst h0
  have t1:((0:Int) != 0)=false:=by decide
  have HC:Hid (cpU 0 g.ps.length l=match fbU g.ps.length 0 l with
   | some i=>(4,(i:Int))
   | none=>if l=[] then (1,0) else (0,0)):=if_neg (by simp)
  go_enter Tryz.func69,Tryz.ntmps69
  go_wp2_with (go_at_call 79;refine (CK.out _ X0.out.1).mono ?_;rintro e w2 ⟨rfl,b2⟩;have B2:Hid (Below w.heap.size w w2/\w2.heap[w.heap.size]?=some (gBox g)):=⟨X0.out.1.trans (b2.mono X0.out.1.size),(b2.block _ (lt_of_block X0.out.2)).trans X0.out.2⟩;clear b2 x0 x1 x2 x3 x4)
  go_loopw [20] (fun z wr=>∃ k:Nat,k<=l.length/\z=.int .i64 k/\(Below w.heap.size w wr/\wr.heap[w.heap.size]?=some (gBox g))/\fbU g.ps.length k (l.drop k)=fbU g.ps.length 0 l) (fun i _=>l.length - (intOf i).toNat)
  case atStart=>exact ⟨0,Nat.zero_le _,rfl,B2.out,rfl⟩
  case round =>
   clear B2 CK X0
   obtain ⟨k,hk,rfl,hB,hf⟩:=hrel
   have BB:Hid (Below w.heap.size w wr/\wr.heap[w.heap.size]?=some (gBox g)):=hB
   by_cases hlt:k < l.length
   ·obtain ⟨b,off,rfl,hbl,hc⟩:=HL.out _ hB.1 (by intro h;subst h;simp at hlt)
    have c0:=hc k hlt
    have e0:l.getD k 0=l[k]:=by simp [List.getD,hlt]
    obtain ⟨x0,x1,x2,x3,x4⟩:=gbx_cells hB.2
    rw [List.drop_eq_getElem_cons hlt,fbU] at hf
    rw [e0] at c0
    generalize l[k]=x at *
    have CX:=CP.out x
    by_cases hx:0<=x/\x < g.ps.length
    ·have tb:(decide (0<=x) && decide (x < (g.ps.length:Int)))=true:=by simpa using hx
     rw [if_pos hx] at hf
     have HF:Hid (fbU g.ps.length (k+1) (l.drop (k+1))=fbU g.ps.length 0 l):=hf
     rw [tb] at CX
     have CX':Hid _:=CX
     clear hB hc hf e0 hbl hx tb CX
     go_wp2_with (go_at_call 85;refine (CX'.out _).mono ?_;rintro e w3 ⟨rfl,b3⟩;have B3:Hid (Below w.heap.size w w3/\w3.heap[w.heap.size]?=some (gBox g)):=⟨BB.out.1.trans (b3.mono BB.out.1.size),(b3.block _ (lt_of_block BB.out.2)).trans BB.out.2⟩;clear b3)
     go_roundw
     case rel=>exact ⟨k+1,by omega,by go_num,B3.out,HF.out⟩
     case measure=>simp [intOf];omega
    ·have tb:(decide (0<=x) && decide (x < (g.ps.length:Int)))=false:=by
      simpa using hx
     rw [if_neg hx] at hf
     have HF:Hid (cpU 0 g.ps.length l=(4,(k:Int))):=by show _=_;rw [HC.out,<- hf]
     rw [tb] at CX
     have CX':Hid _:=CX
     clear hB hc hf e0 hbl hx tb CX
     go_wp2_with (go_at_call 85;refine (CX'.out _).mono ?_;rintro e w3 ⟨rfl,b3⟩;have B3:Hid (Below w.heap.size w w3):=BB.out.1.trans (b3.mono BB.out.1.size);clear b3)
     refine bodyPost_ret (results_tmp2 rfl _ _ _) rfl ?_
     rw [HF.out]
     exact ⟨rfl,B3.out⟩
   ·obtain rfl:k=l.length:=by omega
    rw [List.drop_length,fbU] at hf
    by_cases hn:l=[]
    ·subst hn
     have HF:Hid (cpU 0 g.ps.length []=(1,0)):=by show _=_;rw [HC.out,<- hf];rfl
     clear hB hf HC
     simp only [List.length_nil] at *
     go_wp2
     refine bodyPost_ret (results_tmp2 rfl _ _ _) rfl ?_
     rw [HF.out]
     exact ⟨rfl,BB.out.1⟩
    ·have HF:Hid (cpU 0 g.ps.length l=(0,0)):=by show _=_;rw [HC.out,<- hf];exact if_neg hn
     have tn:((l.length:Int) == 0)=false:=by
      have:=List.length_pos_iff.2 hn
      simp;omega
     clear hB hf HC hn
     go_wp2
     refine bodyPost_ret (results_tmp2 rfl _ _ _) rfl ?_
     rw [HF.out]
     exact ⟨rfl,BB.out.1⟩
 ·have t1:(er != 0)=true:=by simpa using h0
  have HC:Hid (cpU er g.ps.length l=(er,0)):=if_pos h0
  clear h0
  go_enter Tryz.func69,Tryz.ntmps69
  go_wp2_with (go_at_call 79;refine (CK.out _ X0.out.1).mono ?_;rintro e w2 ⟨rfl,b2⟩;have R:Hid (Below w.heap.size w w2):=X0.out.1.trans (b2.mono X0.out.1.size);clear b2)
  refine bodyPost_ret (results_tmp2 rfl _ _ _) rfl ?_
  rw [HC.out]
  exact ⟨rfl,R.out⟩
def ansE (N:Nat)(u:Option TV×Int×Int)(e:Ending)(w':World):Prop:=match u with
 | (none,e1,at_)=>e=.returned (.tuple #[TV.none.val,.int .i64 e1,.int .i64 at_])
 | (some t,_,_)=>∃ t',samV t' t/\OwT N w' t'/\e=.returned (.tuple #[t'.val,.int .i64 0,.int .i64 0])
theorem dvE_ans {N:Nat}{g:GV}{l:List Int}{L:List (Int×ByteArray)}{e:Ending}{w':World}(h:dvE N g l L e w'):ansE N (deriveU g l L) e w':=by
 unfold dvE at h
 unfold ansE
 generalize deriveU g l L=u at *
 obtain ⟨ot,e1,e2⟩:=u
 cases ot<;>exact h
def fromU (cp:Int×Int)(u:Option TV×Int×Int):Option TV×Int×Int:=if cp.1≠0 then (none,cp.1,cp.2) else u
set_option linter.unusedSimpArgs false in
set_option maxRecDepth 100000 in
set_option maxHeartbeats 4000000 in
theorem fromLeft_W {w:World}{g:GV}{pa wa:Option Addr}{pc wc:Nat}{l:List Int}{L:List (Int×ByteArray)}(hg:GAt 140737488355328 w g)(hpc:g.ps.length<=g.pc)(er at_:Int)(hE:cG_ g (cF_ g.ts g.ns)=(er,at_))(hli:InRow w pa l)(hl:l.length<=1000000000)(u:Option TV×Int×Int)
  (hD:(cpU er g.ps.length l).1=0->∀ w',Below w.heap.size w w'->Calls Tryz.prog 70 #[g.val,.slice pa l.length pc,.slice wa L.length wc] w' fun e w''=>Below w'.heap.size w' w''/\ansE w'.heap.size u e w'') :
  Calls Tryz.prog 28 #[g.val,.slice pa l.length pc,.slice wa L.length wc] w fun e w'=>Below w.heap.size w w'/\ansE w.heap.size (fromU (cpU er g.ps.length l) u) e w':=by
 have X0:Hid (Below w.heap.size w ((w.alloc (gBox g)).alloc zTrB)/\((w.alloc (gBox g)).alloc zTrB).heap[w.heap.size]?=some (gBox g)/\((w.alloc (gBox g)).alloc zTrB).heap[w.heap.size+1]?=some zTrB):=by
  have h1:=bAl w (gBox g)
  have h2:=bAl (w.alloc (gBox g)) zTrB
  refine ⟨h1.trans (h2.mono h1.size),(h2.block _ (by simp)).trans (heap_alloc_new _ _),?_⟩
  have:=heap_alloc_new (w.alloc (gBox g)) zTrB
  rwa [show (w.alloc (gBox g)).heap.size=w.heap.size+1 by simp] at this
 have CP:Hid (∀ w',Below w.heap.size w w'->Calls Tryz.prog 69 #[g.val,.slice pa l.length pc] w' fun e w''=>e=.returned (.tuple #[.int .i64 (cpU er g.ps.length l).1,.int .i64 (cpU er g.ps.length l).2])/\Below w'.heap.size w' w''):=fun w' hb=>checkProds_W (hg.later hb) hpc er at_ hE (hli.later hb) hl
 have HD:Hid ((cpU er g.ps.length l).1=0->∀ w',Below w.heap.size w w'->Calls Tryz.prog 70 #[g.val,.slice pa l.length pc,.slice wa L.length wc] w' fun e w''=>Below w'.heap.size w' w''/\ansE w'.heap.size u e w''):=hD
 obtain ⟨x0,x1,x2,x3,x4⟩:=gbx_cells X0.out.2.1
 clear hg hpc hE hli hl hD
 generalize cpU er g.ps.length l=cp at *
 obtain ⟨c1,c2⟩:=cp
 dsimp only at *
 have NB:Hid (∀ w2:World,Below w.heap.size w w2->w2.heap[w.heap.size+1]?=some zTrB->(Below w.heap.size w (set4 w2 (w.heap.size+1) 0 TV.none))/\TBx (set4 w2 (w.heap.size+1) 0 TV.none) (w.heap.size+1) 0 TV.none):=fun w2 h1 h2 =>
  ⟨set4_below h1 0 _ (by omega),set4_tbx _ ((cQa h2).trans rfl) ((cQa h2).trans rfl) ((cQa h2).trans rfl) ((cQa h2).trans rfl) (lt_of_block h2)⟩
 have FZ:Hid (∀ w2:World,w2.heap[w.heap.size+1]?=some zTrB->(w2.frozen? ⟨w.heap.size+1,0,none⟩=false/\w2.frozen? ⟨w.heap.size+1,1,none⟩=false/\w2.frozen? ⟨w.heap.size+1,2,none⟩=false/\w2.frozen? ⟨w.heap.size+1,3,none⟩=false)/\w2.cell? ⟨w.heap.size+1,0,none⟩=some (.int .i64 0)/\w2.cell? ⟨w.heap.size+1,1,none⟩=some (.int .i64 0)/\w2.cell? ⟨w.heap.size+1,2,none⟩=some (.string ⟨#[]⟩)/\w2.cell? ⟨w.heap.size+1,3,none⟩=some (.slice none 0 0)):=fun w2 h=>by
  have f0:∀ i,w2.frozen? ⟨w.heap.size+1,i,none⟩=false:=fun i=>by simp [World.frozen?,h]
  exact ⟨⟨f0 0,f0 1,f0 2,f0 3⟩,(cQa h).trans rfl,(cQa h).trans rfl,(cQa h).trans rfl,(cQa h).trans rfl⟩
 by_cases h0:c1=0
 ·subst h0
  have t1:((0:Int) != 0)=false:=by decide
  have eF:fromU (0,c2) u=u:=if_neg (by simp)
  rw [eF]
  clear eF
  have HD0:=HD.out rfl
  obtain ⟨ot,e1,e2⟩:=u
  cases ot with
  | none =>
   have HD2:Hid (∀ w',Below w.heap.size w w'->Calls Tryz.prog 70 #[g.val,.slice pa l.length pc,.slice wa L.length wc] w' fun e w''=>e=.returned (.tuple #[.agg #[.int .i64 0,.int .i64 0,.string ⟨#[]⟩,.slice none 0 0],.int .i64 e1,.int .i64 e2])/\Below w'.heap.size w' w''):=fun w' hb=>(HD0 w' hb).mono fun e w'' ⟨q1,q2⟩=>⟨q2,q1⟩
   clear HD HD0
   go_enter Tryz.func28,Tryz.ntmps28
   go_upto_region 4 with (go_at_call 69;refine (CP.out _ X0.out.1).mono ?_;rintro e w2 ⟨rfl,b2⟩;have B2:Hid (Below w.heap.size w w2/\w2.heap[w.heap.size]?=some (gBox g)/\w2.heap[w.heap.size+1]?=some zTrB):=⟨X0.out.1.trans (b2.mono X0.out.1.size),(b2.block _ (lt_of_block X0.out.2.1)).trans X0.out.2.1,(b2.block _ (lt_of_block X0.out.2.2)).trans X0.out.2.2⟩;clear b2 x0 x1 x2 x3 x4;obtain ⟨x0,x1,x2,x3,x4⟩:=gbx_cells B2.out.2.1)
   go_wp2_with (go_at_call 70;refine (HD2.out _ B2.out.1).mono ?_;rintro e w3 ⟨rfl,b3⟩;have B3:Hid (Below w.heap.size w w3/\w3.heap[w.heap.size+1]?=some zTrB):=⟨B2.out.1.trans (b3.mono B2.out.1.size),(b3.block _ (lt_of_block B2.out.2.2)).trans B2.out.2.2⟩;clear b3 x0 x1 x2 x3 x4;obtain ⟨⟨f0,f1,f2,f3⟩,z0,z1,z2,z3⟩:=FZ.out w3 B3.out.2)
   have B4:Hid _:=NB.out w3 B3.out.1 B3.out.2
   change bodyPost _ _ _ _ _ (set4 w3 (w.heap.size+1) 0 TV.none)
   generalize set4 w3 (w.heap.size+1) 0 TV.none=w5 at *
   have y0:=B4.out.2.c0
   have y1:=B4.out.2.c1
   have y2:=B4.out.2.c2
   have y3:=B4.out.2.c3
   simp only [Nat.zero_add] at y1 y2 y3
   refine bodyPost_ret (v:=.tuple #[TV.none.val,.int .i64 e1,.int .i64 e2]) (by simp [results,Tryz.results28,go_sem,y0,y1,y2,y3]) rfl ?_
   exact ⟨B4.out.1,rfl⟩
  | some t0 =>
   have HD2:Hid (∀ w',Below w.heap.size w w'->Calls Tryz.prog 70 #[g.val,.slice pa l.length pc,.slice wa L.length wc] w' fun e w''=>∃ t',e=.returned (.tuple #[t'.val,.int .i64 0,.int .i64 0])/\Below w'.heap.size w' w''/\samV t' t0/\OwT w'.heap.size w'' t'):=fun w' hb=>(HD0 w' hb).mono fun e w'' ⟨q1,t',q2,q3,q4⟩=>⟨t',q4,q1,q2,q3⟩
   clear HD HD0
   go_enter Tryz.func28,Tryz.ntmps28
   go_upto_region 4 with (go_at_call 69;refine (CP.out _ X0.out.1).mono ?_;rintro e w2 ⟨rfl,b2⟩;have B2:Hid (Below w.heap.size w w2/\w2.heap[w.heap.size]?=some (gBox g)/\w2.heap[w.heap.size+1]?=some zTrB):=⟨X0.out.1.trans (b2.mono X0.out.1.size),(b2.block _ (lt_of_block X0.out.2.1)).trans X0.out.2.1,(b2.block _ (lt_of_block X0.out.2.2)).trans X0.out.2.2⟩;clear b2 x0 x1 x2 x3 x4;obtain ⟨x0,x1,x2,x3,x4⟩:=gbx_cells B2.out.2.1)
   go_wp2_with (go_at_call 70;refine (HD2.out _ B2.out.1).mono ?_;rintro e w3 ⟨t,rfl,b3,s3,o3⟩;have B3:Hid (Below w.heap.size w w3/\w3.heap[w.heap.size+1]?=some zTrB/\samV t t0/\OwT w2.heap.size w3 t/\w.heap.size+1 < w2.heap.size):=⟨B2.out.1.trans (b3.mono B2.out.1.size),(b3.block _ (lt_of_block B2.out.2.2)).trans B2.out.2.2,s3,o3,lt_of_block B2.out.2.2⟩;clear b3 s3 o3 x0 x1 x2 x3 x4;obtain ⟨⟨f0,f1,f2,f3⟩,z0,z1,z2,z3⟩:=FZ.out w3 B3.out.2.1)
   have H5:Hid (Below w.heap.size w (set4 w3 (w.heap.size+1) 0 t)/\TBx (set4 w3 (w.heap.size+1) 0 t) (w.heap.size+1) 0 t/\OwT w.heap.size (set4 w3 (w.heap.size+1) 0 t) t):=by
    obtain ⟨a1,a2,-,a3,a4⟩:=B3.out
    refine ⟨set4_below a1 0 t (by omega),set4_tbx t z0 z1 z2 z3 (lt_of_block a2),?_⟩
    have:=a3.kept (w':=set4 w3 (w.heap.size+1) 0 t) (fun a ha=>set4_other _ _ _ _ _ (by have:=(a3.ty a ha).1;omega)) (by rw [set4_size];exact Nat.le_refl _)
    exact ⟨this.ta,this.cn,fun a ha=>⟨by have:=(this.ty a ha).1;omega,(this.ty a ha).2⟩⟩
   change bodyPost _ _ _ _ _ (set4 w3 (w.heap.size+1) 0 t)
   generalize set4 w3 (w.heap.size+1) 0 t=w5 at *
   have y0:=H5.out.2.1.c0
   have y1:=H5.out.2.1.c1
   have y2:=H5.out.2.1.c2
   have y3:=H5.out.2.1.c3
   simp only [Nat.zero_add] at y1 y2 y3
   refine bodyPost_ret (v:=.tuple #[t.val,.int .i64 0,.int .i64 0]) (by simp [results,Tryz.results28,go_sem,y0,y1,y2,y3]) rfl ?_
   exact ⟨H5.out.1,t,B3.out.2.2.1,H5.out.2.2,rfl⟩
 ·have t1:(c1 != 0)=true:=by simpa using h0
  have eF:fromU (c1,c2) u=(none,c1,c2):=if_pos h0
  rw [eF]
  clear eF h0 HD
  go_enter Tryz.func28,Tryz.ntmps28
  go_upto_region 3 with (go_at_call 69;refine (CP.out _ X0.out.1).mono ?_;rintro e w2 ⟨rfl,b2⟩;have B3:Hid (Below w.heap.size w w2/\w2.heap[w.heap.size+1]?=some zTrB):=⟨X0.out.1.trans (b2.mono X0.out.1.size),(b2.block _ (lt_of_block X0.out.2.2)).trans X0.out.2.2⟩;clear b2 x0 x1 x2 x3 x4;obtain ⟨⟨f0,f1,f2,f3⟩,z0,z1,z2,z3⟩:=FZ.out w2 B3.out.2)
  have B4:Hid _:=NB.out w2 B3.out.1 B3.out.2
  go_wp2
  change bodyPost _ _ _ _ _ (set4 w2 (w.heap.size+1) 0 TV.none)
  generalize set4 w2 (w.heap.size+1) 0 TV.none=w5 at *
  have y0:=B4.out.2.c0
  have y1:=B4.out.2.c1
  have y2:=B4.out.2.c2
  have y3:=B4.out.2.c3
  simp only [Nat.zero_add] at y1 y2 y3
  refine bodyPost_ret (v:=.tuple #[TV.none.val,.int .i64 c1,.int .i64 c2]) (by simp [results,Tryz.results28,go_sem,y0,y1,y2,y3]) rfl ?_
  exact ⟨B4.out.1,rfl⟩
def mirF:Nat->TV->TV
 | 0,t=>t
 | n+1,t=>t.sk ((t.kids.map (mirF n)).reverse)
def mirT (t:TV):TV:=mirF (tsz t) t
theorem mp_congr {α β:Type}{f f':α->β}:∀ (l:List α),(∀ x∈l,f x=f' x)->l.map f=l.map f'
 | [],_=>rfl
 | x :: l,h=>by rw [List.map_cons,List.map_cons,h x (List.mem_cons_self ..),mp_congr l (fun y hy=>h y (List.mem_cons_of_mem _ hy))]
theorem mirF_any:∀ (n m:Nat) (t:TV),tsz t<=n->tsz t<=m->mirF n t=mirF m t
 | 0,_,t,h,_=>by have:=tsz_pos t;omega
 | _+1,0,t,_,h=>by have:=tsz_pos t;omega
 | n+1,m+1,t,h,h'=>by
  rw [mirF,mirF]
  congr 2
  exact mp_congr _ fun k hk=>mirF_any n m k (by have:=kid_lt hk;omega) (by have:=kid_lt hk;omega)
theorem mirT_eq (t:TV):mirT t=t.sk ((t.kids.map mirT).reverse):=by
 obtain ⟨n,hn⟩:∃ n,tsz t=n+1:=⟨tsz t - 1,by have:=tsz_pos t;omega⟩
 unfold mirT
 rw [hn,mirF]
 congr 2
 exact mp_congr _ fun k hk=>mirF_any _ _ k (by have:=kid_lt hk;omega) (Nat.le_refl _)
theorem mir_kids (t:TV):(mirT t).kids=(t.kids.map mirT).reverse:=by rw [mirT_eq];rfl
theorem mir_prod (t:TV):(mirT t).prod=t.prod:=by rw [mirT_eq];rfl
theorem mir_kind (t:TV):(mirT t).kind=t.kind:=by rw [mirT_eq];rfl
theorem mir_tx (t:TV):(mirT t).tx=t.tx:=by rw [mirT_eq];rfl
theorem sk_sk (t:TV)(a b:List TV):(t.sk a).sk b=t.sk b:=rfl
theorem sam_sk {t u:TV}{a b:List TV}(hp:t.prod=u.prod)(hk:t.kind=u.kind)(hx:t.tx=u.tx)(h:samL a b):samV (t.sk a) (u.sk b):=by
 refine (samV_iff _ _).2 ⟨?_,h.2⟩
 unfold sgV
 show (t.prod,t.kind,t.tx,a.length)=(u.prod,u.kind,u.tx,b.length)
 rw [hp,hk,hx,h.1]
theorem sg_parts {t u:TV}(h:sgV t=sgV u):t.prod=u.prod/\t.kind=u.kind/\t.tx=u.tx/\t.kids.length=u.kids.length:=by
 unfold sgV at h
 simpa only [Prod.mk.injEq] using h
theorem samV_kids {t u:TV}(h:samV t u):samL t.kids u.kids:=by
 obtain ⟨h1,h2⟩:=(samV_iff _ _).1 h
 exact ⟨sgV_len h1,h2⟩
theorem samL_refl (l:List TV):samL l l:=⟨rfl,fun _ _ _=>samV_refl _⟩
theorem samL_map {f:TV->TV}:∀ {l m:List TV},samL l m->(∀ i (h:i < l.length) (h':i < m.length),samV l[i] m[i]->samV (f l[i]) (f m[i]))->samL (l.map f) (m.map f):=fun {l m} h hf =>
 ⟨by simpa using h.1,fun i h1 h2=>by
  simp only [List.getElem_map]
  exact hf i (by simpa using h1) (by simpa using h2) (h.2 i (by simpa using h1) (by simpa using h2))⟩
theorem samL_rev {l m:List TV}(h:samL l m):samL l.reverse m.reverse:=by
 obtain ⟨h1,h2⟩:=h
 refine ⟨by simpa using h1,fun i h3 h4=>?_⟩
 simp only [List.getElem_reverse]
 have h3':i < l.length:=by simpa using h3
 have:=h2 (l.length - 1 - i) (by omega) (by omega)
 have e:m[m.length - 1 - i]'(by omega)=m[l.length - 1 - i]'(by omega):=by congr 1;omega
 rw [e]
 exact this
theorem mir_same (t:TV):∀ u,samV t u->samV (mirT t) (mirT u):=by
 induction t using TV.ind with
 | _ t ih =>
  intro u h
  obtain ⟨p1,p2,p3,-⟩:=sg_parts ((samV_iff _ _).1 h).1
  rw [mirT_eq t,mirT_eq u]
  exact sam_sk p1 p2 p3 (samL_rev (samL_map (samV_kids h) fun i h1 h2 h3=>ih _ (List.getElem_mem h1) _ h3))
def finT:List Nat->Nat->TV->TV
 | [],n,T=>T.sk (T.kids.take n++(T.kids.drop n).map mirT)
 | i :: π,n,T=>T.sk (T.kids.take i++finT π n (T.kids.getD i .none) :: (T.kids.drop (i+1)).map mirT)
theorem sam_self (T:TV):samV (T.sk T.kids) T:=(samV_iff _ _).2 ⟨sgV_sk rfl,fun _ _ _=>samV_refl _⟩
theorem samL_cons {a b:TV}{l m:List TV}(h:samV a b)(hl:samL l m):samL (a :: l) (b :: m):=samL_app (samL_one h) hl
theorem fin_end (T:TV)(n:Nat)(hn:n=T.kids.length):samV (finT [] n T) T:=by
 rw [finT,hn,List.take_length,List.drop_length,List.map_nil,List.append_nil]
 exact sam_self T
theorem fin_leave:∀ (π:List Nat) (i:Nat) (T:TV),okP (π++[i]) T->samV (finT (π++[i]) (getAt (π++[i]) T).kids.length T) (finT π (i+1) T)
 | [],i,T,⟨hi,_⟩=>by
  have eg:T.kids.getD i .none=T.kids[i]:=by simp [List.getD,hi]
  show samV (T.sk (T.kids.take i++finT [] (T.kids.getD i .none).kids.length (T.kids.getD i .none) :: (T.kids.drop (i+1)).map mirT)) (T.sk (T.kids.take (i+1)++(T.kids.drop (i+1)).map mirT))
  refine sam_sk rfl rfl rfl ?_
  rw [eg,<- List.take_append_getElem hi,List.append_assoc]
  exact samL_app (samL_refl _) (samL_cons (fin_end _ _ rfl) (samL_refl _))
 | j :: π,i,T,⟨hj,hp⟩=>by
  show samV (T.sk (T.kids.take j++finT (π++[i]) (getAt (π++[i]) (T.kids.getD j .none)).kids.length (T.kids.getD j .none) :: (T.kids.drop (j+1)).map mirT)) (T.sk (T.kids.take j++finT π (i+1) (T.kids.getD j .none) :: (T.kids.drop (j+1)).map mirT))
  exact sam_sk rfl rfl rfl (samL_app (samL_refl _) (samL_cons (fin_leave π i _ hp) (samL_refl _)))
def revK (t:TV):TV:=t.sk t.kids.reverse
theorem fin_rev (k:TV):finT [] 0 (revK k)=mirT k:=by
 rw [finT,mirT_eq]
 show k.sk (k.kids.reverse.take 0++(k.kids.reverse.drop 0).map mirT)=_
 rw [List.take_zero,List.drop_zero,List.nil_append,List.map_reverse]
theorem fin_enter:∀ (π:List Nat) (n:Nat) (T:TV),okP (π++[n]) T->finT (π++[n]) 0 (setAt (π++[n]) T (revK (getAt (π++[n]) T)))=finT π n T
 | [],n,T,⟨hi,_⟩=>by
  show (T.sk (T.kids.set n (revK (T.kids.getD n .none)))).sk ((T.kids.set n (revK (T.kids.getD n .none))).take n++finT [] 0 ((T.kids.set n (revK (T.kids.getD n .none))).getD n .none) :: ((T.kids.set n (revK (T.kids.getD n .none))).drop (n+1)).map mirT)=T.sk (T.kids.take n++(T.kids.drop n).map mirT)
  have e1:(T.kids.set n (revK (T.kids.getD n .none))).take n=T.kids.take n:=by rw [List.take_set,List.set_eq_of_length_le (by simp;omega)]
  have e2:(T.kids.set n (revK (T.kids.getD n .none))).drop (n+1)=T.kids.drop (n+1):=by rw [List.drop_set_of_lt (by omega)]
  have e3:(T.kids.set n (revK (T.kids.getD n .none))).getD n .none=revK (T.kids.getD n .none):=by simp [List.getD,hi]
  have e4:T.kids.getD n .none=T.kids[n]:=by simp [List.getD,hi]
  rw [e1,e2,e3,fin_rev,e4,sk_sk,List.drop_eq_getElem_cons hi,List.map_cons]
 | j :: π,n,T,⟨hj,hp⟩=>by
  have IH:=fin_enter π n (T.kids.getD j .none) hp
  have e0:setAt (j :: π++[n]) T (revK (getAt (j :: π++[n]) T))=T.sk (T.kids.set j (setAt (π++[n]) (T.kids.getD j .none) (revK (getAt (π++[n]) (T.kids.getD j .none))))):=rfl
  rw [e0]
  generalize setAt (π++[n]) (T.kids.getD j .none) (revK (getAt (π++[n]) (T.kids.getD j .none)))=K at *
  show (T.sk (T.kids.set j K)).sk ((T.kids.set j K).take j++finT (π++[n]) 0 ((T.kids.set j K).getD j .none) :: ((T.kids.set j K).drop (j+1)).map mirT)=T.sk (T.kids.take j++finT π n (T.kids.getD j .none) :: (T.kids.drop (j+1)).map mirT)
  have e1:(T.kids.set j K).take j=T.kids.take j:=by rw [List.take_set,List.set_eq_of_length_le (by simp;omega)]
  have e2:(T.kids.set j K).drop (j+1)=T.kids.drop (j+1):=by rw [List.drop_set_of_lt (by omega)]
  have e3:(T.kids.set j K).getD j .none=K:=by simp [List.getD,hj]
  rw [e1,e2,e3,IH,sk_sk]
theorem fin_start (T:TV):finT [] 0 (setAt [] T (revK (getAt [] T)))=mirT T:=fin_rev T
theorem szL_rev (l:List TV):szL l.reverse=szL l:=by
 induction l with
 | nil=>rfl
 | cons a l ih =>
  rw [List.reverse_cons,szL_app,ih,szL_cons a l,szL_cons a []]
  have:szL []=0:=rfl
  omega
theorem szT_rev (t:TV):szT (revK t)=szT t:=by
 rw [szT_eq,szT_eq]
 show szL t.kids.reverse+1=szL t.kids+1
 rw [szL_rev]
theorem szT_set:∀ (π:List Nat) (t u:TV),okP π t->szT u=szT (getAt π t)->szT (setAt π t u)=szT t
 | [],_,_,_,h=>h
 | i :: π,t,u,⟨hi,hp⟩,h=>by
  have eg:t.kids.getD i .none=t.kids[i]:=by simp [List.getD,hi]
  have IH:=szT_set π (t.kids.getD i .none) u hp h
  rw [szT_eq,szT_eq t]
  show szL (t.kids.set i (setAt π (t.kids.getD i .none) u))+1=szL t.kids+1
  have e1:szL (t.kids.set i (setAt π (t.kids.getD i .none) u))=szL (t.kids.take i)+szT (setAt π (t.kids.getD i .none) u)+szL (t.kids.drop (i+1)):=by
   rw [cut3 hi,szL_app,szL_app,szL_cons];simp [szL]
  have e2:szL t.kids=szL (t.kids.take i)+szT t.kids[i]+szL (t.kids.drop (i+1)):=by
   conv=>lhs;rw [cut3' hi]
   rw [szL_app,szL_app,szL_cons];simp [szL]
  rw [e1,e2,IH,eg]
end Go.Proofs.YteciabdjkaackaaGreat
