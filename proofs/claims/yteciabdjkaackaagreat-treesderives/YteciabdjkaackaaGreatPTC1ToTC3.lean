import Derived.Test.YteciabdjkaackaaGreatPTW3ToTW6
namespace Go.Proofs.YteciabdjkaackaaGreat
set_option linter.unusedVariables false
open Go.RowKit
set_option maxRecDepth 100000 in
theorem term_W (n:Int)(w:World):Calls Tryz.prog 152 #[.int .i64 n] w fun e w'=>e=.returned (.agg #[.int .i64 1,.int .i64 n])/\Below w.heap.size w w':=by
 go_enter Tryz.func152,Tryz.ntmps152
 go_wp2
 refine bodyPost_ret (v:=.agg #[.int .i64 1,.int .i64 n]) (by simp [results,Tryz.results152,go_sem]) rfl ?_
 exact ⟨rfl,bAl _ _⟩
set_option maxRecDepth 100000 in
theorem non_W (n:Int)(w:World):Calls Tryz.prog 127 #[.int .i64 n] w fun e w'=>e=.returned (.agg #[.int .i64 2,.int .i64 n])/\Below w.heap.size w w':=by
 go_enter Tryz.func127,Tryz.ntmps127
 go_wp2
 refine bodyPost_ret (v:=.agg #[.int .i64 2,.int .i64 n]) (by simp [results,Tryz.results127,go_sem]) rfl ?_
 exact ⟨rfl,bAl _ _⟩
set_option maxRecDepth 100000 in
set_option maxHeartbeats 2000000 in
theorem isProd_W (g:GV)(n:Int)(w:World)(hpl:g.ps.length<=140737488355328):Calls Tryz.prog 85 #[g.val,.int .i64 n] w fun e w'=>e=.returned (.bool (decide (0<=n) && decide (n < g.ps.length)))/\Below w.heap.size w w':=by
 by_cases h0:0<=n
 ·have E:Hid (decide (0<=n)=true):=decide_eq_true h0
  go_enter Tryz.func85,Tryz.ntmps85
  go_wp2
  go_ret
  exact ⟨by rw [E.out];simp,bAl _ _⟩
 ·have E:Hid (decide (0<=n)=false):=decide_eq_false h0
  go_enter Tryz.func85,Tryz.ntmps85
  go_wp2
  go_ret
  exact ⟨by rw [E.out];simp,bAl _ _⟩
def rtU (g:GV)(t:TV):Int×Int:=if t.prod=-1 then (1,t.kind) else (2,(g.ps.getD t.prod.toNat .none).left)
theorem gbx_cells {g:GV}{b:Nat}{w':World}(h:w'.heap[b]?=some (gBox g)):w'.cell? ⟨b,0,none⟩=some (.slice g.ta g.ts.length g.tc)/\w'.cell? ⟨b,1,none⟩=some (.slice g.na g.ns.length g.nc)/\w'.cell? ⟨b,2,none⟩=some (.int .i64 g.start)/\w'.cell? ⟨b,3,none⟩=some (.slice g.pa g.ps.length g.pc)/\w'.cell? ⟨b,4,none⟩=some (.slice g.la g.ls.length g.lc) :=
 ⟨(cQa h).trans rfl,(cQa h).trans rfl,(cQa h).trans rfl,(cQa h).trans rfl,(cQa h).trans rfl⟩
set_option linter.unusedSimpArgs false in
set_option maxRecDepth 100000 in
set_option maxHeartbeats 4000000 in
theorem rootFault_W (g:GV)(p q:Nat)(t:TV)(w:World)(h:GAt 140737488355328 w g)(ht:TBx w p q t):Calls Tryz.prog 124 #[g.val,.pointer (some ⟨p,q,none⟩)] w fun e w'=>e=.returned (.int .i64 (if t.prod=-1 then (if inT g t.kind=true then 0 else 82) else (if 0<=t.prod/\t.prod < g.ps.length then 0 else 81)))/\Below w.heap.size w w':=by
 have BA:Hid (Below w.heap.size w (w.alloc (gBox g))/\(w.alloc (gBox g)).heap[w.heap.size]?=some (gBox g)):=⟨bAl _ _,heap_alloc_new _ _⟩
 have HT:Hid (∀ w',Below w.heap.size w w'->TBx w' p q t):=fun w' hb=>ht.later hb
 have CI:Hid (∀ w',Below w.heap.size w w'->Calls Tryz.prog 36 #[.pointer (some ⟨p,q,none⟩)] w' fun e w''=>e=.returned (.bool (t.prod == -1))/\w''=w'):=fun w' hb=>isLeaf_W p q t w' (ht.later hb)
 have CN:Hid (∀ w',Calls Tryz.prog 141 #[g.val,.agg #[.int .i64 1,.int .i64 t.kind]] w' fun e w''=>e=.returned (.bool (inG g 1 t.kind))/\Below w'.heap.size w' w''):=fun w'=>in_g g 1 t.kind w' h.tl h.nl
 have CP:Hid (∀ w',Calls Tryz.prog 85 #[g.val,.int .i64 t.prod] w' fun e w''=>e=.returned (.bool (decide (0<=t.prod) && decide (t.prod < g.ps.length)))/\Below w'.heap.size w' w''):=fun w'=>isProd_W g t.prod w' h.pl
 have HG:Hid (inG g 1 t.kind=inT g t.kind):=by simp [Hid,inG]
 clear h ht
 by_cases hp:t.prod=-1
 ·have t1:(t.prod == -1)=true:=by simpa using hp
  rw [t1] at CI
  rw [if_pos hp]
  clear t1 hp
  rw [HG.out] at CN
  clear HG CP
  generalize inT g t.kind=it at *
  obtain ⟨r,hr⟩:∃ r,(if it=true then (0:Int) else 82)=r:=⟨_,rfl⟩
  rw [hr]
  have HR:Hid ((if it=true then (0:Int) else 82)=r):=hr
  clear hr
  go_enter Tryz.func124,Tryz.ntmps124
  go_upto_region 2 with (go_at_call 36;refine (CI.out _ BA.out.1).mono ?_;rintro e w1 ⟨rfl,rfl⟩)
  obtain ⟨wr,hwr⟩:∃ wr:World,wr=w.alloc (gBox g):=⟨_,rfl⟩
  rw [<- hwr] at BA ⊢
  clear hwr
  have FX:Hid (∀ wq,Below wr.heap.size wr wq->wq.cell? ⟨w.heap.size,0,none⟩=some (.slice g.ta g.ts.length g.tc)/\wq.cell? ⟨w.heap.size,1,none⟩=some (.slice g.na g.ns.length g.nc)/\wq.cell? ⟨w.heap.size,2,none⟩=some (.int .i64 g.start)/\wq.cell? ⟨w.heap.size,3,none⟩=some (.slice g.pa g.ps.length g.pc)/\wq.cell? ⟨w.heap.size,4,none⟩=some (.slice g.la g.ls.length g.lc)/\wq.cell? ⟨p,q+1,none⟩=some (.int .i64 t.kind)):=fun wq hq=>by
   obtain ⟨a,b,c,d,e⟩:=gbx_cells ((hq.block _ (lt_of_block BA.out.2)).trans BA.out.2)
   exact ⟨a,b,c,d,e,(HT.out wq (BA.out.1.trans (hq.mono BA.out.1.size))).c1⟩
  have BR:Hid (Below wr.heap.size wr wr.drew):=(Below.refl _ _).drew
  have C1:Hid (∀ wq,Below wr.heap.size wr wq->Calls Tryz.prog 152 #[.int .i64 t.kind] wq fun e w'=>e=.returned (.agg #[.int .i64 1,.int .i64 t.kind])/\Below wr.heap.size wr w'):=fun wq hq=>(term_W t.kind wq).mono fun e w' ⟨q1,q2⟩=>⟨q1,hq.trans (q2.mono hq.size)⟩
  have C2:Hid (∀ wq,Below wr.heap.size wr wq->Calls Tryz.prog 141 #[g.val,.agg #[.int .i64 1,.int .i64 t.kind]] wq fun e w'=>e=.returned (.bool it)/\Below wr.heap.size wr w'):=fun wq hq=>(CN.out wq).mono fun e w' ⟨q1,q2⟩=>⟨q1,hq.trans (q2.mono hq.size)⟩
  refine wp_region_q (C:=fun wq=>Below wr.heap.size wr wq) (by kernel_rfl) (by kernel_rfl) BR.out ?_
  iterate 6 (refine qt_yes (v:=?_) (by rfl) ?_ ?_;rotate_left;(· (intro wq hSw;obtain ⟨f0,f1,f2,f3,f4,f5⟩:=FX.out wq hSw;clear hSw;go_simp;with_reducible rfl));(try simp only [Act.put,List.setIfInBounds_toArray,List.set_cons_zero,List.set_cons_succ]))
  refine qt_call (v:=.agg #[.int .i64 1,.int .i64 t.kind]) 152 #[.int .i64 t.kind] (by rfl) ?_ (fun wq hq=>C1.out wq hq) ?_
  ·intro wq hSw
   clear hSw
   go_simp
   try with_reducible rfl
  (try simp only [Act.put,List.setIfInBounds_toArray,List.set_cons_zero,List.set_cons_succ])
  refine qt_call (v:=.bool it) 141 #[g.val,.agg #[.int .i64 1,.int .i64 t.kind]] (by rfl) ?_ (fun wq hq=>C2.out wq hq) ?_
  ·intro wq hSw
   clear hSw
   go_simp
   try with_reducible rfl
  (try simp only [Act.put,List.setIfInBounds_toArray,List.set_cons_zero,List.set_cons_succ])
  iterate 1 (refine qt_yes (v:=?_) (by rfl) ?_ ?_;rotate_left;(· (intro wq hSw;obtain ⟨f0,f1,f2,f3,f4,f5⟩:=FX.out wq hSw;clear hSw;go_simp;with_reducible rfl));(try simp only [Act.put,List.setIfInBounds_toArray,List.set_cons_zero,List.set_cons_succ]))
  refine qt_nil ?_
  intro wq hSw
  have R:Hid (Below w.heap.size w wq):=BA.out.1.trans (hSw.mono BA.out.1.size)
  clear hSw
  cases it with
  | true =>
   go_wp2
   go_ret
   exact ⟨by rw [<- HR.out];rfl,R.out⟩
  | false =>
   go_wp2
   go_ret
   exact ⟨by rw [<- HR.out];rfl,R.out⟩
 ·have t1:(t.prod == -1)=false:=by simpa using hp
  rw [t1] at CI
  rw [if_neg hp]
  clear t1 hp
  have HV:Hid ((if 0<=t.prod/\t.prod < g.ps.length then (0:Int) else 81)=if (decide (0<=t.prod) && decide (t.prod < g.ps.length))=true then 0 else 81):=by simp [Hid]
  rw [HV.out]
  clear HV HG CN
  generalize (decide (0<=t.prod) && decide (t.prod < g.ps.length))=it at *
  obtain ⟨r,hr⟩:∃ r,(if it=true then (0:Int) else 81)=r:=⟨_,rfl⟩
  rw [hr]
  have HR:Hid ((if it=true then (0:Int) else 81)=r):=hr
  clear hr
  go_enter Tryz.func124,Tryz.ntmps124
  go_upto_region 5 with (go_at_call 36;refine (CI.out _ BA.out.1).mono ?_;rintro e w1 ⟨rfl,rfl⟩)
  obtain ⟨wr,hwr⟩:∃ wr:World,wr=w.alloc (gBox g):=⟨_,rfl⟩
  rw [<- hwr] at BA ⊢
  clear hwr
  have FX:Hid (∀ wq,Below wr.heap.size wr wq->wq.cell? ⟨w.heap.size,0,none⟩=some (.slice g.ta g.ts.length g.tc)/\wq.cell? ⟨w.heap.size,1,none⟩=some (.slice g.na g.ns.length g.nc)/\wq.cell? ⟨w.heap.size,2,none⟩=some (.int .i64 g.start)/\wq.cell? ⟨w.heap.size,3,none⟩=some (.slice g.pa g.ps.length g.pc)/\wq.cell? ⟨w.heap.size,4,none⟩=some (.slice g.la g.ls.length g.lc)/\wq.cell? ⟨p,q,none⟩=some (.int .i64 t.prod)):=fun wq hq=>by
   obtain ⟨a,b,c,d,e⟩:=gbx_cells ((hq.block _ (lt_of_block BA.out.2)).trans BA.out.2)
   exact ⟨a,b,c,d,e,(HT.out wq (BA.out.1.trans (hq.mono BA.out.1.size))).c0⟩
  have BR:Hid (Below wr.heap.size wr wr.drew):=(Below.refl _ _).drew
  have C2:Hid (∀ wq,Below wr.heap.size wr wq->Calls Tryz.prog 85 #[g.val,.int .i64 t.prod] wq fun e w'=>e=.returned (.bool it)/\Below wr.heap.size wr w'):=fun wq hq=>(CP.out wq).mono fun e w' ⟨q1,q2⟩=>⟨q1,hq.trans (q2.mono hq.size)⟩
  refine wp_region_q (C:=fun wq=>Below wr.heap.size wr wq) (by kernel_rfl) (by kernel_rfl) BR.out ?_
  iterate 5 (refine qt_yes (v:=?_) (by rfl) ?_ ?_;rotate_left;(· (intro wq hSw;obtain ⟨f0,f1,f2,f3,f4,f5⟩:=FX.out wq hSw;clear hSw;go_simp;with_reducible rfl));(try simp only [Act.put,List.setIfInBounds_toArray,List.set_cons_zero,List.set_cons_succ]))
  refine qt_call (v:=.bool it) 85 #[g.val,.int .i64 t.prod] (by rfl) ?_ (fun wq hq=>C2.out wq hq) ?_
  ·intro wq hSw
   clear hSw
   go_simp
   try with_reducible rfl
  (try simp only [Act.put,List.setIfInBounds_toArray,List.set_cons_zero,List.set_cons_succ])
  iterate 1 (refine qt_yes (v:=?_) (by rfl) ?_ ?_;rotate_left;(· (intro wq hSw;obtain ⟨f0,f1,f2,f3,f4,f5⟩:=FX.out wq hSw;clear hSw;go_simp;with_reducible rfl));(try simp only [Act.put,List.setIfInBounds_toArray,List.set_cons_zero,List.set_cons_succ]))
  refine qt_nil ?_
  intro wq hSw
  have R:Hid (Below w.heap.size w wq):=BA.out.1.trans (hSw.mono BA.out.1.size)
  clear hSw
  cases it with
  | true =>
   go_wp2
   go_ret
   exact ⟨by rw [<- HR.out];rfl,R.out⟩
  | false =>
   go_wp2
   go_ret
   exact ⟨by rw [<- HR.out];rfl,R.out⟩
theorem alU_leaf {g:GV}{t:TV}(hp:t.prod=-1):alTU g t=if inT g t.kind=true then (if t.kids.length=0 then 0 else 82) else 82:=by
 unfold alTU
 rw [if_pos hp]
 by_cases h:inT g t.kind=true
 ·rw [if_pos h]
  have h':0<=t.kind/\t.kind < g.ts.length:=of_decide_eq_true h
  by_cases hk:t.kids.length=0
  ·rw [if_pos hk,if_neg (by omega)]
  ·rw [if_neg hk,if_pos (by omega)]
 ·rw [if_neg h,if_pos]
  have h':¬ (0<=t.kind/\t.kind < g.ts.length):=fun e=>h (decide_eq_true e)
  omega
theorem alU_far {g:GV}{t:TV}(hp:t.prod≠-1)(h:¬ (0<=t.prod/\t.prod < g.ps.length)):alTU g t=81:=by
 unfold alTU
 rw [if_neg hp,if_pos (by omega)]
theorem alU_node {g:GV}{t:TV}(hp:t.prod≠-1)(h:0<=t.prod/\t.prod < g.ps.length):alTU g t=if t.kind=0/\t.tx.toList=[]/\t.kids.length=(rightU g t).length then 0 else 81:=by
 unfold alTU
 rw [if_neg hp]
 by_cases q:t.kind=0/\t.tx.toList=[]/\t.kids.length=(rightU g t).length
 ·rw [if_pos q,if_neg]
  rintro (q1 | q1 | q1 | q1 | q1)
  ·omega
  ·omega
  ·exact q1 q.1
  ·exact q1 q.2.1
  ·exact q1 q.2.2
 ·rw [if_neg q,if_pos]
  by_cases h1:t.kind=0
  ·by_cases h2:t.tx.toList=[]
   ·exact .inr (.inr (.inr (.inr fun h3=>q ⟨h1,h2,h3⟩)))
   ·exact .inr (.inr (.inr (.inl h2)))
  ·exact .inr (.inr (.inl h1))
set_option linter.unusedSimpArgs false in
set_option maxRecDepth 100000 in
set_option maxHeartbeats 4000000 in
theorem ownFault_W (g:GV)(p q:Nat)(t:TV)(w:World)(h:GAt 140737488355328 w g)(ht:TBx w p q t)(hkl:t.kids.length<=1000000000):Calls Tryz.prog 104 #[g.val,.pointer (some ⟨p,q,none⟩)] w fun e w'=>e=.returned (.int .i64 (alTU g t))/\Below w.heap.size w w':=by
 have BA:Hid (Below w.heap.size w (w.alloc (gBox g))/\(w.alloc (gBox g)).heap[w.heap.size]?=some (gBox g)):=⟨bAl _ _,heap_alloc_new _ _⟩
 have HT:Hid (∀ w',Below w.heap.size w w'->TBx w' p q t):=fun w' hb=>ht.later hb
 have CI:Hid (∀ w',Below w.heap.size w w'->Calls Tryz.prog 36 #[.pointer (some ⟨p,q,none⟩)] w' fun e w''=>e=.returned (.bool (t.prod == -1))/\w''=w'):=fun w' hb=>isLeaf_W p q t w' (ht.later hb)
 have CR:Hid (∀ w',Below w.heap.size w w'->Calls Tryz.prog 124 #[g.val,.pointer (some ⟨p,q,none⟩)] w' fun e w''=>e=.returned (.int .i64 (if t.prod=-1 then (if inT g t.kind=true then 0 else 82) else (if 0<=t.prod/\t.prod < g.ps.length then 0 else 81)))/\Below w'.heap.size w' w''):=fun w' hb=>rootFault_W g p q t w' (h.later hb) (ht.later hb)
 have HGA:Hid (∀ w',Below w.heap.size w w'->GAt 140737488355328 w' g):=fun w' hb=>h.later hb
 have hpl:=h.pl
 have HRL:Hid (∀ p∈g.ps,p.right.length<=140737488355328):=h.rl
 have t0:((0:Int) != 0)=false:=by decide
 clear h ht
 by_cases hp:t.prod=-1
 ·have t1:(t.prod == -1)=true:=by simpa using hp
  rw [t1] at CI
  rw [alU_leaf hp]
  simp only [if_pos hp] at CR
  clear t1 hp HGA
  generalize inT g t.kind=it at *
  cases it with
  | false =>
   simp only [Bool.false_eq_true,if_false] at CR ⊢
   have t2:((82:Int) != 0)=true:=by decide
   go_enter Tryz.func104,Tryz.ntmps104
   go_wp2_with (go_at_call 124;refine (CR.out _ BA.out.1).mono ?_;rintro e w1 ⟨rfl,b1⟩;have R:Hid (Below w.heap.size w w1):=BA.out.1.trans (b1.mono BA.out.1.size);clear b1)
   go_ret
   exact ⟨rfl,R.out⟩
  | true =>
   simp only [if_true] at CR ⊢
   by_cases hk:t.kids.length=0
   ·rw [if_pos hk]
    have HK:Hid (t.kids.length=0):=hk
    clear hk
    go_enter Tryz.func104,Tryz.ntmps104
    go_wp2_with (first
     | (go_at_call 124;refine (CR.out _ BA.out.1).mono ?_;rintro e w1 ⟨rfl,b1⟩;have R:Hid (Below w.heap.size w w1):=BA.out.1.trans (b1.mono BA.out.1.size);clear b1)
     | (go_at_call 36;refine (CI.out _ R.out).mono ?_;rintro e w2 ⟨rfl,rfl⟩;have k3:=(HT.out _ R.out).c3;rw [HK.out] at k3))
    go_ret
    exact ⟨rfl,R.out⟩
   ·rw [if_neg hk]
    have t2:((t.kids.length:Int) != 0)=true:=bne_iff_ne.2 (by omega)
    clear hk
    go_enter Tryz.func104,Tryz.ntmps104
    go_wp2_with (first
     | (go_at_call 124;refine (CR.out _ BA.out.1).mono ?_;rintro e w1 ⟨rfl,b1⟩;have R:Hid (Below w.heap.size w w1):=BA.out.1.trans (b1.mono BA.out.1.size);clear b1)
     | (go_at_call 36;refine (CI.out _ R.out).mono ?_;rintro e w2 ⟨rfl,rfl⟩;have k3:=(HT.out _ R.out).c3))
    go_ret
    exact ⟨rfl,R.out⟩
 ·have t1:(t.prod == -1)=false:=by simpa using hp
  rw [t1] at CI
  simp only [if_neg hp] at CR
  by_cases hr:0<=t.prod/\t.prod < g.ps.length
  ·rw [alU_node hp hr]
   simp only [if_pos hr] at CR
   obtain ⟨j,hj⟩:∃ j:Nat,t.prod=(j:Int):=⟨t.prod.toNat,by omega⟩
   have hjl:j < g.ps.length:=by omega
   have hru:rightU g t=(g.ps.getD j .none).right:=by unfold rightU;rw [hj,Int.toNat_natCast]
   have hrl:=HRL.out (g.ps.getD j .none) (by simp [List.getD,hjl])
   rw [hru]
   have HJ:Hid (t.prod=(j:Int)/\j < g.ps.length):=⟨hj,hjl⟩
   have jlt:(j:Int) < (g.ps.length:Int):=by omega
   clear t1 hp hr hru hj hjl
   by_cases h1:t.kind=0
   ·by_cases h2:t.tx.toList=[]
    ·have HK:Hid (t.kind=0):=h1
     by_cases h3:t.kids.length=(g.ps.getD j .none).right.length
     ·rw [if_pos ⟨h1,h2,h3⟩]
      have HH:Hid (∀ w1,Below w.heap.size w w1->w1.heap[w.heap.size]?=some (gBox g)->∃ pb po,w1.cell? ⟨p,q,none⟩=some (.int .i64 (j:Int))/\w1.cell? ⟨p,q+3,none⟩=some (.slice t.ka t.kids.length t.kc)/\w1.cell? ⟨w.heap.size,3,none⟩=some (.slice (some ⟨pb,po,none⟩) g.ps.length g.pc)/\w1.cell? ⟨pb,po+j*3+1,none⟩=some (.slice (g.ps.getD j .none).ra (g.ps.getD j .none).right.length (g.ps.getD j .none).rc)):=fun w1 hb hx=>by
       obtain ⟨pb,po,hpa,-,-,c1,-⟩:=ps_cells (HGA.out w1 hb) HJ.out.2
       have h4:=(gbx_cells hx).2.2.2.1
       rw [hpa] at h4
       have h5:=(HT.out w1 hb).c0
       rw [HJ.out.1] at h5
       exact ⟨pb,po,h5,(HT.out w1 hb).c3,h4,c1⟩
      have t3:((t.kids.length:Int) != ((g.ps.getD j .none).right.length:Int))=false:=by rw [h3];simp
      clear h3 h1
      generalize (g.ps.getD j .none).ra=ra at *
      generalize (g.ps.getD j .none).rc=rc at *
      generalize (g.ps.getD j .none).right.length=rl at *
      go_enter Tryz.func104,Tryz.ntmps104
      go_upto_region 8 with (first
       | (go_at_call 124;refine (CR.out _ BA.out.1).mono ?_;rintro e w1 ⟨rfl,b1⟩;have R:Hid (Below w.heap.size w w1/\w1.heap[w.heap.size]?=some (gBox g)):=⟨BA.out.1.trans (b1.mono BA.out.1.size),(b1.block _ (lt_of_block BA.out.2)).trans BA.out.2⟩;clear b1)
       | (go_at_call 36;refine (CI.out _ R.out.1).mono ?_;rintro e w2 ⟨rfl,rfl⟩;have k1:=(HT.out _ R.out.1).c1;have k2:=(HT.out _ R.out.1).c2;rw [HK.out] at k1))
      clear k1 k2
      obtain ⟨pb,po,z0,z1,z2,z3⟩:=HH.out _ R.out.1 R.out.2
      clear HH
      go_quiet (fail)
      go_wp2
      go_ret
      exact ⟨rfl,R.out.1.trans ((bDn (Below.refl _ _) _).mono R.out.1.size)⟩
     ·rw [if_neg (fun e=>h3 e.2.2)]
      have HH:Hid (∀ w1,Below w.heap.size w w1->w1.heap[w.heap.size]?=some (gBox g)->∃ pb po,w1.cell? ⟨p,q,none⟩=some (.int .i64 (j:Int))/\w1.cell? ⟨p,q+3,none⟩=some (.slice t.ka t.kids.length t.kc)/\w1.cell? ⟨w.heap.size,3,none⟩=some (.slice (some ⟨pb,po,none⟩) g.ps.length g.pc)/\w1.cell? ⟨pb,po+j*3+1,none⟩=some (.slice (g.ps.getD j .none).ra (g.ps.getD j .none).right.length (g.ps.getD j .none).rc)):=fun w1 hb hx=>by
       obtain ⟨pb,po,hpa,-,-,c1,-⟩:=ps_cells (HGA.out w1 hb) HJ.out.2
       have h4:=(gbx_cells hx).2.2.2.1
       rw [hpa] at h4
       have h5:=(HT.out w1 hb).c0
       rw [HJ.out.1] at h5
       exact ⟨pb,po,h5,(HT.out w1 hb).c3,h4,c1⟩
      have t3:((t.kids.length:Int) != ((g.ps.getD j .none).right.length:Int))=true:=bne_iff_ne.2 (by omega)
      clear h3 h1
      generalize (g.ps.getD j .none).ra=ra at *
      generalize (g.ps.getD j .none).rc=rc at *
      generalize (g.ps.getD j .none).right.length=rl at *
      go_enter Tryz.func104,Tryz.ntmps104
      go_upto_region 8 with (first
       | (go_at_call 124;refine (CR.out _ BA.out.1).mono ?_;rintro e w1 ⟨rfl,b1⟩;have R:Hid (Below w.heap.size w w1/\w1.heap[w.heap.size]?=some (gBox g)):=⟨BA.out.1.trans (b1.mono BA.out.1.size),(b1.block _ (lt_of_block BA.out.2)).trans BA.out.2⟩;clear b1)
       | (go_at_call 36;refine (CI.out _ R.out.1).mono ?_;rintro e w2 ⟨rfl,rfl⟩;have k1:=(HT.out _ R.out.1).c1;have k2:=(HT.out _ R.out.1).c2;rw [HK.out] at k1))
      clear k1 k2
      obtain ⟨pb,po,z0,z1,z2,z3⟩:=HH.out _ R.out.1 R.out.2
      clear HH
      go_quiet (fail)
      go_wp2
      go_ret
      exact ⟨rfl,R.out.1.trans ((bDn (Below.refl _ _) _).mono R.out.1.size)⟩
    ·rw [if_neg (fun e=>h2 e.2.1)]
     have HK:Hid (t.kind=0):=h1
     clear h1
     go_enter Tryz.func104,Tryz.ntmps104
     go_wp2_with (first
      | (go_at_call 124;refine (CR.out _ BA.out.1).mono ?_;rintro e w1 ⟨rfl,b1⟩;have R:Hid (Below w.heap.size w w1):=BA.out.1.trans (b1.mono BA.out.1.size);clear b1)
      | (go_at_call 36;refine (CI.out _ R.out).mono ?_;rintro e w2 ⟨rfl,rfl⟩;have k1:=(HT.out _ R.out).c1;have k2:=(HT.out _ R.out).c2;rw [HK.out] at k1))
     go_ret
     exact ⟨rfl,R.out⟩
   ·rw [if_neg (fun e=>h1 e.1)]
    go_enter Tryz.func104,Tryz.ntmps104
    go_wp2_with (first
     | (go_at_call 124;refine (CR.out _ BA.out.1).mono ?_;rintro e w1 ⟨rfl,b1⟩;have R:Hid (Below w.heap.size w w1):=BA.out.1.trans (b1.mono BA.out.1.size);clear b1)
     | (go_at_call 36;refine (CI.out _ R.out).mono ?_;rintro e w2 ⟨rfl,rfl⟩;have k1:=(HT.out _ R.out).c1;have k2:=(HT.out _ R.out).c2))
    go_ret
    exact ⟨rfl,R.out⟩
  ·rw [alU_far hp hr]
   simp only [if_neg hr] at CR
   have t2:((81:Int) != 0)=true:=by decide
   clear t1 hp hr
   go_enter Tryz.func104,Tryz.ntmps104
   go_wp2_with (go_at_call 124;refine (CR.out _ BA.out.1).mono ?_;rintro e w1 ⟨rfl,b1⟩;have R:Hid (Below w.heap.size w w1):=BA.out.1.trans (b1.mono BA.out.1.size);clear b1)
   go_ret
   exact ⟨rfl,R.out⟩
theorem run_W1 {f:FuncId}(eg:EntW f){o:Oper}{a:Act}{t0:TypeId}{v0:Value}{x0:Operand}(hop:o.op=Op.call { callee:=Callee.value (Operand.func f),args:=#[x0],argTypes:=#[t0] })(h0:a.eval x0=v0){w:World}:(execOp a.eval o).run Tryz.prog w=.ok (.enter f #[v0]) w:=by
 have hf:a.eval (Operand.func f)=.func (.func f) #[] #[]:=rfl
 have eg':=eg #[v0] w
 simp [execOp,hop,resolve,invoke,hf,h0,Deferred.ofValue,eg']
theorem run_W2 {f:FuncId}(eg:EntW f){o:Oper}{a:Act}{t0 t1:TypeId}{v0 v1:Value}{x0 x1:Operand}(hop:o.op=Op.call { callee:=Callee.value (Operand.func f),args:=#[x0,x1],argTypes:=#[t0,t1] })(h0:a.eval x0=v0)(h1:a.eval x1=v1){w:World}:(execOp a.eval o).run Tryz.prog w=.ok (.enter f #[v0,v1]) w:=by
 have hf:a.eval (Operand.func f)=.func (.func f) #[] #[]:=rfl
 have eg':=eg #[v0,v1] w
 simp [execOp,hop,resolve,invoke,hf,h0,h1,Deferred.ofValue,eg']
theorem run_W3 {f:FuncId}(eg:EntW f){o:Oper}{a:Act}{t0 t1 t2:TypeId}{v0 v1 v2:Value}{x0 x1 x2:Operand}(hop:o.op=Op.call { callee:=Callee.value (Operand.func f),args:=#[x0,x1,x2],argTypes:=#[t0,t1,t2] })(h0:a.eval x0=v0)(h1:a.eval x1=v1)(h2:a.eval x2=v2){w:World}:(execOp a.eval o).run Tryz.prog w=.ok (.enter f #[v0,v1,v2]) w:=by
 have hf:a.eval (Operand.func f)=.func (.func f) #[] #[]:=rfl
 have eg':=eg #[v0,v1,v2] w
 simp [execOp,hop,resolve,invoke,hf,h0,h1,h2,Deferred.ofValue,eg']
theorem ent_non:EntW 127:=fun _ _=>by kernel_rfl
theorem rtU_leaf {g:GV}{t:TV}(hp:t.prod=-1):rtU g t=(1,t.kind):=if_pos hp
theorem rtU_node {g:GV}{t:TV}{j:Nat}(hp:t.prod=(j:Int)):rtU g t=(2,(g.ps.getD j .none).left):=by
 unfold rtU
 rw [if_neg (by omega),hp,Int.toNat_natCast]
abbrev yBoxC (a b:Int):Obj:=.cells #[.int .i64 a,.int .i64 b] 82
def rtS (wb:Nat)(g:GV)(pb po j:Nat)(L:Int)(p q:Nat)(w:World):Prop:=w.cell? ⟨wb,3,none⟩=some (.slice (some ⟨pb,po,none⟩) g.ps.length g.pc)/\w.cell? ⟨p,q,none⟩=some (.int .i64 (j:Int))/\w.cell? ⟨pb,po+j*3,none⟩=some (.int .i64 L)/\w.heap[wb+1]?=some (yBoxC 0 0)
theorem rtS.later {wb:Nat}{g:GV}{pb po j:Nat}{L:Int}{p q:Nat}{w w':World}(h:rtS wb g pb po j L p q w)(hb:Below w.heap.size w w'):rtS wb g pb po j L p q w':=⟨cellW hb h.1,cellW hb h.2.1,cellW hb h.2.2.1,(hb.block _ (lt_of_block h.2.2.2)).trans h.2.2.2⟩
set_option linter.unusedSimpArgs false in
set_option maxRecDepth 100000 in
set_option maxHeartbeats 4000000 in
theorem root_W (g:GV)(p q:Nat)(t:TV)(w:World)(h:GAt 140737488355328 w g)(ht:TBx w p q t)(hr:t.prod=-1∨(0<=t.prod/\t.prod < g.ps.length)):Calls Tryz.prog 125 #[g.val,.pointer (some ⟨p,q,none⟩)] w fun e w'=>e=.returned (.agg #[.int .i64 (rtU g t).1,.int .i64 (rtU g t).2])/\Below w.heap.size w w':=by
 have BA:Hid (Below w.heap.size w ((w.alloc (gBox g)).alloc (yBoxC 0 0))/\((w.alloc (gBox g)).alloc (yBoxC 0 0)).heap[w.heap.size]?=some (gBox g)/\((w.alloc (gBox g)).alloc (yBoxC 0 0)).heap[w.heap.size+1]?=some (yBoxC 0 0)):=by
  have h1:=bAl w (gBox g)
  have h2:=bAl (w.alloc (gBox g)) (yBoxC 0 0)
  refine ⟨h1.trans (h2.mono h1.size),(h2.block _ (by simp)).trans (heap_alloc_new _ _),?_⟩
  have:=heap_alloc_new (w.alloc (gBox g)) (yBoxC 0 0)
  rwa [show (w.alloc (gBox g)).heap.size=w.heap.size+1 by simp] at this
 have HT:Hid (∀ w',Below w.heap.size w w'->TBx w' p q t):=fun w' hb=>ht.later hb
 have CI:Hid (∀ w',Below w.heap.size w w'->Calls Tryz.prog 36 #[.pointer (some ⟨p,q,none⟩)] w' fun e w''=>e=.returned (.bool (t.prod == -1))/\w''=w'):=fun w' hb=>isLeaf_W p q t w' (ht.later hb)
 have HGA:Hid (∀ w',Below w.heap.size w w'->GAt 140737488355328 w' g):=fun w' hb=>h.later hb
 have hpl:=h.pl
 clear h ht
 by_cases hp:t.prod=-1
 ·have t1:(t.prod == -1)=true:=by simpa using hp
  rw [t1] at CI
  rw [rtU_leaf hp]
  have k1:=(HT.out _ BA.out.1).c1
  have y1:∀ w1,Below ((w.alloc (gBox g)).alloc (yBoxC 0 0)).heap.size ((w.alloc (gBox g)).alloc (yBoxC 0 0)) w1->w1.heap[w.heap.size+1]?=some (yBoxC 0 0):=fun w1 hb=>(hb.block _ (lt_of_block BA.out.2.2)).trans BA.out.2.2
  have Y1:Hid _:=y1
  clear t1 hp hr y1
  go_enter Tryz.func125,Tryz.ntmps125
  go_wp2_with (first
   | (go_at_call 36;refine (CI.out _ BA.out.1).mono ?_;rintro e w1 ⟨rfl,rfl⟩)
   | (go_at_call 152;refine (term_W t.kind _).mono ?_;rintro e w2 ⟨rfl,b2⟩;have W2:Hid (Below w.heap.size w w2/\w2.heap[w.heap.size+1]?=some (yBoxC 0 0)):=⟨BA.out.1.trans (b2.mono BA.out.1.size),Y1.out _ b2⟩;have z0:=(cQa (i:=0) W2.out.2).trans rfl;have z1:=(cQa (i:=1) W2.out.2).trans rfl;have zf:∀ i,w2.frozen? ⟨w.heap.size+1,i,none⟩=false:=(fun i=>by simp [World.frozen?,W2.out.2]);clear b2 k1))
  have RB:Hid (Below w.heap.size w ((w2.setCell ⟨w.heap.size+1,0,none⟩ (.int .i64 1)).setCell ⟨w.heap.size+1,1,none⟩ (.int .i64 t.kind))):=(W2.out.1.setCell (p:=⟨w.heap.size+1,0,none⟩) (Nat.le_add_right _ _) _).setCell (p:=⟨w.heap.size+1,1,none⟩) (Nat.le_add_right _ _) _
  refine bodyPost_ret (v:=.agg #[.int .i64 1,.int .i64 t.kind]) (by simp [results,Tryz.results125,go_sem,z0,z1]) rfl ?_
  exact ⟨rfl,RB.out⟩
 ·have t1:(t.prod == -1)=false:=by simpa using hp
  rw [t1] at CI
  obtain ⟨j,hj⟩:∃ j:Nat,t.prod=(j:Int):=⟨t.prod.toNat,by omega⟩
  have hjl:j < g.ps.length:=by omega
  rw [rtU_node hj]
  obtain ⟨pb,po,hpa,-⟩:=ps_cells (HGA.out _ BA.out.1) hjl
  have jlt:(j:Int) < (g.ps.length:Int):=by omega
  obtain ⟨L,hL⟩:∃ L,(g.ps.getD j .none).left=L:=⟨_,rfl⟩
  rw [hL]
  have hs0:Hid (rtS w.heap.size g pb po j L p q ((w.alloc (gBox g)).alloc (yBoxC 0 0))):=by
   obtain ⟨pb',po',hpa',-,c0,-⟩:=ps_cells (HGA.out _ BA.out.1) hjl
   rw [hpa] at hpa'
   simp only [Option.some.injEq,Addr.mk.injEq,and_true] at hpa'
   obtain ⟨rfl,rfl⟩:=hpa'
   have k0:=(HT.out _ BA.out.1).c0
   have k3:=(gbx_cells BA.out.2.1).2.2.2.1
   rw [hj] at k0
   rw [hpa] at k3
   rw [hL] at c0
   exact ⟨k3,k0,c0,BA.out.2.2⟩
  clear t1 hp hr hj hjl hpa hL
  go_enter Tryz.func125,Tryz.ntmps125
  go_upto_region 3 with (go_at_call 36;refine (CI.out _ BA.out.1).mono ?_;rintro e w1 ⟨rfl,rfl⟩)
  obtain ⟨wr,hwr⟩:∃ wr:World,wr=(w.alloc (gBox g)).alloc (yBoxC 0 0):=⟨_,rfl⟩
  rw [<- hwr] at BA hs0 ⊢
  clear hwr
  obtain ⟨wd,hwd⟩:∃ wd:World,wd=wr.drew:=⟨_,rfl⟩
  have BD:Hid (Below w.heap.size w wd):=by rw [hwd];exact BA.out.1.drew
  have hs:Hid (rtS w.heap.size g pb po j L p q wd):=by rw [hwd];exact hs0.out.later (Below.refl _ _).drew
  refine wp_region_x (S:=SX 10 (fun _=>True) (rtS w.heap.size g pb po j L p q)) (by kernel_rfl) ?_
  rw [<- hwd]
  clear hwd hs0
  refine wXt (m:=10) (i:=0) (v:=?_) rfl (by kernel_rfl) (by kernel_rfl) (by decide) (by decide +kernel) (by decide +kernel) (fun _ _ _ h=>h) (by kernel_rfl) (Or.inl ⟨by rfl,?_⟩) (SX.both trivial hs.out) ?_
  rotate_left
  ·(intro w hSw;obtain ⟨_,z0,z1,z2,z3⟩:=hSw;go_simp;try (with_reducible rfl))
  (try simp only [Act.put,List.setIfInBounds_toArray,List.set_cons_zero,List.set_cons_succ])
  refine wXt (m:=10) (i:=1) (v:=?_) rfl (by kernel_rfl) (by kernel_rfl) (by decide) (by decide +kernel) (by decide +kernel) (fun _ _ _ h=>h) (by kernel_rfl) (Or.inl ⟨by rfl,?_⟩) (SX.both trivial hs.out) ?_
  rotate_left
  ·(intro w hSw;obtain ⟨_,z0,z1,z2,z3⟩:=hSw;go_simp;try (with_reducible rfl))
  (try simp only [Act.put,List.setIfInBounds_toArray,List.set_cons_zero,List.set_cons_succ])
  refine wXt (m:=10) (i:=2) (v:=?_) rfl (by kernel_rfl) (by kernel_rfl) (by decide) (by decide +kernel) (by decide +kernel) (fun _ _ _ h=>h) (by kernel_rfl) (Or.inl ⟨by rfl,?_⟩) (SX.both trivial hs.out) ?_
  rotate_left
  ·(intro w hSw;obtain ⟨_,z0,z1,z2,z3⟩:=hSw;go_simp;try (with_reducible rfl))
  (try simp only [Act.put,List.setIfInBounds_toArray,List.set_cons_zero,List.set_cons_succ])
  refine wXt (m:=10) (i:=3) (v:=?_) rfl (by kernel_rfl) (by kernel_rfl) (by decide) (by decide +kernel) (by decide +kernel) (fun _ _ _ h=>h) (by kernel_rfl) (Or.inl ⟨by rfl,?_⟩) (SX.both trivial hs.out) ?_
  rotate_left
  ·(intro w hSw;obtain ⟨_,z0,z1,z2,z3⟩:=hSw;go_simp;try (with_reducible rfl))
  (try simp only [Act.put,List.setIfInBounds_toArray,List.set_cons_zero,List.set_cons_succ])
  refine wXt (m:=10) (i:=4) (v:=?_) rfl (by kernel_rfl) (by kernel_rfl) (by decide) (by decide +kernel) (by decide +kernel) (fun _ _ _ h=>h) (by kernel_rfl) (Or.inl ⟨by rfl,?_⟩) (SX.both trivial hs.out) ?_
  rotate_left
  ·(intro w hSw;obtain ⟨_,z0,z1,z2,z3⟩:=hSw;go_simp;try (with_reducible rfl))
  (try simp only [Act.put,List.setIfInBounds_toArray,List.set_cons_zero,List.set_cons_succ])
  refine wXt (m:=10) (i:=5) (v:=?_) rfl (by kernel_rfl) (by kernel_rfl) (by decide) (by decide +kernel) (by decide +kernel) (fun _ _ _ h=>h) (by kernel_rfl) (Or.inl ⟨by rfl,?_⟩) (SX.both trivial hs.out) ?_
  rotate_left
  ·(intro w hSw;obtain ⟨_,z0,z1,z2,z3⟩:=hSw;go_simp;try (with_reducible rfl))
  (try simp only [Act.put,List.setIfInBounds_toArray,List.set_cons_zero,List.set_cons_succ])
  refine wXt (m:=10) (i:=6) (v:=?_) rfl (by kernel_rfl) (by kernel_rfl) (by decide) (by decide +kernel) (by decide +kernel) (fun _ _ _ h=>h) (by kernel_rfl) (Or.inl ⟨by rfl,?_⟩) (SX.both trivial hs.out) ?_
  rotate_left
  ·(intro w hSw;obtain ⟨_,z0,z1,z2,z3⟩:=hSw;go_simp;try (with_reducible rfl))
  (try simp only [Act.put,List.setIfInBounds_toArray,List.set_cons_zero,List.set_cons_succ])
  refine wXt (m:=10) (i:=7) (v:=?_) rfl (by kernel_rfl) (by kernel_rfl) (by decide) (by decide +kernel) (by decide +kernel) (fun _ _ _ h=>h) (by kernel_rfl) (Or.inl ⟨by rfl,?_⟩) (SX.both trivial hs.out) ?_
  rotate_left
  ·(intro w hSw;obtain ⟨_,z0,z1,z2,z3⟩:=hSw;go_simp;try (with_reducible rfl))
  (try simp only [Act.put,List.setIfInBounds_toArray,List.set_cons_zero,List.set_cons_succ])
  refine wXt (m:=10) (i:=8) (v:=?_) rfl (by kernel_rfl) (by kernel_rfl) (by decide) (by decide +kernel) (by decide +kernel) (fun _ _ _ h=>h) (by kernel_rfl) (Or.inl ⟨by rfl,?_⟩) (SX.both trivial hs.out) ?_
  rotate_left
  ·(intro w hSw;obtain ⟨_,z0,z1,z2,z3⟩:=hSw;go_simp;try (with_reducible rfl))
  (try simp only [Act.put,List.setIfInBounds_toArray,List.set_cons_zero,List.set_cons_succ])
  refine wX1 (j:=9) (by decide +kernel) rfl (fun K' hK=>?_)
  refine sCX rfl 127 #[.int .i64 L] _ (run_W1 ent_non (v0:=.int .i64 L) (by rfl) (by rfl)) (non_W L _) ?_
  rintro e w3 ⟨rfl,b3⟩
  have hs3:Hid (rtS w.heap.size g pb po j L p q w3):=hs.out.later b3
  have B3:Hid (Below w.heap.size w w3):=BD.out.trans (b3.mono BD.out.size)
  clear b3 hs
  refine ⟨_,rfl,hK.out _ _ (SX.both trivial hs3.out) ?_⟩
  clear hK K'
  (try simp only [Act.put,List.setIfInBounds_toArray,List.set_cons_zero,List.set_cons_succ])
  have z0:=(cQa (i:=0) hs3.out.2.2.2).trans rfl
  have z1:=(cQa (i:=1) hs3.out.2.2.2).trans rfl
  have zf:∀ i,w3.frozen? ⟨w.heap.size+1,i,none⟩=false:=(fun i=>by simp [World.frozen?,hs3.out.2.2.2])
  have RB:Hid (Below w.heap.size w ((w3.setCell ⟨w.heap.size+1,0,none⟩ (.int .i64 2)).setCell ⟨w.heap.size+1,1,none⟩ (.int .i64 L))):=(B3.out.setCell (p:=⟨w.heap.size+1,0,none⟩) (Nat.le_add_right _ _) _).setCell (p:=⟨w.heap.size+1,1,none⟩) (Nat.le_add_right _ _) _
  refine wX1 (j:=10) (by decide +kernel) rfl (fun K' hK=>?_)
  go_simp
  refine hK.out _ _ (SX.one trivial (by kernel_rfl)) ?_
  clear hK K'
  (try simp only [Act.put,List.setIfInBounds_toArray,List.set_cons_zero,List.set_cons_succ])
  refine wXd (by decide +kernel) ?_
  go_wp2
  refine bodyPost_ret (v:=.agg #[.int .i64 2,.int .i64 L]) (by simp [results,Tryz.results125,go_sem,z0,z1]) rfl ?_
  exact ⟨rfl,RB.out⟩
end Go.Proofs.YteciabdjkaackaaGreat
