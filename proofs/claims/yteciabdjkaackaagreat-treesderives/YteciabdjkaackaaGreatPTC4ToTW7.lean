import Derived.Test.YteciabdjkaackaaGreatPTC1ToTC3
import Derived.RangeFuncNested
import Derived.RangeFuncLeaves
import Derived.RangeFuncCalls
import Derived.Shelf.Abstract
import Derived.OwnWalkIn
import Derived.TacticsInMore
import Derived.LoopNIn
import Derived.LoopIn
namespace Go.Proofs.YteciabdjkaackaaGreat
set_option linter.unusedVariables false
open Go.RowKit
def duU (g:GV)(t:TV)(s:Int×Int):Int:=if rtU g t=s then 0 else if s.1=1∨t.prod=-1 then 82 else 81
set_option linter.unusedSimpArgs false in
set_option maxRecDepth 100000 in
set_option maxHeartbeats 4000000 in
theorem dueFault_W (g:GV)(p q:Nat)(t:TV)(s:Int×Int)(w:World)(h:GAt 140737488355328 w g)(ht:TBx w p q t)(hr:t.prod=-1∨(0<=t.prod/\t.prod < g.ps.length)):Calls Tryz.prog 105 #[g.val,.pointer (some ⟨p,q,none⟩),.agg #[.int .i64 s.1,.int .i64 s.2]] w fun e w'=>e=.returned (.int .i64 (duU g t s))/\Below w.heap.size w w':=by
 obtain ⟨s1,s2⟩:=s
 dsimp only
 have BA:Hid (Below w.heap.size w ((w.alloc (gBox g)).alloc (yBoxC s1 s2))/\((w.alloc (gBox g)).alloc (yBoxC s1 s2)).heap[w.heap.size]?=some (gBox g)/\((w.alloc (gBox g)).alloc (yBoxC s1 s2)).heap[w.heap.size+1]?=some (yBoxC s1 s2)):=by
  have h1:=bAl w (gBox g)
  have h2:=bAl (w.alloc (gBox g)) (yBoxC s1 s2)
  refine ⟨h1.trans (h2.mono h1.size),(h2.block _ (by simp)).trans (heap_alloc_new _ _),?_⟩
  have:=heap_alloc_new (w.alloc (gBox g)) (yBoxC s1 s2)
  rwa [show (w.alloc (gBox g)).heap.size=w.heap.size+1 by simp] at this
 have CI:Hid (∀ w',Below w.heap.size w w'->Calls Tryz.prog 36 #[.pointer (some ⟨p,q,none⟩)] w' fun e w''=>e=.returned (.bool (t.prod == -1))/\w''=w'):=fun w' hb=>isLeaf_W p q t w' (ht.later hb)
 have CR:Hid (∀ w',Below w.heap.size w w'->Calls Tryz.prog 125 #[g.val,.pointer (some ⟨p,q,none⟩)] w' fun e w''=>e=.returned (.agg #[.int .i64 (rtU g t).1,.int .i64 (rtU g t).2])/\Below w'.heap.size w' w''):=fun w' hb=>root_W g p q t w' (h.later hb) (ht.later hb) hr
 clear h ht hr
 unfold duU
 dsimp only
 obtain ⟨rr,hrr⟩:∃ rr,rtU g t=rr:=⟨_,rfl⟩
 rw [hrr] at CR ⊢
 clear hrr
 obtain ⟨r1,r2⟩:=rr
 dsimp only at CR
 by_cases he:(r1,r2)=(s1,s2)
 ·rw [if_pos he]
  simp only [Prod.mk.injEq] at he
  obtain ⟨rfl,rfl⟩:=he
  go_enter Tryz.func105,Tryz.ntmps105
  go_upto_region 1 with fail
  obtain ⟨wr,hwr⟩:∃ wr:World,wr=(w.alloc (gBox g)).alloc (yBoxC r1 r2):=⟨_,rfl⟩
  rw [<- hwr] at BA ⊢
  clear hwr
  have FX:Hid (∀ wq,Below wr.heap.size wr wq->wq.cell? ⟨w.heap.size,0,none⟩=some (.slice g.ta g.ts.length g.tc)/\wq.cell? ⟨w.heap.size,1,none⟩=some (.slice g.na g.ns.length g.nc)/\wq.cell? ⟨w.heap.size,2,none⟩=some (.int .i64 g.start)/\wq.cell? ⟨w.heap.size,3,none⟩=some (.slice g.pa g.ps.length g.pc)/\wq.cell? ⟨w.heap.size,4,none⟩=some (.slice g.la g.ls.length g.lc)/\wq.cell? ⟨w.heap.size+1,0,none⟩=some (.int .i64 r1)/\wq.cell? ⟨w.heap.size+1,1,none⟩=some (.int .i64 r2)):=fun wq hq=>by
   obtain ⟨a,b,c,d,e⟩:=gbx_cells ((hq.block _ (lt_of_block BA.out.2.1)).trans BA.out.2.1)
   have hy:=(hq.block _ (lt_of_block BA.out.2.2)).trans BA.out.2.2
   exact ⟨a,b,c,d,e,(cQa hy).trans rfl,(cQa hy).trans rfl⟩
  have BR:Hid (Below wr.heap.size wr wr.drew):=(Below.refl _ _).drew
  have C2:Hid (∀ wq,Below wr.heap.size wr wq->Calls Tryz.prog 125 #[g.val,.pointer (some ⟨p,q,none⟩)] wq fun e w'=>e=.returned (.agg #[.int .i64 r1,.int .i64 r2])/\Below wr.heap.size wr w'):=fun wq hq=>(CR.out wq (BA.out.1.trans (hq.mono BA.out.1.size))).mono fun e w' ⟨q1,q2⟩=>⟨q1,hq.trans (q2.mono hq.size)⟩
  refine wp_region_q (C:=fun wq=>Below wr.heap.size wr wq) (by kernel_rfl) (by kernel_rfl) BR.out ?_
  iterate 2 (refine qt_yes (v:=?_) (by rfl) ?_ ?_;rotate_left;(· (intro wq hSw;obtain ⟨f0,f1,f2,f3,f4,f5,f6⟩:=FX.out wq hSw;clear hSw;go_simp;with_reducible rfl));(try simp only [Act.put,List.setIfInBounds_toArray,List.set_cons_zero,List.set_cons_succ]))
  refine qt_call (v:=.agg #[.int .i64 r1,.int .i64 r2]) 125 #[g.val,.pointer (some ⟨p,q,none⟩)] (by rfl) ?_ (fun wq hq=>C2.out wq hq) ?_
  ·intro wq hSw
   clear hSw
   go_simp
   try with_reducible rfl
  (try simp only [Act.put,List.setIfInBounds_toArray,List.set_cons_zero,List.set_cons_succ])
  iterate 3 (refine qt_yes (v:=?_) (by rfl) ?_ ?_;rotate_left;(· (intro wq hSw;obtain ⟨f0,f1,f2,f3,f4,f5,f6⟩:=FX.out wq hSw;clear hSw;go_simp;with_reducible rfl));(try simp only [Act.put,List.setIfInBounds_toArray,List.set_cons_zero,List.set_cons_succ]))
  refine qt_nil ?_
  intro wq hSw
  have R:Hid (Below w.heap.size w wq/\wq.cell? ⟨w.heap.size+1,0,none⟩=some (.int .i64 r1)):=⟨BA.out.1.trans (hSw.mono BA.out.1.size),(FX.out wq hSw).2.2.2.2.2.1⟩
  clear hSw
  go_wp2
  go_ret
  exact ⟨rfl,R.out.1⟩
 ·rw [if_neg he]
  have t1:∀ wq:World,(if r1=s1 then if r2=s2 then Result.ok (Next.value (Value.bool true)) wq else Result.ok (Next.value (Value.bool false)) wq else Result.ok (Next.value (Value.bool false)) wq)=Result.ok (Next.value (Value.bool false)) wq:=fun wq=>by
   split
   ·rw [if_neg (fun e=>he (by simp only [Prod.mk.injEq];exact ⟨by assumption,e⟩))]
   ·rfl
  have t1b:(decide (r1=s1) && decide (r2=s2))=false:=by
   rw [Bool.eq_false_iff]
   intro e
   simp only [Bool.and_eq_true,decide_eq_true_eq] at e
   exact he (by rw [e.1,e.2])
  clear he
  obtain ⟨v,hv⟩:∃ v,(if s1=1∨t.prod=-1 then (82:Int) else 81)=v:=⟨_,rfl⟩
  rw [hv]
  have HV:Hid ((if s1=1∨t.prod=-1 then (82:Int) else 81)=v):=hv
  clear hv
  go_enter Tryz.func105,Tryz.ntmps105
  go_upto_region 1 with fail
  obtain ⟨wr,hwr⟩:∃ wr:World,wr=(w.alloc (gBox g)).alloc (yBoxC s1 s2):=⟨_,rfl⟩
  rw [<- hwr] at BA ⊢
  clear hwr
  have FX:Hid (∀ wq,Below wr.heap.size wr wq->wq.cell? ⟨w.heap.size,0,none⟩=some (.slice g.ta g.ts.length g.tc)/\wq.cell? ⟨w.heap.size,1,none⟩=some (.slice g.na g.ns.length g.nc)/\wq.cell? ⟨w.heap.size,2,none⟩=some (.int .i64 g.start)/\wq.cell? ⟨w.heap.size,3,none⟩=some (.slice g.pa g.ps.length g.pc)/\wq.cell? ⟨w.heap.size,4,none⟩=some (.slice g.la g.ls.length g.lc)/\wq.cell? ⟨w.heap.size+1,0,none⟩=some (.int .i64 s1)/\wq.cell? ⟨w.heap.size+1,1,none⟩=some (.int .i64 s2)):=fun wq hq=>by
   obtain ⟨a,b,c,d,e⟩:=gbx_cells ((hq.block _ (lt_of_block BA.out.2.1)).trans BA.out.2.1)
   have hy:=(hq.block _ (lt_of_block BA.out.2.2)).trans BA.out.2.2
   exact ⟨a,b,c,d,e,(cQa hy).trans rfl,(cQa hy).trans rfl⟩
  have BR:Hid (Below wr.heap.size wr wr.drew):=(Below.refl _ _).drew
  have C2:Hid (∀ wq,Below wr.heap.size wr wq->Calls Tryz.prog 125 #[g.val,.pointer (some ⟨p,q,none⟩)] wq fun e w'=>e=.returned (.agg #[.int .i64 r1,.int .i64 r2])/\Below wr.heap.size wr w'):=fun wq hq=>(CR.out wq (BA.out.1.trans (hq.mono BA.out.1.size))).mono fun e w' ⟨q1,q2⟩=>⟨q1,hq.trans (q2.mono hq.size)⟩
  refine wp_region_q (C:=fun wq=>Below wr.heap.size wr wq) (by kernel_rfl) (by kernel_rfl) BR.out ?_
  iterate 2 (refine qt_yes (v:=?_) (by rfl) ?_ ?_;rotate_left;(· (intro wq hSw;obtain ⟨f0,f1,f2,f3,f4,f5,f6⟩:=FX.out wq hSw;clear hSw;go_simp;with_reducible rfl));(try simp only [Act.put,List.setIfInBounds_toArray,List.set_cons_zero,List.set_cons_succ]))
  refine qt_call (v:=.agg #[.int .i64 r1,.int .i64 r2]) 125 #[g.val,.pointer (some ⟨p,q,none⟩)] (by rfl) ?_ (fun wq hq=>C2.out wq hq) ?_
  ·intro wq hSw
   clear hSw
   go_simp
   try with_reducible rfl
  (try simp only [Act.put,List.setIfInBounds_toArray,List.set_cons_zero,List.set_cons_succ])
  iterate 3 (refine qt_yes (v:=?_) (by rfl) ?_ ?_;rotate_left;(· (intro wq hSw;obtain ⟨f0,f1,f2,f3,f4,f5,f6⟩:=FX.out wq hSw;clear hSw;go_simp;with_reducible rfl));(try simp only [Act.put,List.setIfInBounds_toArray,List.set_cons_zero,List.set_cons_succ]))
  refine qt_nil ?_
  intro wq hSw
  have R:Hid (Below w.heap.size w wq/\wq.cell? ⟨w.heap.size+1,0,none⟩=some (.int .i64 s1)):=⟨BA.out.1.trans (hSw.mono BA.out.1.size),(FX.out wq hSw).2.2.2.2.2.1⟩
  clear hSw
  clear t1 t1b FX
  have z0:=R.out.2
  by_cases h1:s1=1
  ·have t2:(s1 == 1)=true:=by simpa using h1
   have HE:Hid (v=82):=by show _=_;rw [<- HV.out,if_pos (.inl h1)]
   clear h1
   go_wp2
   go_ret
   exact ⟨by rw [HE.out];rfl,R.out.1⟩
  ·have t2:(s1 == 1)=false:=by simpa using h1
   by_cases hp:t.prod=-1
   ·have t3:(t.prod == -1)=true:=by simpa using hp
    rw [t3] at CI
    have HE:Hid (v=82):=by show _=_;rw [<- HV.out,if_pos (.inr hp)]
    clear h1 hp t3
    go_wp2_with (go_at_call 36;refine (CI.out _ R.out.1).mono ?_;rintro e w2 ⟨rfl,rfl⟩)
    go_ret
    exact ⟨by rw [HE.out];rfl,R.out.1⟩
   ·have t3:(t.prod == -1)=false:=by simpa using hp
    rw [t3] at CI
    have HE:Hid (v=81):=by show _=_;rw [<- HV.out,if_neg (by rintro (q | q);exact h1 q;exact hp q)]
    clear h1 hp t3
    go_wp2_with (go_at_call 36;refine (CI.out _ R.out.1).mono ?_;rintro e w2 ⟨rfl,rfl⟩)
    go_ret
    exact ⟨by rw [HE.out];rfl,R.out.1⟩
open Go.RowKit Go.Shelf
abbrev BkX:=Int×(Int×Int)
def bkX (ls:List (Int×Int)):List BkX:=(List.range ls.length).map fun j=>(((ls.length - 1 - j:Nat):Int),ls.getD (ls.length - 1 - j) (0,0))
theorem bkX_rev (ls:List (Int×Int)):(bkX ls).map (·.2)=ls.reverse:=by
 apply List.ext_getElem
 ·simp [bkX]
 ·intro i h1 h2
  simp only [bkX,List.length_map,List.length_range,List.length_reverse] at h1 h2
  simp [bkX,List.getElem_reverse,List.getD,show ls.length - 1 - i < ls.length by omega]
def SymTy (o:Obj):Prop:=∃ cs fz,o=.cells cs 82 fz
def KpT (N n1 Bs:Nat)(W W':World):Prop:=Below N W W'/\W'.heap[Bs]?=W.heap[Bs]?/\∀ (j:Nat) (o:Obj),j < n1->W.heap[j]?=some o->¬ SymTy o->W'.heap[j]?=some o
theorem KpT.t {N n1 Bs:Nat}{A B C:World}(h:KpT N n1 Bs A B)(k:KpT N n1 Bs B C):KpT N n1 Bs A C:=⟨h.1.trans k.1,k.2.1.trans h.2.1,fun j o hj q s=>k.2.2 j o hj (h.2.2 j o hj q s) s⟩
theorem KpT.b {N n1 Bs:Nat}{w:World}(hn:N<=w.heap.size)(h1:n1<=w.heap.size)(hB:Bs < w.heap.size)(W:World)(l:Nat)(o o':Obj)(hl:w.heap.size<=l)(h:W.heap[l]?=some o)(hc:o.isCells=false)(hk:o.isWalk=false):KpT N n1 Bs W (W.putObj l o') :=
 ⟨belowK_b hn W l o o' hl h hc hk,World.putObj_heap_other (by omega),fun j o2 hj q _=>(World.putObj_heap_other (by omega)).trans q⟩
set_option maxRecDepth 100000 in
set_option maxHeartbeats 2000000 in
theorem backT_run (F:Fence)(n:Nat)(h7:F.fn 153)(hro:F.round=none)(hn:1<=n)(l Bs N n1:Nat)(ao:Option Addr)(cap:Nat)(ls:List (Int×Int))(hl:ls.length<=140737488355328)(J Jx:List BkX->World->Prop)
  (hY:∀ pre x W,J pre W->pre.length < ls.length->YieldAt F (n - 1) Tryz.prog l #[.int .i64 x.1,.agg #[.int .i64 x.2.1,.int .i64 x.2.2]] W fun e W' =>
   (e=.returned (.bool true)/\J (pre++[x]) W'/\KpT N n1 Bs W W')∨(e=.returned (.bool false)/\Jx (pre++[x]) W'))
  (W:World) (hBs:W.heap[Bs]?=some (.cells #[.slice ao ls.length cap] 100 (0,0))) (hr:∀ W',Below N W W'->SymRow W' ao ls) (h0:J [] W) :
  CallsIn F n Tryz.prog 153 #[.func (.yield l) #[] #[],.pointer (some ⟨Bs,0,none⟩)] W fun e W'=>(∃ v,e=.returned v) /\
   ((∃ ys,ys=bkX ls/\J ys W')∨(∃ pre,True/\Jx pre W')):=by
 obtain ⟨zs,hzs⟩:∃ zs,zs=bkX ls:=⟨_,rfl⟩
 have hzl:zs.length=ls.length:=by rw [hzs];simp [bkX]
 have hBc:W.cell? ⟨Bs,0,none⟩=some (.slice ao ls.length cap):=(cQa hBs).trans rfl
 rw [<- hzs]
 refine callsIn_of_wp Tryz.func153 rfl h7 ?_ hro
 simp only [Tryz.ntmps153,List.size_toArray,List.length_cons,List.length_nil,Nat.reduceAdd,Nat.reduceSub,Array.replicate_succ,Array.replicate_zero,List.push_toArray,List.append_toArray,List.nil_append,List.cons_append]
 gi_wp2
 gi_loopw [3] (fun i wr=>∃ k:Nat,k<=ls.length/\i=.int .i64 ((ls.length:Int) - 1 - k)/\J (zs.take k) wr/\KpT N n1 Bs W wr)
  (fun i _=>(intOf i+1).toNat)
 case atStart=>exact ⟨0,Nat.zero_le _,by simp,h0,Below.refl _ _,rfl,fun _ _ _ q _=>q⟩
 case round =>
  obtain ⟨k,hk,rfl,hJs,hnx⟩:=hrel
  have hBr:wr.heap[Bs]?=some (.cells #[.slice ao ls.length cap] 100 (0,0)):=hnx.2.1.trans hBs
  have hBc2:wr.cell? ⟨Bs,0,none⟩=some (.slice ao ls.length cap):=(cQa hBr).trans rfl
  by_cases hlt:k < ls.length
  ·obtain ⟨x,hx⟩:∃ x,zs[k]'(by omega)=x:=⟨_,rfl⟩
   have hxv:x=(((ls.length - 1 - k:Nat):Int),ls.getD (ls.length - 1 - k) (0,0)):=by
    have e1:zs[k]?=(bkX ls)[k]?:=by rw [hzs]
    rw [List.getElem?_eq_getElem (by omega),hx] at e1
    simpa [bkX,hlt] using e1
   obtain ⟨fn,tmps,assign,body,hy,hR⟩:=hY _ x wr hJs (by rw [List.length_take];omega)
   obtain ⟨b,off,rfl,_,hc⟩:=hr wr hnx.1 (by intro e;rw [e] at hlt;simp at hlt)
   obtain ⟨c0,c1⟩:=hc (ls.length - 1 - k) (by omega)
   have HS:Hid (zs.take (k+1)=zs.take k++[x]):=by show _=_;rw [List.take_succ_eq_append_getElem (by omega),hx]
   rw [hxv] at hy
   simp only at hy
   have hi:((ls.length:Int) - 1 - k)=((ls.length - 1 - k:Nat):Int):=by omega
   have hik:ls.length - 1 - k < ls.length:=by omega
   rw [hi]
   have HXV:Hid (x=(((ls.length - 1 - k:Nat):Int),ls.getD (ls.length - 1 - k) (0,0))):=hxv
   clear hxv
   generalize hI:ls.length - 1 - k=i at *
   generalize ls.getD i (0,0)=s at *
   obtain ⟨s1,s2⟩:=s
   simp only at c0 c1 hy
   clear hc hBs hBc hzs HXV
   gi_wp2
   refine hR.mono ?_
   rintro e W3 (⟨rfl,hJ3,hk3⟩ | ⟨rfl,hJx3⟩)
   ·gi_wp2
    go_roundw
    case rel=>exact ⟨k+1,by omega,by go_num,by rw [HS.out];exact hJ3,hnx.t hk3⟩
    case measure=>simp [intOf]
   ·gi_wp2
    refine bodyPost_ret (results_none rfl _ _ _) rfl ?_
    exact ⟨⟨_,rfl⟩,.inr ⟨_,trivial,hJx3⟩⟩
  ·obtain rfl:k=ls.length:=by omega
   have hneg:((ls.length:Int) - 1 - (ls.length:Nat))=-1:=by omega
   rw [hneg]
   gi_wp2
   go_end0
   exact ⟨⟨_,rfl⟩,.inl ⟨_,by rw [<- hzl,List.take_length],hJs⟩⟩
abbrev bkY (x:BkX):Array Value:=#[.int .i64 x.1,.agg #[.int .i64 x.2.1,.int .i64 x.2.2]]
theorem backT_seq (F:Fence)(n:Nat)(h7:F.fn 153)(hro:F.round=none)(hn:1<=n)(Bs N n1:Nat)(ao:Option Addr)(cap:Nat)(ls:List (Int×Int))(hl:ls.length<=140737488355328)(w:World)(hB:Bs < w.heap.size)(hBs:w.heap[Bs]?=some (.cells #[.slice ao ls.length cap] 100 (0,0)))(hN:N<=w.heap.size)(hr:∀ W',Below N w W'->SymRow W' ao ls) :
  SeqStopsK F n Tryz.prog 153 #[.pointer (some ⟨Bs,0,none⟩)] bkY (KpT N n1 Bs) (fun ys=>ys=bkX ls) (fun _=>True) ls.length w:=fun l J Jx W hW _ _ hY h0 =>
 backT_run F n h7 hro hn l Bs N n1 ao cap ls hl J Jx hY W ((hW.block _ hB).trans hBs) (fun _ hb=>hr _ ((hW.mono hN).trans hb)) h0
set_option maxRecDepth 100000 in
set_option maxHeartbeats 1000000 in
theorem backward_W (ao:Option Addr)(len cap:Nat)(w:World):Calls Tryz.prog 126 #[.slice ao len cap] w fun e w'=>e=.returned (.func (.func 153) #[] #[.pointer (some ⟨w.heap.size,0,none⟩)])/\w'=w.alloc (.cells #[.slice ao len cap] 100):=by
 go_enter Tryz.func126,Tryz.ntmps126
 go_wp2
 go_ret
 exact ⟨rfl,rfl⟩
theorem boxed_ownT {β:Type}(B:Nat)(t:TypeId)(v:Value):Own (fun (_:β) W=>Boxed W B t v):=fun _ X Y row hs hg hrow =>
 hs.kept hg (fun e'=>by obtain ⟨o,ho,hc⟩:=hrow B e'.symm;rw [show X.heap[B]?=_ from hs] at ho;cases ho;cases hc)
def FrS (w W:World):Prop:=∀ (j:Nat) (o:Obj),w.heap[j]?=some o->¬ SymTy o->W.heap[j]?=some o
theorem frS_own {β:Type}{w:World}{B:Nat}(hB:w.heap.size<=B):OwnFrom B (fun (_:β) W=>Below 0 w W/\FrS w W):=fun _ X Y row hs hg hr=>by
 refine ⟨hs.1.grown hg (Nat.zero_le _) (fun _ _=>Nat.zero_le _),fun j o q s=>?_⟩
 rw [hg.block j (Nat.lt_of_lt_of_le (lt_of_block q) hs.1.size) (fun e=>?_),hs.2 j o q s]
 have:=(hr j e.symm).1
 have:=lt_of_block q
 omega
theorem symCells_app (l:List (Int×Int))(x:Int×Int):sCl (l++[x])=sCl l++[.int .i64 x.1,.int .i64 x.2]:=by simp [sCl]
set_option maxRecDepth 100000 in
set_option maxHeartbeats 4000000 in
theorem pushRight_W (N:Nat)(v:Value)(due:List (Int×Int))(ra:Option Addr)(rc:Nat)(right:List (Int×Int))(w:World)(hN:N<=w.heap.size)(hv:w.ownsRow N 82 2 v due.length (sCl due))(hr:∀ W',Below N w W'->SymRow W' ra right)(hlen:due.length+right.length<=1000000000) :
  Calls Tryz.prog 106 #[v,.slice ra right.length rc] w fun e w'=>∃ v',e=.returned v'/\w'.ownsRow N 82 2 v' (due++right.reverse).length (sCl (due++right.reverse))/\Below N w w'/\FrS w w':=by
 obtain ⟨va,vc,rfl⟩:∃ va vc,v=.slice va due.length vc:=by
  rcases hv.2 with ⟨rfl,h0⟩ | ⟨g,cap,cur,rfl,_⟩
  ·exact ⟨none,0,by rw [h0]⟩
  ·exact ⟨_,_,rfl⟩
 obtain ⟨i0,hi,hz0,hz1,hz2⟩:=infoSym_parts
 refine (callsIn_wide (n:=6)).1 ?_
 refine callsIn_of_wp_marks Tryz.func106 rfl trivial ?_ rfl
 simp only [Tryz.ntmps106,List.size_toArray,List.length_cons,List.length_nil,Nat.reduceAdd,Nat.reduceSub,Array.replicate_succ,Array.replicate_zero,List.push_toArray,List.append_toArray,List.nil_append,List.cons_append]
 gi_wp2_with (refine ⟨trivial,?_⟩;gi_at_call 126;refine (callsIn_wide.2 (backward_W ra right.length rc _)).mono ?_;rintro e w' ⟨rfl,rfl⟩)
 have e1:∀ (u:World) (o:Obj),(u.alloc o).heap.size=u.heap.size+1:=fun u o=>by simp
 have b1:Below w.heap.size w (w.alloc (.cells #[.slice va due.length vc] 100)):=bAl _ _
 have b2:Below w.heap.size w ((w.alloc (.cells #[.slice va due.length vc] 100)).alloc (.cells #[.slice ra right.length rc] 100)):=b1.trans ((bAl _ _).mono b1.size)
 have k1:Boxed ((w.alloc (.cells #[.slice va due.length vc] 100)).alloc (.cells #[.slice ra right.length rc] 100)) w.heap.size 100 (.slice va due.length vc):=((bAl _ _).block _ (by simp)).trans (heap_alloc_new w _)
 have k2:Boxed ((w.alloc (.cells #[.slice va due.length vc] 100)).alloc (.cells #[.slice ra right.length rc] 100)) (w.heap.size+1) 100 (.slice ra right.length rc):=by
  have:=heap_alloc_new (w.alloc (.cells #[.slice va due.length vc] 100)) (.cells #[.slice ra right.length rc] 100)
  rwa [e1] at this
 have hsz:((w.alloc (.cells #[.slice va due.length vc] 100)).alloc (.cells #[.slice ra right.length rc] 100)).heap.size=w.heap.size+1+1:=by rw [e1,e1]
 have hv2:=(hv.alloc (.cells #[.slice va due.length vc] 100)).alloc (.cells #[.slice ra right.length rc] 100)
 obtain ⟨W0,hW0⟩:∃ W0,(w.alloc (.cells #[.slice va due.length vc] 100)).alloc (.cells #[.slice ra right.length rc] 100)=W0:=⟨_,rfl⟩
 rw [hW0] at b2 k1 k2 hsz hv2 ⊢
 clear hW0
 refine wpIn_rangeFunc_ownH rfl (by omega) (gf:=153) (lb:=#[.pointer (some ⟨w.heap.size+1,0,none⟩)]) rfl trivial (enters_of Tryz.func153 (by kernel_rfl) rfl)
  (backT_seq Fence.wide _ trivial rfl (by omega) (w.heap.size+1) N w.heap.size ra rc right (by omega) W0 (by omega) k2 (by omega) (fun W' hb=>hr W' ((b2.mono hN).trans hb))) KpT.t (KpT.b (by omega) (by omega) (by omega)) (Below.refl _ _) (fun _=>rfl)
  (fun pre W=>((∃ v',Boxed W w.heap.size 100 v'/\W.ownsRow N 82 2 v' (due.length+pre.length) (sCl (due++pre.map (·.2)))/\True)/\Boxed W (w.heap.size+1) 100 (.slice ra right.length rc))/\(Below N w W/\(Below 0 w W/\FrS w W)))
  (fun _ _ _=>False)
  (OwnFrom.and (OwnFrom.and (Own.from (holdsRow_own N w.heap.size 100 82 2 (fun pre:List BkX=>due.length+pre.length) (fun pre=>sCl (due++pre.map (·.2))) (fun _ _=>True)) _) (Own.from (boxed_ownT _ _ _) _)) (OwnFrom.and (ownFrom_below hN (by omega)) (frS_own (by omega))))
  (fun _ _ _ _ _ hs _ _=>hs)
  ⟨⟨⟨.slice va due.length vc,k1,by simpa using hv2,trivial⟩,k2⟩,b2.mono hN,b2.mono (Nat.zero_le _),fun j o q _=>(b2.block _ (lt_of_block q)).trans q⟩
  (fun x a' W=>∃ Bx,w.heap.size+1 < Bx/\W.heap[Bx]?=some (yBoxC x.2.1 x.2.2)/\a'={ tmps:=#[.slice va due.length vc,.slice ra right.length rc,.pointer (some ⟨w.heap.size,0,none⟩),undef,.slice none 0 0,undef,.pointer (some ⟨Bx,0,none⟩),.slice ra right.length rc,.func (.func 153) #[] #[.pointer (some ⟨w.heap.size+1,0,none⟩)],.int .i64 x.1,.agg #[.int .i64 x.2.1,.int .i64 x.2.2],undef,undef,undef,undef,undef],defers:=[] })
  (fun x a' _ X Y row hs hg hr'=>by
   obtain ⟨Bx,h1,h2,h3⟩:=hs
   exact ⟨Bx,h1,(hg.block Bx (lt_of_block h2) (fun e=>by obtain ⟨_,o,ho,hc⟩:=hr' Bx e.symm;rw [h2] at ho;cases ho;cases hc)).trans h2,h3⟩)
  ?assign ?body ?done ?stop
 case assign =>
  rintro l' pre x W K ⟨⟨⟨v1,c1,c2,_⟩,c3⟩,hB,hF⟩ hK
  have hsa:=@Oper.semAt_some
  gi_wp2
  have hbA:Below W.heap.size W (W.alloc (yBoxC x.2.1 x.2.2)):=bAl _ _
  exact hK _ _ ((KeepsOthers.alloc _ _).from _) ⟨hbA.mono (Nat.le_trans hN hB.size),hbA.block _ c3.lt,fun j o hj q _=>(hbA.block _ (lt_of_block q)).trans q⟩ ⟨⟨⟨v1,c1.alloc _,c2.alloc _,trivial⟩,c3.alloc _⟩,hB.trans (hbA.mono (Nat.le_trans hN hB.size)),hF.1.trans (hbA.mono (Nat.zero_le _)),fun j o q s=>(hbA.block _ (lt_of_block (hF.2 j o q s))).trans (hF.2 j o q s)⟩ ⟨W.heap.size,c3.lt,heap_alloc_new _ _,rfl⟩
 case body =>
  rintro l' pre x a' W hl' ⟨r,hr'⟩ ⟨⟨⟨v1,c1,c2,_⟩,c3⟩,hB,hF⟩ ⟨Bx,hBx,bX,rfl⟩ hlt
  have hcb:=c1.cell
  have z0:W.cell? ⟨Bx,0,none⟩=some (.int .i64 x.2.1):=(cQa bX).trans rfl
  have z1:W.cell? ⟨Bx,1,none⟩=some (.int .i64 x.2.2):=(cQa bX).trans rfl
  have hsa:=@Oper.semAt_some
  have hlt':pre.length < 1000000000:=by omega
  have hdl:due.length+pre.length < 1000000000:=by omega
  have hNW:N<=W.heap.size:=Nat.le_trans hN hB.size
  obtain ⟨v1a,v1n,v1c,rfl⟩:∃ a n c,v1=.slice a n c:=by
   rcases c2.2 with ⟨rfl,h0⟩ | ⟨g,cap,cur,rfl,_⟩
   ·exact ⟨_,_,_,rfl⟩
   ·exact ⟨_,_,_,rfl⟩
  obtain ⟨x1,s1,s2⟩:=x
  dsimp only at z0 z1 bX ⊢
  have NX:∀ j u,[Value.int .i64 s1,Value.int .i64 s2][j]?=some u->(W.alloc (yBoxC s1 s2)).cell? ((⟨W.heap.size,0,none⟩:Addr).add j)=some u:=fun j u hu=>by
   rw [aNn,Nat.zero_add,cQa (heap_alloc_new W (yBoxC s1 s2)),<- hu]
   simp
  gi_wp2_with (gi_at_builtin;refine wpListIn_append_own _ rfl _ _ 100 rfl N 82 i0 (.agg #[.int .i64 0,.int .i64 0]) 2 16 Tryz.underlying100 hi hz0 hz1 hz2 rfl (by decide) _ _ _ rfl (c2.alloc _) ⟨W.heap.size,0,none⟩ 1 1 [.int .i64 s1,.int .i64 s2] rfl rfl NX (by simp [Value.oneCell']) (by unfold maxLen;omega) (by omega) (by simp;omega) ?_;intro v' w1 hown' hgrow _;obtain ⟨g',cap',rfl⟩:=ownsRow_succ hown';obtain ⟨hv1,hv2',hr2,hk2,hb2⟩:=c1.appended (by decide) c2 hNW hN hown' hgrow;have hc1:=hv1.cell;have hf1:=hv1.frozen)
  have hgrow':(W.alloc (yBoxC s1 s2)).grownBy w1 (Value.slice v1a v1n v1c).ownBlock:=hgrow
  clear hgrow
  have hkeep:∀ (j:Nat) (o:Obj),W.heap[j]?=some o->j≠w.heap.size->¬ SymTy o->(w1.setCell ⟨w.heap.size,0,none⟩ (.slice (some ⟨g',0,none⟩) (due.length+pre.length+1) cap')).heap[j]?=some o:=fun j o q hne hs=>by
   rw [Below.heap_setCell _ _ _ _ (show j≠w.heap.size from hne),hgrow'.block j (by rw [e1];have:=lt_of_block q;omega) (fun e=>?_)]
   ·exact ((bAl _ _).block _ (lt_of_block q)).trans q
   ·rcases c2.2 with ⟨h0,_⟩ | ⟨g,cap,cur,h0,_,h2,_⟩
    ·rw [h0] at e
     simp [Value.ownBlock] at e
    ·rw [h0] at e
     simp [Value.ownBlock] at e
     subst e
     rw [h2] at q
     cases q
     exact hs ⟨_,_,rfl⟩
  have hns:∀ cs fz,¬ SymTy (.cells cs 100 fz):=fun cs fz ⟨_,_,e⟩=>by simp at e
  refine ⟨hk2.from _,⟨hb2,?_,fun j o hj q hs=>hkeep j o q (by omega) hs⟩,⟨⟨⟨_,hv2',?_,trivial⟩,hkeep _ _ c3 (by omega) (hns _ _)⟩,hB.trans hb2,hF.1.trans (hb2.mono (Nat.zero_le _)),fun j o q hs=>hkeep j o (hF.2 j o q hs) (by have:=lt_of_block q;omega) hs⟩⟩
  ·rw [hkeep _ _ c3 (by omega) (hns _ _)]
   exact c3.symm
  ·have e3:sCl (due++(pre++[(x1,s1,s2)]).map (·.2))=sCl (due++pre.map (·.2))++[.int .i64 s1,.int .i64 s2]:=by
    rw [List.map_append,List.map_singleton,<- List.append_assoc,symCells_app]
   rw [e3]
   simpa [Nat.add_assoc] using hr2
 case done =>
  rintro D ys W hD rfl ⟨⟨⟨v1,c1,c2,_⟩,c3⟩,hB,hF⟩ hK
  have hcb:=c1.cell
  have hys:due++(bkX right).map (·.2)=due++right.reverse:=by rw [bkX_rev]
  have hyl:(bkX right).length=right.length:=by simp [bkX]
  rw [hys,hyl] at c2
  gi_wp2
  refine ⟨by simp,.inl ⟨_,_,rfl,run_takeDeferred hK,?_⟩⟩
  exact ⟨_,results_tmp rfl _ _ _,v1,rfl,by simpa using ownsRow_putObj c2 _ hK rfl,hB.trans (belowK_b (w:=w) hN W D _ _ (by omega) hK rfl rfl),fun j o q hs=>(World.putObj_heap_other (by have:=lt_of_block q;omega)).trans (hF.2 j o q hs)⟩
 case stop =>
  rintro D c pre W _ _ h _
  exact h.elim
theorem ib_cell {w:World}{b:Nat}{x:Int}(h:w.heap[b]?=some (iBox x)):w.cell? ⟨b,0,none⟩=some (.int .i64 x)/\w.frozen? ⟨b,0,none⟩=false:=⟨(cQa h).trans rfl,by simp [World.frozen?,h]⟩
theorem ib_ne {w:World}{b c:Nat}{o:Obj}(h:w.heap[c]?=some o)(hn:c≠b)(v:Value):(w.setCell ⟨b,0,none⟩ v).heap[c]?=some o:=(Below.heap_setCell _ _ _ _ hn).trans h
section
variable {N b:Nat} {m:MS} {w0 wb w:World}
end
end Go.Proofs.YteciabdjkaackaaGreat
