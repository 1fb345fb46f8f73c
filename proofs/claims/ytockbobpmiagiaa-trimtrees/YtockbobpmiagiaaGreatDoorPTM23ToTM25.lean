import Derived.Test.YtockbobpmiagiaaGreatDoorPTM10ToTM12
import Derived.Test.YtockbobpmiagiaaGreatDoorPTM5ToTM8
import Derived.Test.YtockbobpmiagiaaGreatDoorPTM20ToTM22
import Derived.Test.YtockbobpmiagiaaGreatDoorPPlainToGDec11
namespace Go.Proofs.YtockbobpmiagiaaGreatDoor
set_option linter.unusedVariables false
set_option maxRecDepth 100000
set_option maxHeartbeats 16000000
open Go.RowKit Go.Shelf
def BrL (g:GV)(l:List Int):Prop:=∃ M,MLst g.ps g.ns.length true M/\l=offU false M g.ns.length
def UnL (g:GV)(l:List (Int×Int)):Prop:=∃ T N,RLst g T N/\l=offY 1 T g.ts.length++offY 2 N g.ns.length
def CiL (g:GV)(l:List Int):Prop:=∃ M NU,MLst g.ps g.ns.length false NU/\(∀ a,a < g.ns.length->(M.getD a false=true ↔ TrE (alU NU g.ps) a a))/\l=offU true M g.ns.length
theorem BrL.one {g:GV}{l l':List Int}(h:BrL g l)(h':BrL g l'):l=l':=by
 obtain ⟨M,h1,rfl⟩:=h
 obtain ⟨M',h2,rfl⟩:=h'
 rw [h1.one h2]
theorem UnL.one {g:GV}{l l':List (Int×Int)}(h:UnL g l)(h':UnL g l'):l=l':=by
 obtain ⟨T,N,h1,rfl⟩:=h
 obtain ⟨T',N',h2,rfl⟩:=h'
 obtain ⟨e1,e2⟩:=h1.one h2
 rw [e1,e2]
theorem CiL.one {g:GV}{l l':List Int}(h:CiL g l)(h':CiL g l'):l=l':=by
 obtain ⟨M,NU,h1,h2,rfl⟩:=h
 obtain ⟨M',NU',h1',h2',rfl⟩:=h'
 rw [h1'.one h1] at h2'
 unfold offU
 congr 1
 apply List.filter_congr
 intro a ha
 have ha:=List.mem_range.1 ha
 exact decide_eq_decide.2 ((h2 a ha).trans (h2' a ha).symm)
theorem core_lrT {p q:PV}(h:p.core=q.core):p.left=q.left/\p.right=q.right:=by
 unfold PV.core at h
 simp only [Prod.mk.injEq] at h
 exact ⟨h.1,h.2.1⟩
theorem mem_coreT {ps qs:List PV}(h:qs.map PV.core=ps.map PV.core){p:PV}(hp:p∈ps):∃ q∈qs,q.left=p.left/\q.right=p.right:=by
 have:p.core∈qs.map PV.core:=by rw [h];exact List.mem_map_of_mem hp
 obtain ⟨q,hq,e⟩:=List.mem_map.1 this
 exact ⟨q,hq,core_lrT e⟩
theorem MLst.same {ps qs:List PV}{n:Nat}{t:Bool}{M:List Bool}(hs:qs.map PV.core=ps.map PV.core)(h:MLst qs n t M):MLst ps n t M:=by
 refine ⟨h.len,fun p hp hw=>?_,fun C hC i hi=>h.lst C (fun q hq hs'=>?_) i hi⟩
 ·obtain ⟨q,hq,e1,e2⟩:=mem_coreT hs hp
  rw [<- e1]
  exact h.clo q hq (by rw [e2];exact hw)
 ·obtain ⟨p,hp,e1,e2⟩:=mem_coreT hs.symm hq
  rw [<- e1]
  exact hC p hp (by rw [e2];exact hs')
theorem alU_same (N:List Bool):∀ {ps qs:List PV},qs.map PV.core=ps.map PV.core->alU N qs=alU N ps
 | [],[],_=>rfl
 | [],q :: qs,h=>by simp at h
 | p :: ps,[],h=>by simp at h
 | p :: ps,q :: qs,h=>by
  simp only [List.map_cons,List.cons.injEq] at h
  have e:=core_lrT h.1
  have ih:=alU_same N h.2
  unfold alU at ih ⊢
  rw [List.flatMap_cons,List.flatMap_cons,ih]
  unfold alP alK
  rw [e.1,e.2]
section
variable {g x:GV}
theorem BrL.same {l:List Int}(hs:SameG g x)(h:BrL x l):BrL g l:=by
 obtain ⟨M,h1,h2⟩:=h
 rw [hs.ns] at h1 h2
 exact ⟨M,h1.same hs.ps,h2⟩
theorem UnL.same {l:List (Int×Int)}(hs:SameG g x)(h:UnL x l):UnL g l:=by
 obtain ⟨T,N,h1,h2⟩:=h
 refine ⟨T,N,⟨by rw [h1.tl,hs.ts],by rw [h1.nl,hs.ns],by rw [<- hs.start];exact h1.st,fun p hp hl s hq=>?_,fun Ct Cn hC=>h1.lst Ct Cn ⟨by rw [hs.start];exact hC.1,fun q hq hl s hm=>?_⟩⟩,by rw [h2,hs.ts,hs.ns]⟩
 ·obtain ⟨q,hq',e1,e2⟩:=mem_coreT hs.ps hp
  exact h1.clo q hq' (by rw [e1];exact hl) s (by rw [e2];exact hq)
 ·obtain ⟨p,hp,e1,e2⟩:=mem_coreT hs.ps.symm hq
  exact hC.2 p hp (by rw [e1];exact hl) s (by rw [e2];exact hm)
theorem CiL.same {l:List Int}(hs:SameG g x)(h:CiL x l):CiL g l:=by
 obtain ⟨M,NU,h1,h2,h3⟩:=h
 rw [hs.ns] at h1 h2 h3
 rw [alU_same NU hs.ps] at h2
 exact ⟨M,NU,h1.same hs.ps,h2,h3⟩
end
def wellU (B:List Int)(Y:List (Int×Int))(O:List Int):Int×(Int×Int):=match B with
 | b :: _=>(71,(2,b))
 | []=>match Y with
  | y :: _=>(72,y)
  | []=>match O with
   | o :: _=>(73,(2,o))
   | []=>(0,(0,0))
def BrE (g:GV)(er:Int)(l:List Int):Prop:=(er=0->BrL g l)/\(er≠0->l=[])
def UnE (g:GV)(er:Int)(l:List (Int×Int)):Prop:=(er=0->UnL g l)/\(er≠0->l=[])
def CiE (g:GV)(er:Int)(l:List Int):Prop:=(er=0->CiL g l)/\(er≠0->l=[])
def WeE (g:GV)(er:Int)(k:Int)(s:Int×Int):Prop:=(er=0->∃ B Y O,BrL g B/\UnL g Y/\CiL g O/\(k,s)=wellU B Y O)/\(er≠0->k=er/\s=(0,0))
section
variable {g x:GV} {er:Int}
theorem BrE.one {l l':List Int}(h:BrE g er l)(h':BrE g er l'):l=l':=by
 by_cases e:er=0
 ·exact (h.1 e).one (h'.1 e)
 ·rw [h.2 e,h'.2 e]
theorem UnE.one {l l':List (Int×Int)}(h:UnE g er l)(h':UnE g er l'):l=l':=by
 by_cases e:er=0
 ·exact (h.1 e).one (h'.1 e)
 ·rw [h.2 e,h'.2 e]
theorem CiE.one {l l':List Int}(h:CiE g er l)(h':CiE g er l'):l=l':=by
 by_cases e:er=0
 ·exact (h.1 e).one (h'.1 e)
 ·rw [h.2 e,h'.2 e]
theorem WeE.one {k k':Int}{s s':Int×Int}(h:WeE g er k s)(h':WeE g er k' s'):k=k'/\s=s':=by
 by_cases e:er=0
 ·obtain ⟨B,Y,O,b,y,o,q⟩:=h.1 e
  obtain ⟨B',Y',O',b',y',o',q'⟩:=h'.1 e
  rw [b.one b',y.one y',o.one o',<- q'] at q
  simpa using q
 ·rw [(h.2 e).1,(h.2 e).2,(h'.2 e).1,(h'.2 e).2]
  exact ⟨rfl,rfl⟩
theorem BrE.same {l:List Int}(hs:SameG g x)(h:BrE x er l):BrE g er l:=⟨fun e=>(h.1 e).same hs,h.2⟩
theorem UnE.same {l:List (Int×Int)}(hs:SameG g x)(h:UnE x er l):UnE g er l:=⟨fun e=>(h.1 e).same hs,h.2⟩
theorem CiE.same {l:List Int}(hs:SameG g x)(h:CiE x er l):CiE g er l:=⟨fun e=>(h.1 e).same hs,h.2⟩
theorem WeE.same {k:Int}{s:Int×Int}(hs:SameG g x)(h:WeE x er k s):WeE g er k s:=⟨fun e=>by
 obtain ⟨B,Y,O,b,y,o,q⟩:=h.1 e
 exact ⟨B,Y,O,b.same hs,y.same hs,o.same hs,q⟩,h.2⟩
end
theorem Barren_P (g:GV)(w:World)(h:GAt 140737488355328 w g)(hpc:g.ps.length<=g.pc)(er at_:Int)(hE:cG_ g (cF_ g.ts g.ns)=(er,at_)) :
  Calls Tryz.prog 7 #[g.val] w fun e w'=>∃ v l,e=.returned (.tuple #[v,.int .i64 er])/\BrE g er l/\LBs w l v w':=by
 have X0:Hid ((w.alloc (gBox g)).heap[w.heap.size]?=some (gBox g)):=heap_alloc_new _ _
 have CK:Hid (Calls Tryz.prog 21 #[g.val] (w.alloc (gBox g)) fun e w'=>e=.returned (.tuple #[.int .i64 er,.int .i64 at_])/\Below (w.alloc (gBox g)).heap.size (w.alloc (gBox g)) w'):=check_G g _ (h.later (bAl _ _)) hpc er at_ hE
 obtain ⟨x0,x1,x2,x3,x4⟩:=gbc X0.out
 by_cases h0:er=0
 ·subst h0
  have ok:OkC g:=OkC.of (by rw [hE])
  have IN:Hid (∀ wq,Below w.heap.size w wq->Calls Tryz.prog 22 #[g.val] wq fun e w'=>∃ v l,e=.returned v/\BrL g l/\LBs wq l v w'):=fun wq hb=>by
   exact (barren_P g wq (ok.fg (h.later hb))).mono fun e w' ⟨v,M,q1,q2,q3⟩=>⟨v,_,q1,⟨M,q2,rfl⟩,q3⟩
  have t1:((0:Int) != 0)=false:=by decide
  clear h hE ok
  go_enter Tryz.func7,Tryz.ntmps7
  go_wp2_with (first
   | (go_at_call 21;refine CK.out.mono ?_;rintro e w2 ⟨rfl,b2⟩;have B2:Hid (Below w.heap.size w w2/\w2.heap[w.heap.size]?=some (gBox g)):=⟨(bAl w _).trans (b2.mono (bAl w _).size),(b2.block _ (lt_of_block X0.out)).trans X0.out⟩;clear b2 x0 x1 x2 x3 x4;obtain ⟨x0,x1,x2,x3,x4⟩:=gbc B2.out.2)
   | (go_at_call 22;refine (IN.out _ B2.out.1).mono ?_;rintro e w3 ⟨v,l,rfl,p3,l3⟩;have R3:Hid (BrE g 0 l/\LBs w l v w3):=⟨⟨fun _=>p3,fun q=>absurd rfl q⟩,l3.il,fun j hj=>Nat.le_trans B2.out.1.size (l3.own j hj),B2.out.1.trans (l3.bel.mono B2.out.1.size)⟩;clear p3 l3))
  refine bodyPost_ret (results_tmp2 rfl _ _ _) rfl ?_
  exact ⟨v,l,rfl,R3.out⟩
 ·have t1:(er != 0)=true:=by simpa using h0
  have H0:Hid (er≠0):=h0
  clear h hE h0
  go_enter Tryz.func7,Tryz.ntmps7
  go_wp2_with (go_at_call 21;refine CK.out.mono ?_;rintro e w2 ⟨rfl,b2⟩;have B2:Hid (Below w.heap.size w w2):=(bAl w _).trans (b2.mono (bAl w _).size);clear b2)
  refine bodyPost_ret (results_tmp2 rfl _ _ _) rfl ?_
  exact ⟨_,[],rfl,⟨fun q=>absurd q H0.out,fun _=>rfl⟩,IL.nil _,(fun j hj=>by simp [Value.ownBlock] at hj),B2.out⟩
theorem Unreached_P (g:GV)(w:World)(h:GAt 140737488355328 w g)(hpc:g.ps.length<=g.pc)(er at_:Int)(hE:cG_ g (cF_ g.ts g.ns)=(er,at_)) :
  Calls Tryz.prog 9 #[g.val] w fun e w'=>∃ v l,e=.returned (.tuple #[v,.int .i64 er])/\UnE g er l/\YBs w l v w':=by
 have X0:Hid ((w.alloc (gBox g)).heap[w.heap.size]?=some (gBox g)):=heap_alloc_new _ _
 have CK:Hid (Calls Tryz.prog 21 #[g.val] (w.alloc (gBox g)) fun e w'=>e=.returned (.tuple #[.int .i64 er,.int .i64 at_])/\Below (w.alloc (gBox g)).heap.size (w.alloc (gBox g)) w'):=check_G g _ (h.later (bAl _ _)) hpc er at_ hE
 obtain ⟨x0,x1,x2,x3,x4⟩:=gbc X0.out
 by_cases h0:er=0
 ·subst h0
  have ok:OkC g:=OkC.of (by rw [hE])
  have IN:Hid (∀ wq,Below w.heap.size w wq->Calls Tryz.prog 24 #[g.val] wq fun e w'=>∃ v l,e=.returned v/\UnL g l/\YBs wq l v w'):=fun wq hb=>by
   exact (unreached_P g wq (ok.fg (h.later hb)) ok.st).mono fun e w' ⟨v,T,N,q1,q2,q3⟩=>⟨v,_,q1,⟨T,N,q2,rfl⟩,q3⟩
  have t1:((0:Int) != 0)=false:=by decide
  clear h hE ok
  go_enter Tryz.func9,Tryz.ntmps9
  go_wp2_with (first
   | (go_at_call 21;refine CK.out.mono ?_;rintro e w2 ⟨rfl,b2⟩;have B2:Hid (Below w.heap.size w w2/\w2.heap[w.heap.size]?=some (gBox g)):=⟨(bAl w _).trans (b2.mono (bAl w _).size),(b2.block _ (lt_of_block X0.out)).trans X0.out⟩;clear b2 x0 x1 x2 x3 x4;obtain ⟨x0,x1,x2,x3,x4⟩:=gbc B2.out.2)
   | (go_at_call 24;refine (IN.out _ B2.out.1).mono ?_;rintro e w3 ⟨v,l,rfl,p3,l3⟩;have R3:Hid (UnE g 0 l/\YBs w l v w3):=⟨⟨fun _=>p3,fun q=>absurd rfl q⟩,l3.sy,fun j hj=>Nat.le_trans B2.out.1.size (l3.own j hj),B2.out.1.trans (l3.bel.mono B2.out.1.size)⟩;clear p3 l3))
  refine bodyPost_ret (results_tmp2 rfl _ _ _) rfl ?_
  exact ⟨v,l,rfl,R3.out⟩
 ·have t1:(er != 0)=true:=by simpa using h0
  have H0:Hid (er≠0):=h0
  clear h hE h0
  go_enter Tryz.func9,Tryz.ntmps9
  go_wp2_with (go_at_call 21;refine CK.out.mono ?_;rintro e w2 ⟨rfl,b2⟩;have B2:Hid (Below w.heap.size w w2):=(bAl w _).trans (b2.mono (bAl w _).size);clear b2)
  refine bodyPost_ret (results_tmp2 rfl _ _ _) rfl ?_
  exact ⟨_,[],rfl,⟨fun q=>absurd q H0.out,fun _=>rfl⟩,SY.nil _,(fun j hj=>by simp [Value.ownBlock] at hj),B2.out⟩
theorem circ_L {g:GV}{w:World}{O:List Bool}(ok:OkC g)(h:GAt 140737488355328 w g)(hO:∀ a,a < g.ns.length->(O.getD a false=true ↔ TrE (alU (nullU g.ps g.ns.length) g.ps) a a)):CiL g (offU true O g.ns.length) :=
 have hfg:=ok.fg h
 ⟨O,_,null_mlst (fun p hp=>hfg.left p hp) (fun p hp s hs=>by rcases hfg.sym p hp s hs with z | z;exact .inl z.1;exact .inr z.1),hO,rfl⟩
theorem Circular_P (g:GV)(w:World)(h:GAt 140737488355328 w g)(hpc:g.ps.length<=g.pc)(er at_:Int)(hE:cG_ g (cF_ g.ts g.ns)=(er,at_))(hcap:∀ p∈g.ps,p.right.length<=p.rc)(hT:TabB w) :
  Calls Tryz.prog 8 #[g.val] w fun e w'=>∃ v l,e=.returned (.tuple #[v,.int .i64 er])/\CiE g er l/\LBs w l v w':=by
 have X0:Hid ((w.alloc (gBox g)).heap[w.heap.size]?=some (gBox g)):=heap_alloc_new _ _
 have CK:Hid (Calls Tryz.prog 21 #[g.val] (w.alloc (gBox g)) fun e w'=>e=.returned (.tuple #[.int .i64 er,.int .i64 at_])/\Below (w.alloc (gBox g)).heap.size (w.alloc (gBox g)) w'):=check_G g _ (h.later (bAl _ _)) hpc er at_ hE
 obtain ⟨x0,x1,x2,x3,x4⟩:=gbc X0.out
 by_cases h0:er=0
 ·subst h0
  have ok:OkC g:=OkC.of (by rw [hE])
  have IN:Hid (∀ wq,Below w.heap.size w wq->Calls Tryz.prog 23 #[g.val] wq fun e w'=>∃ v l,e=.returned v/\CiL g l/\LBs wq l v w'):=fun wq hb=>by
   exact (circular_P g wq (h.later hb) hpc at_ hE hcap (hT.later hb)).mono fun e w' ⟨v,q1,O,q2,q3⟩=>⟨v,_,q1,circ_L ok h q3,q2⟩
  have t1:((0:Int) != 0)=false:=by decide
  clear h hE ok hcap hT
  go_enter Tryz.func8,Tryz.ntmps8
  go_wp2_with (first
   | (go_at_call 21;refine CK.out.mono ?_;rintro e w2 ⟨rfl,b2⟩;have B2:Hid (Below w.heap.size w w2/\w2.heap[w.heap.size]?=some (gBox g)):=⟨(bAl w _).trans (b2.mono (bAl w _).size),(b2.block _ (lt_of_block X0.out)).trans X0.out⟩;clear b2 x0 x1 x2 x3 x4;obtain ⟨x0,x1,x2,x3,x4⟩:=gbc B2.out.2)
   | (go_at_call 23;refine (IN.out _ B2.out.1).mono ?_;rintro e w3 ⟨v,l,rfl,p3,l3⟩;have R3:Hid (CiE g 0 l/\LBs w l v w3):=⟨⟨fun _=>p3,fun q=>absurd rfl q⟩,l3.il,fun j hj=>Nat.le_trans B2.out.1.size (l3.own j hj),B2.out.1.trans (l3.bel.mono B2.out.1.size)⟩;clear p3 l3))
  refine bodyPost_ret (results_tmp2 rfl _ _ _) rfl ?_
  exact ⟨v,l,rfl,R3.out⟩
 ·have t1:(er != 0)=true:=by simpa using h0
  have H0:Hid (er≠0):=h0
  clear h hE h0 hcap hT
  go_enter Tryz.func8,Tryz.ntmps8
  go_wp2_with (go_at_call 21;refine CK.out.mono ?_;rintro e w2 ⟨rfl,b2⟩;have B2:Hid (Below w.heap.size w w2):=(bAl w _).trans (b2.mono (bAl w _).size);clear b2)
  refine bodyPost_ret (results_tmp2 rfl _ _ _) rfl ?_
  exact ⟨_,[],rfl,⟨fun q=>absurd q H0.out,fun _=>rfl⟩,IL.nil _,(fun j hj=>by simp [Value.ownBlock] at hj),B2.out⟩
theorem Well_P (g:GV)(w:World)(h:GAt 140737488355328 w g)(hpc:g.ps.length<=g.pc)(er at_:Int)(hE:cG_ g (cF_ g.ts g.ns)=(er,at_))(hcap:∀ p∈g.ps,p.right.length<=p.rc)(hT:TabB w)(hY:∃ Y,UnL g Y∨er≠0)(hO:∃ O,CiL g O∨er≠0) :
  Calls Tryz.prog 16 #[g.val] w fun e w'=>∃ k s,e=.returned (.tuple #[.int .i64 k,.agg #[.int .i64 s.1,.int .i64 s.2]])/\WeE g er k s/\Below w.heap.size w w':=by
 have X0:Hid ((w.alloc (gBox g)).heap[w.heap.size]?=some (gBox g)):=heap_alloc_new _ _
 have B1:Hid (Below w.heap.size w ((w.alloc (gBox g)).alloc (.cells #[.int .i64 0,.int .i64 0] 49))/\((w.alloc (gBox g)).alloc (.cells #[.int .i64 0,.int .i64 0] 49)).heap[w.heap.size]?=some (gBox g)/\((w.alloc (gBox g)).alloc (.cells #[.int .i64 0,.int .i64 0] 49)).heap[w.heap.size+1]?=some (.cells #[.int .i64 0,.int .i64 0] 49 (0,0))):=by
  have q:=heap_alloc_new (w.alloc (gBox g)) (.cells #[.int .i64 0,.int .i64 0] 49)
  rw [show (w.alloc (gBox g)).heap.size=w.heap.size+1 by simp] at q
  exact ⟨(bAl w _).trans ((bAl (w.alloc (gBox g)) _).mono (bAl w _).size),((bAl (w.alloc (gBox g)) _).block _ (by simp)).trans X0.out,q⟩
 have CK:Hid (Calls Tryz.prog 21 #[g.val] ((w.alloc (gBox g)).alloc (.cells #[.int .i64 0,.int .i64 0] 49)) fun e w'=>e=.returned (.tuple #[.int .i64 er,.int .i64 at_])/\Below ((w.alloc (gBox g)).alloc (.cells #[.int .i64 0,.int .i64 0] 49)).heap.size ((w.alloc (gBox g)).alloc (.cells #[.int .i64 0,.int .i64 0] 49)) w'):=check_G g _ (h.later B1.out.1) hpc er at_ hE
 obtain ⟨x0,x1,x2,x3,x4⟩:=gbc B1.out.2.1
 by_cases h0:er=0
 ·subst h0
  obtain ⟨Y0,hY0 | hY0⟩:=hY
  rotate_left
  ·exact absurd rfl hY0
  obtain ⟨O0,hO0 | hO0⟩:=hO
  rotate_left
  ·exact absurd rfl hO0
  have ok:OkC g:=OkC.of (by rw [hE])
  have IB:Hid (∀ wq,Below w.heap.size w wq->Calls Tryz.prog 22 #[g.val] wq fun e w'=>∃ v l,e=.returned v/\BrL g l/\LBs wq l v w'):=fun wq hb=>(barren_P g wq (ok.fg (h.later hb))).mono fun e w' ⟨v,M,q1,q2,q3⟩=>⟨v,_,q1,⟨M,q2,rfl⟩,q3⟩
  have IU:Hid (∀ wq,Below w.heap.size w wq->Calls Tryz.prog 24 #[g.val] wq fun e w'=>∃ v l,e=.returned v/\UnL g l/\YBs wq l v w'):=fun wq hb=>(unreached_P g wq (ok.fg (h.later hb)) ok.st).mono fun e w' ⟨v,T,N,q1,q2,q3⟩=>⟨v,_,q1,⟨T,N,q2,rfl⟩,q3⟩
  have IC:Hid (∀ wq,Below w.heap.size w wq->Calls Tryz.prog 23 #[g.val] wq fun e w'=>∃ v l,e=.returned v/\CiL g l/\LBs wq l v w'):=fun wq hb=>(circular_P g wq (h.later hb) hpc at_ hE hcap (hT.later hb)).mono fun e w' ⟨v,q1,O,q2,q3⟩=>⟨v,_,q1,circ_L ok h q3,q2⟩
  have HY0:Hid (UnL g Y0/\CiL g O0):=⟨hY0,hO0⟩
  have t1:((0:Int) != 0)=false:=by decide
  clear h hE ok hcap hT hY0 hO0
  go_enter Tryz.func16,Tryz.ntmps16
  go_wp2_with (go_at_call 21;refine CK.out.mono ?_;rintro e w5 ⟨rfl,b5⟩;have B5:Hid (Below w.heap.size w w5/\w5.heap[w.heap.size]?=some (gBox g)/\w5.heap[w.heap.size+1]?=some (.cells #[.int .i64 0,.int .i64 0] 49 (0,0))):=⟨B1.out.1.trans (b5.mono B1.out.1.size),(b5.block _ (lt_of_block B1.out.2.1)).trans B1.out.2.1,(b5.block _ (lt_of_block B1.out.2.2)).trans B1.out.2.2⟩;clear b5 x0 x1 x2 x3 x4;obtain ⟨x0,x1,x2,x3,x4⟩:=gbc B5.out.2.1)
  go_wp2_with (go_at_call 22;refine (IB.out _ B5.out.1).mono ?_)
  rintro e w2 ⟨v2,l2,rfl,p2,q2⟩
  obtain ⟨a2,c2,rfl⟩:=il_len q2.il
  have r2:=IL.inrow q2.il
  have P2:Hid (BrL g l2):=p2
  have B2:Hid (Below w.heap.size w w2/\w2.heap[w.heap.size]?=some (gBox g)/\w2.heap[w.heap.size+1]?=some (.cells #[.int .i64 0,.int .i64 0] 49 (0,0))):=⟨B5.out.1.trans (q2.bel.mono B5.out.1.size),(q2.bel.block _ (lt_of_block B5.out.2.1)).trans B5.out.2.1,(q2.bel.block _ (lt_of_block B5.out.2.2)).trans B5.out.2.2⟩
  clear p2 q2 x0 x1 x2 x3 x4
  obtain ⟨x0,x1,x2,x3,x4⟩:=gbc B2.out.2.1
  rcases l2 with _ | ⟨y,ys⟩
  ·clear r2
   go_wp2_with (go_at_call 24;refine (IU.out _ B2.out.1).mono ?_)
   rintro e w3 ⟨v3,l3,rfl,p3,q3⟩
   obtain ⟨a3,c3,rfl⟩:=sy_lenP q3.sy
   have r3:=q3.sy.row
   have P3:Hid (UnL g l3):=p3
   have B3:Hid (Below w.heap.size w w3/\w3.heap[w.heap.size]?=some (gBox g)/\w3.heap[w.heap.size+1]?=some (.cells #[.int .i64 0,.int .i64 0] 49 (0,0))):=⟨B2.out.1.trans (q3.bel.mono B2.out.1.size),(q3.bel.block _ (lt_of_block B2.out.2.1)).trans B2.out.2.1,(q3.bel.block _ (lt_of_block B2.out.2.2)).trans B2.out.2.2⟩
   clear p3 q3 x0 x1 x2 x3 x4
   obtain ⟨x0,x1,x2,x3,x4⟩:=gbc B3.out.2.1
   rcases l3 with _ | ⟨y,ys⟩
   ·clear r3
    go_wp2_with (go_at_call 23;refine (IC.out _ B3.out.1).mono ?_)
    rintro e w4 ⟨v4,l4,rfl,p4,q4⟩
    obtain ⟨a4,c4,rfl⟩:=il_len q4.il
    have r4:=IL.inrow q4.il
    have P4:Hid (CiL g l4):=p4
    have B4:Hid (Below w.heap.size w w4/\w4.heap[w.heap.size]?=some (gBox g)/\w4.heap[w.heap.size+1]?=some (.cells #[.int .i64 0,.int .i64 0] 49 (0,0))):=⟨B3.out.1.trans (q4.bel.mono B3.out.1.size),(q4.bel.block _ (lt_of_block B3.out.2.1)).trans B3.out.2.1,(q4.bel.block _ (lt_of_block B3.out.2.2)).trans B3.out.2.2⟩
    clear p4 q4 x0 x1 x2 x3 x4
    obtain ⟨x0,x1,x2,x3,x4⟩:=gbc B4.out.2.1
    rcases l4 with _ | ⟨y,ys⟩
    ·have HW0:Hid (WeE g 0 0 (0,0)):=⟨fun _=>⟨_,_,_,P2.out,P3.out,P4.out,rfl⟩,fun q=>absurd rfl q⟩
     obtain ⟨z0,z1,f0,f1⟩:=two_cells B4.out.2.2
     clear r4
     go_wp2
     refine bodyPost_ret (v:=.tuple #[.int .i64 0,.agg #[.int .i64 0,.int .i64 0]]) (by simp [results,Tryz.results16,go_sem,z0,z1]) rfl ?_
     exact ⟨0,(0,0),rfl,HW0.out,below_set2 B4.out.1 (by omega) _ _ _ _⟩
    ·have HW3:Hid (WeE g 0 73 (2,y)):=⟨fun _=>⟨_,_,_,P2.out,P3.out,P4.out,rfl⟩,fun q=>absurd rfl q⟩
     obtain ⟨b,o,rfl,-,hc⟩:=r4 (by simp)
     have c0:=hc 0 (by simp)
     have ylt:(0:Int) < ((y :: ys).length:Int):=by rw [List.length_cons];omega
     generalize (y :: ys).length=yn at *
     simp only [List.getD_cons_zero,Nat.add_zero] at c0
     clear hc
     go_wp2_with (go_at_call 26;refine (non_P y w4).mono ?_;rintro e w9 ⟨rfl,b9⟩;have B9:Hid (Below w.heap.size w w9/\w9.heap[w.heap.size]?=some (gBox g)/\w9.heap[w.heap.size+1]?=some (.cells #[.int .i64 0,.int .i64 0] 49 (0,0))):=⟨B4.out.1.trans (b9.mono B4.out.1.size),(b9.block _ (lt_of_block B4.out.2.1)).trans B4.out.2.1,(b9.block _ (lt_of_block B4.out.2.2)).trans B4.out.2.2⟩;clear b9;obtain ⟨z0,z1,f0,f1⟩:=two_cells B9.out.2.2)
     refine bodyPost_ret (v:=.tuple #[.int .i64 73,.agg #[.int .i64 2,.int .i64 y]]) (by simp [results,Tryz.results16,go_sem,z0,z1]) rfl ?_
     exact ⟨73,(2,y),rfl,HW3.out,below_set2 B9.out.1 (by omega) _ _ _ _⟩
   ·have HW2:Hid (WeE g 0 72 y):=⟨fun _=>⟨_,_,O0,P2.out,P3.out,HY0.out.2,rfl⟩,fun q=>absurd rfl q⟩
    obtain ⟨z0,z1,f0,f1⟩:=two_cells B3.out.2.2
    obtain ⟨b,o,rfl,-,hc⟩:=r3 (by simp)
    obtain ⟨c0,c1⟩:=hc 0 (by simp)
    obtain ⟨y1,y2⟩:=y
    have ylt:(0:Int) < (((y1,y2) :: ys).length:Int):=by rw [List.length_cons];omega
    generalize ((y1,y2) :: ys).length=yn at *
    simp only [List.getD_cons_zero,Nat.zero_mul,Nat.add_zero] at c0 c1
    clear hc
    go_wp2
    go_region
    go_wp2
    refine bodyPost_ret (v:=.tuple #[.int .i64 72,.agg #[.int .i64 y1,.int .i64 y2]]) (by simp [results,Tryz.results16,go_sem,z0,z1]) rfl ?_
    exact ⟨72,(y1,y2),rfl,HW2.out,(below_set2 B3.out.1 (by omega) _ _ _ _).drew⟩
  ·have HW1:Hid (WeE g 0 71 (2,y)):=⟨fun _=>⟨_,Y0,O0,P2.out,HY0.out.1,HY0.out.2,rfl⟩,fun q=>absurd rfl q⟩
   obtain ⟨b,o,rfl,-,hc⟩:=r2 (by simp)
   have c0:=hc 0 (by simp)
   have ylt:(0:Int) < ((y :: ys).length:Int):=by rw [List.length_cons];omega
   generalize (y :: ys).length=yn at *
   simp only [List.getD_cons_zero,Nat.add_zero] at c0
   clear hc
   go_wp2_with (go_at_call 26;refine (non_P y w2).mono ?_;rintro e w9 ⟨rfl,b9⟩;have B9:Hid (Below w.heap.size w w9/\w9.heap[w.heap.size]?=some (gBox g)/\w9.heap[w.heap.size+1]?=some (.cells #[.int .i64 0,.int .i64 0] 49 (0,0))):=⟨B2.out.1.trans (b9.mono B2.out.1.size),(b9.block _ (lt_of_block B2.out.2.1)).trans B2.out.2.1,(b9.block _ (lt_of_block B2.out.2.2)).trans B2.out.2.2⟩;clear b9;obtain ⟨z0,z1,f0,f1⟩:=two_cells B9.out.2.2)
   refine bodyPost_ret (v:=.tuple #[.int .i64 71,.agg #[.int .i64 2,.int .i64 y]]) (by simp [results,Tryz.results16,go_sem,z0,z1]) rfl ?_
   exact ⟨71,(2,y),rfl,HW1.out,below_set2 B9.out.1 (by omega) _ _ _ _⟩
 ·have t1:(er != 0)=true:=by simpa using h0
  have H0:Hid (er≠0):=h0
  clear h hE h0 hcap hT hY hO
  go_enter Tryz.func16,Tryz.ntmps16
  go_wp2_with (go_at_call 21;refine CK.out.mono ?_;rintro e w5 ⟨rfl,b5⟩;have B5:Hid (Below w.heap.size w w5/\w5.heap[w.heap.size]?=some (gBox g)/\w5.heap[w.heap.size+1]?=some (.cells #[.int .i64 0,.int .i64 0] 49 (0,0))):=⟨B1.out.1.trans (b5.mono B1.out.1.size),(b5.block _ (lt_of_block B1.out.2.1)).trans B1.out.2.1,(b5.block _ (lt_of_block B1.out.2.2)).trans B1.out.2.2⟩;clear b5 x0 x1 x2 x3 x4;obtain ⟨z0,z1,f0,f1⟩:=two_cells B5.out.2.2)
  refine bodyPost_ret (v:=.tuple #[.int .i64 er,.agg #[.int .i64 0,.int .i64 0]]) (by simp [results,Tryz.results16,go_sem,z0,z1]) rfl ?_
  exact ⟨er,(0,0),rfl,⟨fun q=>absurd q H0.out,fun _=>⟨rfl,rfl⟩⟩,below_set2 B5.out.1 (by omega) _ _ _ _⟩
end Go.Proofs.YtockbobpmiagiaaGreatDoor
