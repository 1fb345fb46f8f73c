import Derived.Test.YtlfiohdhcmmjbaaGreatDoorPGUpToTM50
import Derived.Test.YtlfiohdhcmmjbaaGreatDoorPGSame3ToGSame6
import Derived.Test.YtlfiohdhcmmjbaaGreatDoorPGIntactToTM29
namespace Go.Proofs.YtlfiohdhcmmjbaaGreatDoor
set_option linter.unusedVariables false
set_option maxRecDepth 100000
set_option maxHeartbeats 16000000
open Go.RowKit Go.Shelf Go.Maps
theorem il_shape7 {w:World}{v:Value}{l:List Int}(h:IL w v l):∃ a c,v=.slice a l.length c:=by
 rcases h.2 with ⟨e,h0⟩ | ⟨g,cap,cur,e,h1,h2,h3⟩
 ·exact ⟨none,0,by rw [e,h0]⟩
 ·exact ⟨_,_,e⟩
theorem sy_cap7 {w:World}{a:Option Addr}{n c:Nat}{l:List (Int×Int)}(h:SY w (.slice a n c) l):l.length<=c:=by
 rcases h.2 with ⟨e,h0⟩ | ⟨g,cap,cur,e,h1,h2,h3,h4⟩
 ·omega
 ·cases e;omega
theorem OkC.okd7 {g:GV}(h:OkC g):OkD g:=by
 have tl:=h.tl
 have nl:=h.nl
 have pl:=h.pl
 have ll:=h.ll
 have st:=h.st
 refine ⟨fun s hs=>Nat.le_trans (h.ts s hs) (by omega),fun s hs=>Nat.le_trans (h.ns s hs) (by omega),by omega,fun q hq=>?_,fun q hq=>?_,by omega,by omega,by omega,by omega⟩
 ·obtain ⟨i,hi,rfl⟩:=getD_mem (d:=PV.none) hq
  have l:=h.left i hi
  have p:=h.prec i hi
  have r:=h.right i hi
  refine ⟨by omega,by omega,fun s hs=>?_,by omega⟩
  rcases inG_is (h.inG i hi s hs) with ⟨e,z⟩ | ⟨e,z⟩
  ·exact ⟨.inl e,by omega,by omega⟩
  ·exact ⟨.inr e,by omega,by omega⟩
 ·obtain ⟨i,hi,rfl⟩:=getD_mem (d:=LV.none) hq
  obtain ⟨a,b,_⟩:=h.level i hi
  have t:=h.terms i hi
  exact ⟨by omega,fun s hs=>by have:=b s hs;omega,by omega⟩
theorem DG.own7 {B:Nat}{w:World}{x:GV}(h:DG B w x)(ok:OkC x):GAt 140737488355328 w x/\x.ps.length<=x.pc/\∀ p∈x.ps,p.right.length<=p.rc:=by
 have q:=h.at (g:=x) ⟨rfl,rfl,rfl,rfl,rfl⟩ ok.okd7
 exact ⟨q.1.mono (by omega),q.2,fun p hp=>sy_cap7 (h.p.each p hp)⟩
theorem TrR.known {g x:GV}{er at_:Int}(hE:cG_ g (cF_ g.ts g.ns)=(er,at_))(h:TrR g er 0 x):er=0/\∃ M T N,TrK g x M T N:=by
 by_cases h0:er=0
 ·subst h0
  refine ⟨rfl,?_⟩
  obtain ⟨M,hM,⟨_,q,_⟩ | ⟨q1,T,N,q2,⟨_,q,_⟩ | ⟨q3,_,q4⟩⟩⟩:=h.1 rfl
  ·cases q
  ·cases q
  ·exact ⟨M,T,N,OkC.of (by rw [hE]),checkF_ok hE,hM,q1,q2,q3,q4⟩
 ·exact absurd (h.2 h0).1.symm h0
def WlR (g:GV)(er k':Int)(x':GV):Prop:=∃ k x,TrR g er k x/\((k≠0/\k'=k/\x'=gNil7)∨(k=0/\∃ O,CiL x O/\((O≠[]/\k'=73/\x'=gNil7)∨(O=[]/\k'=0/\x'=x))))
set_option linter.unusedSimpArgs false in
theorem Wells_P (g:GV)(w:World)(h:GAt 140737488355328 w g)(hpc:g.ps.length<=g.pc)(er at_:Int)(hE:cG_ g (cF_ g.ts g.ns)=(er,at_))(hT:TabB w) :
  Calls Tryz.prog 23 #[g.val] w fun e w'=>∃ x k,e=.returned (.tuple #[x.val,.int .i64 k])/\WlR g er k x/\DG (w.heap.size+1+1) w' x/\Below w.heap.size w w':=by
 have B1:Hid (Below w.heap.size w ((w.alloc (gBox g)).alloc zG)/\((w.alloc (gBox g)).alloc zG).heap[w.heap.size]?=some (gBox g)/\((w.alloc (gBox g)).alloc zG).heap[w.heap.size+1]?=some zG):=by
  have q0:=heap_alloc_new w (gBox g)
  have q:=heap_alloc_new (w.alloc (gBox g)) zG
  rw [show (w.alloc (gBox g)).heap.size=w.heap.size+1 by simp] at q
  exact ⟨(bAl w _).trans ((bAl (w.alloc (gBox g)) _).mono (bAl w _).size),((bAl (w.alloc (gBox g)) _).block _ (by simp)).trans q0,q⟩
 have TR:Hid (Calls Tryz.prog 21 #[g.val] ((w.alloc (gBox g)).alloc zG) fun e w'=>∃ x k,e=.returned (.tuple #[x.val,.int .i64 k])/\TrR g er k x/\DG (((w.alloc (gBox g)).alloc zG).heap.size+1+1) w' x/\Below ((w.alloc (gBox g)).alloc zG).heap.size ((w.alloc (gBox g)).alloc zG) w'):=Trim_P g _ (h.later B1.out.1) hpc er at_ hE fun q=>OkC.prw (OkC.of (by rw [hE,q]))
 have HE:Hid (cG_ g (cF_ g.ts g.ns)=(er,at_)):=hE
 have HT:Hid (TabB w):=hT
 obtain ⟨x0,x1,x2,x3,x4⟩:=gbc B1.out.2.1
 clear h hE hpc hT
 go_enter Tryz.func23,Tryz.ntmps23
 go_wp2_with (go_at_call 21;refine TR.out.mono ?_)
 rintro e w2 ⟨x,k,rfl,t2,d2,b2⟩
 have Bw2:Hid (Below w.heap.size w w2/\w2.heap[w.heap.size+1]?=some zG):=⟨B1.out.1.trans (b2.mono B1.out.1.size),(b2.block _ (lt_of_block B1.out.2.2)).trans B1.out.2.2⟩
 have T2:Hid (TrR g er k x):=t2
 have D2:Hid (DG (w.heap.size+1+1) w2 x):=d2.mono (by simp)
 clear t2 d2 b2 x0 x1 x2 x3 x4 TR
 by_cases hk:k=0
 ·subst hk
  have KN:Hid (∃ M T N,TrK g x M T N):=(TrR.known HE.out T2.out).2
  have IN:Hid (∀ wq,Below w2.heap.size w2 wq->Calls Tryz.prog 38 #[x.val] wq fun e w'=>∃ a c l,e=.returned (.slice a l.length c)/\CiL x l/\Below wq.heap.size wq w'):=fun wq hb=>by
   obtain ⟨M,T,N,kn⟩:=KN.out
   have ck:=kn.check
   have ok:=kn.tidy.ok
   obtain ⟨y1,y2,y3⟩:=(D2.out.kept fun k _ hk=>hb.block k hk).own7 ok
   exact (circular_P x wq y1 y2 0 ck y3 (HT.out.later (Bw2.out.1.trans (hb.mono Bw2.out.1.size)))).mono fun e w' ⟨v,q1,O,q2,q3⟩=>by
    obtain ⟨a,c,rfl⟩:=il_shape7 q2.il
    exact ⟨a,c,_,q1,circ_L ok y1 q3,q2.bel⟩
  have t1:((0:Int) != 0)=false:=by decide
  have b3:Below w2.heap.size w2 (w2.alloc (gBox x)):=bAl _ _
  have X3:Hid ((w2.alloc (gBox x)).heap[w2.heap.size]?=some (gBox x)):=heap_alloc_new _ _
  have Bw3:Hid (Below w.heap.size w (w2.alloc (gBox x))/\(w2.alloc (gBox x)).heap[w.heap.size+1]?=some zG):=⟨Bw2.out.1.trans (b3.mono Bw2.out.1.size),(b3.block _ (lt_of_block Bw2.out.2)).trans Bw2.out.2⟩
  have CC:Hid (Calls Tryz.prog 38 #[x.val] (w2.alloc (gBox x)) fun e w'=>∃ a c l,e=.returned (.slice a l.length c)/\CiL x l/\Below (w2.alloc (gBox x)).heap.size (w2.alloc (gBox x)) w'):=IN.out _ b3
  have D3:Hid (DG (w.heap.size+1+1) (w2.alloc (gBox x)) x):=D2.out.kept fun k _ hk=>b3.block k hk
  obtain ⟨x0,x1,x2,x3,x4⟩:=gbc X3.out
  clear b3 IN
  go_wp2_with (go_at_call 38;refine CC.out.mono ?_)
  rintro e w4 ⟨a,c,l,rfl,c4,b4⟩
  have B4:Hid (Below w.heap.size w w4/\w4.heap[w.heap.size+1]?=some zG/\w4.heap[w2.heap.size]?=some (gBox x)):=⟨Bw3.out.1.trans (b4.mono Bw3.out.1.size),(b4.block _ (lt_of_block Bw3.out.2)).trans Bw3.out.2,(b4.block _ (lt_of_block X3.out)).trans X3.out⟩
  have D4:Hid (DG (w.heap.size+1+1) w4 x):=D3.out.kept fun k _ hk=>b4.block k hk
  have C4:Hid (CiL x l):=c4
  clear b4 c4 x0 x1 x2 x3 x4
  obtain ⟨x0,x1,x2,x3,x4⟩:=gbc B4.out.2.2
  obtain ⟨r0,r1,r2,r3,r4⟩:=zcells B4.out.2.1
  obtain ⟨e0,e1,e2,e3,e4⟩:=zfree B4.out.2.1
  cases l with
  | nil =>
   have REL:Hid (WlR g er 0 x):=⟨0,x,T2.out,.inr ⟨rfl,[],C4.out,.inr ⟨rfl,rfl,rfl⟩⟩⟩
   go_wp2
   refine bodyPost_ret (v:=.tuple #[x.val,.int .i64 0]) (by simp [results,Tryz.results23,go_sem,r0,r1,r2,r3,r4]) rfl ?_
   refine ⟨x,0,rfl,REL.out,D4.out.kept fun k hk hk2=>?_,below_set5 B4.out.1 _ _ _ _ _⟩
   exact (set5 (o:=w4.heap[k]'hk2) (by omega) (by simp) _ _ _ _ _ _ _ _ _ _).trans (by simp)
  | cons y l =>
   have REL:Hid (WlR g er 73 gNil7):=⟨0,x,T2.out,.inr ⟨rfl,y :: l,C4.out,.inl ⟨by simp,rfl,rfl⟩⟩⟩
   have hpos:(0:Int) < ((y :: l).length:Int):=by simp only [List.length_cons];omega
   go_wp2
   refine bodyPost_ret (v:=.tuple #[gNil7.val,.int .i64 73]) (by simp [results,Tryz.results23,go_sem,r0,r1,r2,r3,r4,gNil7]) rfl ?_
   exact ⟨gNil7,73,rfl,REL.out,DG.nil7 _ _,below_set5 B4.out.1 _ _ _ _ _⟩
 ·have t1:(k != 0)=true:=by simpa using hk
  have b3:Below w2.heap.size w2 (w2.alloc (gBox x)):=bAl _ _
  have Bw3:Hid (Below w.heap.size w (w2.alloc (gBox x))/\(w2.alloc (gBox x)).heap[w.heap.size+1]?=some zG):=⟨Bw2.out.1.trans (b3.mono Bw2.out.1.size),(b3.block _ (lt_of_block Bw2.out.2)).trans Bw2.out.2⟩
  obtain ⟨r0,r1,r2,r3,r4⟩:=zcells Bw3.out.2
  obtain ⟨e0,e1,e2,e3,e4⟩:=zfree Bw3.out.2
  have REL:Hid (WlR g er k gNil7):=⟨k,x,T2.out,.inl ⟨hk,rfl,rfl⟩⟩
  clear b3 hk
  go_wp2
  refine bodyPost_ret (v:=.tuple #[gNil7.val,.int .i64 k]) (by simp [results,Tryz.results23,go_sem,r0,r1,r2,r3,r4,gNil7]) rfl ?_
  exact ⟨gNil7,k,rfl,REL.out,DG.nil7 _ _,below_set5 Bw3.out.1 _ _ _ _ _⟩
theorem TrG.one7 {f:Int×Int->Option Int}{C:PV->Bool}{g x y:GV}(h:TrG f C g x)(h':TrG f C g y):SameG x y:=⟨h'.ts.trans h.ts.symm,h'.ns.trans h.ns.symm,h'.st.trans h.st.symm,h'.ps.trans h.ps.symm,h'.ls.trans h.ls.symm⟩
theorem TrR.one7 {g x y:GV}{er k k':Int}(h:TrR g er k x)(h':TrR g er k' y):k'=k/\SameG x y:=by
 by_cases h0:er=0
 ·obtain ⟨M,hM,a⟩:=h.1 h0
  obtain ⟨M',hM',b⟩:=h'.1 h0
  obtain rfl:=hM.one hM'
  rcases a with ⟨a1,rfl,rfl⟩ | ⟨a1,T,N,aR,a2⟩<;>rcases b with ⟨b1,rfl,rfl⟩ | ⟨b1,T',N',bR,b2⟩
  ·exact ⟨rfl,rfl,rfl,rfl,rfl,rfl⟩
  ·rw [a1] at b1;cases b1
  ·rw [a1] at b1;cases b1
  ·obtain ⟨rfl,rfl⟩:=aR.one bR
   rcases a2 with ⟨a3,rfl,rfl⟩ | ⟨a3,rfl,a4⟩<;>rcases b2 with ⟨b3,rfl,rfl⟩ | ⟨b3,rfl,b4⟩
   ·exact ⟨rfl,rfl,rfl,rfl,rfl,rfl⟩
   ·rw [a3] at b3;cases b3
   ·rw [a3] at b3;cases b3
   ·exact ⟨rfl,a4.one7 b4⟩
 ·obtain ⟨rfl,rfl⟩:=h.2 h0
  obtain ⟨rfl,rfl⟩:=h'.2 h0
  exact ⟨rfl,rfl,rfl,rfl,rfl,rfl⟩
theorem TrR.nil7 {g x:GV}{er k:Int}(h:TrR g er k x)(hk:k≠0):x=gNil7:=by
 by_cases h0:er=0
 ·obtain ⟨M,hM,⟨_,_,e⟩ | ⟨_,T,N,_,⟨_,_,e⟩ | ⟨_,e,_⟩⟩⟩:=h.1 h0
  ·exact e
  ·exact e
  ·exact absurd e hk
 ·exact (h.2 h0).2
theorem nil7_at (w:World):GAt 140737488355328 w gNil7:=(((DG.nil7 0 w).at (g:=gNil7) ⟨rfl,rfl,rfl,rfl,rfl⟩ ⟨fun s hs=>(by cases hs),fun s hs=>(by cases hs),by simp [gNil7],fun s hs=>(by cases hs),fun s hs=>(by cases hs),by simp [gNil7],by simp [gNil7],by simp [gNil7],by simp [gNil7]⟩).1).mono (by omega)
section
variable {g x:GV} {w wr w':World} {X:List (Nat×GV)}
end
def someC (M:List Bool)(p:PV):Bool:=M.getD p.left.toNat false && wU_ true M p.right
theorem some_whole {g:GV}{M:List Bool}(hM:MLst g.ps g.ns.length true M):g.ps.filter (someC M)=g.ps.filter (fun p=>wU_ true M p.right):=by
 apply List.filter_congr
 intro p hp
 unfold someC
 by_cases h:wU_ true M p.right=true
 ·rw [hM.clo p hp h,h];rfl
 ·simp only [Bool.not_eq_true] at h
  rw [h,Bool.and_false]
theorem some_stays (N M:List Bool)(l:List PV):(l.filter fun p=>wU_ true M p.right).filter (fun p=>N.getD p.left.toNat false)=l.filter (sU_ N M):=by
 rw [List.filter_filter]
 rfl
def pgS (T N:List Bool)(s:Int×Int):Int×Int:=(s.1,if s.1=1 then cntU T s.2.toNat else cntU N s.2.toNat)
def pgP (T:List Bool)(x:Int):Int:=if 0<=x/\T.getD x.toNat false=true then cntU T x.toNat else -1
def pgU (T N:List Bool)(p:PV):Int×List (Int×Int)×Int:=(cntU N p.left.toNat,p.right.map (pgS T N),pgP T p.prec)
theorem getD_in7 {T:List Bool}{i:Nat}(h:T.getD i false=true):i < T.length:=by
 by_cases q:i < T.length
 ·exact q
 ·rw [List.getD_eq_getElem?_getD,List.getElem?_eq_none (by omega)] at h
  cases h
theorem nu1 {T N:List Bool}{nt nn:Nat}(hT:T.length=nt){x:Int}(h0:0<=x)(h:T.getD x.toNat false=true):(nuF T N (syD 1 nt++syD 2 nn)).1 (1,x)=some (cntU T x.toNat):=by
 have:=getD_in7 h
 rw [nuF_at]
 dsimp only
 rw [if_neg (by omega),if_pos ⟨rfl,h0,by omega,h⟩]
theorem nu1_no {T N:List Bool}{nt nn:Nat}{x:Int}(h:¬ (0<=x/\T.getD x.toNat false=true)):(nuF T N (syD 1 nt++syD 2 nn)).1 (1,x)=none:=by
 rw [nuF_at]
 dsimp only
 rw [if_neg (by omega),if_neg (fun q=>h ⟨q.2.1,q.2.2.2⟩)]
theorem nu2 {T N:List Bool}{nt nn:Nat}(hN:N.length=nn){x:Int}(h0:0<=x)(h:N.getD x.toNat false=true):(nuF T N (syD 1 nt++syD 2 nn)).1 (2,x)=some (cntU N x.toNat):=by
 have:=getD_in7 h
 rw [nuF_at]
 dsimp only
 rw [if_pos ⟨rfl,h0,by omega,h⟩]
theorem pgU_is {g:GV}{w:World}(hfg:FG w g){T N M:List Bool}(hR:RLst (gF g fun p=>wU_ true M p.right) T N){p:PV}(hp:p∈g.ps)(hs:sU_ N M p=true):pgU T N p=prU7 (nuF T N (syD 1 g.ts.length++syD 2 g.ns.length)).1 p:=by
 have hT:T.length=g.ts.length:=hR.tl
 have hN:N.length=g.ns.length:=hR.nl
 unfold sU_ at hs
 rw [Bool.and_eq_true] at hs
 have hc:=hR.clo p (List.mem_filter.2 ⟨hp,hs.2⟩) hs.1
 unfold pgU prU7
 rw [nu2 hN (hfg.left p hp).1 hs.1]
 refine Prod.ext rfl (Prod.ext ?_ ?_)
 ·apply List.map_congr_left
  intro s hs'
  have hc':=hc s hs'
  obtain ⟨s1,s2⟩:=s
  unfold pgS
  rcases hfg.sym p hp _ hs' with ⟨e,h0,_⟩ | ⟨e,h0,_⟩
  ·dsimp only at e h0 ⊢
   subst e
   rw [nu1 hT h0 (hc'.1 rfl),if_pos rfl]
   rfl
  ·dsimp only at e h0 ⊢
   subst e
   rw [nu2 hN h0 (hc'.2 rfl),if_neg (by decide)]
   rfl
 ·show pgP T p.prec=_
  unfold pgP
  by_cases q:0<=p.prec/\T.getD p.prec.toNat false=true
  ·rw [if_pos q,nu1 hT q.1 q.2];rfl
  ·rw [if_neg q,nu1_no q];rfl
def pgL (T:List Bool)(l:List Int):List Int:=(l.filter fun x=>T.getD x.toNat false).map fun x=>cntU T x.toNat
theorem pgL_is {T N:List Bool}{nt nn:Nat}(hT:T.length=nt):∀ l:List Int,(∀ x∈l,0<=x)->l.filterMap (fun x=>(nuF T N (syD 1 nt++syD 2 nn)).1 (1,x))=pgL T l
 | [],_=>rfl
 | x :: l,h=>by
  have ih:=pgL_is (N:=N) (nn:=nn) hT l fun y hy=>h y (List.mem_cons_of_mem _ hy)
  unfold pgL at ih ⊢
  by_cases q:T.getD x.toNat false=true
  ·rw [List.filterMap_cons_some (f:=fun x:Int=>(nuF T N (syD 1 nt++syD 2 nn)).1 (1,x)) (nu1 hT (h x List.mem_cons_self) q),ih,List.filter_cons_of_pos (p:=fun x:Int=>T.getD x.toNat false) q,List.map_cons]
  ·rw [List.filterMap_cons_none (f:=fun x:Int=>(nuF T N (syD 1 nt++syD 2 nn)).1 (1,x)) (nu1_no fun z=>q z.2),ih,List.filter_cons_of_neg (p:=fun x:Int=>T.getD x.toNat false) q]
theorem pgL_succ {T:List Bool}{l:List Int}{k:Nat}(hk:k < l.length):pgL T (l.take (k+1))=pgL T (l.take k)++if T.getD (l.getD k 0).toNat false=true then [cntU T (l.getD k 0).toNat] else []:=by
 unfold pgL
 rw [List.take_succ_eq_append_getElem hk,List.filter_append,List.map_append]
 have e:l.getD k 0=l[k]:=by simp [List.getD,hk]
 rw [e]
 congr 1
 by_cases q:T.getD l[k].toNat false=true
 ·rw [if_pos q,List.filter_cons_of_pos (p:=fun x:Int=>T.getD x.toNat false) q];rfl
 ·rw [if_neg q,List.filter_cons_of_neg (p:=fun x:Int=>T.getD x.toNat false) q];rfl
def A251 (f:Nat->Value):Act:=⟨#[f 0,f 1,f 2,f 3,f 4,f 5,f 6,f 7,f 8,f 9,f 10,f 11,f 12,f 13,f 14,f 15,f 16,f 17,f 18,f 19,f 20,f 21,f 22,f 23,f 24,f 25,f 26,f 27,f 28,f 29,f 30,f 31,f 32,f 33,f 34,f 35,f 36,f 37,f 38,f 39,f 40,f 41,f 42,f 43,f 44,f 45,f 46,f 47,f 48,f 49,f 50,f 51,f 52,f 53,f 54,f 55,f 56,f 57,f 58,f 59,f 60,f 61,f 62,f 63,f 64,f 65,f 66,f 67,f 68,f 69,f 70,f 71,f 72,f 73,f 74,f 75,f 76,f 77,f 78,f 79,f 80,f 81,f 82,f 83,f 84,f 85,f 86,f 87,f 88,f 89,f 90,f 91,f 92,f 93,f 94,f 95,f 96,f 97,f 98,f 99,f 100,f 101,f 102,f 103,f 104,f 105,f 106,f 107,f 108,f 109,f 110,f 111,f 112,f 113,f 114,f 115,f 116,f 117,f 118,f 119,f 120,f 121,f 122,f 123,f 124,f 125,f 126,f 127,f 128,f 129,f 130,f 131,f 132,f 133,f 134,f 135,f 136,f 137,f 138,f 139,f 140,f 141,f 142,f 143,f 144,f 145,f 146,f 147,f 148,f 149,f 150,f 151,f 152,f 153,f 154,f 155,f 156,f 157,f 158,f 159,f 160,f 161,f 162,f 163,f 164,f 165,f 166,f 167,f 168,f 169,f 170,f 171,f 172,f 173,f 174,f 175,f 176,f 177,f 178,f 179,f 180,f 181,f 182,f 183,f 184,f 185,f 186,f 187,f 188,f 189,f 190,f 191,f 192,f 193,f 194,f 195,f 196,f 197,f 198,f 199,f 200,f 201,f 202,f 203,f 204,f 205,f 206,f 207,f 208,f 209,f 210,f 211,f 212,f 213,f 214,f 215,f 216,f 217,f 218,f 219,f 220,f 221,f 222,f 223,f 224,f 225,f 226,f 227,f 228,f 229,f 230,f 231,f 232,f 233,f 234,f 235,f 236,f 237,f 238,f 239,f 240,f 241,f 242,f 243,f 244,f 245,f 246,f 247,f 248,f 249,f 250],[]⟩
theorem list_of_get:∀ (n:Nat) (l:List Value),l.length=n->l=(List.range n).map fun i=>l.getD i undef:=fun n l h=>by
 apply List.ext_getElem?
 intro i
 by_cases q:i < n
 ·rw [List.getElem?_map,List.getElem?_range q,List.getElem?_eq_getElem (by omega)]
  simp [List.getD,h,q]
 ·rw [List.getElem?_eq_none (by omega),List.getElem?_eq_none (by simp;omega)]
theorem act251 {a:Act}(h:a.tmps.size=251)(h2:a.defers=[]):∃ f,a=A251 f:=by
 obtain ⟨⟨l⟩,c⟩:=a
 cases h2
 have e:=list_of_get 251 l h
 exact ⟨fun i=>l.getD i undef,(congrArg (fun x:List Value=>(⟨⟨x⟩,[]⟩:Act)) e).trans (by kernel_rfl)⟩
def loops7:Code->List Code
 | .loop c=>[c]
 | .seq a b=>loops7 a++loops7 b
 | .block _ c=>loops7 c
 | .scope c=>loops7 c
 | .cond _ a b=>loops7 a++loops7 b
 | _=>[]
noncomputable def body7 (k:Nat):Code:=((Tryz.f22.body.map loops7).getD []).getD k .skip
end Go.Proofs.YtlfiohdhcmmjbaaGreatDoor
