import Derived.Test.YtlfiohdhcmmjbaaGreatDoorPTM51ToTM54
namespace Go.Proofs.YtlfiohdhcmmjbaaGreatDoor
set_option linter.unusedVariables false
set_option maxRecDepth 100000
set_option maxHeartbeats 16000000
open Go.RowKit Go.Shelf Go.Maps
theorem py_ne7 {w:World}{v:Value}{l:List PV}(h:PY w v l){k:Nat}{C:Array Value}{t:TypeId}(hk:w.heap[k]?=some (.cells C t (0,0)))(ht:t≠71):v.ownBlock≠some k:=fun e=>by
 rcases h.2 with ⟨e1,_⟩ | ⟨g,cap,cur,e1,h1,h2,_⟩
 ·rw [e1] at e;simp [Value.ownBlock] at e
 ·rw [e1] at e
  simp [Value.ownBlock] at e
  subst e
  rw [h2] at hk
  simp at hk
  exact ht hk.2.symm
theorem c5Z {w:World}{b:Nat}{v0 v1 v2 v3 v4:Value}{t:TypeId}(h:w.heap[b]?=some (.cells #[v0,v1,v2,v3,v4] t (0,0))):w.cell? ⟨b,0,none⟩=some v0/\w.cell? ⟨b,1,none⟩=some v1/\w.cell? ⟨b,2,none⟩=some v2/\w.cell? ⟨b,3,none⟩=some v3/\w.cell? ⟨b,4,none⟩=some v4/\(∀ i,w.frozen? ⟨b,i,none⟩=false) :=
 ⟨(cQa h).trans rfl,(cQa h).trans rfl,(cQa h).trans rfl,(cQa h).trans rfl,(cQa h).trans rfl,fun i=>by simp [World.frozen?,h]⟩
structure S1 (g:GV)(w1:World)(b6:Nat)(L:List PV)(pa:Option Addr)(pc:Nat)(wr:World):Prop where
 box:wr.heap[b6]?=some (.cells #[.slice g.ta g.ts.length g.tc,.slice g.na g.ns.length g.nc,.int .i64 g.start,.slice pa L.length pc,.slice none 0 0] 26)
 py:PY wr (.slice pa L.length pc) L
 own:∀ j,(Value.slice pa L.length pc).ownBlock=some j->w1.heap.size<=j
 lo:w1.heap.size<=b6
 bel:Below w1.heap.size w1 wr
theorem S1.any {g:GV}{w1 wr w':World}{b6:Nat}{L:List PV}{pa:Option Addr}{pc:Nat}(h:S1 g w1 b6 L pa pc wr)(hb:Below wr.heap.size wr w'):S1 g w1 b6 L pa pc w':=⟨(hb.block _ (lt_of_block h.box)).trans h.box,h.py.later hb,h.own,h.lo,h.bel.trans (hb.mono h.bel.size)⟩
def Fr7 (a:Act):Prop:=a.tmps.size=251/\a.defers=[]
def K1 (gb rb fb b6 n:Nat)(a:Act):Prop:=Fr7 a/\a.tmps.getD 1 undef=.pointer (some ⟨gb,0,none⟩)/\a.tmps.getD 2 undef=.pointer (some ⟨rb,0,none⟩)/\a.tmps.getD 5 undef=.slice (some ⟨fb,0,none⟩) n n/\a.tmps.getD 6 undef=.pointer (some ⟨b6,0,none⟩)
def I1 (g:GV)(M:List Bool)(gb rb fb b6:Nat)(w1:World)(a:Act)(w':World):Prop:=K1 gb rb fb b6 g.ns.length a/\∃ (k:Nat) (pa:Option Addr) (pc:Nat),k<=g.ps.length/\a.tmps.getD 7 undef=.int .i64 k/\S1 g w1 b6 ((g.ps.take k).filter (someC M)) pa pc w'
def mu1 (g:GV)(a:Act)(_:World):Nat:=g.ps.length - (intOf (a.tmps.getD 7 undef)).toNat
def s1S (b6 gb pb o:Nat)(v u:Value)(l:Int)(r:Value)(pp:Int)(w':World):Prop:=w'.cell? ⟨b6,3,none⟩=some v/\w'.cell? ⟨gb,3,none⟩=some u/\w'.cell? ⟨pb,o,none⟩=some (.int .i64 l)/\w'.cell? ⟨pb,o+1,none⟩=some r/\w'.cell? ⟨pb,o+2,none⟩=some (.int .i64 pp)
theorem filter_takeY {C:PV->Bool}{l:List PV}{k:Nat}(hk:k < l.length):(l.take (k+1)).filter C=(l.take k).filter C++if C (l.getD k .none)=true then [l.getD k .none] else []:=by
 rw [List.take_succ_eq_append_getElem hk,List.filter_append]
 have e:l.getD k .none=l[k]:=by simp [List.getD,hk]
 rw [e]
 congr 1
 by_cases q:C l[k]=true
 ·rw [if_pos q,List.filter_cons_of_pos q];rfl
 ·rw [if_neg q,List.filter_cons_of_neg q];rfl
set_option linter.unusedSimpArgs false in
set_option maxRecDepth 1000000 in
theorem round1_7 (g:GV)(M:List Bool)(gb rb fb b6:Nat)(w1:World)(hgb:w1.heap[gb]?=some (gBox g))(hfg:FG w1 g)(hM:BB w1 fb M)(hMl:M.length=g.ns.length)(Q:Exit->Act->World->Prop)(hexit:∀ a' w' pa pc,K1 gb rb fb b6 g.ns.length a'->S1 g w1 b6 (g.ps.filter (someC M)) pa pc w'->Q (.exit 0) a' w')(hQp:∀ c (a:Act) d v w,Q (.panic c) (a.put d v) w->Q (.panic c) a w)(a:Act)(wr:World)(hI:I1 g M gb rb fb b6 w1 a wr) :
  Code.wp Tryz.prog (body7 0) (Exit.then (fun a' w''=>I1 g M gb rb fb b6 w1 a' w''/\mu1 g a' w'' < mu1 g a wr) Q) a wr:=by
 obtain ⟨⟨⟨z1,z2⟩,h1,h2,h5,h6⟩,k,pa,pc,hk,h7,hS⟩:=hI
 obtain ⟨f,rfl⟩:=act251 z1 z2
 change f 1=_ at h1
 change f 2=_ at h2
 change f 5=_ at h5
 change f 6=_ at h6
 change f 7=_ at h7
 clear z1 z2
 have HS:Hid (S1 g w1 b6 ((g.ps.take k).filter (someC M)) pa pc wr):=hS
 have HG:Hid (∀ w',Below w1.heap.size w1 w'->FG w' g/\w'.heap[gb]?=some (gBox g)/\BB w' fb M):=fun w' h=>⟨hfg.later h,(h.block _ (lt_of_block hgb)).trans hgb,hM.later h⟩
 obtain ⟨x0,x1,x2,x3,x4⟩:=gbc (HG.out wr hS.bel).2.1
 have HPL:Hid (g.ps.length<=256):=hfg.pl
 unfold A251
 rw [h1,h2,h5,h6,h7]
 clear h1 h2 h5 h6 h7 hfg hM hgb
 by_cases hlt:k < g.ps.length
 ·obtain ⟨pb,po,hpa,hbl,hc⟩:=(HG.out wr hS.bel).1.p.cells (by intro e;rw [e] at hlt;simp at hlt)
  obtain ⟨c0,c1,c2⟩:=hc k hlt
  have klt:(k:Int) < (g.ps.length:Int):=by omega
  have k256:k < 256:=by have:=HPL.out;omega
  have hmem:g.ps.getD k .none∈g.ps:=by simp [List.getD,hlt]
  obtain ⟨l0,l1⟩:=(HG.out wr hS.bel).1.left _ hmem
  have hrow:=(HG.out wr hS.bel).1.p.rows _ hmem
  have hrl:=(HG.out wr hS.bel).1.rl _ hmem
  have hsy:=(HG.out wr hS.bel).1.sym _ hmem
  have hnl:=(HG.out wr hS.bel).1.nl.2
  have HT:Hid _:=filter_takeY (C:=someC M) hlt
  have PC:Hid (∀ w',Below w1.heap.size w1 w'->w'.cell? ⟨pb,po+k*3,none⟩=some (.int .i64 (g.ps.getD k .none).left)/\w'.cell? ⟨pb,po+k*3+1,none⟩=some (.slice (g.ps.getD k .none).ra (g.ps.getD k .none).right.length (g.ps.getD k .none).rc)/\w'.cell? ⟨pb,po+k*3+2,none⟩=some (.int .i64 (g.ps.getD k .none).prec)):=fun w' h=>by
   obtain ⟨pb',po',hpa',_,hc'⟩:=(HG.out w' h).1.p.cells (by intro e;rw [e] at hlt;simp at hlt)
   rw [hpa] at hpa'
   simp only [Option.some.injEq,Addr.mk.injEq,and_true] at hpa'
   obtain ⟨rfl,rfl⟩:=hpa'
   exact hc' k hlt
  generalize hp:g.ps.getD k .none=p at *
  obtain ⟨pl,pra,prc,pr,pp⟩:=p
  simp only at c0 c1 c2 l0 l1 hrow hrl hsy PC
  obtain ⟨m,rfl⟩:∃ m:Nat,pl=(m:Int):=⟨pl.toNat,by omega⟩
  have hm:m < M.length:=by rw [hMl];omega
  have mlt:(m:Int) < (g.ns.length:Int):=by omega
  have cm:=(HG.out wr hS.bel).2.2.cell hm
  have WC:Hid (Calls Tryz.prog 60 #[.slice pra pr.length prc,.slice (some ⟨fb,0,none⟩) g.ns.length g.ns.length,.bool true] wr fun e w'=>e=.returned (.bool (wU_ true M pr))/\wr=w'):=by
   have:=whole_R (some ⟨fb,0,none⟩) g.ns.length M pra prc pr true wr (HG.out wr hS.bel).2.2.row hrow (by omega) (by rw [hMl];omega) (fun s hs e=>by
    rcases hsy s hs with q | q
    ·omega
    ·rw [hMl];exact q.2)
   rwa [hMl] at this
  have HC:Hid (someC M ⟨(m:Int),pra,prc,pr,pp⟩=(M.getD m false && wU_ true M pr)):=rfl
  have hll:((g.ps.take k).filter (someC M)).length<=k:=Nat.le_trans (List.length_filter_le _ _) (by simp;omega)
  rw [hpa] at x3
  have HX:Hid (∀ w',Below w1.heap.size w1 w'->w'.cell? ⟨gb,3,none⟩=some (.slice (some ⟨pb,po,none⟩) g.ps.length g.pc)):=fun w' h=>by
   have:=(gbc (HG.out w' h).2.1).2.2.2.1
   rwa [hpa] at this
  generalize (g.ps.take k).filter (someC M)=L at *
  have HLT:Hid (L.length<=3518437208780):=by show _<=_;have:=HPL.out;omega
  generalize M.getD m false=mv at *
  generalize wU_ true M pr=wv at *
  clear hc hbl hmem hrow hsy hm hpa hp
  have NO:Hid ((mv && wv)=false->S1 g w1 b6 ((g.ps.take (k+1)).filter (someC M)) pa pc wr):=fun h=>by
   have e:=HT.out
   rw [HC.out,h,if_neg (by decide),List.append_nil] at e
   rw [e]
   exact HS.out
  clear hS
  cases mv
  ·have R5:Hid (S1 g w1 b6 ((g.ps.take (k+1)).filter (someC M)) pa pc wr):=NO.out rfl
   clear NO HT HC WC
   conv=>arg 2;whnf
   go_wp2
   refine ⟨⟨⟨⟨rfl,rfl⟩,rfl,rfl,rfl,rfl⟩,k+1,pa,pc,by omega,by go_num,R5.out⟩,by simp [mu1,intOf];omega⟩
  ·cases wv
   ·have R5:Hid (S1 g w1 b6 ((g.ps.take (k+1)).filter (someC M)) pa pc wr):=NO.out rfl
    clear NO HT HC
    conv=>arg 2;whnf
    go_wp2_with (go_at_call 60;refine WC.out.mono ?_;rintro e w3 ⟨rfl,rfl⟩)
    refine ⟨⟨⟨⟨rfl,rfl⟩,rfl,rfl,rfl,rfl⟩,k+1,pa,pc,by omega,by go_num,R5.out⟩,by simp [mu1,intOf];omega⟩
   ·have HE:Hid ((g.ps.take (k+1)).filter (someC M)=L++[⟨(m:Int),pra,prc,pr,pp⟩]):=by
     have e:=HT.out
     rw [HC.out] at e
     rw [if_pos (show (true && true)=true from rfl)] at e
     exact e
    clear NO HT HC
    conv=>arg 2;whnf
    go_wp2_with (go_at_call 60;refine WC.out.mono ?_;rintro e w3 ⟨rfl,rfl⟩)
    clear x0 x1 x2 x3 x4 c0 c1 c2 cm
    obtain ⟨wa,hwa⟩:∃ wa:World,wa=wr.drew:=⟨_,rfl⟩
    have ba:Below wr.heap.size wr wa:=by rw [hwa];exact (Below.refl _ _).drew
    have PA:Hid (S1 g w1 b6 L pa pc wa):=HS.out.any ba
    have GEN:Hid (∀ wq,S1 g w1 b6 L pa pc wq->s1S b6 gb pb (po+k*3) (.slice pa L.length pc) (.slice (some ⟨pb,po,none⟩) g.ps.length g.pc) (m:Int) (.slice pra pr.length prc) pp wq):=fun wq h=>⟨(c5Z h.box).2.2.2.1,HX.out wq h.bel,PC.out wq h.bel⟩
    have hs:Hid (s1S b6 gb pb (po+k*3) (.slice pa L.length pc) (.slice (some ⟨pb,po,none⟩) g.ps.length g.pc) (m:Int) (.slice pra pr.length prc) pp wa):=GEN.out wa PA.out
    clear ba
    refine wp_region_x (S:=SX 10 (fun _=>True) (s1S b6 gb pb (po+k*3) (.slice pa L.length pc) (.slice (some ⟨pb,po,none⟩) g.ps.length g.pc) (m:Int) (.slice pra pr.length prc) pp)) (by kernel_rfl) ?_
    rw [<- hwa]
    clear hwa
    refine wXt (m:=10) (i:=0) (v:=?_) rfl (by kernel_rfl) (by kernel_rfl) (by decide) (by decide +kernel) (by decide +kernel) (fun _ _ _ h=>hQp _ _ _ _ _ h) (by kernel_rfl) (Or.inl ⟨by rfl,?_⟩) (SX.both trivial hs.out) ?_
    rotate_left
    ·(intro w hSw;obtain ⟨_,z0,z1,z2,z3,z4⟩:=hSw;go_simp;try (with_reducible rfl))
    (try simp only [Act.put,lsA,lsZ,lsN])
    refine wXt (m:=10) (i:=1) (v:=?_) rfl (by kernel_rfl) (by kernel_rfl) (by decide) (by decide +kernel) (by decide +kernel) (fun _ _ _ h=>hQp _ _ _ _ _ h) (by kernel_rfl) (Or.inl ⟨by rfl,?_⟩) (SX.both trivial hs.out) ?_
    rotate_left
    ·(intro w hSw;obtain ⟨_,z0,z1,z2,z3,z4⟩:=hSw;go_simp;try (with_reducible rfl))
    (try simp only [Act.put,lsA,lsZ,lsN])
    refine wXt (m:=10) (i:=2) (v:=?_) rfl (by kernel_rfl) (by kernel_rfl) (by decide) (by decide +kernel) (by decide +kernel) (fun _ _ _ h=>hQp _ _ _ _ _ h) (by kernel_rfl) (Or.inl ⟨by rfl,?_⟩) (SX.both trivial hs.out) ?_
    rotate_left
    ·(intro w hSw;obtain ⟨_,z0,z1,z2,z3,z4⟩:=hSw;go_simp;try (with_reducible rfl))
    (try simp only [Act.put,lsA,lsZ,lsN])
    refine wXt (m:=10) (i:=3) (v:=?_) rfl (by kernel_rfl) (by kernel_rfl) (by decide) (by decide +kernel) (by decide +kernel) (fun _ _ _ h=>hQp _ _ _ _ _ h) (by kernel_rfl) (Or.inl ⟨by rfl,?_⟩) (SX.both trivial hs.out) ?_
    rotate_left
    ·(intro w hSw;obtain ⟨_,z0,z1,z2,z3,z4⟩:=hSw;go_simp;try (with_reducible rfl))
    (try simp only [Act.put,lsA,lsZ,lsN])
    refine wXt (m:=10) (i:=4) (v:=?_) rfl (by kernel_rfl) (by kernel_rfl) (by decide) (by decide +kernel) (by decide +kernel) (fun _ _ _ h=>hQp _ _ _ _ _ h) (by kernel_rfl) (Or.inl ⟨by rfl,?_⟩) (SX.both trivial hs.out) ?_
    rotate_left
    ·(intro w hSw;obtain ⟨_,z0,z1,z2,z3,z4⟩:=hSw;go_simp;try (with_reducible rfl))
    (try simp only [Act.put,lsA,lsZ,lsN])
    refine wXt (m:=10) (i:=5) (v:=?_) rfl (by kernel_rfl) (by kernel_rfl) (by decide) (by decide +kernel) (by decide +kernel) (fun _ _ _ h=>hQp _ _ _ _ _ h) (by kernel_rfl) (Or.inl ⟨by rfl,?_⟩) (SX.both trivial hs.out) ?_
    rotate_left
    ·(intro w hSw;obtain ⟨_,z0,z1,z2,z3,z4⟩:=hSw;go_simp;try (with_reducible rfl))
    (try simp only [Act.put,lsA,lsZ,lsN])
    refine wXt (m:=10) (i:=6) (v:=?_) rfl (by kernel_rfl) (by kernel_rfl) (by decide) (by decide +kernel) (by decide +kernel) (fun _ _ _ h=>hQp _ _ _ _ _ h) (by kernel_rfl) (Or.inl ⟨by rfl,?_⟩) (SX.both trivial hs.out) ?_
    rotate_left
    ·(intro w hSw;obtain ⟨_,z0,z1,z2,z3,z4⟩:=hSw;go_simp;try (with_reducible rfl))
    (try simp only [Act.put,lsA,lsZ,lsN])
    refine wX1 (j:=7) (by decide +kernel) rfl (fun K' hK=>?_)
    go_simp
    obtain ⟨wc,hwc⟩:∃ wc:World,wc=wa.alloc (.cells #[.int .i64 (m:Int),.slice pra pr.length prc,.int .i64 pp] 71):=⟨_,rfl⟩
    have PC':Hid (S1 g w1 b6 L pa pc wc):=PA.out.any (by rw [hwc];exact bAl _ _)
    have SC:Hid (wc.heap[wa.heap.size]?=some (.cells #[.int .i64 (m:Int),.slice pra pr.length prc,.int .i64 pp] 71)):=by
     show _=_
     rw [hwc]
     exact heap_alloc_new _ _
    rw [<- hwc]
    refine hK.out _ _ (SX.both trivial (GEN.out wc PC'.out)) ?_
    clear hK K' hwc hs
    (try simp only [Act.put,lsA,lsZ,lsN])
    refine wX1 (j:=8) (by decide +kernel) rfl (fun K' hK=>?_)
    refine step_py_append (by rfl) _ _ (by rfl) (.slice pa L.length pc) L (by rfl) PC'.out.py wa.heap.size 1 ⟨(m:Int),pra,prc,pr,pp⟩ (by rfl) ?_ HLT.out ?_
    ·obtain ⟨d0,d1,d2,_⟩:=c3Z SC.out
     intro j u hj
     rcases j with _ | _ | _ | j<;>simp at hj<;>subst hj<;>assumption
    intro a4 n4 c4 w4 hy4 hg4
    obtain rfl:n4=(L++[(⟨(m:Int),pra,prc,pr,pp⟩:PV)]).length:=by obtain ⟨a',c',e⟩:=PY.len hy4;simp only [Value.slice.injEq] at e;exact e.2.1
    have bo4:=(hg4.grown.block b6 (lt_of_block PC'.out.box) (fun e=>py_ne7 PC'.out.py PC'.out.box (by decide) e.symm)).trans PC'.out.box
    obtain ⟨q1,q2⟩:=gBi PC'.out.bel PC'.out.own hg4
    have H4:Hid (PY w4 (.slice a4 (L++[(⟨(m:Int),pra,prc,pr,pp⟩:PV)]).length c4) (L++[⟨(m:Int),pra,prc,pr,pp⟩])/\w4.heap[b6]?=some (.cells #[.slice g.ta g.ts.length g.tc,.slice g.na g.ns.length g.nc,.int .i64 g.start,.slice pa L.length pc,.slice none 0 0] 26)/\(∀ j,(Value.slice a4 (L++[(⟨(m:Int),pra,prc,pr,pp⟩:PV)]).length c4).ownBlock=some j->w1.heap.size<=j)/\Below w1.heap.size w1 w4):=⟨hy4,bo4,q2,q1⟩
    have hs4:Hid (s1S b6 gb pb (po+k*3) (.slice pa L.length pc) (.slice (some ⟨pb,po,none⟩) g.ps.length g.pc) (m:Int) (.slice pra pr.length prc) pp w4):=⟨(c5Z bo4).2.2.2.1,HX.out w4 q1,PC.out w4 q1⟩
    have f33:=(c5Z bo4).2.2.2.2.2 3
    have f3:=(c5Z bo4).2.2.2.1
    clear hy4 hg4 q1 q2 bo4
    refine hK.out _ _ (SX.both trivial hs4.out) ?_
    clear hK K'
    (try simp only [Act.put,lsA,lsZ,lsN])
    refine wX1 (j:=9) (by decide +kernel) rfl (fun K' hK=>?_)
    go_simp
    refine hK.out _ _ (SX.both trivial hs4.out) ?_
    clear hK K'
    (try simp only [Act.put,lsA,lsZ,lsN])
    refine wX1 (j:=10) (by decide +kernel) rfl (fun K' hK=>?_)
    go_simp
    refine hK.out _ _ (SX.one trivial (by kernel_rfl)) ?_
    clear hK K'
    (try simp only [Act.put,lsA,lsZ,lsN])
    refine wXd (by decide +kernel) ?_
    have R5:Hid (S1 g w1 b6 ((g.ps.take (k+1)).filter (someC M)) a4 c4 (w4.setCell ⟨b6,3,none⟩ (.slice a4 (L++[(⟨(m:Int),pra,prc,pr,pp⟩:PV)]).length c4))):=by
     show S1 _ _ _ _ _ _ _
     rw [HE.out]
     exact ⟨hSt H4.out.2.1 3 _,H4.out.1.kept fun j hj=>Below.heap_setCell _ _ _ _ (fun e=>by subst e;exact py_ne7 H4.out.1 H4.out.2.1 (by decide) hj),H4.out.2.2.1,PC'.out.lo,H4.out.2.2.2.setCell (p:=⟨b6,3,none⟩) PC'.out.lo _⟩
    clear f33 f3 hs4
    go_wp2
    refine ⟨⟨⟨⟨rfl,rfl⟩,rfl,rfl,rfl,rfl⟩,k+1,a4,c4,by omega,by go_num,by have e:L.length+1=(L++[(⟨(m:Int),pra,prc,pr,pp⟩:PV)]).length:=(by simp);rw [e];exact R5.out⟩,by simp [mu1,intOf];omega⟩
 ·obtain rfl:k=g.ps.length:=by omega
  rw [List.take_length] at hS HS
  clear hS
  conv=>arg 2;whnf
  go_wp2
  exact hexit _ _ pa pc ⟨⟨rfl,rfl⟩,rfl,rfl,rfl,rfl⟩ HS.out
theorem loop1_7 (g:GV)(M:List Bool)(gb rb fb b6:Nat)(w1:World)(hgb:w1.heap[gb]?=some (gBox g))(hfg:FG w1 g)(hM:BB w1 fb M)(hMl:M.length=g.ns.length)(Q:Exit->Act->World->Prop)(hQp:∀ c (a:Act) d v w,Q (.panic c) (a.put d v) w->Q (.panic c) a w)(a:Act)(wr:World)(hI:I1 g M gb rb fb b6 w1 a wr)(hexit:∀ a' w' pa pc,K1 gb rb fb b6 g.ns.length a'->S1 g w1 b6 (g.ps.filter (someC M)) pa pc w'->Q (.exit 0) a' w') :
  Code.wp Tryz.prog (.loop (body7 0)) Q a wr :=
 wp_loop (I1 g M gb rb fb b6 w1) (mu1 g) hI fun a' w' h=>round1_7 g M gb rb fb b6 w1 hgb hfg hM hMl Q hexit hQp a' w' h
def NR (w:World)(b n:Nat)(M:List Bool):Prop:=b < w.heap.size/\∀ i,i < n->w.cell? ⟨b,i,none⟩=some (.int .i64 (cntU M i))
theorem NR.later {w w':World}{b n:Nat}{M:List Bool}(h:NR w b n M)(hb:Below w.heap.size w w'):NR w' b n M:=⟨Nat.lt_of_lt_of_le h.1 hb.size,fun i hi=>(by
 rw [<- h.2 i hi]
 unfold World.cell?
 rw [hb.block _ h.1])⟩
structure S2 (vt vn:Value)(st:Int)(w1:World)(b12 H:Nat)(wz:World)(L:List PV)(pa:Option Addr)(pc:Nat)(wr:World):Prop where
 box:wr.heap[b12]?=some (.cells #[vt,vn,.int .i64 st,.slice pa L.length pc,.slice none 0 0] 26)
 po:PO H wr (.slice pa L.length pc) L
 bH:b12 < H
 hH:H<=wr.heap.size
 lo:w1.heap.size<=b12
 bel:Below w1.heap.size w1 wr
 ex:∀ k,k < H->k≠b12->wr.heap[k]?=wz.heap[k]?
theorem S2.any {vt vn:Value}{st:Int}{w1 wz wr w':World}{b12 H:Nat}{L:List PV}{pa:Option Addr}{pc:Nat}(h:S2 vt vn st w1 b12 H wz L pa pc wr)(hb:Below wr.heap.size wr w'):S2 vt vn st w1 b12 H wz L pa pc w':=⟨(hb.block _ (lt_of_block h.box)).trans h.box,h.po.later hb,h.bH,Nat.le_trans h.hH hb.size,h.lo,h.bel.trans (hb.mono h.bel.size),fun k hk hn=>(hb.block k (by have:=h.hH;omega)).trans (h.ex k hk hn)⟩
theorem S2.put {vt vn:Value}{st:Int}{w1 wz wr w4:World}{b12 H:Nat}{L:List PV}{q:PV}{pa a4:Option Addr}{pc c4:Nat}(h:S2 vt vn st w1 b12 H wz L pa pc wr)(hy:PY w4 (.slice a4 (L++[q]).length c4) (L++[q]))(hg:Grew wr w4 (.slice pa L.length pc) (.slice a4 (L++[q]).length c4))(hq:SY wr (.slice q.ra q.right.length q.rc) q.right)(hn:∀ j,(Value.slice q.ra q.right.length q.rc).ownBlock=some j->H<=j/\(Value.slice pa L.length pc).ownBlock≠some j/\∀ x∈L,(Value.slice x.ra x.right.length x.rc).ownBlock≠some j):S2 vt vn st w1 b12 H wz (L++[q]) a4 c4 (w4.setCell ⟨b12,3,none⟩ (.slice a4 (L++[q]).length c4)):=by
 have hbH:=h.bH
 have bo4:=(hg.grown.block b12 (lt_of_block h.box) (fun e=>by have:=h.po.lo _ e.symm;omega)).trans h.box
 obtain ⟨q1,q2⟩:=gBi h.bel (fun j hj=>by have:=h.po.lo j hj;have:=h.lo;omega) hg
 have P:=h.po.append hy hg h.hH hq hn
 exact ⟨hSt bo4 3 _,P.kept fun k hk _=>Below.heap_setCell _ _ _ _ (fun e=>by have e2:k=b12:=e;omega),h.bH,by simp;exact Nat.le_trans h.hH hg.grown.size,h.lo,q1.setCell (p:=⟨b12,3,none⟩) h.lo _,fun k hk hne=>(Below.heap_setCell _ _ _ _ (fun e=>hne e)).trans ((hg.grown.block k (by have:=h.hH;omega) (fun e=>by have:=h.po.lo _ e.symm;omega)).trans (h.ex k hk hne))⟩
structure D2 (s:GV)(T N:List Bool)(b6 tb nb t0 n0:Nat)(w1:World):Prop where
 sb:w1.heap[b6]?=some (gBox s)
 fg:FG w1 s
 bt:BB w1 tb T
 bn:BB w1 nb N
 tl:T.length=s.ts.length
 nl:N.length=s.ns.length
 rt:NR w1 t0 s.ts.length T
 rn:NR w1 n0 s.ns.length N
 pr:∀ p∈s.ps,p.prec < s.ts.length
theorem D2.later {s:GV}{T N:List Bool}{b6 tb nb t0 n0:Nat}{w1 w':World}(h:D2 s T N b6 tb nb t0 n0 w1)(hb:Below w1.heap.size w1 w'):D2 s T N b6 tb nb t0 n0 w':=⟨(hb.block _ (lt_of_block h.sb)).trans h.sb,h.fg.later hb,h.bt.later hb,h.bn.later hb,h.tl,h.nl,h.rt.later hb,h.rn.later hb,h.pr⟩
def K2 (s:GV)(gb rb b6 tb nb t0 c10 n0 c11 b12:Nat)(a:Act):Prop:=Fr7 a/\a.tmps.getD 1 undef=.pointer (some ⟨gb,0,none⟩)/\a.tmps.getD 2 undef=.pointer (some ⟨rb,0,none⟩)/\a.tmps.getD 6 undef=.pointer (some ⟨b6,0,none⟩)/\a.tmps.getD 8 undef=.slice (some ⟨tb,0,none⟩) s.ts.length s.ts.length/\a.tmps.getD 9 undef=.slice (some ⟨nb,0,none⟩) s.ns.length s.ns.length/\a.tmps.getD 10 undef=.slice (some ⟨t0,0,none⟩) s.ts.length c10/\a.tmps.getD 11 undef=.slice (some ⟨n0,0,none⟩) s.ns.length c11/\a.tmps.getD 12 undef=.pointer (some ⟨b12,0,none⟩)
def pgF (N:List Bool)(p:PV):Bool:=N.getD p.left.toNat false
def I2 (s:GV)(T N:List Bool)(gb rb b6 tb nb t0 c10 n0 c11 b12 H:Nat)(vt vn:Value)(st:Int)(w1 wz:World)(a:Act)(w':World):Prop:=K2 s gb rb b6 tb nb t0 c10 n0 c11 b12 a/\∃ (k:Nat) (L:List PV) (pa:Option Addr) (pc:Nat),k<=s.ps.length/\a.tmps.getD 13 undef=.int .i64 k/\L.length<=k/\L.map PV.core=((s.ps.take k).filter (pgF N)).map (pgU T N)/\S2 vt vn st w1 b12 H wz L pa pc w'
def mu2 (s:GV)(a:Act)(_:World):Nat:=s.ps.length - (intOf (a.tmps.getD 13 undef)).toNat
set_option linter.unusedSimpArgs false in
set_option maxRecDepth 1000000 in
theorem round2_7 (s:GV)(T N:List Bool)(gb rb b6 tb nb t0 c10 n0 c11 b12 H:Nat)(vt vn:Value)(st:Int)(w1 wz:World)(hD:D2 s T N b6 tb nb t0 n0 w1)(Q:Exit->Act->World->Prop)(hexit:∀ a' w' L pa pc,K2 s gb rb b6 tb nb t0 c10 n0 c11 b12 a'->L.length<=s.ps.length->L.map PV.core=(s.ps.filter (pgF N)).map (pgU T N)->S2 vt vn st w1 b12 H wz L pa pc w'->Q (.exit 2) a' w')(a:Act)(w0:World)(hI:I2 s T N gb rb b6 tb nb t0 c10 n0 c11 b12 H vt vn st w1 wz a w0) :
  Code.wp Tryz.prog (body7 1) (Exit.then (fun a' w''=>I2 s T N gb rb b6 tb nb t0 c10 n0 c11 b12 H vt vn st w1 wz a' w''/\mu2 s a' w'' < mu2 s a w0) Q) a w0:=by
 obtain ⟨⟨⟨z1,z2⟩,h1,h2,h6,h8,h9,h10,h11,h12⟩,k,L,pa,pc,hk,h13,hLk,hcore,hS⟩:=hI
 obtain ⟨f,rfl⟩:=act251 z1 z2
 change f 1=_ at h1
 change f 2=_ at h2
 change f 6=_ at h6
 change f 8=_ at h8
 change f 9=_ at h9
 change f 10=_ at h10
 change f 11=_ at h11
 change f 12=_ at h12
 change f 13=_ at h13
 clear z1 z2
 have HS:Hid (S2 vt vn st w1 b12 H wz L pa pc w0):=hS
 have HD:Hid (∀ w',Below w1.heap.size w1 w'->D2 s T N b6 tb nb t0 n0 w'):=fun w' h=>hD.later h
 obtain ⟨x0,x1,x2,x3,x4⟩:=gbc (HD.out w0 hS.bel).sb
 have HPL:Hid (s.ps.length<=256):=hD.fg.pl
 unfold A251
 rw [h1,h2,h6,h8,h9,h10,h11,h12,h13]
 clear h1 h2 h6 h8 h9 h10 h11 h12 h13 hD
 by_cases hlt:k < s.ps.length
 ·obtain ⟨pb,po,hpa,hbl,hc⟩:=(HD.out w0 hS.bel).fg.p.cells (by intro e;rw [e] at hlt;simp at hlt)
  obtain ⟨c0,c1,c2⟩:=hc k hlt
  have klt:(k:Int) < (s.ps.length:Int):=by omega
  have k256:k < 256:=by have:=HPL.out;omega
  have hmem:s.ps.getD k .none∈s.ps:=by simp [List.getD,hlt]
  obtain ⟨l0,l1⟩:=(HD.out w0 hS.bel).fg.left _ hmem
  have HROW:Hid (∀ w',Below w1.heap.size w1 w'->SymRow w' (s.ps.getD k .none).ra (s.ps.getD k .none).right):=fun w' h=>(HD.out w' h).fg.p.rows _ hmem
  have hrl:=(HD.out w0 hS.bel).fg.rl _ hmem
  have hsy:=(HD.out w0 hS.bel).fg.sym _ hmem
  have hpr:=(HD.out w0 hS.bel).pr _ hmem
  have hnl:=(HD.out w0 hS.bel).fg.nl.2
  have htl:=(HD.out w0 hS.bel).fg.tl.2
  have HT:Hid _:=filter_takeY (C:=pgF N) hlt
  generalize hp:s.ps.getD k .none=p at *
  obtain ⟨pl,pra,prc,pr,pp⟩:=p
  simp only at c0 c1 c2 l0 l1 hrl hsy hpr HROW
  obtain ⟨m,rfl⟩:∃ m:Nat,pl=(m:Int):=⟨pl.toNat,by omega⟩
  have mlt:(m:Int) < (s.ns.length:Int):=by omega
  have HC:Hid (pgF N ⟨(m:Int),pra,prc,pr,pp⟩=N.getD m false):=rfl
  rw [hpa] at x3
  have bA:=bAl w0 (.cells #[.int .i64 (m:Int),.slice pra pr.length prc,.int .i64 pp] 71)
  have BA:Hid (Below w1.heap.size w1 (w0.alloc (.cells #[.int .i64 (m:Int),.slice pra pr.length prc,.int .i64 pp] 71))):=hS.bel.trans (bA.mono hS.bel.size)
  have XA:Hid ((w0.alloc (.cells #[.int .i64 (m:Int),.slice pra pr.length prc,.int .i64 pp] 71)).heap[w0.heap.size]?=some (.cells #[.int .i64 (m:Int),.slice pra pr.length prc,.int .i64 pp] 71)):=heap_alloc_new _ _
  obtain ⟨y0,y1,y2,_⟩:=c3Z XA.out
  have hmN:m < N.length:=by rw [(HD.out w0 hS.bel).nl];omega
  have cn:=(HD.out _ BA.out).bn.cell hmN
  have rn:=(HD.out _ BA.out).rn.2 m (by omega)
  have HLT:Hid (L.length<=2000000):=by show _<=_;omega
  have HSY:Hid (∀ x∈pr,(x.1=1/\0<=x.2/\x.2 < s.ts.length)∨(x.1=2/\0<=x.2/\x.2 < s.ns.length)):=hsy
  have HCO:Hid (L.map PV.core=((s.ps.take k).filter (pgF N)).map (pgU T N)):=hcore
  generalize hmv:N.getD m false=mv at *
  have HMV:Hid (N.getD m false=mv):=hmv
  clear hc hbl hmem hmN hpa hp hsy hcore hS bA hmv
  cases mv
  ·have R5:Hid (L.map PV.core=((s.ps.take (k+1)).filter (pgF N)).map (pgU T N)):=by
    show _=_
    rw [HT.out,HC.out,if_neg (by decide),List.append_nil]
    exact HCO.out
   have S5:Hid (S2 vt vn st w1 b12 H wz L pa pc (w0.alloc (.cells #[.int .i64 (m:Int),.slice pra pr.length prc,.int .i64 pp] 71))):=HS.out.any (bAl _ _)
   conv=>arg 2;whnf
   go_wp2
   exact ⟨⟨⟨⟨rfl,rfl⟩,rfl,rfl,rfl,rfl,rfl,rfl,rfl,rfl⟩,k+1,L,pa,pc,by omega,by go_num,by omega,R5.out,S5.out⟩,by simp [mu2,intOf];omega⟩
  ·have R5:Hid (∀ q:PV,q.core=pgU T N ⟨(m:Int),pra,prc,pr,pp⟩->(L++[q]).map PV.core=((s.ps.take (k+1)).filter (pgF N)).map (pgU T N)):=fun q hq=>by
    rw [HT.out,HC.out,if_pos rfl,List.map_append,List.map_append,HCO.out]
    congr 1
    show [q.core]=_
    rw [hq]
    rfl
   have HL0:Hid (∃ L0,cntU N m=L0):=⟨_,rfl⟩
   obtain ⟨L0,hL0⟩:=HL0.out
   have HL1:Hid (cntU N m=L0):=hL0
   rw [hL0] at rn
   clear hL0 HL0 HT HC HCO
   conv=>arg 2;whnf
   go_wp2
   clear x0 x1 x2 x3 x4 c0 c1 c2 y0 y1 y2 cn rn
   have P0:Hid (PI (w0.alloc (.cells #[.int .i64 (m:Int),.slice pra pr.length prc,.int .i64 pp] 71)) (w0.heap.size+1) L0 [] none 0 ((w0.alloc (.cells #[.int .i64 (m:Int),.slice pra pr.length prc,.int .i64 pp] 71)).alloc (.cells #[.int .i64 L0,.slice none 0 0,.int .i64 (-1)] 71))):=by
    have e:(w0.alloc (.cells #[.int .i64 (m:Int),.slice pra pr.length prc,.int .i64 pp] 71)).heap.size=w0.heap.size+1:=by simp
    have q:=heap_alloc_new (w0.alloc (.cells #[.int .i64 (m:Int),.slice pra pr.length prc,.int .i64 pp] 71)) (.cells #[.int .i64 L0,.slice none 0 0,.int .i64 (-1)] 71)
    rw [e] at q
    exact ⟨q,SY.nil _,(fun j hj=>by simp [Value.ownBlock] at hj),by omega,bAl _ _⟩
   obtain ⟨w2,hw2⟩:∃ w2:World,w2=w0.alloc (.cells #[.int .i64 (m:Int),.slice pra pr.length prc,.int .i64 pp] 71):=⟨_,rfl⟩
   have Z2:Hid (w2.heap.size=w0.heap.size+1):=by show _=_;rw [hw2];simp
   have B02:Hid (Below w0.heap.size w0 w2):=by rw [hw2];exact bAl _ _
   rw [<- hw2] at P0 BA XA ⊢
   clear hw2
   go_loopw [16] (fun i wr=>∃ (k2:Nat) (a:Option Addr) (c:Nat),k2<=pr.length/\i=.int .i64 k2/\PI w2 (w0.heap.size+1) L0 ((pr.take k2).map (pgS T N)) a c wr) (fun i _=>pr.length - (intOf i).toNat)
   case atStart=>exact ⟨0,none,0,Nat.zero_le _,rfl,P0.out⟩
   case round =>
    clear P0
    obtain ⟨k2,qa,qc,hk2,rfl,hI⟩:=hrel
    have HI:Hid (PI w2 (w0.heap.size+1) L0 ((pr.take k2).map (pgS T N)) qa qc wr):=hI
    have bw:Below w1.heap.size w1 wr:=BA.out.trans (hI.bel.mono BA.out.size)
    have xb:=(hI.bel.block _ (lt_of_block XA.out)).trans XA.out
    obtain ⟨y0,y1,y2,_⟩:=c3Z xb
    have HXB:Hid (wr.heap[w0.heap.size]?=some (.cells #[.int .i64 (m:Int),.slice pra pr.length prc,.int .i64 pp] 71)):=xb
    have BW:Hid (Below w1.heap.size w1 wr):=bw
    by_cases hlt2:k2 < pr.length
    ·obtain ⟨sb,so,hra,hsl,hsc⟩:=(HROW.out wr bw) (by intro e;rw [e] at hlt2;simp at hlt2)
     obtain ⟨s0,s1⟩:=hsc k2 hlt2
     have klt2:(k2:Int) < (pr.length:Int):=by omega
     have hmem2:=HSY.out _ (by simp [List.getD,hlt2]:pr.getD k2 (0,0)∈pr)
     have HT2:Hid ((pr.take (k2+1)).map (pgS T N)=((pr.take k2).map (pgS T N))++[pgS T N (pr.getD k2 (0,0))]):=by
      show _=_
      rw [List.take_succ_eq_append_getElem hlt2,List.map_append,List.getD_eq_getElem?_getD,List.getElem?_eq_getElem hlt2]
      rfl
     have hrl2:((pr.take k2).map (pgS T N)).length<=100000:=by rw [List.length_map,List.length_take];omega
     generalize pr.getD k2 (0,0)=x at *
     obtain ⟨v1,v2⟩:=x
     simp only at s0 s1 hmem2
     generalize (pr.take k2).map (pgS T N)=R at *
     have HLR:Hid (R.length<=2000000):=by show _<=_;omega
     have bS:=bAl wr (.cells #[.int .i64 v1,.int .i64 v2] 54)
     have BS':Hid (Below w1.heap.size w1 (wr.alloc (.cells #[.int .i64 v1,.int .i64 v2] 54))):=bw.trans (bS.mono bw.size)
     have XS:Hid ((wr.alloc (.cells #[.int .i64 v1,.int .i64 v2] 54)).heap[wr.heap.size]?=some (.cells #[.int .i64 v1,.int .i64 v2] 54)):=heap_alloc_new _ _
     obtain ⟨u0,u1,u2,u3⟩:=two_cells XS.out
     obtain ⟨v2n,rfl⟩:∃ n:Nat,v2=(n:Int):=⟨v2.toNat,by rcases hmem2 with q | q<;>omega⟩
     rw [hra]
     rw [hra] at y1
     clear hsc hsl hI bw xb bS hra
     rcases hmem2 with ⟨rfl,_,g2⟩ | ⟨rfl,_,g2⟩
     ·have rt:=(HD.out _ BS'.out).rt.2 v2n (by omega)
      have HP:Hid (pgS T N (1,(v2n:Int))=(1,cntU T v2n)):=rfl
      generalize cntU T v2n=cv at *
      have PS:Hid (PI w2 (w0.heap.size+1) L0 R qa qc (wr.alloc (.cells #[.int .i64 1,.int .i64 cv] 54))):=HI.out.any (bAl _ _)
      have XT:Hid ((wr.alloc (.cells #[.int .i64 1,.int .i64 cv] 54)).heap[wr.heap.size]?=some (.cells #[.int .i64 1,.int .i64 cv] 54)):=heap_alloc_new _ _
      obtain ⟨d0,d1,d2,d3⟩:=c3Z PS.out.box
      obtain ⟨e0,e1,e2,e3⟩:=two_cells XT.out
      go_wp2_with (at_builtin;refine wpList_sy_append rfl _ _ rfl (.slice qa R.length qc) R rfl (PS.out.sy.later (bAl _ _)) _ 1 1 cv rfl (by simp) (by simp) HLR.out ?_;intro a4 n4 c4 w4 hy4 hg4;obtain rfl:n4=(R++[(1,cv)]).length:=(by obtain ⟨a',c',e⟩:=sy_len hy4;simp only [Value.slice.injEq] at e;exact e.2.1);have PC:Hid (PI w2 (w0.heap.size+1) L0 R qa qc ((wr.alloc (.cells #[.int .i64 1,.int .i64 cv] 54)).alloc (.cells #[.int .i64 1,.int .i64 cv] 54))):=PS.out.any (bAl _ _);have bo4:=(hg4.grown.block (w0.heap.size+1) (lt_of_block PC.out.box) (fun e=>sy_ne7 PC.out.sy PC.out.box (by decide) e.symm)).trans PC.out.box;obtain ⟨q1,q2⟩:=gBi PC.out.bel PC.out.own hg4;have H4:Hid (SY w4 (.slice a4 (R++[(1,cv)]).length c4) (R++[(1,cv)])/\w4.heap[w0.heap.size+1]?=some (.cells #[.int .i64 L0,.slice qa R.length qc,.int .i64 (-1)] 71)/\(∀ j,(Value.slice a4 (R++[(1,cv)]).length c4).ownBlock=some j->w2.heap.size<=j)/\Below w2.heap.size w2 w4):=⟨hy4,bo4,q2,q1⟩;obtain ⟨f0,f1,f2,f3⟩:=c3Z bo4;have f31:=f3 1;clear hy4 hg4 q1 q2 bo4 f3 d0 d1 d2 d3 e0 e1 e2 e3 u0 u1 u2 u3;have R6:Hid (PI w2 (w0.heap.size+1) L0 ((pr.take (k2+1)).map (pgS T N)) a4 c4 (w4.setCell ⟨w0.heap.size+1,1,none⟩ (.slice a4 (R++[(1,cv)]).length c4))):=(by show PI _ _ _ _ _ _ _;rw [HT2.out,HP.out];exact ⟨hSt H4.out.2.1 1 _,H4.out.1.kept fun j hj=>Below.heap_setCell _ _ _ _ (fun e=>by subst e;exact sy_ne7 H4.out.1 H4.out.2.1 (by decide) hj),H4.out.2.2.1,PC.out.lo,H4.out.2.2.2.setCell (p:=⟨w0.heap.size+1,1,none⟩) PC.out.lo _⟩);have HN4:Hid (R.length+1=(R++[((1:Int),cv)]).length):=(by show _=_;simp))
      go_roundw
      case rel=>exact ⟨k2+1,a4,c4,by omega,by go_num,by rw [HN4.out];exact R6.out⟩
      case measure=>simp [intOf];omega
     ·have rt:=(HD.out _ BS'.out).rn.2 v2n (by omega)
      have HP:Hid (pgS T N (2,(v2n:Int))=(2,cntU N v2n)):=rfl
      generalize cntU N v2n=cv at *
      have PS:Hid (PI w2 (w0.heap.size+1) L0 R qa qc (wr.alloc (.cells #[.int .i64 2,.int .i64 cv] 54))):=HI.out.any (bAl _ _)
      have XT:Hid ((wr.alloc (.cells #[.int .i64 2,.int .i64 cv] 54)).heap[wr.heap.size]?=some (.cells #[.int .i64 2,.int .i64 cv] 54)):=heap_alloc_new _ _
      obtain ⟨d0,d1,d2,d3⟩:=c3Z PS.out.box
      obtain ⟨e0,e1,e2,e3⟩:=two_cells XT.out
      go_wp2_with (at_builtin;refine wpList_sy_append rfl _ _ rfl (.slice qa R.length qc) R rfl (PS.out.sy.later (bAl _ _)) _ 1 2 cv rfl (by simp) (by simp) HLR.out ?_;intro a4 n4 c4 w4 hy4 hg4;obtain rfl:n4=(R++[(2,cv)]).length:=(by obtain ⟨a',c',e⟩:=sy_len hy4;simp only [Value.slice.injEq] at e;exact e.2.1);have PC:Hid (PI w2 (w0.heap.size+1) L0 R qa qc ((wr.alloc (.cells #[.int .i64 2,.int .i64 cv] 54)).alloc (.cells #[.int .i64 2,.int .i64 cv] 54))):=PS.out.any (bAl _ _);have bo4:=(hg4.grown.block (w0.heap.size+1) (lt_of_block PC.out.box) (fun e=>sy_ne7 PC.out.sy PC.out.box (by decide) e.symm)).trans PC.out.box;obtain ⟨q1,q2⟩:=gBi PC.out.bel PC.out.own hg4;have H4:Hid (SY w4 (.slice a4 (R++[(2,cv)]).length c4) (R++[(2,cv)])/\w4.heap[w0.heap.size+1]?=some (.cells #[.int .i64 L0,.slice qa R.length qc,.int .i64 (-1)] 71)/\(∀ j,(Value.slice a4 (R++[(2,cv)]).length c4).ownBlock=some j->w2.heap.size<=j)/\Below w2.heap.size w2 w4):=⟨hy4,bo4,q2,q1⟩;obtain ⟨f0,f1,f2,f3⟩:=c3Z bo4;have f31:=f3 1;clear hy4 hg4 q1 q2 bo4 f3 d0 d1 d2 d3 e0 e1 e2 e3 u0 u1 u2 u3;have R6:Hid (PI w2 (w0.heap.size+1) L0 ((pr.take (k2+1)).map (pgS T N)) a4 c4 (w4.setCell ⟨w0.heap.size+1,1,none⟩ (.slice a4 (R++[(2,cv)]).length c4))):=(by show PI _ _ _ _ _ _ _;rw [HT2.out,HP.out];exact ⟨hSt H4.out.2.1 1 _,H4.out.1.kept fun j hj=>Below.heap_setCell _ _ _ _ (fun e=>by subst e;exact sy_ne7 H4.out.1 H4.out.2.1 (by decide) hj),H4.out.2.2.1,PC.out.lo,H4.out.2.2.2.setCell (p:=⟨w0.heap.size+1,1,none⟩) PC.out.lo _⟩);have HN4:Hid (R.length+1=(R++[((2:Int),cv)]).length):=(by show _=_;simp))
      go_roundw
      case rel=>exact ⟨k2+1,a4,c4,by omega,by go_num,by rw [HN4.out];exact R6.out⟩
      case measure=>simp [intOf];omega
    ·obtain rfl:k2=pr.length:=by omega
     rw [List.take_length] at HI hI
     have HR:Hid (∃ R,pr.map (pgS T N)=R):=⟨_,rfl⟩
     obtain ⟨R,hR⟩:=HR.out
     clear HR
     rw [hR] at HI hI
     have HR:Hid (R=pr.map (pgS T N)):=hR.symm
     have b0:Below w0.heap.size w0 wr:=B02.out.trans (hI.bel.mono B02.out.size)
     have S5:Hid (S2 vt vn st w1 b12 H wz L pa pc wr):=HS.out.any b0
     have HOW:Hid (∀ j,(Value.slice qa R.length qc).ownBlock=some j->H<=j/\(Value.slice pa L.length pc).ownBlock≠some j/\∀ x∈L,(Value.slice x.ra x.right.length x.rc).ownBlock≠some j):=fun j hj=>by
      have h1:=HI.out.own j hj
      have h2:=Z2.out
      have h3:=HS.out.hH
      refine ⟨by omega,fun e=>?_,fun x hx e=>?_⟩
      ·have:=HS.out.po.row.lt j e;omega
      ·have:=(HS.out.po.each x hx).lt j e;omega
     clear hI hR b0 bw xb
     by_cases hp0:0<=pp
     ·obtain ⟨pn,rfl⟩:∃ n:Nat,pp=(n:Int):=⟨pp.toNat,by omega⟩
      have pnl:pn < T.length:=by rw [(HD.out _ BW.out).tl];omega
      have ct:=(HD.out _ BW.out).bt.cell pnl
      have rt:=(HD.out _ BW.out).rt.2 pn (by omega)
      have HP0:Hid (pgP T (pn:Int)=if T.getD pn false=true then cntU T pn else -1):=by
       show pgP T (pn:Int)=_
       unfold pgP
       by_cases z:T.getD pn false=true
       ·rw [if_pos ⟨by omega,z⟩,if_pos z];rfl
       ·rw [if_neg (fun q=>z q.2),if_neg z]
      generalize T.getD pn false=tv at *
      clear pnl
      cases tv
      ·have HPP:Hid (pgP T (pn:Int)=-1):=by show pgP T (pn:Int)=-1;have:=HP0.out;simpa using this
       have BX:Hid (wr.heap[w0.heap.size+1]?=some (.cells #[.int .i64 L0,.slice qa R.length qc,.int .i64 (-1)] 71)):=HI.out.box
       have S6:Hid (S2 vt vn st w1 b12 H wz L pa pc wr):=S5.out
       have SX6:Hid (SY wr (.slice qa R.length qc) R):=HI.out.sy
       obtain ⟨d0,d1,d2,d3⟩:=c3Z BX.out
       obtain ⟨e0,e1,e2,e3,e4,e5⟩:=c5Z S6.out.box
       have QC:Hid ((⟨L0,qa,qc,R,(-1)⟩:PV).core=pgU T N ⟨(m:Int),pra,prc,pr,(pn:Int)⟩):=by
        show (L0,R,(-1))=(cntU N ((m:Int)).toNat,pr.map (pgS T N),pgP T (pn:Int))
        rw [HR.out,HPP.out,<- HL1.out]
        rfl
       go_wp2_with (at_builtin;refine wpList_PY_append rfl _ _ rfl (.slice pa L.length pc) L rfl (S6.out.po.later (bAl _ _)).row _ 1 ⟨L0,qa,qc,R,(-1)⟩ rfl (fun j u hu=>(by rcases j with _ | _ | _ | j<;>simp at hu<;>subst hu<;>simp)) HLT.out ?_;intro a4 n4 c4 w4 hy4 hg4;obtain rfl:n4=(L++[(⟨L0,qa,qc,R,(-1)⟩:PV)]).length:=(by obtain ⟨a',c',e⟩:=PY.len hy4;simp only [Value.slice.injEq] at e;exact e.2.1);have S8:=(S6.out.any (bAl wr (.cells #[.int .i64 L0,.slice qa R.length qc,.int .i64 (-1)] 71)));have S7:Hid (S2 vt vn st w1 b12 H wz (L++[(⟨L0,qa,qc,R,(-1)⟩:PV)]) a4 c4 (w4.setCell ⟨b12,3,none⟩ (.slice a4 (L++[(⟨L0,qa,qc,R,(-1)⟩:PV)]).length c4))):=S8.put hy4 hg4 (SX6.out.later (bAl _ _)) HOW.out;have bo4:=(hg4.grown.block b12 (lt_of_block S8.box) (fun e=>(by have:=S8.po.lo _ e.symm;have:=S8.bH;omega))).trans S8.box;obtain ⟨g0,g1,g2,g3,g4,g5⟩:=c5Z bo4;have g53:=g5 3;have HN4:Hid (L.length+1=(L++[(⟨L0,qa,qc,R,(-1)⟩:PV)]).length):=(by show _=_;simp);clear hy4 hg4 S8 bo4 g5 d0 d1 d2 d3 e0 e1 e2 e3 e4 e5)
       exact ⟨⟨⟨⟨rfl,rfl⟩,rfl,rfl,rfl,rfl,rfl,rfl,rfl,rfl⟩,k+1,L++[(⟨L0,qa,qc,R,(-1)⟩:PV)],a4,c4,by omega,by go_num,by rw [<- HN4.out];omega,R5.out _ QC.out,by rw [HN4.out];exact S7.out⟩,by simp [mu2,intOf];omega⟩
      ·have HPP:Hid (pgP T (pn:Int)=cntU T pn):=by show pgP T (pn:Int)=_;have:=HP0.out;simpa using this
       generalize cntU T pn=cv at *
       have BX:Hid ((wr.setCell ⟨w0.heap.size+1,2,none⟩ (.int .i64 cv)).heap[w0.heap.size+1]?=some (.cells #[.int .i64 L0,.slice qa R.length qc,.int .i64 cv] 71)):=hSt HI.out.box 2 _
       have SX6:Hid (SY (wr.setCell ⟨w0.heap.size+1,2,none⟩ (.int .i64 cv)) (.slice qa R.length qc) R):=HI.out.sy.kept fun j hj=>Below.heap_setCell _ _ _ _ (fun e=>by subst e;exact sy_ne7 HI.out.sy HI.out.box (by decide) hj)
       have S6:Hid (S2 vt vn st w1 b12 H wz L pa pc (wr.setCell ⟨w0.heap.size+1,2,none⟩ (.int .i64 cv))):=by
        have h3:=lt_of_block HS.out.box
        refine ⟨(Below.heap_setCell _ _ _ _ (fun e=>by have e2:b12=w0.heap.size+1:=e;omega)).trans S5.out.box,⟨?_,S5.out.po.lo,?_,S5.out.po.apart,S5.out.po.two⟩,S5.out.bH,(by simp;exact S5.out.hH),S5.out.lo,S5.out.bel.setCell (p:=⟨w0.heap.size+1,2,none⟩) (by have:=S5.out.lo;show w1.heap.size<=w0.heap.size+1;omega) _,fun k hk hne=>(Below.heap_setCell _ _ _ _ (fun e=>by have e2:k=w0.heap.size+1:=e;have:=HS.out.hH;omega)).trans (S5.out.ex k hk hne)⟩
        ·exact S5.out.po.row.kept fun j hj=>Below.heap_setCell _ _ _ _ (fun e=>by have e2:j=w0.heap.size+1:=e;have:=HS.out.po.row.lt j hj;omega)
        ·exact fun x hx=>(S5.out.po.each x hx).kept fun j hj=>Below.heap_setCell _ _ _ _ (fun e=>by have e2:j=w0.heap.size+1:=e;have:=(HS.out.po.each x hx).lt j hj;omega)
       obtain ⟨_,_,b2',b3'⟩:=c3Z HI.out.box
       have b32:=b3' 2
       clear b3'
       have N3:Hid (∀ j u,[.int .i64 L0,.slice qa R.length qc,.int .i64 cv][j]?=some u->((wr.setCell ⟨w0.heap.size+1,2,none⟩ (.int .i64 cv)).alloc (.cells #[.int .i64 L0,.slice qa R.length qc,.int .i64 cv] 71)).cell? ⟨wr.heap.size,j,none⟩=some u):=fun j u hu=>by
        have zz:(wr.setCell ⟨w0.heap.size+1,2,none⟩ (.int .i64 cv)).heap.size=wr.heap.size:=by simp
        have hz:=c3Z (heap_alloc_new (wr.setCell ⟨w0.heap.size+1,2,none⟩ (.int .i64 cv)) (.cells #[.int .i64 L0,.slice qa R.length qc,.int .i64 cv] 71))
        rw [zz] at hz
        obtain ⟨z0,z1,z2,_⟩:=hz
        rcases j with _ | _ | _ | j<;>simp at hu<;>subst hu<;>assumption
       obtain ⟨d0,d1,d2,d3⟩:=c3Z BX.out
       obtain ⟨e0,e1,e2,e3,e4,e5⟩:=c5Z S6.out.box
       have QC:Hid ((⟨L0,qa,qc,R,cv⟩:PV).core=pgU T N ⟨(m:Int),pra,prc,pr,(pn:Int)⟩):=by
        show (L0,R,cv)=(cntU N ((m:Int)).toNat,pr.map (pgS T N),pgP T (pn:Int))
        rw [HR.out,HPP.out,<- HL1.out]
        rfl
       go_wp2_with (at_builtin;refine wpList_PY_append rfl _ _ rfl (.slice pa L.length pc) L rfl (S6.out.po.later (bAl _ _)).row _ 1 ⟨L0,qa,qc,R,cv⟩ rfl N3.out HLT.out ?_;intro a4 n4 c4 w4 hy4 hg4;obtain rfl:n4=(L++[(⟨L0,qa,qc,R,cv⟩:PV)]).length:=(by obtain ⟨a',c',e⟩:=PY.len hy4;simp only [Value.slice.injEq] at e;exact e.2.1);have S8:=(S6.out.any (bAl (wr.setCell ⟨w0.heap.size+1,2,none⟩ (.int .i64 cv)) (.cells #[.int .i64 L0,.slice qa R.length qc,.int .i64 cv] 71)));have S7:Hid (S2 vt vn st w1 b12 H wz (L++[(⟨L0,qa,qc,R,cv⟩:PV)]) a4 c4 (w4.setCell ⟨b12,3,none⟩ (.slice a4 (L++[(⟨L0,qa,qc,R,cv⟩:PV)]).length c4))):=S8.put hy4 hg4 (SX6.out.later (bAl _ _)) HOW.out;have bo4:=(hg4.grown.block b12 (lt_of_block S8.box) (fun e=>(by have:=S8.po.lo _ e.symm;have:=S8.bH;omega))).trans S8.box;obtain ⟨g0,g1,g2,g3,g4,g5⟩:=c5Z bo4;have g53:=g5 3;have HN4:Hid (L.length+1=(L++[(⟨L0,qa,qc,R,cv⟩:PV)]).length):=(by show _=_;simp);clear hy4 hg4 S8 bo4 g5 d0 d1 d2 d3 e0 e1 e2 e3 e4 e5)
       exact ⟨⟨⟨⟨rfl,rfl⟩,rfl,rfl,rfl,rfl,rfl,rfl,rfl,rfl⟩,k+1,L++[(⟨L0,qa,qc,R,cv⟩:PV)],a4,c4,by omega,by go_num,by rw [<- HN4.out];omega,R5.out _ QC.out,by rw [HN4.out];exact S7.out⟩,by simp [mu2,intOf];omega⟩
     ·have hp1:pp < 0:=by omega
      have HPP:Hid (pgP T pp=-1):=by
       show pgP T pp=-1
       unfold pgP
       rw [if_neg (fun q=>hp0 q.1)]
      have BX:Hid (wr.heap[w0.heap.size+1]?=some (.cells #[.int .i64 L0,.slice qa R.length qc,.int .i64 (-1)] 71)):=HI.out.box
      have S6:Hid (S2 vt vn st w1 b12 H wz L pa pc wr):=S5.out
      have SX6:Hid (SY wr (.slice qa R.length qc) R):=HI.out.sy
      obtain ⟨d0,d1,d2,d3⟩:=c3Z BX.out
      obtain ⟨e0,e1,e2,e3,e4,e5⟩:=c5Z S6.out.box
      have QC:Hid ((⟨L0,qa,qc,R,(-1)⟩:PV).core=pgU T N ⟨(m:Int),pra,prc,pr,pp⟩):=by
       show (L0,R,(-1))=(cntU N ((m:Int)).toNat,pr.map (pgS T N),pgP T pp)
       rw [HR.out,HPP.out,<- HL1.out]
       rfl
      go_wp2_with (at_builtin;refine wpList_PY_append rfl _ _ rfl (.slice pa L.length pc) L rfl (S6.out.po.later (bAl _ _)).row _ 1 ⟨L0,qa,qc,R,(-1)⟩ rfl (fun j u hu=>(by rcases j with _ | _ | _ | j<;>simp at hu<;>subst hu<;>simp)) HLT.out ?_;intro a4 n4 c4 w4 hy4 hg4;obtain rfl:n4=(L++[(⟨L0,qa,qc,R,(-1)⟩:PV)]).length:=(by obtain ⟨a',c',e⟩:=PY.len hy4;simp only [Value.slice.injEq] at e;exact e.2.1);have S8:=(S6.out.any (bAl wr (.cells #[.int .i64 L0,.slice qa R.length qc,.int .i64 (-1)] 71)));have S7:Hid (S2 vt vn st w1 b12 H wz (L++[(⟨L0,qa,qc,R,(-1)⟩:PV)]) a4 c4 (w4.setCell ⟨b12,3,none⟩ (.slice a4 (L++[(⟨L0,qa,qc,R,(-1)⟩:PV)]).length c4))):=S8.put hy4 hg4 (SX6.out.later (bAl _ _)) HOW.out;have bo4:=(hg4.grown.block b12 (lt_of_block S8.box) (fun e=>(by have:=S8.po.lo _ e.symm;have:=S8.bH;omega))).trans S8.box;obtain ⟨g0,g1,g2,g3,g4,g5⟩:=c5Z bo4;have g53:=g5 3;have HN4:Hid (L.length+1=(L++[(⟨L0,qa,qc,R,(-1)⟩:PV)]).length):=(by show _=_;simp);clear hy4 hg4 S8 bo4 g5 d0 d1 d2 d3 e0 e1 e2 e3 e4 e5)
      exact ⟨⟨⟨⟨rfl,rfl⟩,rfl,rfl,rfl,rfl,rfl,rfl,rfl,rfl⟩,k+1,L++[(⟨L0,qa,qc,R,(-1)⟩:PV)],a4,c4,by omega,by go_num,by rw [<- HN4.out];omega,R5.out _ QC.out,by rw [HN4.out];exact S7.out⟩,by simp [mu2,intOf];omega⟩
 ·obtain rfl:k=s.ps.length:=by omega
  rw [List.take_length] at hcore
  clear hS
  conv=>arg 2;whnf
  go_wp2
  refine hexit _ _ L pa pc ?_ hLk hcore HS.out
  exact ⟨⟨rfl,rfl⟩,rfl,rfl,rfl,rfl,rfl,rfl,rfl,rfl⟩
theorem loop2_7 (s:GV)(T N:List Bool)(gb rb b6 tb nb t0 c10 n0 c11 b12 H:Nat)(vt vn:Value)(st:Int)(w1 wz:World)(hD:D2 s T N b6 tb nb t0 n0 w1)(Q:Exit->Act->World->Prop)(a:Act)(w0:World)(hI:I2 s T N gb rb b6 tb nb t0 c10 n0 c11 b12 H vt vn st w1 wz a w0)(hexit:∀ a' w' L pa pc,K2 s gb rb b6 tb nb t0 c10 n0 c11 b12 a'->L.length<=s.ps.length->L.map PV.core=(s.ps.filter (pgF N)).map (pgU T N)->S2 vt vn st w1 b12 H wz L pa pc w'->Q (.exit 2) a' w'):Code.wp Tryz.prog (.loop (body7 1)) Q a w0 :=
 wp_loop (I2 s T N gb rb b6 tb nb t0 c10 n0 c11 b12 H vt vn st w1 wz) (mu2 s) hI fun a' w' h=>round2_7 s T N gb rb b6 tb nb t0 c10 n0 c11 b12 H vt vn st w1 wz hD Q hexit a' w' h
end Go.Proofs.YtlfiohdhcmmjbaaGreatDoor
