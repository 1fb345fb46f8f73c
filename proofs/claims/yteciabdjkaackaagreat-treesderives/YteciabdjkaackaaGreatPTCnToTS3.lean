import Derived.Test.YteciabdjkaackaaGreatPTCm
import Derived.Test.YteciabdjkaackaaGreatPGCheckCToGCheckD
namespace Go.Proofs.YteciabdjkaackaaGreat
set_option linter.unusedVariables false
open Go.RowKit
theorem kst_leave {w0:World}{g:GV}{p0 q0:Nat}{t0:TV}{b:Nat}{D R2:List EV}{p q:Nat}{t:TV}{w:World}(h:KSt w0 g p0 q0 t0 b D w)(hD:D++⟨false,p,q,t⟩ :: R2=evT p0 q0 t0):KSt w0 g p0 q0 t0 b (D++[⟨false,p,q,t⟩]) w:=by
 obtain ⟨R,P,v,a1,a2,a3,a4,a4',a5,a6,a7⟩:=h.th
 have e:R=⟨false,p,q,t⟩ :: R2:=List.append_cancel_left (a1.trans hD.symm)
 have hE:enE (D++[⟨false,p,q,t⟩])=enE D:=by rw [enE_app,enE_out,List.append_nil]
 rw [e,<- List.singleton_append,enE_app,enE_out,List.nil_append] at a2
 exact ⟨h.bel,h.yn,h.gb,h.eb,by rw [hE];exact h.pb,R2,P,v,by rw [<- hD];simp,a2,a3,a4,by rw [hE];exact a4',by rw [hE];exact a5,a6,a7⟩
theorem kst_end {w0:World}{g:GV}{p0 q0:Nat}{t0:TV}{b:Nat}{w:World}(h:KSt w0 g p0 q0 t0 b (evT p0 q0 t0) w):KFn w0 g t0 b w:=by
 obtain ⟨R,P,v,a1,a2,a3,a4,a4',a5,a6,a7⟩:=h.th
 have e:R=[]:=by
  have:=congrArg List.length a1
  rw [List.length_append] at this
  exact List.eq_nil_of_length_eq_zero (by omega)
 have hP:P=[]:=by
  rw [e] at a2
  cases P with
  | nil=>rfl
  | cons x P =>
   rw [List.flatMap_cons,preT_eq] at a2
   simp [enE] at a2
 rw [hP] at a5
 exact ⟨h.bel,0,_,a5.symm,h.eb,h.pb⟩
set_option linter.unusedSimpArgs false in
set_option maxRecDepth 100000 in
set_option maxHeartbeats 4000000 in
theorem check_W (g:GV)(p0 q0:Nat)(t:TV)(w:World)(hg:GAt 140737488355328 w g)(hb:TBx w p0 q0 t)(ht:TAt w t)(hsz:szT t<=100000000):Calls Tryz.prog 80 #[g.val,.pointer (some ⟨p0,q0,none⟩)] w fun e w'=>e=.returned (.tuple #[.int .i64 (runU g (ckT g (0,0) false t) 0).1,.int .i64 ((runU g (ckT g (0,0) false t) 0).2:Int)])/\Below w.heap.size w w':=by
 have S0:Hid (KSt w g p0 q0 t w.heap.size [] ((((w.alloc (gBox g)).alloc (eBox 0)).alloc (iBox 0)).alloc (.cells #[.slice none 0 0] 100))):=by
  have k:∀ (j:Nat) (o o':Obj) (v:World),v.heap[j]?=some o->(v.alloc o').heap[j]?=some o:=fun j o o' v h=>((bAl v o').block j (lt_of_block h)).trans h
  have e:∀ (v:World) (o:Obj),(v.alloc o).heap.size=v.heap.size+1:=fun v o=>by simp
  have bl:∀ (v:World) (o:Obj),Below w.heap.size w v->Below w.heap.size w (v.alloc o):=fun v o h=>h.trans ((bAl v o).mono h.size)
  refine ⟨bl _ _ (bl _ _ (bl _ _ (bl _ _ (Below.refl _ _)))),Nat.le_refl _,k _ _ _ _ (k _ _ _ _ (k _ _ _ _ (heap_alloc_new _ _))),?_,?_,evT p0 q0 t,[⟨t,0,(0,0),false⟩],.slice none 0 0,rfl,?_,?_,?_,?_,?_,?_,?_⟩
  ·have:=heap_alloc_new (w.alloc (gBox g)) (eBox 0)
   rw [e] at this
   exact k _ _ _ _ (k _ _ _ _ this)
  ·have:=heap_alloc_new ((w.alloc (gBox g)).alloc (eBox 0)) (iBox 0)
   rw [e,e] at this
   exact k _ _ _ _ this
  ·rw [ev_pre];simp
  ·intro x hx
   simp only [List.mem_cons,List.not_mem_nil,or_false] at hx
   rw [hx]
  ·intro x hx
   simp at hx
  ·intro x hx
   simp only [List.head?_cons,Option.mem_def,Option.some.injEq] at hx
   rw [<- hx]
   rfl
  ·unfold ckP
   simp [enE]
  ·have:=heap_alloc_new (((w.alloc (gBox g)).alloc (eBox 0)).alloc (iBox 0)) (.cells #[.slice none 0 0] 100)
   rw [e,e,e] at this
   exact this
  ·exact World.ownsRow_nil _ _ _ _
 have CW:Hid (∀ w1,KSt w g p0 q0 t w.heap.size [] w1->Calls Tryz.prog 44 #[.pointer (some ⟨p0,q0,none⟩),fnV 103 #[.pointer (some ⟨w.heap.size,0,none⟩),.pointer (some ⟨w.heap.size+1,0,none⟩),.pointer (some ⟨w.heap.size+1+1,0,none⟩),.pointer (some ⟨w.heap.size+1+1+1,0,none⟩)]] w1 fun e w'=>e=.returned (.tuple #[])/\Below w.heap.size w w'/\w'.cell? ⟨w.heap.size+1,0,none⟩=some (.int .i64 (runU g (ckT g (0,0) false t) 0).1)/\w'.cell? ⟨w.heap.size+1+1,0,none⟩=some (.int .i64 ((runU g (ckT g (0,0) false t) 0).2:Int))):=fun w1 h1=>by
  refine (walk_R (St:=KSt w g p0 q0 t w.heap.size) (Fin:=KFn w g t w.heap.size) ⟨ent_check1,hb,ht,hsz,fun D w w' h hn=>h.still hn,fun D w h=>h.bel,fun D p q t' R hD hT w1 h1=>?_,fun D p q t' R w1 hD h1=>kst_leave h1 hD⟩ _ h1).mono ?_
  ·exact check1_W w g p0 q0 t w.heap.size D R p q t' w1 h1 hD hT hg hsz
  ·rintro e w' ⟨e1,e2⟩
   have hf:KFn w g t w.heap.size w':=by
    rcases e2 with e2 | e2
    ·exact kst_end e2
    ·exact e2
   obtain ⟨er,n,a1,a2,a3⟩:=hf.fa
   rw [a1]
   exact ⟨e1,hf.bel,(cQa a2).trans rfl,(cQa a3).trans rfl⟩
 clear hg hb ht hsz
 generalize (runU g (ckT g (0,0) false t) 0).1=er at *
 generalize ((runU g (ckT g (0,0) false t) 0).2:Int)=n at *
 go_enter Tryz.func80,Tryz.ntmps80
 go_upto_region 3 with fail
 refine wp_world (fun w'=>KSt w g p0 q0 t w.heap.size [] w') S0.out fun w1 h1=>?_
 have H1:Hid (KSt w g p0 q0 t w.heap.size [] w1):=h1
 clear h1 S0
 go_wp2_with (go_at_call 44;refine (CW.out _ H1.out).mono ?_;rintro e w2 ⟨rfl,b2,c1,c2⟩;have R:Hid (Below w.heap.size w w2):=b2;clear b2)
 go_quiet (fail)
 go_wp2
 refine bodyPost_ret (results_tmp2 rfl _ _ _) rfl ?_
 exact ⟨rfl,R.out.trans ((bDn (Below.refl _ _) _).mono R.out.size)⟩
set_option linter.unusedSimpArgs false in
set_option maxRecDepth 100000 in
set_option maxHeartbeats 4000000 in
theorem Check_W (g:GV)(t:TV)(w:World)(h:GAt 140737488355328 w g)(hpc:g.ps.length<=g.pc)(er at_:Int)(hE:cG_ g (cF_ g.ts g.ns)=(er,at_))(ht:TAt w t)(hsz:szT t<=100000000):Calls Tryz.prog 62 #[g.val,t.val] w fun e w'=>e=.returned (.tuple #[.int .i64 (if er=0 then (runU g (ckT g (0,0) false t) 0).1 else er),.int .i64 (if er=0 then ((runU g (ckT g (0,0) false t) 0).2:Int) else 0)])/\Below w.heap.size w w':=by
 have X0:Hid (Below w.heap.size w ((w.alloc (gBox g)).alloc (tBox t))/\((w.alloc (gBox g)).alloc (tBox t)).heap[w.heap.size]?=some (gBox g)/\((w.alloc (gBox g)).alloc (tBox t)).heap[w.heap.size+1]?=some (tBox t)):=by
  have h1:=bAl w (gBox g)
  have h2:=bAl (w.alloc (gBox g)) (tBox t)
  refine ⟨h1.trans (h2.mono h1.size),(h2.block _ (by simp)).trans (heap_alloc_new _ _),?_⟩
  have:=heap_alloc_new (w.alloc (gBox g)) (tBox t)
  rwa [show (w.alloc (gBox g)).heap.size=w.heap.size+1 by simp] at this
 have CK:Hid (∀ w',Below w.heap.size w w'->Calls Tryz.prog 79 #[g.val] w' fun e w''=>e=.returned (.tuple #[.int .i64 er,.int .i64 at_])/\Below w'.heap.size w' w''):=fun w' hb=>check_G g w' (h.later hb) hpc er at_ hE
 have CC:Hid (∀ w',Below w.heap.size w w'->w'.heap[w.heap.size+1]?=some (tBox t)->Calls Tryz.prog 80 #[g.val,.pointer (some ⟨w.heap.size+1,0,none⟩)] w' fun e w''=>e=.returned (.tuple #[.int .i64 (runU g (ckT g (0,0) false t) 0).1,.int .i64 ((runU g (ckT g (0,0) false t) 0).2:Int)])/\Below w'.heap.size w' w''):=fun w' hb hx=>by
  obtain ⟨a0,a1,a2,a3⟩:=tb_cells hx
  exact check_W g _ 0 t w' (h.later hb) ⟨lt_of_block hx,a0,a1,a2,a3⟩ (ht.later hb) hsz
 clear h hE ht hsz
 generalize (runU g (ckT g (0,0) false t) 0).1=e1 at *
 generalize ((runU g (ckT g (0,0) false t) 0).2:Int)=n1 at *
 obtain ⟨x0,x1,x2,x3,x4⟩:=gbx_cells X0.out.2.1
 by_cases h0:er=0
 ·subst h0
  rw [if_pos rfl,if_pos rfl]
  have t1:((0:Int) != 0)=false:=by decide
  go_enter Tryz.func62,Tryz.ntmps62
  go_wp2_with (first
   | (go_at_call 79;refine (CK.out _ X0.out.1).mono ?_;rintro e w2 ⟨rfl,b2⟩;have B2:Hid (Below w.heap.size w w2/\w2.heap[w.heap.size]?=some (gBox g)/\w2.heap[w.heap.size+1]?=some (tBox t)):=⟨X0.out.1.trans (b2.mono X0.out.1.size),(b2.block _ (lt_of_block X0.out.2.1)).trans X0.out.2.1,(b2.block _ (lt_of_block X0.out.2.2)).trans X0.out.2.2⟩;clear b2 x0 x1 x2 x3 x4;obtain ⟨x0,x1,x2,x3,x4⟩:=gbx_cells B2.out.2.1)
   | (go_at_call 80;refine (CC.out _ B2.out.1 B2.out.2.2).mono ?_;rintro e w3 ⟨rfl,b3⟩;have R:Hid (Below w.heap.size w w3):=B2.out.1.trans (b3.mono B2.out.1.size);clear b3))
  refine bodyPost_ret (results_tmp2 rfl _ _ _) rfl ?_
  exact ⟨rfl,R.out⟩
 ·rw [if_neg h0,if_neg h0]
  have t1:(er != 0)=true:=by simpa using h0
  clear h0
  go_enter Tryz.func62,Tryz.ntmps62
  go_wp2_with (go_at_call 79;refine (CK.out _ X0.out.1).mono ?_;rintro e w2 ⟨rfl,b2⟩;have R:Hid (Below w.heap.size w w2):=X0.out.1.trans (b2.mono X0.out.1.size);clear b2)
  refine bodyPost_ret (results_tmp2 rfl _ _ _) rfl ?_
  exact ⟨rfl,R.out⟩
def sgG (n:Nat):GV:={ ta:=some ⟨n,0,none⟩,tc:=2,ts:=[⟨#[97]⟩,⟨#[98]⟩],na:=some ⟨n+1,0,none⟩,nc:=1,ns:=[⟨#[83]⟩],start:=0,pa:=some ⟨n+1+1+1+1,0,none⟩,pc:=2,ps:=[⟨0,some ⟨n+1+1,0,none⟩,2,[(1,0),(2,0)],-1⟩,⟨0,some ⟨n+1+1+1,0,none⟩,1,[(1,1)],-1⟩],la:=none,lc:=0,ls:=[] }
def sgL (k:Int):TV:=TV.mk (-1) k ByteArray.empty none 0 []
def sgT (n:Nat)(k:Int):TV:=TV.mk 0 0 ByteArray.empty (some ⟨n+1,0,none⟩) 2 [sgL 0,TV.mk 1 0 ByteArray.empty (some ⟨n,0,none⟩) 1 [sgL k]]
theorem step_storeM {ops:Array Oper}{o:Oper}{a:Act}{w:World}{K:Act->World->Prop}{Q:Exit->Act->World->Prop}{E:Prop}(hg:o.guard=none)(ty:TypeId)(x y:Operand)(hop:o.op=.store ty x y)(b:Nat)(cells:Array Value)(hx:a.eval x=.pointer (some ⟨b,0,none⟩))(hy:a.eval y=.agg cells)
  (ht:w.there b 0 cells.size) (hi:(Tryz.prog.info? ty).map (·.size)=some cells.size) (h1:cells.all (·.oneCell')=true) (hK:K (a.put o.dst undef) (w.setCells b 0 cells.toList)):if Region.wanted o (yielded ops a.tmps)=true then Oper.wp Tryz.prog o a w K Q else E:=by
 have hw:Region.wanted o (yielded ops a.tmps)=true:=by simp [Region.wanted,hg]
 rw [if_pos hw]
 exact wp_store_mid ty x y hop b 0 cells hx hy ht hi h1 hK
def allO (w:World)(os:List Obj):World:=os.foldl World.alloc w
theorem allO_size (os:List Obj):∀ w:World,(allO w os).heap.size=w.heap.size+os.length:=by
 induction os with
 | nil=>intro w;rfl
 | cons o os ih =>
  intro w
  have:=ih (w.alloc o)
  unfold allO at this ⊢
  rw [List.foldl_cons,this]
  simp
  omega
theorem allO_bel (os:List Obj):∀ w:World,Below w.heap.size w (allO w os):=by
 induction os with
 | nil=>intro w;exact Below.refl _ _
 | cons o os ih =>
  intro w
  have h1:=bAl w o
  exact h1.trans ((ih (w.alloc o)).mono h1.size)
theorem allO_get (os:List Obj):∀ (w:World) (i:Nat) (o:Obj),os[i]?=some o->(allO w os).heap[w.heap.size+i]?=some o:=by
 induction os with
 | nil=>intro w i o h;simp at h
 | cons a os ih =>
  intro w i o h
  cases i with
  | zero =>
   simp at h
   subst h
   exact ((allO_bel os (w.alloc a)).block _ (by simp)).trans (heap_alloc_new w a)
  | succ i =>
   have:=ih (w.alloc a) i o (by simpa using h)
   rwa [show (w.alloc a).heap.size+i=w.heap.size+(i+1) by simp;omega] at this
abbrev sgO (m:Nat):List Obj:=[.cells #[.slice none 0 0,.slice none 0 0,.int .i64 0,.slice none 0 0,.slice none 0 0] 63,.cells #[.int .i64 0,.int .i64 0,.string ByteArray.empty,.slice none 0 0] 26,.cells #[.int .i64 1,.int .i64 0] 82,.cells #[.int .i64 1,.int .i64 1] 82,.cells #[.string ⟨#[97]⟩,.string ⟨#[98]⟩] 9,.cells #[.string ⟨#[83]⟩] 9,.cells #[.int .i64 1,.int .i64 0,.int .i64 2,.int .i64 0] 82,.cells #[.int .i64 1,.int .i64 1] 82,.cells #[.int .i64 0,.slice (some ⟨m+1+1+1+1+1+1,0,none⟩) 2 2,.int .i64 (-1),.int .i64 0,.slice (some ⟨m+1+1+1+1+1+1+1,0,none⟩) 1 1,.int .i64 (-1)] 116,gBox (sgG (m+1+1+1+1)),tBox (sgL 1),.cells #[.int .i64 (-1),.int .i64 0,.string ByteArray.empty,.slice none 0 0,.int .i64 1,.int .i64 0,.string ByteArray.empty,.slice (some ⟨m+1+1+1+1+1+1+1+1+1+1,0,none⟩) 1 1] 26,tBox (sgT (m+1+1+1+1+1+1+1+1+1+1) 1)]
structure SAt (m:Nat)(w W:World):Prop where
 bel:Below m w W
 sz:m+12 < W.heap.size
 bk:∀ i o,2<=i->(sgO m)[i]?=some o->W.heap[m+i]?=some o
theorem setCs_keep {n b:Nat}(hn:n<=b):∀ (vs:List Value) (o:Nat) (w:World),Below n w (w.setCells b o vs)/\∀ j,j≠b->(w.setCells b o vs).heap[j]?=w.heap[j]?
 | [],_,w=>⟨Below.refl _ _,fun _ _=>rfl⟩
 | v :: r,o,w=>by
  obtain ⟨h1,h2⟩:=setCs_keep hn r (o+1) (w.setCell ⟨b,o,none⟩ v)
  have h3:Below n w (w.setCell ⟨b,o,none⟩ v):=(Below.refl n w).setCell (p:=⟨b,o,none⟩) hn v
  exact ⟨h3.trans h1,fun j hj=>(h2 j hj).trans (Below.heap_setCell _ _ _ _ hj)⟩
theorem setCs_five {w:World}{b:Nat}{a0 a1 a2 a3 a4 v0 v1 v2 v3 v4:Value}{t:TypeId}(h:w.heap[b]?=some (.cells #[a0,a1,a2,a3,a4] t)):(w.setCells b 0 [v0,v1,v2,v3,v4]).heap[b]?=some (.cells #[v0,v1,v2,v3,v4] t):=by
 have h1:=heap_setCell_same w b 0 _ _ v0 h
 have h2:=heap_setCell_same _ b 1 _ _ v1 h1
 have h3:=heap_setCell_same _ b 2 _ _ v2 h2
 have h4:=heap_setCell_same _ b 3 _ _ v3 h3
 exact heap_setCell_same _ b 4 _ _ v4 h4
theorem setCs_four {w:World}{b:Nat}{a0 a1 a2 a3 v0 v1 v2 v3:Value}{t:TypeId}(h:w.heap[b]?=some (.cells #[a0,a1,a2,a3] t)):(w.setCells b 0 [v0,v1,v2,v3]).heap[b]?=some (.cells #[v0,v1,v2,v3] t):=by
 have h1:=heap_setCell_same w b 0 _ _ v0 h
 have h2:=heap_setCell_same _ b 1 _ _ v1 h1
 have h3:=heap_setCell_same _ b 2 _ _ v2 h2
 exact heap_setCell_same _ b 3 _ _ v3 h3
theorem there_of {w:World}{b:Nat}{cs:Array Value}{t:TypeId}(h:w.heap[b]?=some (.cells cs t)):w.there b 0 cs.size:=fun j hj=>⟨by rw [cQa h,Nat.zero_add,Array.getElem?_eq_getElem hj];rfl,by simp [World.frozen?,h]⟩
abbrev m9 (m:Nat):Nat:=m+1+1+1+1+1+1+1+1+1
abbrev m12 (m:Nat):Nat:=m9 m+1+1+1
def sgTS (m:Nat)(w:World):Prop:=(w.heap[m9 m]?=some (gBox (sgG (m+1+1+1+1)))/\w.heap[m12 m]?=some (tBox (sgT (m9 m+1) 1)))
theorem sgTS.cells {m:Nat}{w:World}(h:sgTS m w):(w.cell? ⟨m9 m,0,none⟩=some (.slice (some ⟨m+1+1+1+1,0,none⟩) 2 2)/\w.cell? ⟨m9 m,1,none⟩=some (.slice (some ⟨m+1+1+1+1+1,0,none⟩) 1 1)/\w.cell? ⟨m9 m,2,none⟩=some (.int .i64 0)/\w.cell? ⟨m9 m,3,none⟩=some (.slice (some ⟨m+1+1+1+1+1+1+1+1,0,none⟩) 2 2)/\w.cell? ⟨m9 m,4,none⟩=some (.slice none 0 0))/\w.cell? ⟨m12 m,0,none⟩=some (.int .i64 0)/\w.cell? ⟨m12 m,1,none⟩=some (.int .i64 0)/\w.cell? ⟨m12 m,2,none⟩=some (.string ByteArray.empty)/\w.cell? ⟨m12 m,3,none⟩=some (.slice (some ⟨m9 m+1+1,0,none⟩) 2 2) :=
 ⟨⟨(cQa h.1).trans rfl,(cQa h.1).trans rfl,(cQa h.1).trans rfl,(cQa h.1).trans rfl,(cQa h.1).trans rfl⟩,(cQa h.2).trans rfl,(cQa h.2).trans rfl,(cQa h.2).trans rfl,(cQa h.2).trans rfl⟩
set_option linter.unusedSimpArgs false in
set_option maxRecDepth 100000 in
set_option maxHeartbeats 4000000 in
theorem sample_W (w:World):Calls Tryz.prog 61 #[] w fun e w'=>e=.returned (.tuple #[(sgG (w.heap.size+1+1+1+1)).val,(sgT (w.heap.size+1+1+1+1+1+1+1+1+1+1) 1).val])/\SAt w.heap.size w w':=by
 go_enter Tryz.func61,Tryz.ntmps61
 go_upto_region 5 with fail
 obtain ⟨W5,hW5⟩:∃ W5,allO w (sgO w.heap.size)=W5:=⟨_,rfl⟩
 change Code.wp _ _ _ _ (allO w (sgO w.heap.size))
 have b5:∀ i o,(sgO w.heap.size)[i]?=some o->W5.heap[w.heap.size+i]?=some o:=fun i o h=>by rw [<- hW5];exact allO_get _ _ _ _ h
 have HB5:Hid (Below w.heap.size w W5/\W5.heap.size=w.heap.size+13):=by rw [<- hW5];exact ⟨allO_bel _ _,by rw [allO_size];rfl⟩
 rw [hW5]
 clear hW5
 obtain ⟨wd,hwd⟩:∃ wd:World,wd=W5.drew:=⟨_,rfl⟩
 have HD:Hid ((∀ i o,(sgO w.heap.size)[i]?=some o->wd.heap[w.heap.size+i]?=some o)/\Below w.heap.size w wd/\wd.heap.size=w.heap.size+13):=by rw [hwd];exact ⟨b5,HB5.out.1.drew,HB5.out.2⟩
 have hs:Hid (sgTS w.heap.size wd):=⟨HD.out.1 9 _ rfl,HD.out.1 12 _ rfl⟩
 clear b5 HB5
 refine wp_region_x (S:=SX 3 (fun _=>True) (sgTS w.heap.size)) (by kernel_rfl) ?_
 rw [<- hwd]
 clear hwd
 refine wXt (m:=3) (i:=0) (v:=?_) rfl (by kernel_rfl) (by kernel_rfl) (by decide) (by decide +kernel) (by decide +kernel) (fun _ _ _ h=>h) (by kernel_rfl) (Or.inl ⟨by rfl,?_⟩) (SX.both trivial hs.out) ?_
 rotate_left
 ·(intro w hSw;obtain ⟨⟨z0,z1,z2,z3,z4⟩,z5,z6,z7,z8⟩:=sgTS.cells hSw.2;clear hSw;go_simp;try (with_reducible rfl))
 (try simp only [Act.put,List.setIfInBounds_toArray,List.set_cons_zero,List.set_cons_succ])
 refine wXt (m:=3) (i:=1) (v:=?_) rfl (by kernel_rfl) (by kernel_rfl) (by decide) (by decide +kernel) (by decide +kernel) (fun _ _ _ h=>h) (by kernel_rfl) (Or.inl ⟨by rfl,?_⟩) (SX.both trivial hs.out) ?_
 rotate_left
 ·(intro w hSw;obtain ⟨⟨z0,z1,z2,z3,z4⟩,z5,z6,z7,z8⟩:=sgTS.cells hSw.2;clear hSw;go_simp;try (with_reducible rfl))
 (try simp only [Act.put,List.setIfInBounds_toArray,List.set_cons_zero,List.set_cons_succ])
 have th0:wd.there w.heap.size 0 5:=there_of (cs:=#[.slice none 0 0,.slice none 0 0,.int .i64 0,.slice none 0 0,.slice none 0 0]) (HD.out.1 0 _ rfl)
 refine wX1 (j:=2) (by decide +kernel) rfl (fun K' hK=>?_)
 refine step_storeM rfl 63 (.tmp 0) (.tmp 26) rfl w.heap.size #[.slice (some ⟨w.heap.size+1+1+1+1,0,none⟩) 2 2,.slice (some ⟨w.heap.size+1+1+1+1+1,0,none⟩) 1 1,.int .i64 0,.slice (some ⟨w.heap.size+1+1+1+1+1+1+1+1,0,none⟩) 2 2,.slice none 0 0] rfl rfl th0 (by kernel_rfl) (by kernel_rfl) ?_
 obtain ⟨w6,hw6⟩:∃ w6,wd.setCells w.heap.size 0 #[Value.slice (some ⟨w.heap.size+1+1+1+1,0,none⟩) 2 2,.slice (some ⟨w.heap.size+1+1+1+1+1,0,none⟩) 1 1,.int .i64 0,.slice (some ⟨w.heap.size+1+1+1+1+1+1+1+1,0,none⟩) 2 2,.slice none 0 0].toList=w6:=⟨_,rfl⟩
 have H6:Hid ((∀ i o,1<=i->(sgO w.heap.size)[i]?=some o->w6.heap[w.heap.size+i]?=some o)/\Below w.heap.size w w6/\w.heap.size+12 < w6.heap.size/\w6.heap[w.heap.size]?=some (gBox (sgG (w.heap.size+1+1+1+1)))):=by
  obtain ⟨k1,k2⟩:=setCs_keep (n:=w.heap.size) (Nat.le_refl _) #[Value.slice (some ⟨w.heap.size+1+1+1+1,0,none⟩) 2 2,.slice (some ⟨w.heap.size+1+1+1+1+1,0,none⟩) 1 1,.int .i64 0,.slice (some ⟨w.heap.size+1+1+1+1+1+1+1+1,0,none⟩) 2 2,.slice none 0 0].toList 0 wd
  rw [hw6] at k1 k2
  refine ⟨fun i o hi h=>(k2 _ (by omega)).trans (HD.out.1 i o h),HD.out.2.1.trans k1,by have:=k1.size;have:=HD.out.2.2;omega,?_⟩
  rw [<- hw6]
  exact setCs_five (HD.out.1 0 _ rfl)
 rw [hw6]
 clear hw6
 have hs6:Hid (sgTS w.heap.size w6):=⟨H6.out.1 9 _ (by omega) rfl,H6.out.1 12 _ (by omega) rfl⟩
 refine hK.out _ _ (SX.both trivial hs6.out) ?_
 clear hK K' HD hs
 (try simp only [Act.put,List.setIfInBounds_toArray,List.set_cons_zero,List.set_cons_succ])
 have th1:w6.there (w.heap.size+1) 0 4:=there_of (cs:=#[.int .i64 0,.int .i64 0,.string ByteArray.empty,.slice none 0 0]) (H6.out.1 1 _ (by omega) rfl)
 refine wX1 (j:=3) (by decide +kernel) rfl (fun K' hK=>?_)
 refine step_storeM rfl 26 (.tmp 1) (.tmp 27) rfl (w.heap.size+1) #[.int .i64 0,.int .i64 0,.string ByteArray.empty,.slice (some ⟨m9 w.heap.size+1+1,0,none⟩) 2 2] rfl rfl th1 (by kernel_rfl) (by kernel_rfl) ?_
 obtain ⟨w7,hw7⟩:∃ w7,w6.setCells (w.heap.size+1) 0 #[Value.int .i64 0,.int .i64 0,.string ByteArray.empty,.slice (some ⟨m9 w.heap.size+1+1,0,none⟩) 2 2].toList=w7:=⟨_,rfl⟩
 have H7:Hid (SAt w.heap.size w w7/\w7.heap[w.heap.size]?=some (gBox (sgG (w.heap.size+1+1+1+1)))/\w7.heap[w.heap.size+1]?=some (tBox (sgT (m9 w.heap.size+1) 1))):=by
  obtain ⟨k1,k2⟩:=setCs_keep (n:=w.heap.size) (b:=w.heap.size+1) (by omega) #[Value.int .i64 0,.int .i64 0,.string ByteArray.empty,.slice (some ⟨m9 w.heap.size+1+1,0,none⟩) 2 2].toList 0 w6
  rw [hw7] at k1 k2
  refine ⟨⟨H6.out.2.1.trans k1,by have:=k1.size;have:=H6.out.2.2.1;omega,fun i o hi h=>(k2 _ (by omega)).trans (H6.out.1 i o (by omega) h)⟩,(k2 _ (by omega)).trans H6.out.2.2.2,?_⟩
  rw [<- hw7]
  exact setCs_four (H6.out.1 1 _ (by omega) rfl)
 rw [hw7]
 clear hw7
 refine hK.out _ _ (SX.one trivial (by kernel_rfl)) ?_
 clear hK K' H6 hs6
 (try simp only [Act.put,List.setIfInBounds_toArray,List.set_cons_zero,List.set_cons_succ])
 refine wXd (by decide +kernel) ?_
 obtain ⟨x0,x1,x2,x3,x4⟩:=gbx_cells H7.out.2.1
 obtain ⟨y0,y1,y2,y3⟩:=tb_cells H7.out.2.2
 go_wp2
 refine bodyPost_ret (v:=.tuple #[(sgG (w.heap.size+1+1+1+1)).val,(sgT (m9 w.heap.size+1) 1).val]) (by simp [results,Tryz.results61,go_sem,x0,x1,x2,x3,x4,y0,y1,y2,y3]) rfl ?_
 exact ⟨rfl,H7.out.1⟩
theorem sgG_run (n m:Nat):runU (sgG n) (ckT (sgG n) (0,0) false (sgT m 1)) 0=(0,4):=by kernel_rfl
theorem sgG_run0 (n m:Nat):runU (sgG n) (ckT (sgG n) (0,0) false (sgT m 0)) 0=(82,3):=by kernel_rfl
theorem sgT_sz (m:Nat)(k:Int):szT (sgT m k)<=100000000:=by
 have:szT (sgT m k)=4:=by rfl
 omega
theorem sgG_check (n:Nat):cG_ (sgG n) (cF_ (sgG n).ts (sgG n).ns)=(0,0):=by rfl
structure SAk (k:Int)(m:Nat)(w W:World):Prop where
 bel:Below m w W
 sz:m+12 < W.heap.size
 bk:∀ i o,2<=i->i≠10->(sgO m)[i]?=some o->W.heap[m+i]?=some o
 b10:W.heap[m9 m+1]?=some (tBox (sgL k))
theorem SAt.k {m:Nat}{w W:World}(h:SAt m w W):SAk 1 m w W:=⟨h.bel,h.sz,fun i o hi _ q=>h.bk i o hi q,h.bk 10 _ (by omega) rfl⟩
theorem SAk.later {k:Int}{m:Nat}{w W W':World}(h:SAk k m w W)(hb:Below W.heap.size W W'):SAk k m w W' :=
 have e:∀ (j:Nat) (o:Obj),W.heap[j]?=some o->W'.heap[j]?=some o:=fun j o q=>(hb.block _ (lt_of_block q)).trans q
 ⟨h.bel.trans (hb.mono (Nat.le_trans (Nat.le_add_right _ _) (Nat.le_of_lt h.sz))),Nat.lt_of_lt_of_le h.sz hb.size,fun i o hi hn q=>e _ _ (h.bk i o hi hn q),e _ _ h.b10⟩
theorem SAk.gat {k:Int}{m:Nat}{w W:World}(h:SAk k m w W):GAt 140737488355328 W (sgG (m+1+1+1+1)):=by
 have h4:=h.bk 4 _ (by omega) (by omega) rfl
 have h5:=h.bk 5 _ (by omega) (by omega) rfl
 have h6:=h.bk 6 _ (by omega) (by omega) rfl
 have h7:=h.bk 7 _ (by omega) (by omega) rfl
 have h8:=h.bk 8 _ (by omega) (by omega) rfl
 have hz:=h.sz
 refine GAt.mono (n:=8) ⟨?_,?_,⟨?_,?_⟩,⟨?_,?_⟩,?_,?_,by simp [sgG],by simp [sgG],by simp [sgG],by simp [sgG],?_,?_⟩ (by decide)
 ·intro _
  refine ⟨m+4,0,rfl,by omega,fun i hi=>?_⟩
  have hi:i < 2:=hi
  rw [cQa h4]
  rcases (show i=0∨i=1 by omega) with rfl | rfl<;>rfl
 ·intro _
  refine ⟨m+5,0,rfl,by omega,fun i hi=>?_⟩
  have hi:i < 1:=hi
  obtain rfl:i=0:=by omega
  rw [cQa h5]
  rfl
 ·intro _
  refine ⟨m+8,0,rfl,by omega,fun i hi=>?_⟩
  have hi:i < 2:=hi
  rw [cQa h8,cQa h8,cQa h8]
  rcases (show i=0∨i=1 by omega) with rfl | rfl<;>exact ⟨rfl,rfl,rfl⟩
 ·intro p hp hn
  simp only [sgG,List.mem_cons,List.not_mem_nil,or_false] at hp
  rcases hp with rfl | rfl
  ·refine ⟨m+6,0,rfl,by omega,fun i hi=>?_⟩
   have hi:i < 2:=hi
   rw [cQa h6,cQa h6]
   rcases (show i=0∨i=1 by omega) with rfl | rfl<;>exact ⟨rfl,rfl⟩
  ·refine ⟨m+7,0,rfl,by omega,fun i hi=>?_⟩
   have hi:i < 1:=hi
   obtain rfl:i=0:=by omega
   rw [cQa h7,cQa h7]
   exact ⟨rfl,rfl⟩
 ·intro hn
  exact absurd rfl hn
 ·intro p hp hn
  simp [sgG] at hp
 ·intro s hs;simp only [sgG,List.mem_cons,List.not_mem_nil,or_false] at hs;rcases hs with rfl | rfl<;>first | decide | simp
 ·intro s hs;simp only [sgG,List.mem_cons,List.not_mem_nil,or_false] at hs;rcases hs with rfl<;>first | decide | simp
 ·intro p hp;simp only [sgG,List.mem_cons,List.not_mem_nil,or_false] at hp;rcases hp with rfl | rfl<;>first | decide | simp
 ·intro p hp;simp [sgG] at hp
theorem sgL_at (w:World)(k:Int):TAt w (sgL k):=TAt.mk _ (fun h=>absurd rfl h) (fun x hx=>by cases hx)
theorem SAk.tat {k:Int}{m:Nat}{w W:World}(h:SAk k m w W):TAt W (sgT (m9 m+1) k):=by
 have h10:=h.b10
 have h11:=h.bk 11 _ (by omega) (by omega) rfl
 have hz:=h.sz
 refine TAt.mk _ ?_ ?_
 ·intro _
  refine ⟨m+11,0,rfl,by omega,fun i hi=>?_⟩
  have hi:i < 2:=hi
  rw [cQa h11,cQa h11,cQa h11,cQa h11]
  rcases (show i=0∨i=1 by omega) with rfl | rfl<;>exact ⟨rfl,rfl,rfl,rfl⟩
 ·intro x hx
  have hx:x∈[sgL 0,TV.mk 1 0 ByteArray.empty (some ⟨m9 m+1,0,none⟩) 1 [sgL k]]:=hx
  simp only [List.mem_cons,List.not_mem_nil,or_false] at hx
  rcases hx with rfl | rfl
  ·exact sgL_at _ _
  ·refine TAt.mk _ ?_ ?_
   ·intro _
    refine ⟨m9 m+1,0,rfl,lt_of_block h10,fun i hi=>?_⟩
    have hi:i < 1:=hi
    obtain rfl:i=0:=by omega
    rw [cQa h10,cQa h10,cQa h10,cQa h10]
    exact ⟨rfl,rfl,rfl,rfl⟩
   ·intro y hy
    have hy:y∈[sgL k]:=hy
    simp only [List.mem_cons,List.not_mem_nil,or_false] at hy
    subst hy
    exact sgL_at _ _
structure SWk (k:Int)(m:Nat)(w:World)(gb:Nat)(G:GV)(W:World):Prop where
 sa:SAk k m w W
 gg:W.heap[gb]?=some (gBox G)
 tb:W.heap[gb+1]?=some (tBox (sgT (m9 m+1) 1))
 gt:m+12 < gb
theorem SWk.later {k:Int}{m:Nat}{w:World}{gb:Nat}{G:GV}{W W':World}(h:SWk k m w gb G W)(hb:Below W.heap.size W W'):SWk k m w gb G W':=⟨h.sa.later hb,(hb.block _ (lt_of_block h.gg)).trans h.gg,(hb.block _ (lt_of_block h.tb)).trans h.tb,h.gt⟩
theorem SWk.turn {m:Nat}{w:World}{gb:Nat}{G:GV}{W:World}(h:SWk 1 m w gb G W):SWk 0 m w gb G (W.setCell ⟨m9 m+1,1,none⟩ (.int .i64 0)):=by
 have ho:∀ j,j≠m9 m+1->(W.setCell ⟨m9 m+1,1,none⟩ (.int .i64 0)).heap[j]?=W.heap[j]?:=fun j hj=>Below.heap_setCell _ _ _ _ hj
 have hz:(W.setCell ⟨m9 m+1,1,none⟩ (.int .i64 0)).heap.size=W.heap.size:=by simp [World.setCell]
 have hg:=h.gt
 refine ⟨⟨h.sa.bel.setCell (p:=⟨m9 m+1,1,none⟩) (by show m<=m9 m+1;unfold m9;omega) _,by rw [hz];exact h.sa.sz,fun i o hi hn q=>(ho _ (by unfold m9;omega)).trans (h.sa.bk i o hi hn q),heap_setCell_same W (m9 m+1) 1 _ _ _ h.sa.b10⟩,(ho _ (by unfold m9;omega)).trans h.gg,(ho _ (by unfold m9;omega)).trans h.tb,h.gt⟩
theorem num8_W (n:Int)(w:World):Calls Tryz.prog 12 #[.int .i64 n] w fun e w'=>e=.returned (.int .i64 n)/\w'=w:=by
 go_enter Tryz.func12,Tryz.ntmps12
 go_wp2
 go_ret
 exact ⟨rfl,rfl⟩
set_option linter.unusedSimpArgs false in
set_option maxRecDepth 100000 in
set_option maxHeartbeats 4000000 in
theorem works_W (w:World):Calls Tryz.prog 24 #[] w fun e w'=>e=.returned (.bool true)/\Below w.heap.size w w':=by
 have CS:=sample_W w
 obtain ⟨m,hm⟩:∃ m,w.heap.size=m:=⟨_,rfl⟩
 rw [hm] at CS ⊢
 have HC:Hid (Calls Tryz.prog 61 #[] w fun e w'=>e=.returned (.tuple #[(sgG (m+1+1+1+1)).val,(sgT (m9 m+1) 1).val])/\SAk 1 m w w'):=CS.mono fun e w' ⟨h1,h2⟩=>⟨h1,h2.k⟩
 have CK1:Hid (∀ W,SAk 1 m w W->Calls Tryz.prog 62 #[(sgG (m+1+1+1+1)).val,(sgT (m9 m+1) 1).val] W fun e w'=>e=.returned (.tuple #[.int .i64 0,.int .i64 4])/\Below W.heap.size W w'):=fun W h=>by
  have:=Check_W (sgG (m+1+1+1+1)) (sgT (m9 m+1) 1) W h.gat (by simp [sgG]) 0 0 (sgG_check _) h.tat (sgT_sz _ _)
  rwa [sgG_run] at this
 have CK0:Hid (∀ W,SAk 0 m w W->Calls Tryz.prog 62 #[(sgG (m+1+1+1+1)).val,(sgT (m9 m+1) 1).val] W fun e w'=>e=.returned (.tuple #[.int .i64 82,.int .i64 3])/\Below W.heap.size W w'):=fun W h=>by
  have:=Check_W (sgG (m+1+1+1+1)) (sgT (m9 m+1) 0) W h.gat (by simp [sgG]) 0 0 (sgG_check _) h.tat (sgT_sz _ _)
  rw [sgG_run0] at this
  exact this
 clear CS hm
 generalize hG:sgG (m+1+1+1+1)=G at *
 go_enter Tryz.func24,Tryz.ntmps24
 go_upto_region 2 with (go_at_call 61;refine HC.out.mono ?_;rintro e w1 ⟨rfl,s1⟩;have S1:Hid (SAk 1 m w w1):=s1;clear s1)
 obtain ⟨gb,hgb⟩:∃ gb,w1.heap.size=gb:=⟨_,rfl⟩
 have W0:Hid (SWk 1 m w gb G ((w1.alloc (gBox G)).alloc (tBox (sgT (m9 m+1) 1)))):=by
  have h1:=bAl w1 (gBox G)
  have h2:=bAl (w1.alloc (gBox G)) (tBox (sgT (m9 m+1) 1))
  have h3:=h1.trans (h2.mono h1.size)
  refine ⟨S1.out.later h3,?_,?_,?_⟩
  ·rw [<- hgb]
   exact (h2.block _ (by simp)).trans (heap_alloc_new _ _)
  ·have:=heap_alloc_new (w1.alloc (gBox G)) (tBox (sgT (m9 m+1) 1))
   rwa [show (w1.alloc (gBox G)).heap.size=gb+1 by simp [hgb]] at this
  ·rw [<- hgb];exact S1.out.sz
 refine wp_world (fun w'=>SWk 1 m w gb G w') W0.out fun w2 k2=>?_
 have K2:Hid (SWk 1 m w gb G w2):=k2
 rw [hgb]
 clear W0 hgb k2 S1 HC hG
 obtain ⟨x0,x1,x2,x3,x4⟩:=gbx_cells K2.out.gg
 obtain ⟨y0,y1,y2,y3⟩:=tb_cells K2.out.tb
 go_upto_region 3 with (go_at_call 62;refine (CK1.out _ K2.out.sa).mono ?_;rintro e w3 ⟨rfl,b3⟩;have K3:Hid (SWk 1 m w gb G w3):=K2.out.later b3;clear b3 x0 x1 x2 x3 x4 y0 y1 y2 y3)
 have z3:w3.cell? ⟨gb+1,3,none⟩=some (.slice (some ⟨m9 m+1+1,0,none⟩) 2 2):=(cQa K3.out.tb).trans rfl
 have z7:w3.cell? ⟨m9 m+1+1,7,none⟩=some (.slice (some ⟨m9 m+1,0,none⟩) 1 1):=(cQa (K3.out.sa.bk 11 _ (by omega) (by omega) rfl)).trans rfl
 have z1:w3.cell? ⟨m9 m+1,1,none⟩=some (.int .i64 1):=(cQa K3.out.sa.b10).trans rfl
 have zf:w3.frozen? ⟨m9 m+1,1,none⟩=false:=by simp [World.frozen?,K3.out.sa.b10]
 have K4:Hid (SWk 0 m w gb G (w3.setCell ⟨m9 m+1,1,none⟩ (.int .i64 0))):=K3.out.turn
 clear K2
 go_upto_region 4 with fail
 refine wp_world (fun w'=>SWk 0 m w gb G w') K4.out fun w4 k4=>?_
 have K5:Hid (SWk 0 m w gb G w4):=k4
 clear K4 k4 K3 z3 z7 z1 zf
 obtain ⟨x0,x1,x2,x3,x4⟩:=gbx_cells K5.out.gg
 obtain ⟨y0,y1,y2,y3⟩:=tb_cells K5.out.tb
 go_wp2_with (first
  | (go_at_call 62;refine (CK0.out _ K5.out.sa).mono ?_;rintro e w5 ⟨rfl,b5⟩;have R:Hid (Below m w w5):=(K5.out.later b5).sa.bel;clear b5 x0 x1 x2 x3 x4 y0 y1 y2 y3)
  | (go_at_call 12;refine (num8_W _ _).mono ?_;rintro e w6 ⟨rfl,hw6⟩;obtain rfl:=hw6.symm))
 go_ret
 exact ⟨rfl,R.out⟩
def TkRow (w:World)(ao:Option Addr)(l:List (Int×ByteArray)):Prop:=l≠[]->∃ b off,ao=some ⟨b,off,none⟩/\b < w.heap.size/\∀ i,i < l.length->w.cell? ⟨b,off+i*2,none⟩=some (.int .i64 (l.getD i (0,ByteArray.empty)).1)/\w.cell? ⟨b,off+i*2+1,none⟩=some (.string (l.getD i (0,ByteArray.empty)).2)
theorem TkRow.later {w w':World}{ao:Option Addr}{l:List (Int×ByteArray)}(h:TkRow w ao l)(hb:Below w.heap.size w w'):TkRow w' ao l:=by
 intro hne
 obtain ⟨b,off,rfl,hl,hc⟩:=h hne
 have e:∀ j,w'.cell? ⟨b,j,none⟩=w.cell? ⟨b,j,none⟩:=fun j=>hb.cell (p:=⟨b,j,none⟩) hl
 refine ⟨b,off,rfl,Nat.lt_of_lt_of_le hl hb.size,fun i hi=>?_⟩
 rw [e,e]
 exact hc i hi
def tkV (t:TV):Int×ByteArray:=(t.kind,t.tx)
def sgV (t:TV):Int×Int×ByteArray×Nat:=(t.prod,t.kind,t.tx,t.kids.length)
def smF:Nat->TV->TV->Prop
 | 0,_,_=>False
 | n+1,a,b=>sgV a=sgV b/\∀ i (h:i < a.kids.length) (h':i < b.kids.length),smF n a.kids[i] b.kids[i]
def samV (a b:TV):Prop:=smF (tsz a) a b
theorem smF_any:∀ (n m:Nat) (a b:TV),tsz a<=n->tsz a<=m->(smF n a b ↔ smF m a b)
 | 0,_,a,_,h,_=>by have:=tsz_pos a;omega
 | _+1,0,a,_,_,h=>by have:=tsz_pos a;omega
 | n+1,m+1,a,b,h,h'=>by
  rw [smF,smF]
  constructor
  ·exact fun ⟨x,y⟩=>⟨x,fun i hi hi'=>(smF_any n m _ _ (by have:=kid_lt (List.getElem_mem hi);omega) (by have:=kid_lt (List.getElem_mem hi);omega)).1 (y i hi hi')⟩
  ·exact fun ⟨x,y⟩=>⟨x,fun i hi hi'=>(smF_any n m _ _ (by have:=kid_lt (List.getElem_mem hi);omega) (by have:=kid_lt (List.getElem_mem hi);omega)).2 (y i hi hi')⟩
theorem samV_iff (a b:TV):samV a b ↔ sgV a=sgV b/\∀ i (h:i < a.kids.length) (h':i < b.kids.length),samV a.kids[i] b.kids[i]:=by
 obtain ⟨n,hn⟩:∃ n,tsz a=n+1:=⟨tsz a - 1,by have:=tsz_pos a;omega⟩
 unfold samV
 rw [hn,smF]
 constructor
 ·exact fun ⟨x,y⟩=>⟨x,fun i hi hi'=>(smF_any _ _ _ _ (Nat.le_refl _) (by have:=kid_lt (List.getElem_mem hi);omega)).2 (y i hi hi')⟩
 ·exact fun ⟨x,y⟩=>⟨x,fun i hi hi'=>(smF_any _ _ _ _ (Nat.le_refl _) (by have:=kid_lt (List.getElem_mem hi);omega)).1 (y i hi hi')⟩
theorem samV_refl (a:TV):samV a a:=by
 induction a using TV.ind with
 | _ a ih=>exact (samV_iff a a).2 ⟨rfl,fun i h _=>ih _ (List.getElem_mem h)⟩
theorem samV_size (a:TV):∀ b,samV a b->szT a=szT b:=by
 induction a using TV.ind with
 | _ a ih =>
  intro b h
  obtain ⟨h1,h2⟩:=(samV_iff a b).1 h
  have hl:a.kids.length=b.kids.length:=by unfold sgV at h1;simp only [Prod.mk.injEq] at h1;exact h1.2.2.2
  rw [szT_eq,szT_eq]
  congr 1
  have:∀ (l m:List TV),l.length=m.length->(∀ k∈l,k∈a.kids)->(∀ i (h:i < l.length) (h':i < m.length),samV l[i] m[i])->szL l=szL m:=by
   intro l
   induction l with
   | nil=>intro m hm _ _;cases m with | nil=>rfl | cons=>simp at hm
   | cons x l ihl =>
    intro m hm hk hs
    cases m with
    | nil=>simp at hm
    | cons y m =>
     have e1:=ih x (hk x List.mem_cons_self) y (hs 0 (by simp) (by simp))
     have e2:=ihl m (by simpa using hm) (fun k hk'=>hk k (List.mem_cons_of_mem _ hk')) (fun i h h'=>hs (i+1) (by simpa using h) (by simpa using h'))
     simp only [szL,List.map_cons,List.sum_cons] at e2 ⊢
     omega
  exact this a.kids b.kids hl (fun _ h=>h) h2
end Go.Proofs.YteciabdjkaackaaGreat
