import Derived.Test.YteciabdjkaackaaGreatPTB21ToTB23
namespace Go.Proofs.YteciabdjkaackaaGreat
set_option linter.unusedVariables false
open Go.RowKit
theorem wpAnyX_takeS8 {P:Program}{ops:Array Oper}{Q:Exit->Act->World->Prop}{md:Region.Mode}{i:Nat}{oi:Oper}{v:Value}{S:World->Prop}{fuel:Nat}{listed:Array Bool}{a:Act}{w:World}(hi':ops.toList[i]?=some oi)
  (hs:Region.noSelect ops=true) (hf:Region.free md ops listed i=true) (hr:(Region.ready md ops listed).contains i=true)
  (hQ:∀ c a w,Q (.panic c) (a.put oi.dst v) w->Q (.panic c) a w) (hy:YieldsIf P ops S oi v a) (hS:S w)
  (h:wpAnyX P md ops Q (fun _=>S) fuel (listed.setIfInBounds i true) (a.put oi.dst v) w):wpAnyX P md ops Q (fun _=>S) (fuel+1) listed a w :=
 have hi:ops[i]?=some oi:=by rw [<- Array.getElem?_toList];exact hi'
 wpAnyX_first (Cl:=fun _=>True) (T:=S) hi (Region.noSelect_spec hs) hQ (fun _ _ _ _=>trivial) (fun _ _ _ _ h=>h) (fun _ _=>Iff.rfl) fuel listed a w (Region.free_spec hi hf) (by simpa using hr) trivial hy hS h
theorem wpX_world8 {P:Program}{md:Region.Mode}{ops:Array Oper}{Q:Exit->Act->World->Prop}{S:Array Bool->World->Prop}{n:Nat}{L:Array Bool}{a:Act}{w:World}(I:World->Prop)(h:I w)(k:∀ w',I w'->wpAnyX P md ops Q S n L a w'):wpAnyX P md ops Q S n L a w:=k w h
theorem run_ti {o:Oper}{a:Act}{t0:TypeId}{v0:Value}{x0:Operand}(hop:o.op=Op.call { callee:=Callee.value (Operand.func 90),args:=#[x0],argTypes:=#[t0] })(h0:a.eval x0=v0)(w:World):(execOp a.eval o).run Tryz.prog w=.ok (.enter 90 #[v0]) w:=by
 have hf:a.eval (Operand.func 90)=.func (.func 90) #[] #[]:=rfl
 simp [execOp,hop,resolve,invoke,h0,hf,Deferred.ofValue]
theorem run_tt {o:Oper}{a:Act}{t0:TypeId}{v0:Value}{x0:Operand}(hop:o.op=Op.call { callee:=Callee.value (Operand.func 91),args:=#[x0],argTypes:=#[t0] })(h0:a.eval x0=v0)(w:World):(execOp a.eval o).run Tryz.prog w=.ok (.enter 91 #[v0]) w:=by
 have hf:a.eval (Operand.func 91)=.func (.func 91) #[] #[]:=rfl
 simp [execOp,hop,resolve,invoke,h0,hf,Deferred.ofValue]
theorem run_de {o:Oper}{a:Act}{t0 t1 t2:TypeId}{v0 v1 v2:Value}{x0 x1 x2:Operand}(hop:o.op=Op.call { callee:=Callee.value (Operand.func 70),args:=#[x0,x1,x2],argTypes:=#[t0,t1,t2] })(h0:a.eval x0=v0)(h1:a.eval x1=v1)(h2:a.eval x2=v2)(w:World):(execOp a.eval o).run Tryz.prog w=.ok (.enter 70 #[v0,v1,v2]) w:=by
 have hf:a.eval (Operand.func 70)=.func (.func 70) #[] #[]:=rfl
 simp [execOp,hop,resolve,invoke,h0,h1,h2,hf,Deferred.ofValue]
def mirU (g:GV)(l:List Int)(L:List (Int×ByteArray)):Option TV×Int×Int:=match deriveU g.rev l.reverse L.reverse with
 | (some t,_,_)=>(some (mirT t),0,0)
 | (none,_,_)=>(none,81,0)
theorem rev_same {g g':GV}(h:SameG g.rev g'):g'.ps.length=g.ps.length:=by
 have:=congrArg List.length h.ps
 simpa [GV.rev] using this
def anT (u:Option TV×Int×Int):TV×Int×Int:=match u with
 | (none,e1,e2)=>(TV.none,e1,e2)
 | (some t,_,_)=>(t,0,0)
theorem owT_none (N:Nat)(w:World):OwT N w TV.none:=⟨TAt.mk _ (fun h=>absurd rfl h) (fun k hk=>by cases hk),fun a=>by show (adsL []).count a<=1;simp [adsL],fun a ha=>by cases ha⟩
theorem ansE_T {N:Nat}{u:Option TV×Int×Int}{e:Ending}{w':World}(h:ansE N u e w'):∃ T,samV T (anT u).1/\OwT N w' T/\e=.returned (.tuple #[T.val,.int .i64 (anT u).2.1,.int .i64 (anT u).2.2]):=by
 obtain ⟨ot,e1,e2⟩:=u
 cases ot with
 | none=>exact ⟨TV.none,samV_refl _,owT_none _ _,h⟩
 | some t=>exact h
structure MrJ (W:World)(l:List Int)(L:List (Int×ByteArray))(t0:TV)(A:Nat)(x y:Option Addr×Nat)(T:TV)(b:Option Nat)(w':World):Prop where
 bel:Below W.heap.size W w'
 x1:1<=A->InRow w' x.1 l.reverse
 y2:2<=A->TkRow w' y.1 L.reverse
 t3:3<=A->samV T t0/\OwT W.heap.size w' T
 b4:∀ k,b=some k->w'.heap[k]?=some zTrB/\W.heap.size<=k/\(3<=A->∀ a∈adsL (kidsA T),a.1≠k)
theorem MrJ.later {W:World}{l:List Int}{L:List (Int×ByteArray)}{t0:TV}{A:Nat}{x y:Option Addr×Nat}{T:TV}{b:Option Nat}{w w':World}(h:MrJ W l L t0 A x y T b w)(hb:Below w.heap.size w w'):MrJ W l L t0 A x y T b w' :=
 ⟨h.bel.trans (hb.mono h.bel.size),fun hA=>(h.x1 hA).later hb,fun hA=>(h.y2 hA).later hb,fun hA=>⟨(h.t3 hA).1,(h.t3 hA).2.later hb⟩,fun k e=>⟨(hb.block _ (lt_of_block (h.b4 k e).1)).trans (h.b4 k e).1,(h.b4 k e).2⟩⟩
theorem MrJ.one {W:World}{l:List Int}{L:List (Int×ByteArray)}{t0:TV}{x y:Option Addr×Nat}{T:TV}{b:Option Nat}{w w':World}{a:Option Addr}{c:Nat}(h:MrJ W l L t0 0 x y T b w)(hr:InRow w' a l.reverse)(hb:Below w.heap.size w w'):MrJ W l L t0 1 (a,c) y T b w':=by
 have k:=h.later hb
 exact ⟨k.bel,fun _=>hr,(fun h=>by omega),(fun h=>by omega),fun j e=>⟨(k.b4 j e).1,(k.b4 j e).2.1,fun h=>by omega⟩⟩
theorem MrJ.two {W:World}{l:List Int}{L:List (Int×ByteArray)}{t0:TV}{x y:Option Addr×Nat}{T:TV}{b:Option Nat}{w w':World}{a:Option Addr}{c:Nat}(h:MrJ W l L t0 1 x y T b w)(hr:TkRow w' a L.reverse)(hb:Below w.heap.size w w'):MrJ W l L t0 2 x (a,c) T b w':=by
 have k:=h.later hb
 exact ⟨k.bel,fun _=>k.x1 (by omega),fun _=>hr,(fun h=>by omega),fun j e=>⟨(k.b4 j e).1,(k.b4 j e).2.1,fun h=>by omega⟩⟩
theorem MrJ.three {W:World}{l:List Int}{L:List (Int×ByteArray)}{t0:TV}{x y:Option Addr×Nat}{T T':TV}{b:Option Nat}{w w':World}(h:MrJ W l L t0 2 x y T b w)(hb:Below w.heap.size w w')(sm:samV T' t0)(ow:OwT w.heap.size w' T'):MrJ W l L t0 3 x y T' b w':=by
 have k:=h.later hb
 refine ⟨k.bel,fun _=>k.x1 (by omega),fun _=>k.y2 (by omega),fun _=>⟨sm,ow.mono h.bel.size⟩,fun j e=>⟨(k.b4 j e).1,(k.b4 j e).2.1,fun _ a ha ej=>?_⟩⟩
 have h1:=(ow.ty a ha).1
 have h2:=lt_of_block (h.b4 j e).1
 omega
theorem MrJ.box {W:World}{l:List Int}{L:List (Int×ByteArray)}{t0:TV}{A:Nat}{x y:Option Addr×Nat}{T:TV}{w:World}(h:MrJ W l L t0 A x y T none w):MrJ W l L t0 A x y T (some w.heap.size) (w.alloc zTrB):=by
 have k:=h.later (bAl w zTrB)
 refine ⟨k.bel,k.x1,k.y2,k.t3,fun j e=>?_⟩
 cases e
 refine ⟨heap_alloc_new _ _,h.bel.size,fun hA a ha ej=>?_⟩
 have:=kids_lt (h.t3 hA).2.ta ha
 omega
structure MrE (w W:World)(t0:TV)(k:Nat)(T:TV)(w':World):Prop where
 bel:Below w.heap.size w w'
 rb:w'.heap[w.heap.size+1]?=some zTrB
 tb:TBx w' k 0 T
 ty:∃ cs,w'.heap[k]?=some (.cells cs 26)
 sm:samV T t0
 ow:OwT W.heap.size w' T
 kn:∀ a∈adsL (kidsA T),a.1≠k
 kw:W.heap.size<=k
 ww:w.heap.size+1 < W.heap.size
theorem mrE_of {w W w':World}{t0 T:TV}{k:Nat}(a1:Below w.heap.size w W)(a2:W.heap[w.heap.size+1]?=some zTrB)(a3:w.heap.size+1 < W.heap.size)(h1:Below W.heap.size W w')(h2:w'.heap[k]?=some zTrB)(h3:W.heap.size<=k)(h4:samV T t0)(h5:OwT W.heap.size w' T)(h6:∀ a∈adsL (kidsA T),a.1≠k):MrE w W t0 k T (set4 w' k 0 T):=by
 have hk:=a1.size
 have b:=a1.trans (h1.mono hk)
 refine ⟨set4_below b 0 T (by omega),?_,set4_tbx T ((cQa h2).trans rfl) ((cQa h2).trans rfl) ((cQa h2).trans rfl) ((cQa h2).trans rfl) (lt_of_block h2),set4_ty 0 T h2,h4,h5.kept (fun a ha=>set4_other _ _ _ _ _ (h6 a ha)) (by rw [set4_size];exact Nat.le_refl _),h6,h3,a3⟩
 rw [set4_other _ _ _ _ _ (by omega)]
 exact (h1.block _ a3).trans a2
set_option linter.unusedSimpArgs false in
set_option maxRecDepth 100000 in
set_option maxHeartbeats 4000000 in
theorem mirrored_W {w:World}{g:GV}{pa wa:Option Addr}{pc wc:Nat}{l:List Int}{L:List (Int×ByteArray)}(hne:l≠[])(hl:∀ n∈l,0<=n/\n < g.ps.length)(hg:GAt 140737488355328 w g)(hpc:g.ps.length<=g.pc)(at_:Int)(hE:cG_ g (cF_ g.ts g.ns)=(0,at_))(hli:InRow w pa l)(hLi:TkRow w wa L)(hb:l.length<=1048576)(hB:L.length<=1048576):Calls Tryz.prog 71 #[g.val,.slice pa l.length pc,.slice wa L.length wc] w fun e w'=>Below w.heap.size w w'/\ansE w.heap.size (mirU g l L) e w':=by
 have X0:Hid (Below w.heap.size w ((w.alloc (gBox g)).alloc zTrB)/\((w.alloc (gBox g)).alloc zTrB).heap[w.heap.size]?=some (gBox g)/\((w.alloc (gBox g)).alloc zTrB).heap[w.heap.size+1]?=some zTrB):=two_allocT w (gBox g) zTrB
 have CR:Hid (∀ w',Below w.heap.size w w'->Calls Tryz.prog 89 #[g.val] w' fun e w''=>∃ g',e=.returned (.tuple #[g'.val,.int .i64 0])/\Below w'.heap.size w' w''/\SameG g.rev g'/\GAt 140737488355328 w'' g'):=fun w' hbw=>(reverse_ok g w' (hg.later hbw) hpc at_ hE).mono fun e w'' ⟨g',A,H,E,pb,lb,tb,nb,q1,q2,q3,q4⟩=>by
  have ok':OkC g':=OkC.of (by
   rw [same_check q2]
   have e:cF_ g.rev.ts g.rev.ns=cF_ g.ts g.ns:=rfl
   rw [e,check_rev8,hE])
  exact ⟨g',q1,q4,q2,(q3.gat8 ok').mono (by omega)⟩
 have HL:Hid (∀ w',Below w.heap.size w w'->InRow w' pa l/\TkRow w' wa L):=fun w' hbw=>⟨hli.later hbw,hLi.later hbw⟩
 obtain ⟨x0,x1,x2,x3,x4⟩:=gbx_cells X0.out.2.1
 have HP:Hid (l≠[]/\∀ n∈l,0<=n/\n < g.ps.length):=⟨hne,hl⟩
 clear hg hpc hE hli hLi hne hl
 have t1:((0:Int) != 0)=false:=by decide
 go_enter Tryz.func71,Tryz.ntmps71
 go_upto_region 2 with (go_at_call 89;refine (CR.out _ X0.out.1).mono ?_;rintro e w2 ⟨g',rfl,b2,sg,ga⟩;have B2:Hid (Below w.heap.size w w2/\w2.heap[w.heap.size+1]?=some zTrB/\SameG g.rev g'/\GAt 140737488355328 w2 g'):=⟨X0.out.1.trans (b2.mono X0.out.1.size),(b2.block _ (lt_of_block X0.out.2.2)).trans X0.out.2.2,sg,ga⟩;clear b2 sg ga x0 x1 x2 x3 x4)
 obtain ⟨W,hW⟩:∃ W,W=w2.alloc (gBox g'):=⟨_,rfl⟩
 have HW:Hid (Below w.heap.size w W/\W.heap[w.heap.size+1]?=some zTrB/\SameG g.rev g'/\GAt 140737488355328 W g'/\W.heap[w2.heap.size]?=some (gBox g')/\w.heap.size+1 < W.heap.size):=by
  rw [hW]
  obtain ⟨b1,b2,b3,b4⟩:=B2.out
  have ba:=bAl w2 (gBox g')
  exact ⟨b1.trans (ba.mono b1.size),(ba.block _ (lt_of_block b2)).trans b2,b3,b4.later ba,heap_alloc_new _ _,Nat.lt_of_lt_of_le (lt_of_block b2) ba.size⟩
 refine wp_world (fun w'=>w'=W) hW.symm fun w3 h3=>?_
 obtain rfl:=h3.symm
 clear hW h3 B2 CR X0
 generalize w2.heap.size=b9 at *
 -- what is derived
 obtain ⟨u,hu⟩:∃ u,u=deriveU g.rev l.reverse L.reverse:=⟨_,rfl⟩
 have HU:Hid (u=deriveU g.rev l.reverse L.reverse):=hu
 have CT:Hid (∀ w',Below W.heap.size W w'->Calls Tryz.prog 90 #[.slice pa l.length pc] w' fun e w''=>∃ a' c',e=.returned (.slice a' l.length c')/\InRow w'' a' l.reverse/\Below w'.heap.size w' w''):=fun w' hbw=>turned_int pa pc l w' (HL.out w' (HW.out.1.trans (hbw.mono HW.out.1.size))).1 hb
 have CK:Hid (∀ w',Below W.heap.size W w'->Calls Tryz.prog 91 #[.slice wa L.length wc] w' fun e w''=>∃ a' c',e=.returned (.slice a' L.length c')/\TkRow w'' a' L.reverse/\Below w'.heap.size w' w''):=fun w' hbw=>turned_tok wa wc L w' (HL.out w' (HW.out.1.trans (hbw.mono HW.out.1.size))).2 hB
 have CD:Hid (∀ (x y:Option Addr×Nat) w',Below W.heap.size W w'->InRow w' x.1 l.reverse->TkRow w' y.1 L.reverse->Calls Tryz.prog 70 #[g'.val,.slice x.1 l.length x.2,.slice y.1 L.length y.2] w' fun e w''=>Below w'.heap.size w' w''/\∃ T,samV T (anT u).1/\OwT w'.heap.size w'' T/\e=.returned (.tuple #[T.val,.int .i64 (anT u).2.1,.int .i64 (anT u).2.2])):=fun x y w' hbw hx hy=>by
  have hr:∀ n∈l.reverse,0<=n/\n < g'.ps.length:=fun n hn=>by
   rw [rev_same HW.out.2.2.1]
   exact HP.out.2 n (by simpa using hn)
  have:=derive_W (w:=w') (g:=g') (pa:=x.1) (wa:=y.1) (pc:=x.2) (wc:=y.2) (l:=l.reverse) (L:=L.reverse) (by simpa using HP.out.1) hr (HW.out.2.2.2.1.later hbw) hx hy (by simp;omega) (by simp;omega)
  rw [List.length_reverse,List.length_reverse] at this
  refine this.mono fun e w'' ⟨q1,q2⟩=>⟨q1,?_⟩
  have q3:=dvE_ans q2
  rw [derive_gr HW.out.2.2.1,<- HU.out] at q3
  exact ansE_T q3
 clear hu HL
 obtain ⟨t0,e1,e2,hA⟩:∃ (a:TV) (b c:Int),anT u=(a,b,c):=⟨_,_,_,rfl⟩
 rw [hA] at CD
 have HA:Hid (anT u=(t0,e1,e2)):=hA
 clear hA
 dsimp only at CD
 have SC:Hid (∀ w',Below W.heap.size W w'->w'.heap[b9]?=some (gBox g')):=fun w' hbw=>(hbw.block _ (lt_of_block HW.out.2.2.2.2.1)).trans HW.out.2.2.2.2.1
 -- what there is behind the region
 have ED:Hid (∀ w' T k,Below W.heap.size W w'->w'.heap[k]?=some zTrB->W.heap.size<=k->samV T t0->OwT W.heap.size w' T->(∀ a∈adsL (kidsA T),a.1≠k)->w'.heap[k]?=some zTrB/\MrE w W t0 k T (set4 w' k 0 T)/\Below W.heap.size W (set4 w' k 0 T)):=fun w' T k h1 h2 h3 h4 h5 h6=>⟨h2,mrE_of HW.out.1 HW.out.2.1 HW.out.2.2.2.2.2 h1 h2 h3 h4 h5 h6,set4_below h1 0 T h3⟩
 go_upto_region 4 with fail
 go_cut [10,11,12] (fun s10 s11 s12 wx=>∃ k T,s10=.int .i64 e1/\s11=.pointer (some ⟨k,0,none⟩)/\s12=.int .i64 e2/\MrE w W t0 k T wx)
 case first =>
  refine wp_region_x (S:=fun _=>(fun w'=>w'.heap[b9]?=some (gBox g'))) (by kernel_rfl) ?_
  refine wpX_world8 (fun w'=>MrJ W l L t0 0 (none,0) (none,0) TV.none none w') ⟨(Below.refl _ _).drew,(fun h=>by omega),(fun h=>by omega),(fun h=>by omega),(fun k e=>by cases e)⟩ fun wd hwd=>?_
  have H0:Hid (MrJ W l L t0 0 (none,0) (none,0) TV.none none wd):=hwd
  have HQ:Hid (Below W.heap.size W wd):=hwd.bel
  clear hwd
  refine wpAnyX_takeS8 (i:=0) (v:=?_) rfl (by kernel_rfl) (by decide +kernel) (by decide +kernel) (fun _ _ _ h=>h) (Or.inl ⟨by rfl,?_⟩) (SC.out _ HQ.out) ?_
  rotate_left
  ·(intro w hSw;obtain ⟨z0,z1,z2,z3,z4⟩:=gbx_cells hSw;clear hSw;go_simp;try (with_reducible rfl))
  (try simp only [Act.put,List.setIfInBounds_toArray,List.set_cons_zero,List.set_cons_succ])
  refine wpAnyX_takeS8 (i:=1) (v:=?_) rfl (by kernel_rfl) (by decide +kernel) (by decide +kernel) (fun _ _ _ h=>h) (Or.inl ⟨by rfl,?_⟩) (SC.out _ HQ.out) ?_
  rotate_left
  ·(intro w hSw;skip;clear hSw;go_simp;try (with_reducible rfl))
  (try simp only [Act.put,List.setIfInBounds_toArray,List.set_cons_zero,List.set_cons_succ])
  refine wpAnyX_takeS8 (i:=3) (v:=?_) rfl (by kernel_rfl) (by decide +kernel) (by decide +kernel) (fun _ _ _ h=>h) (Or.inl ⟨by rfl,?_⟩) (SC.out _ HQ.out) ?_
  rotate_left
  ·(intro w hSw;skip;clear hSw;go_simp;try (with_reducible rfl))
  (try simp only [Act.put,List.setIfInBounds_toArray,List.set_cons_zero,List.set_cons_succ])
  refine wpAnyX_mix3 (β1:=Option Addr×Nat) (β2:=Option Addr×Nat) (β3:=TV) 2 4 5 10 rfl rfl rfl rfl rfl rfl rfl rfl (by decide) (by decide) (by decide +kernel) (by decide +kernel) (by decide +kernel) (by decide +kernel) (by decide +kernel) (by decide +kernel) (J:=fun A x y T b w'=>MrJ W l L t0 A x y T b w') (fun A x y T b w' L' h=>SC.out w' h.bel) (f1:=fun x=>.slice x.1 l.length x.2) (f2:=fun y=>.slice y.1 L.length y.2) (f3:=fun T=>.tuple #[T.val,.int .i64 e1,.int .i64 e2]) (f4:=fun k=>.pointer (some ⟨k,0,none⟩)) (At:=fun a'=>a'.eval (.tmp 23)=g'.val/\a'.eval (.tmp 24)=.slice pa l.length pc/\a'.eval (.tmp 26)=.slice wa L.length wc) ⟨rfl,rfl,rfl⟩ (fun a' v h=>⟨(put_evalT a' (by decide) v).trans h.1,(put_evalT a' (by decide) v).trans h.2.1,(put_evalT a' (by decide) v).trans h.2.2⟩) (fun a' v h=>⟨(put_evalT a' (by decide) v).trans h.1,(put_evalT a' (by decide) v).trans h.2.1,(put_evalT a' (by decide) v).trans h.2.2⟩) (fun a' v h=>⟨(put_evalT a' (by decide) v).trans h.1,(put_evalT a' (by decide) v).trans h.2.1,(put_evalT a' (by decide) v).trans h.2.2⟩) (fun a' v h=>⟨(put_evalT a' (by decide) v).trans h.1,(put_evalT a' (by decide) v).trans h.2.1,(put_evalT a' (by decide) v).trans h.2.2⟩) ?s1 ?s2 ?s3 ?s4 ⟨(by decide:25 < 37),(by decide:27 < 37)⟩ (none,0) (none,0) TV.none H0.out ?go3 ?go4
  case s1 =>
   rintro a' w1 K x y T b ⟨p1,p2,p3⟩ hi hk
   refine sCX rfl 90 #[.slice pa l.length pc] _ (run_ti (v0:=.slice pa l.length pc) rfl p2 _) (CT.out w1 hi.bel) ?_
   rintro e w' ⟨a1,c1,rfl,hr,hb'⟩
   exact ⟨_,rfl,hk (a1,c1) w' (hi.one hr hb')⟩
  case s2 =>
   rintro a' w1 K x y T b ⟨p1,p2,p3⟩ hi hk
   refine sCX rfl 91 #[.slice wa L.length wc] _ (run_tt (v0:=.slice wa L.length wc) rfl p3 _) (CK.out w1 hi.bel) ?_
   rintro e w' ⟨a1,c1,rfl,hr,hb'⟩
   exact ⟨_,rfl,hk (a1,c1) w' (hi.two hr hb')⟩
  case s3 =>
   rintro a' w1 K x y T b ⟨p1,p2,p3⟩ q1 q2 hi hk
   refine sCX rfl 70 #[g'.val,.slice x.1 l.length x.2,.slice y.1 L.length y.2] _ (run_de (v0:=g'.val) rfl p1 q1 q2 _) (CD.out x y w1 hi.bel (hi.x1 (by omega)) (hi.y2 (by omega))) ?_
   rintro e w' ⟨hb',T',sm,ow,rfl⟩
   exact ⟨_,rfl,hk T' w' (hi.three hb' sm ow)⟩
  case s4 =>
   rintro a' w1 K A x y T - hi hk
   go_simp
   exact hk w1.heap.size _ hi.box
  case go3 =>
   rintro x y T wf hj
   have HJ:Hid (MrJ W l L t0 3 x y T none wf):=hj
   clear hj H0 HQ
   have HQ:Hid (Below W.heap.size W wf):=HJ.out.bel
   (try simp only [Act.put,List.setIfInBounds_toArray,List.set_cons_zero,List.set_cons_succ])
   refine wpAnyX_takeS8 (i:=6) (v:=?_) rfl (by kernel_rfl) (by decide +kernel) (by decide +kernel) (fun _ _ _ h=>h) (Or.inl ⟨by rfl,?_⟩) (SC.out _ HQ.out) ?_
   rotate_left
   ·(intro w hSw;skip;clear hSw;go_simp;try (with_reducible rfl))
   (try simp only [Act.put,List.setIfInBounds_toArray,List.set_cons_zero,List.set_cons_succ])
   refine wpAnyX_takeS8 (i:=7) (v:=?_) rfl (by kernel_rfl) (by decide +kernel) (by decide +kernel) (fun _ _ _ h=>h) (Or.inl ⟨by rfl,?_⟩) (SC.out _ HQ.out) ?_
   rotate_left
   ·(intro w hSw;skip;clear hSw;go_simp;try (with_reducible rfl))
   (try simp only [Act.put,List.setIfInBounds_toArray,List.set_cons_zero,List.set_cons_succ])
   refine wpAnyX_takeS8 (i:=8) (v:=?_) rfl (by kernel_rfl) (by decide +kernel) (by decide +kernel) (fun _ _ _ h=>h) (Or.inl ⟨by rfl,?_⟩) (SC.out _ HQ.out) ?_
   rotate_left
   ·(intro w hSw;skip;clear hSw;go_simp;try (with_reducible rfl))
   (try simp only [Act.put,List.setIfInBounds_toArray,List.set_cons_zero,List.set_cons_succ])
   refine wpAnyX_takeS8 (i:=9) (v:=?_) rfl (by kernel_rfl) (by decide +kernel) (by decide +kernel) (fun _ _ _ h=>h) (Or.inl ⟨by rfl,?_⟩) (SC.out _ HQ.out) ?_
   rotate_left
   ·(intro w hSw;skip;clear hSw;go_simp;try (with_reducible rfl))
   (try simp only [Act.put,List.setIfInBounds_toArray,List.set_cons_zero,List.set_cons_succ])
   refine wX1 (j:=10) (by decide +kernel) rfl (fun K' hK=>?_)
   go_simp
   have HJ2:=HJ.out.box
   refine hK.out _ _ (SC.out _ HJ2.bel) ?_
   clear hK K'
   (try simp only [Act.put,List.setIfInBounds_toArray,List.set_cons_zero,List.set_cons_succ])
   refine wpX_world8 (fun w'=>Below W.heap.size W w'/\(w'.heap[wf.heap.size]?=some zTrB/\MrE w W t0 wf.heap.size T (set4 w' wf.heap.size 0 T)/\Below W.heap.size W (set4 w' wf.heap.size 0 T))) ⟨HJ2.bel,ED.out _ T wf.heap.size HJ2.bel (HJ2.b4 _ rfl).1 (HJ2.b4 _ rfl).2.1 (HJ2.t3 (by omega)).1 (HJ2.t3 (by omega)).2 ((HJ2.b4 _ rfl).2.2 (by omega))⟩ fun wg hwg=>?_
   have FIN:Hid (wg.heap[wf.heap.size]?=some zTrB/\MrE w W t0 wf.heap.size T (set4 wg wf.heap.size 0 T)/\Below W.heap.size W (set4 wg wf.heap.size 0 T)):=hwg.2
   clear HQ
   have HQ:Hid (Below W.heap.size W wg):=hwg.1
   clear HJ2 HJ hwg
   generalize wf.heap.size=k at *
   obtain ⟨tb,s0,s1⟩:=FIN.out
   refine wX1 (j:=11) (by decide +kernel) rfl (fun K' hK=>?_)
   refine step_storeM rfl 26 (.tmp 11) (.tmp 29) rfl k #[.int .i64 T.prod,.int .i64 T.kind,.string T.tx,.slice T.ka T.kids.length T.kc] rfl rfl (there_of (cs:=#[.int .i64 0,.int .i64 0,.string ⟨#[]⟩,.slice none 0 0]) tb) (by kernel_rfl) (by kernel_rfl) ?_
   refine hK.out _ _ (SC.out _ s1) ?_
   clear hK K'
   (try simp only [Act.put,List.setIfInBounds_toArray,List.set_cons_zero,List.set_cons_succ])
   clear HQ
   change wpAnyX _ _ _ _ _ _ _ _ (set4 wg k 0 T)
   have HQ:Hid (Below W.heap.size W (set4 wg k 0 T)):=s1
   clear tb s1
   refine wpAnyX_takeS8 (i:=12) (v:=?_) rfl (by kernel_rfl) (by decide +kernel) (by decide +kernel) (fun _ _ _ h=>h) (Or.inl ⟨by rfl,?_⟩) (SC.out _ HQ.out) ?_
   rotate_left
   ·(intro w hSw;skip;clear hSw;go_simp;try (with_reducible rfl))
   (try simp only [Act.put,List.setIfInBounds_toArray,List.set_cons_zero,List.set_cons_succ])
   refine wpAnyX_takeS8 (i:=13) (v:=?_) rfl (by kernel_rfl) (by decide +kernel) (by decide +kernel) (fun _ _ _ h=>h) (Or.inl ⟨by rfl,?_⟩) (SC.out _ HQ.out) ?_
   rotate_left
   ·(intro w hSw;skip;clear hSw;go_simp;try (with_reducible rfl))
   (try simp only [Act.put,List.setIfInBounds_toArray,List.set_cons_zero,List.set_cons_succ])
   refine wXd (by decide +kernel) ?_
   go_wp2_with fail
   go_meet
   exact ⟨k,T,rfl,rfl,rfl,s0⟩
  case go4 =>
   rintro x y T k wf hj
   have FIN:Hid (wf.heap[k]?=some zTrB/\MrE w W t0 k T (set4 wf k 0 T)/\Below W.heap.size W (set4 wf k 0 T)):=ED.out _ T k hj.bel (hj.b4 _ rfl).1 (hj.b4 _ rfl).2.1 (hj.t3 (by omega)).1 (hj.t3 (by omega)).2 ((hj.b4 _ rfl).2.2 (by omega))
   clear HQ
   have HQ:Hid (Below W.heap.size W wf):=hj.bel
   clear hj H0
   (try simp only [Act.put,List.setIfInBounds_toArray,List.set_cons_zero,List.set_cons_succ])
   refine wpAnyX_takeS8 (i:=6) (v:=?_) rfl (by kernel_rfl) (by decide +kernel) (by decide +kernel) (fun _ _ _ h=>h) (Or.inl ⟨by rfl,?_⟩) (SC.out _ HQ.out) ?_
   rotate_left
   ·(intro w hSw;skip;clear hSw;go_simp;try (with_reducible rfl))
   (try simp only [Act.put,List.setIfInBounds_toArray,List.set_cons_zero,List.set_cons_succ])
   refine wpAnyX_takeS8 (i:=7) (v:=?_) rfl (by kernel_rfl) (by decide +kernel) (by decide +kernel) (fun _ _ _ h=>h) (Or.inl ⟨by rfl,?_⟩) (SC.out _ HQ.out) ?_
   rotate_left
   ·(intro w hSw;skip;clear hSw;go_simp;try (with_reducible rfl))
   (try simp only [Act.put,List.setIfInBounds_toArray,List.set_cons_zero,List.set_cons_succ])
   refine wpAnyX_takeS8 (i:=8) (v:=?_) rfl (by kernel_rfl) (by decide +kernel) (by decide +kernel) (fun _ _ _ h=>h) (Or.inl ⟨by rfl,?_⟩) (SC.out _ HQ.out) ?_
   rotate_left
   ·(intro w hSw;skip;clear hSw;go_simp;try (with_reducible rfl))
   (try simp only [Act.put,List.setIfInBounds_toArray,List.set_cons_zero,List.set_cons_succ])
   refine wpAnyX_takeS8 (i:=9) (v:=?_) rfl (by kernel_rfl) (by decide +kernel) (by decide +kernel) (fun _ _ _ h=>h) (Or.inl ⟨by rfl,?_⟩) (SC.out _ HQ.out) ?_
   rotate_left
   ·(intro w hSw;skip;clear hSw;go_simp;try (with_reducible rfl))
   (try simp only [Act.put,List.setIfInBounds_toArray,List.set_cons_zero,List.set_cons_succ])
   obtain ⟨tb,s0,s1⟩:=FIN.out
   refine wX1 (j:=11) (by decide +kernel) rfl (fun K' hK=>?_)
   refine step_storeM rfl 26 (.tmp 11) (.tmp 29) rfl k #[.int .i64 T.prod,.int .i64 T.kind,.string T.tx,.slice T.ka T.kids.length T.kc] rfl rfl (there_of (cs:=#[.int .i64 0,.int .i64 0,.string ⟨#[]⟩,.slice none 0 0]) tb) (by kernel_rfl) (by kernel_rfl) ?_
   refine hK.out _ _ (SC.out _ s1) ?_
   clear hK K'
   (try simp only [Act.put,List.setIfInBounds_toArray,List.set_cons_zero,List.set_cons_succ])
   clear HQ
   change wpAnyX _ _ _ _ _ _ _ _ (set4 wf k 0 T)
   have HQ:Hid (Below W.heap.size W (set4 wf k 0 T)):=s1
   clear tb s1
   refine wpAnyX_takeS8 (i:=12) (v:=?_) rfl (by kernel_rfl) (by decide +kernel) (by decide +kernel) (fun _ _ _ h=>h) (Or.inl ⟨by rfl,?_⟩) (SC.out _ HQ.out) ?_
   rotate_left
   ·(intro w hSw;skip;clear hSw;go_simp;try (with_reducible rfl))
   (try simp only [Act.put,List.setIfInBounds_toArray,List.set_cons_zero,List.set_cons_succ])
   refine wpAnyX_takeS8 (i:=13) (v:=?_) rfl (by kernel_rfl) (by decide +kernel) (by decide +kernel) (fun _ _ _ h=>h) (Or.inl ⟨by rfl,?_⟩) (SC.out _ HQ.out) ?_
   rotate_left
   ·(intro w hSw;skip;clear hSw;go_simp;try (with_reducible rfl))
   (try simp only [Act.put,List.setIfInBounds_toArray,List.set_cons_zero,List.set_cons_succ])
   refine wXd (by decide +kernel) ?_
   go_wp2_with fail
   go_meet
   exact ⟨k,T,rfl,rfl,rfl,s0⟩
 case rest =>
  obtain ⟨k,T,e10,e11,e12,hM⟩:=hcut
  subst e10 e11 e12
  have HM:Hid (MrE w W t0 k T wc):=hM
  have HRL:Hid (∀ n∈l.reverse,0<=n/\n < g.rev.ps.length):=fun n hn=>by
   have e:g.rev.ps.length=g.ps.length:=by simp [GV.rev]
   rw [e]
   exact HP.out.2 n (by simpa using hn)
  have FZ:Hid (∀ w2:World,w2.heap[w.heap.size+1]?=some zTrB->(w2.frozen? ⟨w.heap.size+1,0,none⟩=false/\w2.frozen? ⟨w.heap.size+1,1,none⟩=false/\w2.frozen? ⟨w.heap.size+1,2,none⟩=false/\w2.frozen? ⟨w.heap.size+1,3,none⟩=false)/\w2.cell? ⟨w.heap.size+1,0,none⟩=some (.int .i64 0)/\w2.cell? ⟨w.heap.size+1,1,none⟩=some (.int .i64 0)/\w2.cell? ⟨w.heap.size+1,2,none⟩=some (.string ⟨#[]⟩)/\w2.cell? ⟨w.heap.size+1,3,none⟩=some (.slice none 0 0)):=fun w2 h=>by
   have f0:∀ i,w2.frozen? ⟨w.heap.size+1,i,none⟩=false:=fun i=>by simp [World.frozen?,h]
   exact ⟨⟨f0 0,f0 1,f0 2,f0 3⟩,(cQa h).trans rfl,(cQa h).trans rfl,(cQa h).trans rfl,(cQa h).trans rfl⟩
  clear hM ED SC CT CK CD HW
  obtain ⟨ot,g1,g2⟩:=u
  cases ot with
  | none =>
   have q:=HA.out
   simp only [anT,Prod.mk.injEq] at q
   obtain ⟨-,rfl,rfl⟩:=q
   have hne1:=derive_ne HRL.out HU.out.symm
   have t2:(g1 != 0)=true:=by simpa using hne1
   have HV:Hid (mirU g l L=(none,81,0)):=by show _=_;unfold mirU;rw [<- HU.out]
   obtain ⟨⟨f0,f1,f2,f3⟩,z0,z1,z2,z3⟩:=FZ.out wc HM.out.rb
   have B4:Hid (Below w.heap.size w (set4 wc (w.heap.size+1) 0 TV.none)/\TBx (set4 wc (w.heap.size+1) 0 TV.none) (w.heap.size+1) 0 TV.none):=⟨set4_below HM.out.bel 0 _ (by omega),set4_tbx _ z0 z1 z2 z3 (lt_of_block HM.out.rb)⟩
   clear hne1 HA HU HRL HM FZ
   go_upto_region 6 with fail
   go_wp2
   change bodyPost _ _ _ _ _ (set4 wc (w.heap.size+1) 0 TV.none)
   generalize set4 wc (w.heap.size+1) 0 TV.none=w5 at *
   have y0:=B4.out.2.c0
   have y1:=B4.out.2.c1
   have y2:=B4.out.2.c2
   have y3:=B4.out.2.c3
   simp only [Nat.zero_add] at y1 y2 y3
   refine bodyPost_ret (v:=.tuple #[TV.none.val,.int .i64 81,.int .i64 0]) (by simp [results,Tryz.results71,go_sem,y0,y1,y2,y3]) rfl ?_
   rw [HV.out]
   exact ⟨B4.out.1,rfl⟩
  | some t =>
   have q:=HA.out
   simp only [anT,Prod.mk.injEq] at q
   obtain ⟨rfl,rfl,rfl⟩:=q
   have HV:Hid (mirU g l L=(some (mirT t),0,0)):=by show _=_;unfold mirU;rw [<- HU.out]
   have CW:Hid (Calls Tryz.prog 44 #[.pointer (some ⟨k,0,none⟩),fnV 92 #[]] wc fun e w'=>e=.returned (.tuple #[])/\∃ T',RvJ (w.heap.size+1) zTrB w.heap.size w k 0 T' w'/\samV T' (mirT T)):=by
    have h:=HM.out
    have hz:=derive_sz HRL.out HU.out.symm
    simp only [List.length_reverse] at hz
    have hs:=samV_size _ _ h.sm
    have hw:=h.kw
    have hx:=h.ww
    refine walkRev_W wc ⟨h.bel,h.bel.size,by omega,h.tb,h.ow.ta,fun a=>?_,fun a ha=>?_,not_stpT,h.rb,fun a ha=>?_⟩
    ·rw [adsT_eq,List.count_cons]
     have h1:=h.ow.cn a
     by_cases e:((k,0) == a)=true
     ·have h2:(adsL (kidsA T)).count a=0:=List.count_eq_zero.2 fun hm=>by
       have h3:=h.kn a hm
       have h4:(k,0)=a:=by simpa using e
       exact h3 (by rw [<- h4])
      rw [h2,if_pos e];omega
     ·rw [if_neg e];omega
    ·rw [adsT_eq] at ha
     rcases List.mem_cons.1 ha with rfl | hm
     ·exact ⟨by show w.heap.size<=k;omega,rfl,h.ty⟩
     ·obtain ⟨h1,h2⟩:=h.ow.ty a hm
      exact ⟨by omega,h2⟩
    ·rw [adsT_eq] at ha
     rcases List.mem_cons.1 ha with rfl | hm
     ·show k≠_
      omega
     ·have:=(h.ow.ty a hm).1
      omega
   have HS:Hid (samV T t):=HM.out.sm
   have t2:((0:Int) != 0)=false:=by decide
   clear HA HU HRL HM
   go_upto_region 8 with (go_at_call 44;refine CW.out.mono ?_;rintro e w4 ⟨rfl,T',h4,s4⟩;have H4:Hid (RvJ (w.heap.size+1) zTrB w.heap.size w k 0 T' w4/\samV T' (mirT T)):=⟨h4,s4⟩;clear h4 s4)
   obtain ⟨⟨f0,f1,f2,f3⟩,z0,z1,z2,z3⟩:=FZ.out w4 H4.out.1.rb
   have k0:=H4.out.1.tb.c0
   have k1:=H4.out.1.tb.c1
   have k2:=H4.out.1.tb.c2
   have k3:=H4.out.1.tb.c3
   simp only [Nat.zero_add] at k1 k2 k3
   have H5:Hid (Below w.heap.size w (set4 w4 (w.heap.size+1) 0 T')/\TBx (set4 w4 (w.heap.size+1) 0 T') (w.heap.size+1) 0 T'/\OwT w.heap.size (set4 w4 (w.heap.size+1) 0 T') T'):=by
    have h:=H4.out.1
    refine ⟨set4_below h.bel 0 T' (by omega),set4_tbx T' z0 z1 z2 z3 (lt_of_block h.rb),?_⟩
    have ho:OwT w.heap.size w4 T':=⟨h.ta,fun a=>by have:=h.cn a;rw [adsT_eq,List.count_cons] at this;omega,fun a ha=>h.ty a (by rw [adsT_eq];exact List.mem_cons_of_mem _ ha)⟩
    exact ho.kept (fun a ha=>set4_other _ _ _ _ _ (h.rn a (by rw [adsT_eq];exact List.mem_cons_of_mem _ ha))) (by rw [set4_size];exact Nat.le_refl _)
   have HT:Hid (samV T' (mirT t)):=samV_trans _ _ _ H4.out.2 (mir_same _ _ HS.out)
   clear H4 CW FZ HS
   go_wp2
   change bodyPost _ _ _ _ _ (set4 w4 (w.heap.size+1) 0 T')
   generalize set4 w4 (w.heap.size+1) 0 T'=w5 at *
   have y0:=H5.out.2.1.c0
   have y1:=H5.out.2.1.c1
   have y2:=H5.out.2.1.c2
   have y3:=H5.out.2.1.c3
   simp only [Nat.zero_add] at y1 y2 y3
   refine bodyPost_ret (v:=.tuple #[T'.val,.int .i64 0,.int .i64 0]) (by simp [results,Tryz.results71,go_sem,y0,y1,y2,y3]) rfl ?_
   rw [HV.out]
   exact ⟨H5.out.1,T',HT.out,H5.out.2.2,rfl⟩
set_option linter.unusedSimpArgs false in
set_option maxRecDepth 100000 in
set_option maxHeartbeats 4000000 in
theorem fromRight_W {w:World}{g:GV}{pa wa:Option Addr}{pc wc:Nat}{l:List Int}{L:List (Int×ByteArray)}(hg:GAt 140737488355328 w g)(hpc:g.ps.length<=g.pc)(er at_:Int)(hE:cG_ g (cF_ g.ts g.ns)=(er,at_))(hli:InRow w pa l)(hl:l.length<=1000000000)(u:Option TV×Int×Int)
  (hD:(cpU er g.ps.length l).1=0->∀ w',Below w.heap.size w w'->Calls Tryz.prog 71 #[g.val,.slice pa l.length pc,.slice wa L.length wc] w' fun e w''=>Below w'.heap.size w' w''/\ansE w'.heap.size u e w'') :
  Calls Tryz.prog 29 #[g.val,.slice pa l.length pc,.slice wa L.length wc] w fun e w'=>Below w.heap.size w w'/\ansE w.heap.size (fromU (cpU er g.ps.length l) u) e w':=by
 have X0:Hid (Below w.heap.size w ((w.alloc (gBox g)).alloc zTrB)/\((w.alloc (gBox g)).alloc zTrB).heap[w.heap.size]?=some (gBox g)/\((w.alloc (gBox g)).alloc zTrB).heap[w.heap.size+1]?=some zTrB):=by
  have h1:=bAl w (gBox g)
  have h2:=bAl (w.alloc (gBox g)) zTrB
  refine ⟨h1.trans (h2.mono h1.size),(h2.block _ (by simp)).trans (heap_alloc_new _ _),?_⟩
  have:=heap_alloc_new (w.alloc (gBox g)) zTrB
  rwa [show (w.alloc (gBox g)).heap.size=w.heap.size+1 by simp] at this
 have CP:Hid (∀ w',Below w.heap.size w w'->Calls Tryz.prog 69 #[g.val,.slice pa l.length pc] w' fun e w''=>e=.returned (.tuple #[.int .i64 (cpU er g.ps.length l).1,.int .i64 (cpU er g.ps.length l).2])/\Below w'.heap.size w' w''):=fun w' hb=>checkProds_W (hg.later hb) hpc er at_ hE (hli.later hb) hl
 have HD:Hid ((cpU er g.ps.length l).1=0->∀ w',Below w.heap.size w w'->Calls Tryz.prog 71 #[g.val,.slice pa l.length pc,.slice wa L.length wc] w' fun e w''=>Below w'.heap.size w' w''/\ansE w'.heap.size u e w''):=hD
 obtain ⟨x0,x1,x2,x3,x4⟩:=gbx_cells X0.out.2.1
 clear hg hpc hE hli hl hD
 generalize cpU er g.ps.length l=cp at *
 obtain ⟨c1,c2⟩:=cp
 dsimp only at *
 have NB:Hid (∀ w2:World,Below w.heap.size w w2->w2.heap[w.heap.size+1]?=some zTrB->(Below w.heap.size w (set4 w2 (w.heap.size+1) 0 TV.none))/\TBx (set4 w2 (w.heap.size+1) 0 TV.none) (w.heap.size+1) 0 TV.none):=fun w2 h1 h2 =>
  ⟨set4_below h1 0 _ (by omega),set4_tbx _ ((cQa h2).trans rfl) ((cQa h2).trans rfl) ((cQa h2).trans rfl) ((cQa h2).trans rfl) (lt_of_block h2)⟩
 have FZ:Hid (∀ w2:World,w2.heap[w.heap.size+1]?=some zTrB->(w2.frozen? ⟨w.heap.size+1,0,none⟩=false/\w2.frozen? ⟨w.heap.size+1,1,none⟩=false/\w2.frozen? ⟨w.heap.size+1,2,none⟩=false/\w2.frozen? ⟨w.heap.size+1,3,none⟩=false)/\w2.cell? ⟨w.heap.size+1,0,none⟩=some (.int .i64 0)/\w2.cell? ⟨w.heap.size+1,1,none⟩=some (.int .i64 0)/\w2.cell? ⟨w.heap.size+1,2,none⟩=some (.string ⟨#[]⟩)/\w2.cell? ⟨w.heap.size+1,3,none⟩=some (.slice none 0 0)):=fun w2 h=>by
  have f0:∀ i,w2.frozen? ⟨w.heap.size+1,i,none⟩=false:=fun i=>by simp [World.frozen?,h]
  exact ⟨⟨f0 0,f0 1,f0 2,f0 3⟩,(cQa h).trans rfl,(cQa h).trans rfl,(cQa h).trans rfl,(cQa h).trans rfl⟩
 by_cases h0:c1=0
 ·subst h0
  have t1:((0:Int) != 0)=false:=by decide
  have eF:fromU (0,c2) u=u:=if_neg (by simp)
  rw [eF]
  clear eF
  have HD0:=HD.out rfl
  obtain ⟨ot,e1,e2⟩:=u
  cases ot with
  | none =>
   have HD2:Hid (∀ w',Below w.heap.size w w'->Calls Tryz.prog 71 #[g.val,.slice pa l.length pc,.slice wa L.length wc] w' fun e w''=>e=.returned (.tuple #[.agg #[.int .i64 0,.int .i64 0,.string ⟨#[]⟩,.slice none 0 0],.int .i64 e1,.int .i64 e2])/\Below w'.heap.size w' w''):=fun w' hb=>(HD0 w' hb).mono fun e w'' ⟨q1,q2⟩=>⟨q2,q1⟩
   clear HD HD0
   go_enter Tryz.func29,Tryz.ntmps29
   go_upto_region 4 with (go_at_call 69;refine (CP.out _ X0.out.1).mono ?_;rintro e w2 ⟨rfl,b2⟩;have B2:Hid (Below w.heap.size w w2/\w2.heap[w.heap.size]?=some (gBox g)/\w2.heap[w.heap.size+1]?=some zTrB):=⟨X0.out.1.trans (b2.mono X0.out.1.size),(b2.block _ (lt_of_block X0.out.2.1)).trans X0.out.2.1,(b2.block _ (lt_of_block X0.out.2.2)).trans X0.out.2.2⟩;clear b2 x0 x1 x2 x3 x4;obtain ⟨x0,x1,x2,x3,x4⟩:=gbx_cells B2.out.2.1)
   go_wp2_with (go_at_call 71;refine (HD2.out _ B2.out.1).mono ?_;rintro e w3 ⟨rfl,b3⟩;have B3:Hid (Below w.heap.size w w3/\w3.heap[w.heap.size+1]?=some zTrB):=⟨B2.out.1.trans (b3.mono B2.out.1.size),(b3.block _ (lt_of_block B2.out.2.2)).trans B2.out.2.2⟩;clear b3 x0 x1 x2 x3 x4;obtain ⟨⟨f0,f1,f2,f3⟩,z0,z1,z2,z3⟩:=FZ.out w3 B3.out.2)
   have B4:Hid _:=NB.out w3 B3.out.1 B3.out.2
   change bodyPost _ _ _ _ _ (set4 w3 (w.heap.size+1) 0 TV.none)
   generalize set4 w3 (w.heap.size+1) 0 TV.none=w5 at *
   have y0:=B4.out.2.c0
   have y1:=B4.out.2.c1
   have y2:=B4.out.2.c2
   have y3:=B4.out.2.c3
   simp only [Nat.zero_add] at y1 y2 y3
   refine bodyPost_ret (v:=.tuple #[TV.none.val,.int .i64 e1,.int .i64 e2]) (by simp [results,Tryz.results29,go_sem,y0,y1,y2,y3]) rfl ?_
   exact ⟨B4.out.1,rfl⟩
  | some t0 =>
   have HD2:Hid (∀ w',Below w.heap.size w w'->Calls Tryz.prog 71 #[g.val,.slice pa l.length pc,.slice wa L.length wc] w' fun e w''=>∃ t',e=.returned (.tuple #[t'.val,.int .i64 0,.int .i64 0])/\Below w'.heap.size w' w''/\samV t' t0/\OwT w'.heap.size w'' t'):=fun w' hb=>(HD0 w' hb).mono fun e w'' ⟨q1,t',q2,q3,q4⟩=>⟨t',q4,q1,q2,q3⟩
   clear HD HD0
   go_enter Tryz.func29,Tryz.ntmps29
   go_upto_region 4 with (go_at_call 69;refine (CP.out _ X0.out.1).mono ?_;rintro e w2 ⟨rfl,b2⟩;have B2:Hid (Below w.heap.size w w2/\w2.heap[w.heap.size]?=some (gBox g)/\w2.heap[w.heap.size+1]?=some zTrB):=⟨X0.out.1.trans (b2.mono X0.out.1.size),(b2.block _ (lt_of_block X0.out.2.1)).trans X0.out.2.1,(b2.block _ (lt_of_block X0.out.2.2)).trans X0.out.2.2⟩;clear b2 x0 x1 x2 x3 x4;obtain ⟨x0,x1,x2,x3,x4⟩:=gbx_cells B2.out.2.1)
   go_wp2_with (go_at_call 71;refine (HD2.out _ B2.out.1).mono ?_;rintro e w3 ⟨t,rfl,b3,s3,o3⟩;have B3:Hid (Below w.heap.size w w3/\w3.heap[w.heap.size+1]?=some zTrB/\samV t t0/\OwT w2.heap.size w3 t/\w.heap.size+1 < w2.heap.size):=⟨B2.out.1.trans (b3.mono B2.out.1.size),(b3.block _ (lt_of_block B2.out.2.2)).trans B2.out.2.2,s3,o3,lt_of_block B2.out.2.2⟩;clear b3 s3 o3 x0 x1 x2 x3 x4;obtain ⟨⟨f0,f1,f2,f3⟩,z0,z1,z2,z3⟩:=FZ.out w3 B3.out.2.1)
   have H5:Hid (Below w.heap.size w (set4 w3 (w.heap.size+1) 0 t)/\TBx (set4 w3 (w.heap.size+1) 0 t) (w.heap.size+1) 0 t/\OwT w.heap.size (set4 w3 (w.heap.size+1) 0 t) t):=by
    obtain ⟨a1,a2,-,a3,a4⟩:=B3.out
    refine ⟨set4_below a1 0 t (by omega),set4_tbx t z0 z1 z2 z3 (lt_of_block a2),?_⟩
    have:=a3.kept (w':=set4 w3 (w.heap.size+1) 0 t) (fun a ha=>set4_other _ _ _ _ _ (by have:=(a3.ty a ha).1;omega)) (by rw [set4_size];exact Nat.le_refl _)
    exact ⟨this.ta,this.cn,fun a ha=>⟨by have:=(this.ty a ha).1;omega,(this.ty a ha).2⟩⟩
   change bodyPost _ _ _ _ _ (set4 w3 (w.heap.size+1) 0 t)
   generalize set4 w3 (w.heap.size+1) 0 t=w5 at *
   have y0:=H5.out.2.1.c0
   have y1:=H5.out.2.1.c1
   have y2:=H5.out.2.1.c2
   have y3:=H5.out.2.1.c3
   simp only [Nat.zero_add] at y1 y2 y3
   refine bodyPost_ret (v:=.tuple #[t.val,.int .i64 0,.int .i64 0]) (by simp [results,Tryz.results29,go_sem,y0,y1,y2,y3]) rfl ?_
   exact ⟨H5.out.1,t,B3.out.2.2.1,H5.out.2.2,rfl⟩
 ·have t1:(c1 != 0)=true:=by simpa using h0
  have eF:fromU (c1,c2) u=(none,c1,c2):=if_pos h0
  rw [eF]
  clear eF h0 HD
  go_enter Tryz.func29,Tryz.ntmps29
  go_upto_region 3 with (go_at_call 69;refine (CP.out _ X0.out.1).mono ?_;rintro e w2 ⟨rfl,b2⟩;have B3:Hid (Below w.heap.size w w2/\w2.heap[w.heap.size+1]?=some zTrB):=⟨X0.out.1.trans (b2.mono X0.out.1.size),(b2.block _ (lt_of_block X0.out.2.2)).trans X0.out.2.2⟩;clear b2 x0 x1 x2 x3 x4;obtain ⟨⟨f0,f1,f2,f3⟩,z0,z1,z2,z3⟩:=FZ.out w2 B3.out.2)
  have B4:Hid _:=NB.out w2 B3.out.1 B3.out.2
  go_wp2
  change bodyPost _ _ _ _ _ (set4 w2 (w.heap.size+1) 0 TV.none)
  generalize set4 w2 (w.heap.size+1) 0 TV.none=w5 at *
  have y0:=B4.out.2.c0
  have y1:=B4.out.2.c1
  have y2:=B4.out.2.c2
  have y3:=B4.out.2.c3
  simp only [Nat.zero_add] at y1 y2 y3
  refine bodyPost_ret (v:=.tuple #[TV.none.val,.int .i64 c1,.int .i64 c2]) (by simp [results,Tryz.results29,go_sem,y0,y1,y2,y3]) rfl ?_
  exact ⟨B4.out.1,rfl⟩
theorem FromLeft_W {w:World}{g:GV}{pa wa:Option Addr}{pc wc:Nat}{l:List Int}{L:List (Int×ByteArray)}(hg:GAt 140737488355328 w g)(hpc:g.ps.length<=g.pc)(er at_:Int)(hE:cG_ g (cF_ g.ts g.ns)=(er,at_))(hli:InRow w pa l)(hLi:TkRow w wa L)(hb:l.length<=1048576)(hB:L.length<=1048576) :
  Calls Tryz.prog 28 #[g.val,.slice pa l.length pc,.slice wa L.length wc] w fun e w'=>Below w.heap.size w w'/\ansE w.heap.size (fromU (cpU er g.ps.length l) (deriveU g l L)) e w' :=
 fromLeft_W hg hpc er at_ hE hli (by omega) _ fun h0 w' hbw=>by
  obtain ⟨-,h2,h3,-⟩:=cp_ok h0
  exact (derive_W h2 h3 (hg.later hbw) (hli.later hbw) (hLi.later hbw) (by omega) (by omega)).mono fun e w'' ⟨q1,q2⟩=>⟨q1,dvE_ans q2⟩
theorem FromRight_W {w:World}{g:GV}{pa wa:Option Addr}{pc wc:Nat}{l:List Int}{L:List (Int×ByteArray)}(hg:GAt 140737488355328 w g)(hpc:g.ps.length<=g.pc)(er at_:Int)(hE:cG_ g (cF_ g.ts g.ns)=(er,at_))(hli:InRow w pa l)(hLi:TkRow w wa L)(hb:l.length<=1048576)(hB:L.length<=1048576) :
  Calls Tryz.prog 29 #[g.val,.slice pa l.length pc,.slice wa L.length wc] w fun e w'=>Below w.heap.size w w'/\ansE w.heap.size (fromU (cpU er g.ps.length l) (mirU g l L)) e w' :=
 fromRight_W hg hpc er at_ hE hli (by omega) _ fun h0 w' hbw=>by
  obtain ⟨h1,h2,h3,-⟩:=cp_ok h0
  subst h1
  exact mirrored_W h2 h3 (hg.later hbw) hpc at_ hE (hli.later hbw) (hLi.later hbw) hb hB
end Go.Proofs.YteciabdjkaackaaGreat
