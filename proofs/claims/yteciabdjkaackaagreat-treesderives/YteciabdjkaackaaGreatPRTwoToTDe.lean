import Derived.Test.YteciabdjkaackaaGreatPTCzToTD4
namespace Go.Proofs.YteciabdjkaackaaGreat
set_option linter.unusedVariables false
open Go.RowKit
section
variable {P:Program} {ops:Array Oper} {Q:Exit->Act->World->Prop} {md:Region.Mode} {S:Array Bool->World->Prop}
def LaysT (P:Program)(ops:Array Oper)(Q:Exit->Act->World->Prop)(o:Oper)(I:World->Prop)(At:Act->Prop)(T:Nat->World->Prop)(f:Nat->Value):Prop :=
 ∀ (a:Act) (w:World) (K:Act->World->Prop),At a->I w->(∀ b w',Below w.heap.size w w'->w.heap.size<=b->T b w'->K (a.put o.dst (f b)) w')->if Region.wanted o (yielded ops a.tmps)=true then Oper.wp P o a w K Q else K (a.put o.dst undef) w
def GoesB (T:Nat->World->Prop):Prop:=∀ b w,T b w->b < w.heap.size/\∀ w',Below w.heap.size w w'->T b w'
theorem pickT {l:List Nat}{fuel:Nat}{listed:Array Bool}{a:Act}{w:World}(hr:Region.ready md ops listed=l)(hne:l≠[])
  (h:∀ j∈l,∃ o,ops.toList[j]?=some o/\∀ K':Act->World->Prop,Shut (∀ a' w',S (listed.setIfInBounds j true) w'->wpAnyX P md ops Q S fuel (listed.setIfInBounds j true) a' w'->K' a' w')->if Region.wanted o (yielded ops a.tmps)=true then Oper.wp P o a w K' Q else K' (a.put o.dst undef) w) :
  wpAnyX P md ops Q S (fuel+1) listed a w:=by
 refine ⟨fun h0=>absurd (hr.symm.trans h0) hne,fun i hi=>?_⟩
 rw [hr] at hi
 obtain ⟨o,ho',h⟩:=h i hi
 have ho:ops[i]?=some o:=by rw [<- Array.getElem?_toList];exact ho'
 exact wpOp_step ho (fun K' hK=>h K' (fun a' w' hS hW=>hK a' w' ⟨hS,hW⟩))
theorem wpAnyX_two {o1 o2:Oper}{d1 d2:Nat}{L:Array Bool}{a:Act}{w:World}{fuel:Nat}(j1 j2:Nat)(h1:ops.toList[j1]?=some o1)(h2:ops.toList[j2]?=some o2)
  (e1:o1.dst=some d1) (e2:o2.dst=some d2) (hd:d1≠d2)
  (r:Region.ready md ops L=[j1,j2]) (r1:Region.ready md ops (L.setIfInBounds j1 true)=[j2]) (r2:Region.ready md ops (L.setIfInBounds j2 true)=[j1])
  {I:World->Prop} (hI:∀ w' w'',I w'->Below w'.heap.size w' w''->I w'') (hS:∀ w' L',I w'->S L' w')
  {T1 T2:Nat->World->Prop} {f1 f2:Nat->Value} (t1:GoesB T1) (t2:GoesB T2)
  {At:Act->Prop} (hAt:At a) (a1:∀ a v,At a->At (a.put (some d1) v)) (a2:∀ a v,At a->At (a.put (some d2) v))
  (s1:LaysT P ops Q o1 I At T1 f1) (s2:LaysT P ops Q o2 I At T2 f2) (hw:I w)
  (h:∀ b1 b2 w',I w'->Below w.heap.size w w'->w.heap.size<=b1/\w.heap.size<=b2->b1≠b2->T1 b1 w'->T2 b2 w'->wpAnyX P md ops Q S fuel ((L.setIfInBounds j1 true).setIfInBounds j2 true) ((a.put (some d1) (f1 b1)).put (some d2) (f2 b2)) w') :
  wpAnyX P md ops Q S (fuel+1+1) L a w:=by
 have sc:∀ (L:Array Bool) (i j:Nat),(L.setIfInBounds i true).setIfInBounds j true=(L.setIfInBounds j true).setIfInBounds i true:=fun L i j=>by
  by_cases h:i=j
  ·rw [h]
  ·exact Array.setIfInBounds_comm _ _ h
 have pc:∀ (a:Act) (u v:Value),(a.put (some d2) u).put (some d1) v=(a.put (some d1) v).put (some d2) u:=fun a u v=>by
  simp only [Act.put,Act.mk.injEq,and_true]
  exact Array.setIfInBounds_comm _ _ (Ne.symm hd)
 have one:∀ {j:Nat} {o:Oper} {d:Nat} {T:Nat->World->Prop} {f:Nat->Value} {L':Array Bool} {a':Act} {v:World} {n:Nat},ops.toList[j]?=some o->o.dst=some d->LaysT P ops Q o I At T f->At a'->I v ->
   (∀ b w',I w'->Below v.heap.size v w'->v.heap.size<=b->T b w'->wpAnyX P md ops Q S n (L'.setIfInBounds j true) (a'.put (some d) (f b)) w') ->
   ∃ o,ops.toList[j]?=some o/\∀ K':Act->World->Prop,Shut (∀ a'' w',S (L'.setIfInBounds j true) w'->wpAnyX P md ops Q S n (L'.setIfInBounds j true) a'' w'->K' a'' w')->if Region.wanted o (yielded ops a'.tmps)=true then Oper.wp P o a' v K' Q else K' (a'.put o.dst undef) v :=
  fun {j o d T f L' a' v n} ho hdst hs hat hi hc=>⟨o,ho,fun K' hK=>hs a' v K' hat hi fun b w' hb hl ht=>hK.out _ _ (hS _ _ (hI _ _ hi hb)) (by rw [hdst];exact hc b w' (hI _ _ hi hb) hb hl ht)⟩
 refine pickT r (by simp) (fun j hj=>?_)
 simp only [List.mem_cons,List.not_mem_nil,or_false] at hj
 rcases hj with hj | hj<;>rw [hj]
 ·refine one h1 e1 s1 hAt hw (fun b1 w1 i1 B1 l1 q1=>?_)
  refine pickT r1 (by simp) (fun j hj=>?_)
  simp only [List.mem_cons,List.not_mem_nil,or_false] at hj
  rw [hj]
  refine one h2 e2 s2 (a1 _ _ hAt) i1 (fun b2 w2 i2 B2 l2 q2=>?_)
  have k1:=(t1 _ _ q1).1
  have z1:=B1.size
  exact h b1 b2 w2 i2 (B1.trans (B2.mono z1)) (by omega) (by omega) ((t1 _ _ q1).2 _ B2) q2
 ·refine one h2 e2 s2 hAt hw (fun b2 w1 i1 B1 l2 q2=>?_)
  refine pickT r2 (by simp) (fun j hj=>?_)
  simp only [List.mem_cons,List.not_mem_nil,or_false] at hj
  rw [hj]
  refine one h1 e1 s1 (a2 _ _ hAt) i1 (fun b1 w2 i2 B2 l1 q1=>?_)
  have k2:=(t2 _ _ q2).1
  have z1:=B1.size
  have g:=h b1 b2 w2 i2 (B1.trans (B2.mono z1)) (by omega) (by omega) q1 ((t2 _ _ q2).2 _ B2)
  rw [sc _ j2 j1,pc]
  exact g
end
structure TwS (w0:World)(X Y:List TV)(vx vy:Value)(w:World):Prop where
 bel:Below w0.heap.size w0 w
 x:TRo w vx X
 y:TRo w vy Y
 xo:∀ j,vx.ownBlock=some j->w0.heap.size<=j
 yo:∀ j,vy.ownBlock=some j->w0.heap.size<=j
 ne:∀ j,vx.ownBlock=some j->vy.ownBlock≠some j
theorem TwS.later {w0:World}{X Y:List TV}{vx vy:Value}{w w':World}(h:TwS w0 X Y vx vy w)(hb:Below w.heap.size w w'):TwS w0 X Y vx vy w' :=
 ⟨h.bel.trans (hb.mono h.bel.size),h.x.later hb,h.y.later hb,h.xo,h.yo,h.ne⟩
theorem TwS.grewx {w0:World}{X X' Y:List TV}{vx vy vx':Value}{w w':World}(h:TwS w0 X Y vx vy w)(hg:Grew w w' vx vx')(ho:TRo w' vx' X'):TwS w0 X' Y vx' vy w':=by
 have hy:∀ j,vy.ownBlock=some j->w'.heap[j]?=w.heap[j]?:=fun j hj=>hg.grown.block j (h.y.lt j hj) fun e=>h.ne j e.symm hj
 refine ⟨h.bel.grown hg.grown h.bel.size h.xo,ho,h.y.kept hy,hg.own h.bel.size h.xo,h.yo,fun j hj hj'=>?_⟩
 rcases hg.moved with e | ⟨k,e,hk⟩
 ·rw [e] at hj;exact h.ne j hj hj'
 ·rw [e] at hj
  cases hj
  have:=h.y.lt j hj'
  omega
theorem TwS.swap {w0:World}{X Y:List TV}{vx vy:Value}{w:World}(h:TwS w0 X Y vx vy w):TwS w0 Y X vy vx w:=⟨h.bel,h.y,h.x,h.yo,h.xo,fun j hj hj'=>h.ne j hj' hj⟩
theorem TwS.grewy {w0:World}{X Y Y':List TV}{vx vy vy':Value}{w w':World}(h:TwS w0 X Y vx vy w)(hg:Grew w w' vy vy')(ho:TRo w' vy' Y'):TwS w0 X Y' vx vy' w':=(h.swap.grewx hg ho).swap
def samL (X Y:List TV):Prop:=X.length=Y.length/\∀ i (h:i < X.length) (h':i < Y.length),samV X[i] Y[i]
theorem samL_one {a b:TV}(h:samV a b):samL [a] [b]:=⟨rfl,fun i hi _=>by
 simp only [List.length_singleton] at hi
 obtain rfl:i=0:=by omega
 exact h⟩
theorem samL_snoc {X Y:List TV}{p q:TV}(h:samL (X++[p]) (Y++[q])):samL X Y/\samV p q:=by
 obtain ⟨h1,h2⟩:=h
 have hl:X.length=Y.length:=by simpa using h1
 refine ⟨⟨hl,fun i h h'=>?_⟩,?_⟩
 ·have:=h2 i (by simp;omega) (by simp;omega)
  rwa [List.getElem_append_left h,List.getElem_append_left h'] at this
 ·have:=h2 X.length (by simp) (by simp;omega)
  rw [List.getElem_append_right (Nat.le_refl _),List.getElem_append_right (by omega)] at this
  simpa using this
theorem samL_app {X Y P Q:List TV}(h:samL X Y)(g:samL P Q):samL (X++P) (Y++Q):=by
 refine ⟨by simp [h.1,g.1],fun i hi hi'=>?_⟩
 by_cases hx:i < X.length
 ·rw [List.getElem_append_left hx,List.getElem_append_left (by have:=h.1;omega)]
  exact h.2 i hx _
 ·have e:=h.1
  rw [List.getElem_append_right (by omega),List.getElem_append_right (by omega)]
  have hi2:i - X.length < P.length:=by simp at hi;omega
  have:=g.2 (i - X.length) hi2 (by have:=g.1;omega)
  simpa [e] using this
theorem two_allocT (w:World)(x y:Obj):Below w.heap.size w ((w.alloc x).alloc y)/\((w.alloc x).alloc y).heap[w.heap.size]?=some x/\((w.alloc x).alloc y).heap[w.heap.size+1]?=some y:=by
 have hn:(w.alloc x).heap.size=w.heap.size+1:=by simp
 have h2:=heap_alloc_new (w.alloc x) y
 rw [hn] at h2
 exact ⟨(bAl _ _).trans ((bAl _ _).mono (bAl _ _).size),((bAl (w.alloc x) y).block _ (by rw [hn];exact Nat.lt_succ_self _)).trans (heap_alloc_new w x),h2⟩
theorem tro_one {w:World}{b:Nat}{t:TV}(h:w.heap[b]?=some (tBox t)):TRo w (.slice (some ⟨b,0,none⟩) 1 1) [t] :=
 ⟨rfl,.inr ⟨b,1,_,rfl,Nat.zero_le _,h,Nat.le_refl _,by unfold maxLen;omega,rfl,rfl⟩⟩
theorem tws_start (a b:TV)(w w2:World)(hb:Below w.heap.size w w2):TwS w [a] [b] (.slice (some ⟨w2.heap.size,0,none⟩) 1 1) (.slice (some ⟨w2.heap.size+1,0,none⟩) 1 1) ((w2.alloc (tBox a)).alloc (tBox b)).drew:=by
 obtain ⟨h1,h2,h3⟩:=two_allocT w2 (tBox a) (tBox b)
 have hz:=hb.size
 refine ⟨(hb.trans (h1.mono hb.size)).drew,tro_one h2,tro_one h3,fun j hj=>?_,fun j hj=>?_,fun j hj hj'=>?_⟩
 ·simp [Value.ownBlock] at hj;omega
 ·simp [Value.ownBlock] at hj;omega
 ·simp [Value.ownBlock] at hj hj';omega
theorem put_evalT (a:Act){d i:Nat}(h:d≠i)(v:Value):(a.put (some d) v).eval (.tmp i)=a.eval (.tmp i):=by
 simp [Act.put,Act.eval,h]
set_option linter.unusedSimpArgs false in
set_option maxRecDepth 100000 in
set_option maxHeartbeats 4000000 in
theorem sameTree_W (a b:TV)(w:World)(ha:TAt w a)(hb:TAt w b)(hs:samV a b)(hsz:szT a<=100000000):Calls Tryz.prog 13 #[a.val,b.val] w fun e w'=>e=.returned (.bool true)/\Below w.heap.size w w':=by
 have S1:Hid (TwS w [a] [b] (.slice (some ⟨w.heap.size+1+1,0,none⟩) 1 1) (.slice (some ⟨w.heap.size+1+1+1,0,none⟩) 1 1) ((((w.alloc (tBox a)).alloc (tBox b)).alloc (tBox a)).alloc (tBox b)).drew):=by
  show TwS _ _ _ _ _ _
  have:=tws_start a b w ((w.alloc (tBox a)).alloc (tBox b)) ((bAl _ _).trans ((bAl _ _).mono (bAl _ _).size))
  simpa using this
 have S2:Hid (TwS w [a] [b] (.slice (some ⟨w.heap.size+1+1+1,0,none⟩) 1 1) (.slice (some ⟨w.heap.size+1+1,0,none⟩) 1 1) ((((w.alloc (tBox a)).alloc (tBox b)).alloc (tBox b)).alloc (tBox a)).drew):=by
  show TwS _ _ _ _ _ _
  have:=(tws_start b a w ((w.alloc (tBox a)).alloc (tBox b)) ((bAl _ _).trans ((bAl _ _).mono (bAl _ _).size))).swap
  simpa using this
 have HT:Hid (TAt w a/\TAt w b/\samV a b/\szT a<=100000000):=⟨ha,hb,hs,hsz⟩
 clear ha hb hs hsz
 go_enter Tryz.func13,Tryz.ntmps13
 go_upto_region 1 with fail
 go_cut [5,6] (fun v5 v6 wx=>TwS w [a] [b] v5 v6 wx)
 case first =>
  go_region
  ·go_wp2_with fail
   go_meet
   exact S1.out
  ·go_wp2_with fail
   go_meet
   exact S2.out
 case rest =>
  have H0:Hid (TwS w [a] [b] u5 u6 wc):=hcut
  clear hcut S1 S2
  go_wp2
  go_loopg [5,6] (szT a+1) (fun gk vx vy wr=>∃ X Y,TwS w X Y vx vy wr/\samL X Y/\(∀ t∈X,TAt w t)/\(∀ t∈Y,TAt w t)/\szL X < gk/\szL X<=100000000)
  case atStart=>exact ⟨[a],[b],H0.out,samL_one HT.out.2.2.1,fun t ht=>by simp only [List.mem_singleton] at ht;subst ht;exact HT.out.1,fun t ht=>by simp only [List.mem_singleton] at ht;subst ht;exact HT.out.2.1,by simp [szL],by have:=HT.out.2.2.2;simpa [szL] using this⟩
  case round =>
   clear H0
   obtain ⟨X,Y,hT,hL,hX,hY,hg,hz⟩:=hrel
   by_cases hD:X=[]
   ·subst hD
    obtain ⟨sa,sc,rfl,_⟩:=RO.len hT.x
    have R:Hid (Below w.heap.size w wr):=hT.bel
    clear hT hL hX hY hg hz
    simp only [List.length_nil] at *
    go_wp2
    go_ret
    exact ⟨rfl,R.out⟩
   ·obtain ⟨X',p,rfl⟩:∃ d y,X=d++[y]:=⟨X.dropLast,X.getLast hD,(List.dropLast_concat_getLast hD).symm⟩
    obtain ⟨Y',q,rfl⟩:∃ d y,Y=d++[y]:=by
     have hne:Y≠[]:=fun e=>by have:=hL.1;rw [e] at this;simp at this
     exact ⟨Y.dropLast,Y.getLast hne,(List.dropLast_concat_getLast hne).symm⟩
    obtain ⟨hL',hpq⟩:=samL_snoc hL
    obtain ⟨bx,cx,rfl,hcx,cellx,hPx⟩:=RO.pop (f:=trCells) (fun _=>rfl) hT.x
    obtain ⟨by',cy,rfl,hcy,celly,hPy⟩:=RO.pop (f:=trCells) (fun _=>rfl) hT.y
    have hlen:X'.length<=100000000:=by
     have h1:=szL_len (X'++[p])
     simp only [List.length_append,List.length_cons,List.length_nil] at h1
     omega
    rw [<- hL'.1] at *
    have HS0:Hid ((wr.cell? ⟨bx,X'.length*4,none⟩=some (.int .i64 p.prod)/\wr.cell? ⟨bx,X'.length*4+1,none⟩=some (.int .i64 p.kind)/\wr.cell? ⟨bx,X'.length*4+2,none⟩=some (.string p.tx)/\wr.cell? ⟨bx,X'.length*4+3,none⟩=some (.slice p.ka p.kids.length p.kc))/\wr.cell? ⟨by',X'.length*4,none⟩=some (.int .i64 q.prod)/\wr.cell? ⟨by',X'.length*4+1,none⟩=some (.int .i64 q.kind)/\wr.cell? ⟨by',X'.length*4+2,none⟩=some (.string q.tx)/\wr.cell? ⟨by',X'.length*4+3,none⟩=some (.slice q.ka q.kids.length q.kc)):=⟨⟨cellx 0 (by omega),cellx 1 (by omega),cellx 2 (by omega),cellx 3 (by omega)⟩,celly 0 (by omega),celly 1 (by omega),celly 2 (by omega),celly 3 (by omega)⟩
    have HW:Hid (TwS w (X'++[p]) (Y'++[q]) (.slice (some ⟨bx,0,none⟩) (X'.length+1) cx) (.slice (some ⟨by',0,none⟩) (X'.length+1) cy) wr/\samL X' Y'/\samV p q/\(∀ t∈X'++[p],TAt w t)/\(∀ t∈Y'++[q],TAt w t)/\szL (X'++[p]) < gk/\szL (X'++[p])<=100000000):=⟨hT,hL',hpq,hX,hY,hg,hz⟩
    clear hT hL hL' hpq hX hY hg hz cellx celly hPx hPy hD
    go_upto_region 3 with fail
    go_cut [7,8] (fun v7 v8 wx=>∃ b7 b8:Nat,v7=.pointer (some ⟨b7,0,none⟩)/\v8=.pointer (some ⟨b8,0,none⟩)/\b7≠b8/\wx.heap[b7]?=some (tBox p)/\wx.heap[b8]?=some (tBox q)/\wr.heap.size<=b7/\wr.heap.size<=b8/\Below wr.heap.size wr wx)
    case first =>
     refine wp_region_x (S:=SX 15 (fun _=>True) (fun w'=>(w'.cell? ⟨bx,X'.length*4,none⟩=some (.int .i64 p.prod)/\w'.cell? ⟨bx,X'.length*4+1,none⟩=some (.int .i64 p.kind)/\w'.cell? ⟨bx,X'.length*4+2,none⟩=some (.string p.tx)/\w'.cell? ⟨bx,X'.length*4+3,none⟩=some (.slice p.ka p.kids.length p.kc))/\w'.cell? ⟨by',X'.length*4,none⟩=some (.int .i64 q.prod)/\w'.cell? ⟨by',X'.length*4+1,none⟩=some (.int .i64 q.kind)/\w'.cell? ⟨by',X'.length*4+2,none⟩=some (.string q.tx)/\w'.cell? ⟨by',X'.length*4+3,none⟩=some (.slice q.ka q.kids.length q.kc))) (by kernel_rfl) ?_
     obtain ⟨wd,hwd⟩:∃ wd:World,wd=wr.drew:=⟨_,rfl⟩
     have HS:Hid ((wd.cell? ⟨bx,X'.length*4,none⟩=some (.int .i64 p.prod)/\wd.cell? ⟨bx,X'.length*4+1,none⟩=some (.int .i64 p.kind)/\wd.cell? ⟨bx,X'.length*4+2,none⟩=some (.string p.tx)/\wd.cell? ⟨bx,X'.length*4+3,none⟩=some (.slice p.ka p.kids.length p.kc))/\wd.cell? ⟨by',X'.length*4,none⟩=some (.int .i64 q.prod)/\wd.cell? ⟨by',X'.length*4+1,none⟩=some (.int .i64 q.kind)/\wd.cell? ⟨by',X'.length*4+2,none⟩=some (.string q.tx)/\wd.cell? ⟨by',X'.length*4+3,none⟩=some (.slice q.ka q.kids.length q.kc)):=by rw [hwd];exact HS0.out
     have BD:Hid (Below wr.heap.size wr wd):=by rw [hwd];exact (Below.refl _ _).drew
     rw [<- hwd]
     clear hwd
     have KEEP:Hid (∀ w',Below wr.heap.size wr w'->(w'.cell? ⟨bx,X'.length*4,none⟩=some (.int .i64 p.prod)/\w'.cell? ⟨bx,X'.length*4+1,none⟩=some (.int .i64 p.kind)/\w'.cell? ⟨bx,X'.length*4+2,none⟩=some (.string p.tx)/\w'.cell? ⟨bx,X'.length*4+3,none⟩=some (.slice p.ka p.kids.length p.kc))/\w'.cell? ⟨by',X'.length*4,none⟩=some (.int .i64 q.prod)/\w'.cell? ⟨by',X'.length*4+1,none⟩=some (.int .i64 q.kind)/\w'.cell? ⟨by',X'.length*4+2,none⟩=some (.string q.tx)/\w'.cell? ⟨by',X'.length*4+3,none⟩=some (.slice q.ka q.kids.length q.kc)):=fun w' hb=>by
      obtain ⟨⟨g0,g1,g2,g3⟩,k0,k1,k2,k3⟩:=HS0.out
      have hx:=HW.out.1.x.lt bx rfl
      have hy:=HW.out.1.y.lt by' rfl
      exact ⟨⟨(hb.cell (p:=⟨bx,_,none⟩) hx).trans g0,(hb.cell (p:=⟨bx,_,none⟩) hx).trans g1,(hb.cell (p:=⟨bx,_,none⟩) hx).trans g2,(hb.cell (p:=⟨bx,_,none⟩) hx).trans g3⟩,(hb.cell (p:=⟨by',_,none⟩) hy).trans k0,(hb.cell (p:=⟨by',_,none⟩) hy).trans k1,(hb.cell (p:=⟨by',_,none⟩) hy).trans k2,(hb.cell (p:=⟨by',_,none⟩) hy).trans k3⟩
     have e0:IntKind.i64.wrap (X'.length:Int)=(X'.length:Int):=IntWalk.i64_in _ ⟨by omega,by omega⟩
     have e1:(X'.length:Int) < (X'.length:Int)+1:=by omega
     refine wXt (m:=15) (i:=0) (v:=?_) rfl (by kernel_rfl) (by kernel_rfl) (by decide) (by decide +kernel) (by decide +kernel) (fun _ _ _ h=>h) (by kernel_rfl) (Or.inl ⟨by rfl,?_⟩) (SX.both trivial HS.out) ?_
     rotate_left
     ·(intro w hSw;obtain ⟨_,⟨z0,z1,z2,z3⟩,y0,y1,y2,y3⟩:=hSw;go_simp;try (with_reducible rfl))
     (try simp only [Act.put,List.setIfInBounds_toArray,List.set_cons_zero,List.set_cons_succ])
     refine wXt (m:=15) (i:=1) (v:=?_) rfl (by kernel_rfl) (by kernel_rfl) (by decide) (by decide +kernel) (by decide +kernel) (fun _ _ _ h=>h) (by kernel_rfl) (Or.inl ⟨by rfl,?_⟩) (SX.both trivial HS.out) ?_
     rotate_left
     ·(intro w hSw;obtain ⟨_,⟨z0,z1,z2,z3⟩,y0,y1,y2,y3⟩:=hSw;go_simp;try (with_reducible rfl))
     (try simp only [Act.put,List.setIfInBounds_toArray,List.set_cons_zero,List.set_cons_succ])
     refine wXt (m:=15) (i:=2) (v:=?_) rfl (by kernel_rfl) (by kernel_rfl) (by decide) (by decide +kernel) (by decide +kernel) (fun _ _ _ h=>h) (by kernel_rfl) (Or.inl ⟨by rfl,?_⟩) (SX.both trivial HS.out) ?_
     rotate_left
     ·(intro w hSw;obtain ⟨_,⟨z0,z1,z2,z3⟩,y0,y1,y2,y3⟩:=hSw;go_simp;try (with_reducible rfl))
     (try simp only [Act.put,List.setIfInBounds_toArray,List.set_cons_zero,List.set_cons_succ])
     refine wXt (m:=15) (i:=3) (v:=?_) rfl (by kernel_rfl) (by kernel_rfl) (by decide) (by decide +kernel) (by decide +kernel) (fun _ _ _ h=>h) (by kernel_rfl) (Or.inl ⟨by rfl,?_⟩) (SX.both trivial HS.out) ?_
     rotate_left
     ·(intro w hSw;obtain ⟨_,⟨z0,z1,z2,z3⟩,y0,y1,y2,y3⟩:=hSw;go_simp;try (with_reducible rfl))
     (try simp only [Act.put,List.setIfInBounds_toArray,List.set_cons_zero,List.set_cons_succ])
     refine wXt (m:=15) (i:=4) (v:=?_) rfl (by kernel_rfl) (by kernel_rfl) (by decide) (by decide +kernel) (by decide +kernel) (fun _ _ _ h=>h) (by kernel_rfl) (Or.inl ⟨by rfl,?_⟩) (SX.both trivial HS.out) ?_
     rotate_left
     ·(intro w hSw;obtain ⟨_,⟨z0,z1,z2,z3⟩,y0,y1,y2,y3⟩:=hSw;go_simp;try (with_reducible rfl))
     (try simp only [Act.put,List.setIfInBounds_toArray,List.set_cons_zero,List.set_cons_succ])
     refine wXt (m:=15) (i:=5) (v:=?_) rfl (by kernel_rfl) (by kernel_rfl) (by decide) (by decide +kernel) (by decide +kernel) (fun _ _ _ h=>h) (by kernel_rfl) (Or.inl ⟨by rfl,?_⟩) (SX.both trivial HS.out) ?_
     rotate_left
     ·(intro w hSw;obtain ⟨_,⟨z0,z1,z2,z3⟩,y0,y1,y2,y3⟩:=hSw;go_simp;try (with_reducible rfl))
     (try simp only [Act.put,List.setIfInBounds_toArray,List.set_cons_zero,List.set_cons_succ])
     refine wXt (m:=15) (i:=6) (v:=?_) rfl (by kernel_rfl) (by kernel_rfl) (by decide) (by decide +kernel) (by decide +kernel) (fun _ _ _ h=>h) (by kernel_rfl) (Or.inl ⟨by rfl,?_⟩) (SX.both trivial HS.out) ?_
     rotate_left
     ·(intro w hSw;obtain ⟨_,⟨z0,z1,z2,z3⟩,y0,y1,y2,y3⟩:=hSw;go_simp;try (with_reducible rfl))
     (try simp only [Act.put,List.setIfInBounds_toArray,List.set_cons_zero,List.set_cons_succ])
     refine wXt (m:=15) (i:=7) (v:=?_) rfl (by kernel_rfl) (by kernel_rfl) (by decide) (by decide +kernel) (by decide +kernel) (fun _ _ _ h=>h) (by kernel_rfl) (Or.inl ⟨by rfl,?_⟩) (SX.both trivial HS.out) ?_
     rotate_left
     ·(intro w hSw;obtain ⟨_,⟨z0,z1,z2,z3⟩,y0,y1,y2,y3⟩:=hSw;go_simp;try (with_reducible rfl))
     (try simp only [Act.put,List.setIfInBounds_toArray,List.set_cons_zero,List.set_cons_succ])
     refine wXt (m:=15) (i:=8) (v:=?_) rfl (by kernel_rfl) (by kernel_rfl) (by decide) (by decide +kernel) (by decide +kernel) (fun _ _ _ h=>h) (by kernel_rfl) (Or.inl ⟨by rfl,?_⟩) (SX.both trivial HS.out) ?_
     rotate_left
     ·(intro w hSw;obtain ⟨_,⟨z0,z1,z2,z3⟩,y0,y1,y2,y3⟩:=hSw;go_simp;try (with_reducible rfl))
     (try simp only [Act.put,List.setIfInBounds_toArray,List.set_cons_zero,List.set_cons_succ])
     refine wXt (m:=15) (i:=9) (v:=?_) rfl (by kernel_rfl) (by kernel_rfl) (by decide) (by decide +kernel) (by decide +kernel) (fun _ _ _ h=>h) (by kernel_rfl) (Or.inl ⟨by rfl,?_⟩) (SX.both trivial HS.out) ?_
     rotate_left
     ·(intro w hSw;obtain ⟨_,⟨z0,z1,z2,z3⟩,y0,y1,y2,y3⟩:=hSw;go_simp;try (with_reducible rfl))
     (try simp only [Act.put,List.setIfInBounds_toArray,List.set_cons_zero,List.set_cons_succ])
     refine wXt (m:=15) (i:=10) (v:=?_) rfl (by kernel_rfl) (by kernel_rfl) (by decide) (by decide +kernel) (by decide +kernel) (fun _ _ _ h=>h) (by kernel_rfl) (Or.inl ⟨by rfl,?_⟩) (SX.both trivial HS.out) ?_
     rotate_left
     ·(intro w hSw;obtain ⟨_,⟨z0,z1,z2,z3⟩,y0,y1,y2,y3⟩:=hSw;go_simp;try (with_reducible rfl))
     (try simp only [Act.put,List.setIfInBounds_toArray,List.set_cons_zero,List.set_cons_succ])
     refine wXt (m:=15) (i:=11) (v:=?_) rfl (by kernel_rfl) (by kernel_rfl) (by decide) (by decide +kernel) (by decide +kernel) (fun _ _ _ h=>h) (by kernel_rfl) (Or.inl ⟨by rfl,?_⟩) (SX.both trivial HS.out) ?_
     rotate_left
     ·(intro w hSw;obtain ⟨_,⟨z0,z1,z2,z3⟩,y0,y1,y2,y3⟩:=hSw;go_simp;try (with_reducible rfl))
     (try simp only [Act.put,List.setIfInBounds_toArray,List.set_cons_zero,List.set_cons_succ])
     refine wpAnyX_two 12 13 rfl rfl rfl rfl (by decide) (by decide +kernel) (by decide +kernel) (by decide +kernel) (I:=fun w'=>Below wr.heap.size wr w') (fun w' w'' h q=>h.trans (q.mono h.size)) (fun w' L' h=>SX.both trivial (KEEP.out w' h)) (T1:=fun b' w'=>w'.heap[b']?=some zTree) (T2:=fun b' w'=>w'.heap[b']?=some zTree) (f1:=fun b'=>.pointer (some ⟨b',0,none⟩)) (f2:=fun b'=>.pointer (some ⟨b',0,none⟩)) (fun b' w' h=>⟨lt_of_block h,fun w'' q=>(q.block _ (lt_of_block h)).trans h⟩) (fun b' w' h=>⟨lt_of_block h,fun w'' q=>(q.block _ (lt_of_block h)).trans h⟩) (At:=fun _=>True) trivial (fun _ _ _=>trivial) (fun _ _ _=>trivial) ?s1 ?s2 BD.out ?go
     case s1 =>
      rintro a' w1 K - hi hk
      go_simp
      exact hk w1.heap.size _ (bAl _ _) (Nat.le_refl _) (heap_alloc_new _ _)
     case s2 =>
      rintro a' w1 K - hi hk
      go_simp
      exact hk w1.heap.size _ (bAl _ _) (Nat.le_refl _) (heap_alloc_new _ _)
     case go =>
      rintro b7 b8 w2 hB2 - ⟨hl7,hl8⟩ h78 h7 h8
      have H2:Hid (Below wr.heap.size wr w2/\wr.heap.size<=b7/\wr.heap.size<=b8/\w2.heap[b7]?=some zTree/\w2.heap[b8]?=some zTree):=⟨hB2,Nat.le_trans BD.out.size hl7,Nat.le_trans BD.out.size hl8,h7,h8⟩
      clear hB2 hl7 hl8 h7 h8 HS
      (try simp only [Act.put,List.setIfInBounds_toArray,List.set_cons_zero,List.set_cons_succ])
      refine wX1 (j:=14) (by decide +kernel) rfl (fun K' hK=>?_)
      refine step_storeM rfl 26 (.tmp 7) (.tmp 21) rfl b7 #[.int .i64 p.prod,.int .i64 p.kind,.string p.tx,.slice p.ka p.kids.length p.kc] rfl rfl (there_of (cs:=#[.int .i64 0,.int .i64 0,.string ByteArray.empty,.slice none 0 0]) H2.out.2.2.2.1) (by kernel_rfl) (by kernel_rfl) ?_
      have e7:w2.setCells b7 0 (#[Value.int .i64 p.prod,.int .i64 p.kind,.string p.tx,.slice p.ka p.kids.length p.kc]:Array Value).toList=set4 w2 b7 0 p:=rfl
      rw [e7]
      have H3:Hid (Below wr.heap.size wr (set4 w2 b7 0 p)/\wr.heap.size<=b7/\wr.heap.size<=b8/\(set4 w2 b7 0 p).heap[b7]?=some (tBox p)/\(set4 w2 b7 0 p).heap[b8]?=some zTree):=⟨set4_below H2.out.1 0 p H2.out.2.1,H2.out.2.1,H2.out.2.2.1,setCs_four (v0:=.int .i64 p.prod) (v1:=.int .i64 p.kind) (v2:=.string p.tx) (v3:=.slice p.ka p.kids.length p.kc) H2.out.2.2.2.1,(set4_other _ _ _ _ _ (Ne.symm h78)).trans H2.out.2.2.2.2⟩
      clear e7 H2
      generalize set4 w2 b7 0 p=w3 at *
      refine hK.out _ _ (SX.both trivial (KEEP.out _ H3.out.1)) ?_
      clear hK K'
      (try simp only [Act.put,List.setIfInBounds_toArray,List.set_cons_zero,List.set_cons_succ])
      refine wX1 (j:=15) (by decide +kernel) rfl (fun K' hK=>?_)
      refine step_storeM rfl 26 (.tmp 8) (.tmp 27) rfl b8 #[.int .i64 q.prod,.int .i64 q.kind,.string q.tx,.slice q.ka q.kids.length q.kc] rfl rfl (there_of (cs:=#[.int .i64 0,.int .i64 0,.string ByteArray.empty,.slice none 0 0]) H3.out.2.2.2.2) (by kernel_rfl) (by kernel_rfl) ?_
      have e8:w3.setCells b8 0 (#[Value.int .i64 q.prod,.int .i64 q.kind,.string q.tx,.slice q.ka q.kids.length q.kc]:Array Value).toList=set4 w3 b8 0 q:=rfl
      rw [e8]
      have H4:Hid (b7≠b8/\(set4 w3 b8 0 q).heap[b7]?=some (tBox p)/\(set4 w3 b8 0 q).heap[b8]?=some (tBox q)/\wr.heap.size<=b7/\wr.heap.size<=b8/\Below wr.heap.size wr (set4 w3 b8 0 q)):=⟨h78,(set4_other _ _ _ _ _ h78).trans H3.out.2.2.2.1,setCs_four (v0:=.int .i64 q.prod) (v1:=.int .i64 q.kind) (v2:=.string q.tx) (v3:=.slice q.ka q.kids.length q.kc) H3.out.2.2.2.2,H3.out.2.1,H3.out.2.2.1,set4_below H3.out.1 0 q H3.out.2.2.1⟩
      clear e8 H3
      generalize set4 w3 b8 0 q=w4 at *
      refine hK.out _ _ (SX.one trivial (by kernel_rfl)) ?_
      clear hK K'
      (try simp only [Act.put,List.setIfInBounds_toArray,List.set_cons_zero,List.set_cons_succ])
      refine wXd (by decide +kernel) ?_
      go_wp2_with fail
      go_meet
      exact ⟨b7,b8,rfl,rfl,H4.out⟩
    case rest =>
     obtain ⟨b7,b8,rfl,rfl,h78,h7,h8,hl7,hl8,hB⟩:=hcut
     have H5:Hid (TwS w X' Y' (.slice (some ⟨bx,0,none⟩) X'.length cx) (.slice (some ⟨by',0,none⟩) X'.length cy) wc/\wc.heap[b7]?=some (tBox p)/\wc.heap[b8]?=some (tBox q)/\bx < b7/\by' < b7/\bx < b8/\by' < b8):=by
      have hT:=HW.out.1.later hB
      have hx:=HW.out.1.x.lt bx rfl
      have hy:=HW.out.1.y.lt by' rfl
      obtain ⟨bx',cx',e1,_,_,hPx⟩:=RO.pop (f:=trCells) (fun _=>rfl) hT.x
      obtain ⟨by2,cy',e2,_,_,hPy⟩:=RO.pop (f:=trCells) (fun _=>rfl) hT.y
      cases e1
      have hl:=HW.out.2.1.1
      rw [<- hl] at e2 hPy
      cases e2
      exact ⟨⟨hT.bel,hPx,hPy,hT.xo,hT.yo,hT.ne⟩,h7,h8,by omega,by omega,by omega,by omega⟩
     obtain ⟨hsg,hkk⟩:=(samV_iff p q).1 HW.out.2.2.1
     unfold sgV at hsg
     simp only [Prod.mk.injEq] at hsg
     obtain ⟨q0,q1,q2,q3⟩:=hsg
     have KK:Hid (samL p.kids q.kids):=⟨q3,hkk⟩
     obtain ⟨z0,z1,z2,z3⟩:=tb_cells h7
     obtain ⟨y0,y1,y2,y3⟩:=tb_cells h8
     rw [<- q0] at y0
     rw [<- q1] at y1
     rw [<- q2] at y2
     rw [<- q3] at y3
     clear q0 q1 q2 hkk h7 h8 hl7 hl8 hB h78 HS0
     have t1:(p.prod != p.prod)=false:=by simp
     have t2:((p.kids.length:Int) != (p.kids.length:Int))=false:=by simp
     go_upto_region 4 with fail
     go_quiet (fail)
     obtain ⟨wd,hwd⟩:∃ wd:World,wd=wc.drewN nq:=⟨_,rfl⟩
     rw [<- hwd]
     have BD:Below wc.heap.size wc wd:=by rw [hwd];exact bDn (Below.refl _ _) _
     have cc:∀ a:Addr,wd.cell? a=wc.cell? a:=fun a=>by rw [hwd];rfl
     have H6:Hid (TwS w X' Y' (.slice (some ⟨bx,0,none⟩) X'.length cx) (.slice (some ⟨by',0,none⟩) X'.length cy) wd/\wd.heap[b7]?=some (tBox p)/\wd.heap[b8]?=some (tBox q)/\bx < b7/\by' < b7/\bx < b8/\by' < b8):=⟨H5.out.1.later BD,(BD.block _ (lt_of_block H5.out.2.1)).trans H5.out.2.1,(BD.block _ (lt_of_block H5.out.2.2.1)).trans H5.out.2.2.1,H5.out.2.2.2⟩
     have z0':=(cc _).trans z0
     have z1':=(cc _).trans z1
     have z2':=(cc _).trans z2
     have z3':=(cc _).trans z3
     have y0':=(cc _).trans y0
     have y1':=(cc _).trans y1
     have y2':=(cc _).trans y2
     have y3':=(cc _).trans y3
     clear hwd BD cc z0 z1 z2 z3 y0 y1 y2 y3 H5
     have hszp:szT p<=szL (X'++[p]):=szL_mem (by simp)
     have LN:Hid (X'.length+p.kids.length<=1000000000/\X'.length+q.kids.length<=1000000000):=by
      have h1:=szT_eq p
      have h2:=szL_len p.kids
      have h3:=HW.out.2.2.2.2.2.2
      exact ⟨by omega,by omega⟩
     have SX':Hid (∀ w',Below w.heap.size w w'->p.kids≠[]->∃ b off,p.ka=some ⟨b,off,none⟩/\∀ j u,(p.kids.flatMap trCells)[j]?=some u->w'.cell? ⟨b,off+j,none⟩=some u):=fun w' hb hne=>((HW.out.2.2.2.1 p (by simp)).later hb).row.src hne
     have SY':Hid (∀ w',Below w.heap.size w w'->q.kids≠[]->∃ b off,q.ka=some ⟨b,off,none⟩/\∀ j u,(q.kids.flatMap trCells)[j]?=some u->w'.cell? ⟨b,off+j,none⟩=some u):=fun w' hb hne=>((HW.out.2.2.2.2.1 q (by simp)).later hb).row.src hne
     have QL:Hid (p.kids.length=q.kids.length):=q3
     have XL:Hid (X'.length=Y'.length):=HW.out.2.1.1
     clear q3 hszp
     go_upto_region 8 with (at_builtin;refine wpList_ro_cat rkTree rfl _ _ rfl (.slice (some ⟨bx,0,none⟩) X'.length cx) X' rfl H6.out.1.x p.ka p.kc p.kids rfl (SX'.out _ H6.out.1.bel) LN.out.1 ?_;intro a9 n9 c9 w9 ho9 hg9;have H9:Hid (TwS w (X'++p.kids) Y' (.slice a9 n9 c9) (.slice (some ⟨by',0,none⟩) X'.length cy) w9/\w9.heap[b8]?=some (tBox q)):=⟨H6.out.1.grewx hg9 ho9,(hg9.grown.block _ (lt_of_block H6.out.2.2.1) (fun e=>by simp [Value.ownBlock] at e;have:=H6.out.2.2.2.2.2.1;omega)).trans H6.out.2.2.1⟩;clear ho9 hg9 z0' z1' z2' z3' y0' y1' y2' y3')
     clear H6 SX'
     obtain ⟨y0,y1,y2,y3⟩:=tb_cells H9.out.2
     have YY:Hid (TRo w9 (.slice (some ⟨by',0,none⟩) X'.length cy) Y'/\Y'.length+q.kids.length<=1000000000):=⟨H9.out.1.y,by have:=XL.out;have:=LN.out.2;omega⟩
     go_wp2_with (at_builtin;refine wpList_ro_cat rkTree rfl _ _ rfl (.slice (some ⟨by',0,none⟩) X'.length cy) Y' rfl YY.out.1 q.ka q.kc q.kids rfl (SY'.out _ H9.out.1.bel) YY.out.2 ?_;intro a8 n8 c8 w8 ho8 hg8;have H8:Hid (TwS w (X'++p.kids) (Y'++q.kids) (.slice a9 n9 c9) (.slice a8 n8 c8) w8):=H9.out.1.grewy hg8 ho8;clear ho8 hg8 y0 y1 y2 y3)
     go_roundg (gk - 1)
     case measure=>have:=HW.out.2.2.2.2.2.1;omega
     case rel =>
      have hz:szL (X'++[p])=szL (X'++p.kids)+1:=by
       rw [szL_app,szL_app]
       have h1:=szT_eq p
       have h2:szL [p]=szT p:=by simp [szL]
       omega
      refine ⟨X'++p.kids,Y'++q.kids,H8.out,samL_app HW.out.2.1 KK.out,fun t ht=>?_,fun t ht=>?_,?_,?_⟩
      ·rcases List.mem_append.1 ht with h | h
       ·exact HW.out.2.2.2.1 t (by simp [h])
       ·exact (HW.out.2.2.2.1 p (by simp)).kid t h
      ·rcases List.mem_append.1 ht with h | h
       ·exact HW.out.2.2.2.2.1 t (by simp [h])
       ·exact (HW.out.2.2.2.2.1 q (by simp)).kid t h
      ·have:=HW.out.2.2.2.2.2.1;omega
      ·have:=HW.out.2.2.2.2.2.2;omega
end Go.Proofs.YteciabdjkaackaaGreat
