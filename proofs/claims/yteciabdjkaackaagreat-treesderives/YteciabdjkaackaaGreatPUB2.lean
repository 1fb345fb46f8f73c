import Derived.Test.YteciabdjkaackaaGreatPUB0ToUB1
namespace Go.Proofs.YteciabdjkaackaaGreat
set_option linter.unusedVariables false
open Go.RowKit
theorem wpX_worldU {P:Program}{md:Region.Mode}{ops:Array Oper}{Q:Exit->Act->World->Prop}{S:Array Bool->World->Prop}{n:Nat}{L:Array Bool}{a:Act}{w:World}(I:World->Prop)(h:I w)(k:∀ w',I w'->wpAnyX P md ops Q S n L a w'):wpAnyX P md ops Q S n L a w:=k w h
theorem setCs_fourU {w:World}{b:Nat}{a0 a1 a2 a3 v0 v1 v2 v3:Value}{t:TypeId}(h:w.heap[b]?=some (.cells #[a0,a1,a2,a3] t)):(w.setCells b 0 [v0,v1,v2,v3]).heap[b]?=some (.cells #[v0,v1,v2,v3] t):=by
 have h1:=heap_setCell_same w b 0 _ _ v0 h
 have h2:=heap_setCell_same _ b 1 _ _ v1 h1
 have h3:=heap_setCell_same _ b 2 _ _ v2 h2
 exact heap_setCell_same _ b 3 _ _ v3 h3
set_option linter.unusedSimpArgs false in
set_option maxRecDepth 100000 in
set_option maxHeartbeats 4000000 in
theorem bld_len:∀ l:List (Int×Int×ByteArray×Nat),(bldG l).length<=l.length
 | []=>Nat.le_refl _
 | g :: r=>by
  have:=bld_len r
  show (_ :: (bldG r).drop g.2.2.2).length<=_
  rw [List.length_cons,List.length_drop,List.length_cons]
  omega
def inU (b5 sb n:Nat)(y:TV)(vk:Value)(w:World):Prop:=w.cell? ⟨b5,3,none⟩=some vk/\w.cell? ⟨sb,n*4,none⟩=some (.int .i64 y.prod)/\w.cell? ⟨sb,n*4+1,none⟩=some (.int .i64 y.kind)/\w.cell? ⟨sb,n*4+2,none⟩=some (.string y.tx)/\w.cell? ⟨sb,n*4+3,none⟩=some (.slice y.ka y.kids.length y.kc)
def flS (b i:Nat)(x:SP)(w:World):Prop:=w.cell? ⟨b,i*4,none⟩=some (.int .i64 x.t.prod)/\w.cell? ⟨b,i*4+1,none⟩=some (.int .i64 x.t.kind)/\w.cell? ⟨b,i*4+2,none⟩=some (.string x.t.tx)
set_option linter.unusedSimpArgs false in
set_option maxRecDepth 100000 in
set_option maxHeartbeats 8000000 in
theorem build_S (F:List SP)(U:TV)(hF:F.map (fun x=>sgV x.t)=sgs U)(w:World)(a:Option Addr)(c:Nat)(hr:FLo w (.slice a F.length c) F)(hl:F.length<=100000000) :
  Calls Tryz.prog 43 #[.slice a F.length c] w fun e w'=>∃ T,e=.returned (TV.val T)/\samV T U/\TAt w' T/\Below w.heap.size w w'/\∀ a∈adsL (kidsA T),w.heap.size < a.1:=by
 obtain ⟨⟨t',ht1,ht2⟩,hwf⟩:=bld_one U
 have HB:Hid (bldG (sgs U)=[t']/\samV t' U):=⟨ht1,ht2⟩
 have HW:Hid (wfG (sgs U)):=hwf
 have HF:Hid (F.map (fun x=>sgV x.t)=sgs U):=hF
 have HR:Hid (∀ w',Below w.heap.size w w'->FLo w' (.slice a F.length c) F):=fun w' hb=>hr.later hb
 have HL:Hid (F.length<=100000000):=hl
 generalize sgs U=G at *
 have B0:Hid (BuS w [] (.slice none 0 0) (w.alloc zTree)):=⟨bAl _ _,heap_alloc_new _ _,RO.nil _,fun j hj=>by simp [Value.ownBlock] at hj,fun y hy=>by simp at hy,fun y hy=>by simp at hy⟩
 have HGL:Hid (F.length=G.length):=by show _=_;rw [<- hF,List.length_map]
 have o0:IntKind.i64.wrap ((F.length:Int) - 1)=(F.length:Int) - 1:=IntWalk.i64_in _ ⟨by omega,by omega⟩
 clear ht1 ht2 hwf hF hr hl
 go_enter Tryz.func43,Tryz.ntmps43
 go_wp2
 go_loopw [3,4] (fun vs z wr=>∃ (i:Nat) (S:List TV),i<=F.length/\z=.int .i64 ((i:Int) - 1)/\BuS w S vs wr/\samL S (bldG (G.drop i)).reverse) (fun _ z _=>(intOf z+1).toNat)
 case atStart=>exact ⟨F.length,[],Nat.le_refl _,by go_num,B0.out,by rw [List.drop_eq_nil_of_le (by have:=HGL.out;omega)];exact samL_nil⟩
 case round =>
  clear B0 o0
  obtain ⟨i,S,hi,rfl,hS,hsm⟩:=hrel
  obtain ⟨sa,sc,rfl,_⟩:=RO.len hS.s
  rcases Nat.eq_zero_or_pos i with rfl | hpos
  ·rw [List.drop_zero,HB.out.1] at hsm
   have hl1:S.length=1:=hsm.1
   obtain ⟨T,rfl⟩:∃ T,S=[T]:=List.length_eq_one_iff.1 hl1
   have hTT:samV T t':=hsm.2 0 (by simp) (by simp)
   obtain ⟨sb,cc,hv,_,hcell⟩:=RO.cell (f:=trCells) (k:=4) (i:=0) (fun _=>rfl) hS.s (by simp)
   simp only [Value.slice.injEq] at hv
   obtain ⟨rfl,-,rfl⟩:=hv
   have c0:=hcell 0 (by omega)
   have c1:=hcell 1 (by omega)
   have c2:=hcell 2 (by omega)
   have c3:=hcell 3 (by omega)
   simp only [trCells,List.getElem_cons_zero,List.getElem?_cons_zero,List.getElem?_cons_succ,Nat.zero_mul,Nat.zero_add] at c0 c1 c2 c3
   have RS:Hid (samV T U):=samV_trans _ _ _ hTT HB.out.2
   have hTA:=hS.ta T (by simp)
   have FN:Hid (∀ a∈adsL (kidsA T),w.heap.size < a.1):=fun a ha=>(hS.na T (by simp) a ha).1
   have F3:Hid (TBx (set4 wr w.heap.size 0 T) w.heap.size 0 T/\Below w.heap.size w (set4 wr w.heap.size 0 T)/\TAt (set4 wr w.heap.size 0 T) T):=by
    have hz:=hS.z
    refine ⟨set4_tbx (v0:=.int .i64 0) (v1:=.int .i64 0) (v2:=.string ByteArray.empty) (v3:=.slice none 0 0) T ((cQa hz).trans rfl) ((cQa hz).trans rfl) ((cQa hz).trans rfl) ((cQa hz).trans rfl) (lt_of_block hz),set4_below hS.bel 0 T (Nat.le_refl _),tat_kept hTA (fun a ha=>set4_other _ _ _ _ _ ?_) (by rw [set4_size];exact Nat.le_refl _)⟩
    have:=(hS.na T (by simp) a ha).1
    omega
   obtain ⟨d0,d1,d2,d3,f0,f1,f2,f3⟩:=z_cells hS.z
   clear hsm hl1 hTT hcell hTA hS hi HB HW HF HR HL HGL
   simp only [List.length_singleton] at *
   go_wp2
   change bodyPost _ _ _ _ _ (set4 wr w.heap.size 0 T)
   generalize set4 wr w.heap.size 0 T=w4 at *
   have x0:=F3.out.1.c0
   have x1:=F3.out.1.c1
   have x2:=F3.out.1.c2
   have x3:=F3.out.1.c3
   simp only [Nat.zero_add] at x1 x2 x3
   refine bodyPost_ret (v:=T.val) (by simp [results,Tryz.results43,go_sem,x0,x1,x2,x3]) rfl ?_
   exact ⟨T,rfl,RS.out,F3.out.2.2,F3.out.2.1,FN.out⟩
  ·obtain ⟨m,rfl⟩:∃ m,i=m+1:=⟨i - 1,by omega⟩
   have hlt:m < F.length:=by omega
   obtain ⟨x,hx⟩:∃ x,F[m]=x:=⟨_,rfl⟩
   have hgl:m < G.length:=by have:=HGL.out;omega
   have hgd:G.drop m=sgV x.t :: G.drop (m+1):=by
    rw [List.drop_eq_getElem_cons hgl]
    congr 1
    have:=HF.out
    have e:G[m]=sgV (F[m]).t:=by
     simp only [<- this,List.getElem_map]
    rw [e,hx]
   obtain ⟨b,c',hv,hc,hcell⟩:=RO.cell (f:=flCells) (k:=4) (fun _=>rfl) (HR.out _ hS.bel) hlt
   simp only [Value.slice.injEq,true_and] at hv
   obtain ⟨rfl,-⟩:=hv
   rw [hx] at hcell
   have c0:=hcell 0 (by omega)
   have c1:=hcell 1 (by omega)
   have c2:=hcell 2 (by omega)
   have c3:=hcell 3 (by omega)
   simp only [flCells,List.getElem?_cons_zero,List.getElem?_cons_succ,Nat.add_zero] at c0 c1 c2 c3
   obtain ⟨st,hst⟩:∃ st,bldG (G.drop (m+1))=st:=⟨_,rfl⟩
   rw [hst] at hsm
   have hnd:bldG (G.drop m)=TV.mk x.t.prod x.t.kind x.t.tx none 0 (st.take x.t.kids.length) :: st.drop x.t.kids.length:=by
    rw [hgd]
    show TV.mk x.t.prod x.t.kind x.t.tx none 0 ((bldG (G.drop (m+1))).take x.t.kids.length) :: (bldG (G.drop (m+1))).drop x.t.kids.length=_
    rw [hst]
   have hwn:x.t.kids.length<=st.length:=by
    have:=wf_drop G m HW.out
    rw [hgd] at this
    have:=this.1
    rw [hst] at this
    exact this
   have HST:Hid (bldG (G.drop m)=TV.mk x.t.prod x.t.kind x.t.tx none 0 (st.take x.t.kids.length) :: st.drop x.t.kids.length/\x.t.kids.length<=st.length):=⟨hnd,hwn⟩
   have hbl0:b < w.heap.size:=(HR.out w (Below.refl _ _)).lt b rfl
   have HCN0:Hid (∀ w',Below w.heap.size w w'->w'.cell? ⟨b,m*4+3,none⟩=some (.int .i64 (x.t.kids.length:Int))):=fun w' hb=>((hb.cell (p:=⟨b,_,none⟩) hbl0).trans (hS.bel.cell (p:=⟨b,_,none⟩) hbl0).symm).trans c3
   have HS:Hid (BuS w S (.slice sa S.length sc) wr):=hS
   have HSM:Hid (samL S st.reverse):=hsm
   have HFS:Hid (∀ w',Below wr.heap.size wr w'->flS b m x w'/\w'.cell? ⟨b,m*4+3,none⟩=some (.int .i64 (x.t.kids.length:Int))):=fun w' hb=>by
    have hbl:b < wr.heap.size:=(HR.out _ hS.bel).lt b rfl
    exact ⟨⟨(hb.cell (p:=⟨b,_,none⟩) hbl).trans c0,(hb.cell (p:=⟨b,_,none⟩) hbl).trans c1,(hb.cell (p:=⟨b,_,none⟩) hbl).trans c2⟩,(hb.cell (p:=⟨b,_,none⟩) hbl).trans c3⟩
   have e0:((m+1:Nat):Int) - 1=(m:Int):=by omega
   rw [e0]
   have g1:(m:Int) < (F.length:Int):=by omega
   have o2:IntKind.i64.wrap ((m:Int) - 1)=(m:Int) - 1:=IntWalk.i64_in _ ⟨by omega,by have:=HL.out;omega⟩
   clear hbl0 hgd hcell hc c0 c1 c2 c3 hnd hwn hS hsm hgl hi hpos e0 hx
   go_upto_region 5 with fail
   refine wp_region_x (S:=SX 12 (fun _=>True) (flS b m x)) (by kernel_rfl) ?_
   refine wpX_worldU (fun w'=>Below wr.heap.size wr w') (Below.refl _ _).drew fun wd hd=>?_
   have HD:Hid (Below wr.heap.size wr wd):=hd
   have FS:Hid (flS b m x wd):=(HFS.out _ hd).1
   clear hd
   refine wXt (m:=12) (i:=0) (v:=?_) rfl (by kernel_rfl) (by kernel_rfl) (by decide) (by decide +kernel) (by decide +kernel) (fun _ _ _ h=>h) (by kernel_rfl) (Or.inl ⟨by rfl,?_⟩) (SX.both trivial FS.out) ?_
   rotate_left
   ·(intro w hSw;have z0:=hSw.2;unfold flS at z0;obtain ⟨z1,z2,z3⟩:=z0;clear hSw;go_simp;try (with_reducible rfl))
   (try simp only [Act.put,List.setIfInBounds_toArray,List.set_cons_zero,List.set_cons_succ])
   refine wXt (m:=12) (i:=1) (v:=?_) rfl (by kernel_rfl) (by kernel_rfl) (by decide) (by decide +kernel) (by decide +kernel) (fun _ _ _ h=>h) (by kernel_rfl) (Or.inl ⟨by rfl,?_⟩) (SX.both trivial FS.out) ?_
   rotate_left
   ·(intro w hSw;have z0:=hSw.2;unfold flS at z0;obtain ⟨z1,z2,z3⟩:=z0;clear hSw;go_simp;try (with_reducible rfl))
   (try simp only [Act.put,List.setIfInBounds_toArray,List.set_cons_zero,List.set_cons_succ])
   refine wXt (m:=12) (i:=2) (v:=?_) rfl (by kernel_rfl) (by kernel_rfl) (by decide) (by decide +kernel) (by decide +kernel) (fun _ _ _ h=>h) (by kernel_rfl) (Or.inl ⟨by rfl,?_⟩) (SX.both trivial FS.out) ?_
   rotate_left
   ·(intro w hSw;have z0:=hSw.2;unfold flS at z0;obtain ⟨z1,z2,z3⟩:=z0;clear hSw;go_simp;try (with_reducible rfl))
   (try simp only [Act.put,List.setIfInBounds_toArray,List.set_cons_zero,List.set_cons_succ])
   refine wXt (m:=12) (i:=3) (v:=?_) rfl (by kernel_rfl) (by kernel_rfl) (by decide) (by decide +kernel) (by decide +kernel) (fun _ _ _ h=>h) (by kernel_rfl) (Or.inl ⟨by rfl,?_⟩) (SX.both trivial FS.out) ?_
   rotate_left
   ·(intro w hSw;have z0:=hSw.2;unfold flS at z0;obtain ⟨z1,z2,z3⟩:=z0;clear hSw;go_simp;try (with_reducible rfl))
   (try simp only [Act.put,List.setIfInBounds_toArray,List.set_cons_zero,List.set_cons_succ])
   refine wXt (m:=12) (i:=4) (v:=?_) rfl (by kernel_rfl) (by kernel_rfl) (by decide) (by decide +kernel) (by decide +kernel) (fun _ _ _ h=>h) (by kernel_rfl) (Or.inl ⟨by rfl,?_⟩) (SX.both trivial FS.out) ?_
   rotate_left
   ·(intro w hSw;have z0:=hSw.2;unfold flS at z0;obtain ⟨z1,z2,z3⟩:=z0;clear hSw;go_simp;try (with_reducible rfl))
   (try simp only [Act.put,List.setIfInBounds_toArray,List.set_cons_zero,List.set_cons_succ])
   refine wXt (m:=12) (i:=5) (v:=?_) rfl (by kernel_rfl) (by kernel_rfl) (by decide) (by decide +kernel) (by decide +kernel) (fun _ _ _ h=>h) (by kernel_rfl) (Or.inl ⟨by rfl,?_⟩) (SX.both trivial FS.out) ?_
   rotate_left
   ·(intro w hSw;have z0:=hSw.2;unfold flS at z0;obtain ⟨z1,z2,z3⟩:=z0;clear hSw;go_simp;try (with_reducible rfl))
   (try simp only [Act.put,List.setIfInBounds_toArray,List.set_cons_zero,List.set_cons_succ])
   refine wXt (m:=12) (i:=6) (v:=?_) rfl (by kernel_rfl) (by kernel_rfl) (by decide) (by decide +kernel) (by decide +kernel) (fun _ _ _ h=>h) (by kernel_rfl) (Or.inl ⟨by rfl,?_⟩) (SX.both trivial FS.out) ?_
   rotate_left
   ·(intro w hSw;have z0:=hSw.2;unfold flS at z0;obtain ⟨z1,z2,z3⟩:=z0;clear hSw;go_simp;try (with_reducible rfl))
   (try simp only [Act.put,List.setIfInBounds_toArray,List.set_cons_zero,List.set_cons_succ])
   refine wXt (m:=12) (i:=7) (v:=?_) rfl (by kernel_rfl) (by kernel_rfl) (by decide) (by decide +kernel) (by decide +kernel) (fun _ _ _ h=>h) (by kernel_rfl) (Or.inl ⟨by rfl,?_⟩) (SX.both trivial FS.out) ?_
   rotate_left
   ·(intro w hSw;have z0:=hSw.2;unfold flS at z0;obtain ⟨z1,z2,z3⟩:=z0;clear hSw;go_simp;try (with_reducible rfl))
   (try simp only [Act.put,List.setIfInBounds_toArray,List.set_cons_zero,List.set_cons_succ])
   refine wXt (m:=12) (i:=8) (v:=?_) rfl (by kernel_rfl) (by kernel_rfl) (by decide) (by decide +kernel) (by decide +kernel) (fun _ _ _ h=>h) (by kernel_rfl) (Or.inl ⟨by rfl,?_⟩) (SX.both trivial FS.out) ?_
   rotate_left
   ·(intro w hSw;have z0:=hSw.2;unfold flS at z0;obtain ⟨z1,z2,z3⟩:=z0;clear hSw;go_simp;try (with_reducible rfl))
   (try simp only [Act.put,List.setIfInBounds_toArray,List.set_cons_zero,List.set_cons_succ])
   refine wXt (m:=12) (i:=9) (v:=?_) rfl (by kernel_rfl) (by kernel_rfl) (by decide) (by decide +kernel) (by decide +kernel) (fun _ _ _ h=>h) (by kernel_rfl) (Or.inl ⟨by rfl,?_⟩) (SX.both trivial FS.out) ?_
   rotate_left
   ·(intro w hSw;have z0:=hSw.2;unfold flS at z0;obtain ⟨z1,z2,z3⟩:=z0;clear hSw;go_simp;try (with_reducible rfl))
   (try simp only [Act.put,List.setIfInBounds_toArray,List.set_cons_zero,List.set_cons_succ])
   refine wXt (m:=12) (i:=10) (v:=?_) rfl (by kernel_rfl) (by kernel_rfl) (by decide) (by decide +kernel) (by decide +kernel) (fun _ _ _ h=>h) (by kernel_rfl) (Or.inl ⟨by rfl,?_⟩) (SX.both trivial FS.out) ?_
   rotate_left
   ·(intro w hSw;have z0:=hSw.2;unfold flS at z0;obtain ⟨z1,z2,z3⟩:=z0;clear hSw;go_simp;try (with_reducible rfl))
   (try simp only [Act.put,List.setIfInBounds_toArray,List.set_cons_zero,List.set_cons_succ])
   refine wX1 (j:=11) (by decide +kernel) rfl (fun K' hK=>?_)
   go_simp
   refine hK.out _ _ (SX.both trivial (HFS.out _ (HD.out.trans ((bAl _ _).mono HD.out.size))).1) ?_
   clear hK K'
   (try simp only [Act.put,List.setIfInBounds_toArray,List.set_cons_zero,List.set_cons_succ])
   obtain ⟨b5,hb5⟩:∃ b5,wd.heap.size=b5:=⟨_,rfl⟩
   rw [hb5]
   refine wpX_worldU (fun w'=>Below wd.heap.size wd w'/\w'.heap[b5]?=some zTree) ⟨bAl _ _,by rw [<- hb5];exact heap_alloc_new _ _⟩ fun we he=>?_
   have HE:Hid (Below wr.heap.size wr we/\wr.heap.size<=b5):=⟨HD.out.trans (he.1.mono HD.out.size),by have:=HD.out.size;omega⟩
   have BK:Hid (BuK w b5 x.t.prod x.t.kind x.t.tx S [] (.slice sa S.length sc) (.slice none 0 0) (set4 we b5 0 (TV.mk x.t.prod x.t.kind x.t.tx none 0 []))):=HS.out.begin (set4_below HE.out.1 0 _ HE.out.2) HE.out.2 (setCs_fourU he.2)
   have BW:Hid (Below wr.heap.size wr (set4 we b5 0 (TV.mk x.t.prod x.t.kind x.t.tx none 0 []))):=set4_below HE.out.1 0 _ HE.out.2
   obtain ⟨d0,d1,d2,d3,f0,f1,f2,f3⟩:=z_cells he.2
   clear he hb5 FS HD
   refine wX1 (j:=12) (by decide +kernel) rfl (fun K' hK=>?_)
   go_simp
   refine hK.out _ _ (SX.one trivial (by kernel_rfl)) ?_
   clear hK K' d0 d1 d2 d3 f0 f1 f2 f3
   (try simp only [Act.put,List.setIfInBounds_toArray,List.set_cons_zero,List.set_cons_succ])
   refine wXd (by decide +kernel) ?_
   change Exit.then _ _ _ _ (set4 we b5 0 (TV.mk x.t.prod x.t.kind x.t.tx none 0 []))
   obtain ⟨wf,hwf⟩:∃ wf,set4 we b5 0 (TV.mk x.t.prod x.t.kind x.t.tx none 0 [])=wf:=⟨_,rfl⟩
   rw [hwf]
   have hf:BuK w b5 x.t.prod x.t.kind x.t.tx S [] (.slice sa S.length sc) (.slice none 0 0) wf/\Below wr.heap.size wr wf:=by
    rw [<- hwf]
    exact ⟨BK.out,BW.out⟩
   have B1:Hid (BuK w b5 x.t.prod x.t.kind x.t.tx S [] (.slice sa S.length sc) (.slice none 0 0) wf):=hf.1
   have F1:Hid (∀ w',Below wf.heap.size wf w'->w'.cell? ⟨b,m*4+3,none⟩=some (.int .i64 (x.t.kids.length:Int))):=fun w' hb=>(HFS.out _ (hf.2.trans (hb.mono hf.2.size))).2
   clear hf hwf BK BW HE HFS HS
   have hsl:S.length=st.length:=by have:=HSM.out.1;simpa using this
   obtain ⟨n,hn⟩:∃ n,x.t.kids.length=n:=⟨_,rfl⟩
   rw [hn] at F1 HST HCN0
   have HCN:Hid (∀ w',Below w.heap.size w w'->w'.cell? ⟨b,m*4+3,none⟩=some (.int .i64 (n:Int))):=HCN0
   clear HCN0
   have HSL:Hid (S.length=st.length/\st.length<=100000000/\n<=100000000):=by
    have h1:=bld_len (G.drop (m+1))
    rw [List.length_drop,hst] at h1
    have h2:=HGL.out
    have h3:=HL.out
    have h4:=HST.out.2
    exact ⟨hsl,by omega,by omega⟩
   generalize x.t.prod=xp at *
   generalize x.t.kind=xk at *
   generalize x.t.tx=xt at *
   clear hn hsl hst
   go_upto_region 6 with fail
   go_wp2
   go_loopw [3,6] (fun vs z wq=>∃ (j:Nat) (S' K:List TV) (vk:Value),j<=n/\z=.int .i64 (j:Int)/\BuK w b5 xp xk xt S' K vs vk wq/\samL K (st.take j)/\samL S' (st.drop j).reverse/\wq.cell? ⟨b,m*4+3,none⟩=some (.int .i64 (n:Int))) (fun _ z _=>n - (intOf z).toNat)
   case atStart=>exact ⟨0,S,[],.slice none 0 0,Nat.zero_le _,rfl,B1.out,by rw [List.take_zero];exact samL_nil,by rw [List.drop_zero];exact HSM.out,F1.out _ (Below.refl _ _)⟩
   case round =>
    clear B1 F1 HSM
    obtain ⟨j,S',K,vk,hj,rfl,hK,hk1,hk2,hc3⟩:=hrel
    by_cases hjn:j < n
    ·have hlS:S'.length=st.length - j:=by have:=hk2.1;simpa using this
     have hjs:j < st.length:=by have:=HST.out.2;omega
     have hD:S'≠[]:=fun e=>by rw [e] at hlS;simp at hlS;omega
     obtain ⟨S2,y,rfl⟩:∃ d y,S'=d++[y]:=⟨S'.dropLast,S'.getLast hD,(List.dropLast_concat_getLast hD).symm⟩
     obtain ⟨sb,sc2,rfl,hc,hcell,hP⟩:=RO.pop (f:=trCells) (fun _=>rfl) hK.s
     obtain ⟨ka,kc,rfl,_⟩:=RO.len hK.kk
     have c0:=hcell 0 (by omega)
     have c1:=hcell 1 (by omega)
     have c2:=hcell 2 (by omega)
     have c3:=hcell 3 (by omega)
     simp only [trCells,List.getElem?_cons_zero,List.getElem?_cons_succ,Nat.add_zero] at c0 c1 c2 c3
     have hds:(st.drop j).reverse=(st.drop (j+1)).reverse++[st[j]]:=by rw [List.drop_eq_getElem_cons hjs,List.reverse_cons]
     rw [hds] at hk2
     obtain ⟨hk3,hk4⟩:=samL_snoc hk2
     have KK:Hid (samL (K++[y]) (st.take (j+1))/\samL S2 (st.drop (j+1)).reverse):=⟨by
      rw [List.take_succ_eq_append_getElem hjs]
      exact samL_app hk1 (samL_one hk4),hk3⟩
     have hlk:K.length=j:=by have:=hk1.1;rw [List.length_take] at this;omega
     have hl2:S2.length<=100000000:=by have:=hk3.1;have:=HSL.out;simp at this ⊢;simp at *;omega
     have HKK:Hid (BuK w b5 xp xk xt (S2++[y]) K (.slice (some ⟨sb,0,none⟩) (S2.length+1) sc2) (.slice ka K.length kc) wr/\TRo wr (.slice (some ⟨sb,0,none⟩) S2.length sc2) S2):=⟨hK,hP⟩
     have HIN:Hid (∀ w',Below wr.heap.size wr w'->inU b5 sb S2.length y (.slice ka K.length kc) w'/\w'.cell? ⟨b,m*4+3,none⟩=some (.int .i64 (n:Int))):=fun w' hb=>by
      have h1:b5 < wr.heap.size:=lt_of_block hK.bx
      have h2:sb < wr.heap.size:=hK.s.lt sb rfl
      have h3:b < wr.heap.size:=by
       by_cases h:b < wr.heap.size
       ·exact h
       ·exfalso
        have:wr.cell? ⟨b,m*4+3,none⟩=none:=by simp [World.cell?,Array.getElem?_eq_none (show wr.heap.size<=b by omega)]
        rw [this] at hc3;cases hc3
      exact ⟨⟨(hb.cell (p:=⟨b5,_,none⟩) h1).trans ((cQa hK.bx).trans rfl),(hb.cell (p:=⟨sb,_,none⟩) h2).trans c0,(hb.cell (p:=⟨sb,_,none⟩) h2).trans c1,(hb.cell (p:=⟨sb,_,none⟩) h2).trans c2,(hb.cell (p:=⟨sb,_,none⟩) h2).trans c3⟩,(hb.cell (p:=⟨b,_,none⟩) h3).trans hc3⟩
     have LEN:Hid (K.length<=1000000000/\K.length=j):=⟨by have:=HSL.out;omega,hlk⟩
     have hs1:=slice_trU sb sc2 (S2.length+1) S2.length (by omega)
     have o4:IntKind.i64.wrap (S2.length:Int)=(S2.length:Int):=IntWalk.i64_in _ ⟨by omega,by omega⟩
     have g3:(S2.length:Int) < (S2.length:Int)+1:=by omega
     have g4:(j:Int) < (n:Int):=by omega
     have HJ:Hid (j < n/\n<=100000000):=⟨hjn,HSL.out.2.2⟩
     have o3:IntKind.i64.wrap ((j:Int)+1)=(j:Int)+1:=IntWalk.i64_in _ ⟨by omega,by have:=HSL.out;omega⟩
     clear hK hk1 hk2 hk3 hk4 hj hjn hlS hjs hD hcell hP hds c0 c1 c2 c3 hlk hc
     obtain ⟨q,hq⟩:∃ q,S2.length=q:=⟨_,rfl⟩
     rw [hq] at HKK HIN hs1 g3 o4 hl2 ⊢
     go_upto_region 9 with fail
     clear hc3
     refine wp_region_x (S:=SX 11 (fun _=>True) (inU b5 sb q y (.slice ka K.length kc))) (by kernel_rfl) ?_
     refine wpX_worldU (fun w'=>Below wr.heap.size wr w') (Below.refl _ _).drew fun wd hd=>?_
     have HD:Hid (Below wr.heap.size wr wd):=hd
     have IS:Hid (inU b5 sb q y (.slice ka K.length kc) wd):=(HIN.out _ hd).1
     clear hd
     refine wXt (m:=11) (i:=0) (v:=?_) rfl (by kernel_rfl) (by kernel_rfl) (by decide) (by decide +kernel) (by decide +kernel) (fun _ _ _ h=>h) (by kernel_rfl) (Or.inl ⟨by rfl,?_⟩) (SX.both trivial IS.out) ?_
     rotate_left
     ·(intro w hSw;have z0:=hSw.2;unfold inU at z0;obtain ⟨z1,z2,z3,z4,z5⟩:=z0;clear hSw;go_simp;try (with_reducible rfl))
     (try simp only [Act.put,List.setIfInBounds_toArray,List.set_cons_zero,List.set_cons_succ])
     refine wXt (m:=11) (i:=1) (v:=?_) rfl (by kernel_rfl) (by kernel_rfl) (by decide) (by decide +kernel) (by decide +kernel) (fun _ _ _ h=>h) (by kernel_rfl) (Or.inl ⟨by rfl,?_⟩) (SX.both trivial IS.out) ?_
     rotate_left
     ·(intro w hSw;have z0:=hSw.2;unfold inU at z0;obtain ⟨z1,z2,z3,z4,z5⟩:=z0;clear hSw;go_simp;try (with_reducible rfl))
     (try simp only [Act.put,List.setIfInBounds_toArray,List.set_cons_zero,List.set_cons_succ])
     refine wXt (m:=11) (i:=2) (v:=?_) rfl (by kernel_rfl) (by kernel_rfl) (by decide) (by decide +kernel) (by decide +kernel) (fun _ _ _ h=>h) (by kernel_rfl) (Or.inl ⟨by rfl,?_⟩) (SX.both trivial IS.out) ?_
     rotate_left
     ·(intro w hSw;have z0:=hSw.2;unfold inU at z0;obtain ⟨z1,z2,z3,z4,z5⟩:=z0;clear hSw;go_simp;try (with_reducible rfl))
     (try simp only [Act.put,List.setIfInBounds_toArray,List.set_cons_zero,List.set_cons_succ])
     refine wXt (m:=11) (i:=3) (v:=?_) rfl (by kernel_rfl) (by kernel_rfl) (by decide) (by decide +kernel) (by decide +kernel) (fun _ _ _ h=>h) (by kernel_rfl) (Or.inl ⟨by rfl,?_⟩) (SX.both trivial IS.out) ?_
     rotate_left
     ·(intro w hSw;have z0:=hSw.2;unfold inU at z0;obtain ⟨z1,z2,z3,z4,z5⟩:=z0;clear hSw;go_simp;try (with_reducible rfl))
     (try simp only [Act.put,List.setIfInBounds_toArray,List.set_cons_zero,List.set_cons_succ])
     refine wXt (m:=11) (i:=4) (v:=?_) rfl (by kernel_rfl) (by kernel_rfl) (by decide) (by decide +kernel) (by decide +kernel) (fun _ _ _ h=>h) (by kernel_rfl) (Or.inl ⟨by rfl,?_⟩) (SX.both trivial IS.out) ?_
     rotate_left
     ·(intro w hSw;have z0:=hSw.2;unfold inU at z0;obtain ⟨z1,z2,z3,z4,z5⟩:=z0;clear hSw;go_simp;try (with_reducible rfl))
     (try simp only [Act.put,List.setIfInBounds_toArray,List.set_cons_zero,List.set_cons_succ])
     refine wXt (m:=11) (i:=5) (v:=?_) rfl (by kernel_rfl) (by kernel_rfl) (by decide) (by decide +kernel) (by decide +kernel) (fun _ _ _ h=>h) (by kernel_rfl) (Or.inl ⟨by rfl,?_⟩) (SX.both trivial IS.out) ?_
     rotate_left
     ·(intro w hSw;have z0:=hSw.2;unfold inU at z0;obtain ⟨z1,z2,z3,z4,z5⟩:=z0;clear hSw;go_simp;try (with_reducible rfl))
     (try simp only [Act.put,List.setIfInBounds_toArray,List.set_cons_zero,List.set_cons_succ])
     refine wXt (m:=11) (i:=6) (v:=?_) rfl (by kernel_rfl) (by kernel_rfl) (by decide) (by decide +kernel) (by decide +kernel) (fun _ _ _ h=>h) (by kernel_rfl) (Or.inl ⟨by rfl,?_⟩) (SX.both trivial IS.out) ?_
     rotate_left
     ·(intro w hSw;have z0:=hSw.2;unfold inU at z0;obtain ⟨z1,z2,z3,z4,z5⟩:=z0;clear hSw;go_simp;try (with_reducible rfl))
     (try simp only [Act.put,List.setIfInBounds_toArray,List.set_cons_zero,List.set_cons_succ])
     refine wXt (m:=11) (i:=7) (v:=?_) rfl (by kernel_rfl) (by kernel_rfl) (by decide) (by decide +kernel) (by decide +kernel) (fun _ _ _ h=>h) (by kernel_rfl) (Or.inl ⟨by rfl,?_⟩) (SX.both trivial IS.out) ?_
     rotate_left
     ·(intro w hSw;have z0:=hSw.2;unfold inU at z0;obtain ⟨z1,z2,z3,z4,z5⟩:=z0;clear hSw;go_simp;try (with_reducible rfl))
     (try simp only [Act.put,List.setIfInBounds_toArray,List.set_cons_zero,List.set_cons_succ])
     have BA:Hid (Below wr.heap.size wr (wd.alloc (tBox y))):=HD.out.trans ((bAl _ _).mono HD.out.size)
     refine wX1 (j:=8) (by decide +kernel) rfl (fun K' hK=>?_)
     go_simp
     refine hK.out _ _ (SX.both trivial (HIN.out _ BA.out).1) ?_
     clear hK K'
     (try simp only [Act.put,List.setIfInBounds_toArray,List.set_cons_zero,List.set_cons_succ])
     have NC:Hid (∀ j u,(trCells y)[j]?=some u->(wd.alloc (tBox y)).cell? ⟨wd.heap.size,j,none⟩=some u):=fun j u hu=>by
      rw [cQa (heap_alloc_new wd (tBox y)),<- hu]
      simp [trCells]
     have HKA:Hid (TRo (wd.alloc (tBox y)) (.slice ka K.length kc) K):=HKK.out.1.kk.later BA.out
     refine wX1 (j:=9) (by decide +kernel) rfl (fun K' hK=>?_)
     refine step_ro_append rkTree rfl _ _ rfl (.slice ka K.length kc) K rfl HKA.out wd.heap.size 1 y rfl NC.out LEN.out.1 ?_
     intro a4 n4 c4 w4 ho4 hg4
     have E4:Hid (∀ j,j < wr.heap.size->(Value.slice ka K.length kc).ownBlock≠some j->w4.heap[j]?=wr.heap[j]?):=fun j hj hn=>(hg4.grown.block j (Nat.lt_of_lt_of_le hj BA.out.size) (fun e=>hn e.symm)).trans (BA.out.block j hj)
     have B5:Hid (w4.heap[b5]?=some (.cells #[.int .i64 xp,.int .i64 xk,.string xt,.slice ka K.length kc] 26)):=(E4.out _ (lt_of_block HKK.out.1.bx) (fun e=>(HKK.out.1.ko _ e).2.1 rfl)).trans HKK.out.1.bx
     have I4:Hid (inU b5 sb q y (.slice ka K.length kc) w4):=by
      have e:w4.heap[sb]?=wr.heap[sb]?:=E4.out _ (HKK.out.1.s.lt sb rfl) (fun e=>(HKK.out.1.ko _ e).2.2 rfl)
      obtain ⟨-,z2,z3,z4,z5⟩:=(HIN.out _ (Below.refl _ _)).1
      exact ⟨(cQa B5.out).trans rfl,(World.cell?_of_block e).trans z2,(World.cell?_of_block e).trans z3,(World.cell?_of_block e).trans z4,(World.cell?_of_block e).trans z5⟩
     have TK:Hid (BuK w b5 xp xk xt S2 (K++[y]) (.slice (some ⟨sb,0,none⟩) q sc2) (.slice a4 n4 c4) (w4.setCell ⟨b5,3,none⟩ (.slice a4 n4 c4))):=by
      have:=HKK.out.1.take (by rw [hq];exact HKK.out.2) BA.out hg4 ho4
      rwa [hq] at this
     refine hK.out _ _ (SX.both trivial I4.out) ?_
     clear hK K' ho4 hg4 NC HKA IS HD
     (try simp only [Act.put,List.setIfInBounds_toArray,List.set_cons_zero,List.set_cons_succ])
     refine wXt (m:=11) (i:=10) (v:=?_) rfl (by kernel_rfl) (by kernel_rfl) (by decide) (by decide +kernel) (by decide +kernel) (fun _ _ _ h=>h) (by kernel_rfl) (Or.inl ⟨by rfl,?_⟩) (SX.both trivial I4.out) ?_
     rotate_left
     ·(intro w hSw;have z0:=hSw.2;unfold inU at z0;obtain ⟨z1,z2,z3,z4,z5⟩:=z0;clear hSw;go_simp;try (with_reducible rfl))
     (try simp only [Act.put,List.setIfInBounds_toArray,List.set_cons_zero,List.set_cons_succ])
     have d3:=(cQa (i:=3) B5.out).trans rfl
     have f3:w4.frozen? ⟨b5,3,none⟩=false:=by simp [World.frozen?,B5.out]
     refine wX1 (j:=11) (by decide +kernel) rfl (fun K' hK=>?_)
     go_simp
     refine hK.out _ _ (SX.one trivial (by kernel_rfl)) ?_
     clear hK K' d3 f3
     (try simp only [Act.put,List.setIfInBounds_toArray,List.set_cons_zero,List.set_cons_succ])
     refine wXd (by decide +kernel) ?_
     change Exit.then _ _ _ _ (w4.setCell ⟨b5,3,none⟩ (.slice a4 n4 c4))
     obtain ⟨wg,hwg⟩:∃ wg,w4.setCell ⟨b5,3,none⟩ (.slice a4 n4 c4)=wg:=⟨_,rfl⟩
     rw [hwg]
     have TG:Hid (BuK w b5 xp xk xt S2 (K++[y]) (.slice (some ⟨sb,0,none⟩) q sc2) (.slice a4 n4 c4) wg):=by
      rw [<- hwg]
      exact TK.out
     clear hwg TK I4 B5 E4 BA HIN HKK
     go_wp2
     go_roundw
     case rel=>exact ⟨j+1,S2,K++[y],.slice a4 n4 c4,HJ.out.1,by go_num,TG.out,KK.out.1,KK.out.2,HCN.out _ TG.out.bel⟩
     case measure=>have:=HJ.out;simp [intOf];omega
    ·obtain rfl:j=n:=by have:=HST.out.2;omega
     obtain ⟨ka,kc,rfl,_⟩:=RO.len hK.kk
     obtain ⟨sa2,sc2,rfl,_⟩:=RO.len hK.s
     have x0:wr.cell? ⟨b5,0,none⟩=some (.int .i64 xp):=(cQa hK.bx).trans rfl
     have x1:wr.cell? ⟨b5,1,none⟩=some (.int .i64 xk):=(cQa hK.bx).trans rfl
     have x2:wr.cell? ⟨b5,2,none⟩=some (.string xt):=(cQa hK.bx).trans rfl
     have x3:wr.cell? ⟨b5,3,none⟩=some (.slice ka K.length kc):=(cQa hK.bx).trans rfl
     have HKK:Hid (BuK w b5 xp xk xt S' K (.slice sa2 S'.length sc2) (.slice ka K.length kc) wr):=hK
     have SMT:Hid (samL (S'++[TV.mk xp xk xt ka kc K]) (bldG (G.drop m)).reverse):=by
      show samL _ _
      rw [HST.out.1,List.reverse_cons]
      refine samL_app hk2 (samL_one ((samV_iff _ _).2 ⟨?_,fun i h h'=>hk1.2 i h h'⟩))
      show (xp,xk,xt,K.length)=(xp,xk,xt,(st.take j).length)
      rw [hk1.1]
     have LEN:Hid (S'.length<=1000000000):=by
      have h1:=hk2.1
      have h2:=HSL.out
      show _<=_
      simp only [List.length_reverse,List.length_drop] at h1
      omega
     have NC:Hid (∀ i u,(trCells (TV.mk xp xk xt ka kc K))[i]?=some u->(wr.alloc (tBox (TV.mk xp xk xt ka kc K))).cell? ⟨wr.heap.size,i,none⟩=some u):=fun i u hu=>by
      rw [cQa (heap_alloc_new wr (tBox (TV.mk xp xk xt ka kc K))),<- hu]
      simp [trCells]
     have g4:¬ (j:Int) < (j:Int):=by omega
     have HMM:Hid (m<=F.length):=by show _<=_;omega
     clear hK hk1 hk2 hj hjn HST HSL
     go_wp2_with (at_builtin;refine wpList_ro_append rkTree rfl _ _ rfl (.slice sa2 S'.length sc2) S' rfl (HKK.out.s.later (bAl _ _)) wr.heap.size 1 (TV.mk xp xk xt ka kc K) rfl NC.out LEN.out ?_;intro a5 n5 c5 w5 ho5 hg5;have W5:Hid (BuS w (S'++[TV.mk xp xk xt ka kc K]) (.slice a5 n5 c5) w5):=HKK.out.fold (bAl _ _) hg5 ho5;clear ho5 hg5 x0 x1 x2 x3 hc3)
     go_roundw
     case rel=>exact ⟨m,S'++[TV.mk xp xk xt ka kc K],HMM.out,by go_num,W5.out,SMT.out⟩
     case measure=>simp [intOf]
end Go.Proofs.YteciabdjkaackaaGreat
