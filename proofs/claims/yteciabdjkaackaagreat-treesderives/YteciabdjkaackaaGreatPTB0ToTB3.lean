import Derived.Test.YteciabdjkaackaaGreatPRTwoToTDe
namespace Go.Proofs.YteciabdjkaackaaGreat
set_option linter.unusedVariables false
open Go.RowKit
def ndC (x:Int×Nat×Nat):List Value:=[.int .i64 x.1,.int .i64 (x.2.1:Int),.int .i64 (x.2.2:Int)]
theorem rkNode:RK 193 152 3 ndC:=by
 refine ⟨Tryz.underlying152,?_,by decide,fun _=>rfl,fun x u hu=>?_⟩
 ·have h:(Tryz.prog.info? 193).map (fun i=>(i.zero,i.size,i.bytes))=some (some (.agg #[.int .i64 0,.int .i64 0,.int .i64 0]),3,24):=by kernel_rfl
  cases e:Tryz.prog.info? 193 with
  | none=>rw [e] at h;cases h
  | some i =>
   rw [e] at h
   simp at h
   exact ⟨i,_,rfl,h.1,h.2.1,by rw [h.2.2];decide,rfl⟩
 ·simp [ndC] at hu
  rcases hu with rfl | rfl | rfl<;>rfl
abbrev NDo:=RO 193 3 ndC
theorem RO.pre {α:Type}{τ:TypeId}{k:Nat}{f:α->List Value}{w:World}{v:Value}{l m:List α}(hf:∀ x,(f x).length=k)(h:RO τ k f w v (l++m)):∃ a c,v=.slice a (l++m).length c/\(l++m).length<=c/\RO τ k f w (.slice a l.length c) l/\(a=none->c=0)/\(∀ ad,a=some ad->ad=⟨ad.block,0,none⟩):=by
 obtain ⟨a,c,rfl,hc⟩:=RO.len h
 rcases h.2 with ⟨e,h0⟩ | ⟨b,cap,cur,e,h1,h2,h3,h4,h5,h6⟩
 ·have hl:l++m=[]:=List.eq_nil_of_length_eq_zero h0
  obtain ⟨rfl,rfl⟩:=List.append_eq_nil_iff.1 hl
  simp only [Value.slice.injEq] at e
  obtain ⟨rfl,-,rfl⟩:=e
  exact ⟨none,0,rfl,Nat.le_refl _,RO.nil w,(fun _=>rfl),fun ad e=>by cases e⟩
 ·simp only [Value.slice.injEq] at e
  obtain ⟨rfl,-,rfl⟩:=e
  refine ⟨_,c,rfl,hc,⟨fm_len hf l,.inr ⟨b,c,cur,rfl,h1,h2,by simp at h3;omega,h4,h5,?_⟩⟩,(fun e=>by cases e),fun ad e=>by cases e;rfl⟩
  have e:cur.toList.take (l.length*k)=(cur.toList.take ((l++m).length*k)).take (l.length*k):=by
   rw [List.take_take];congr 1
   have:l.length*k<=(l++m).length*k:=Nat.mul_le_mul_right _ (by simp)
   omega
  rw [e,h6,List.flatMap_append,List.take_left' (fm_len hf l)]
def inR (l:List TV):List (Nat×Nat):=l.flatMap fun t=>adsL (kidsA t)
theorem inR_app (l m:List TV):inR (l++m)=inR l++inR m:=by simp [inR]
structure BdM (w0:World)(N bb bo:Nat)(OC:Nat->Option Value)(RF:Nat->Option Obj)(vo vd:Value)(NL:List (Int×Nat×Nat))(DL:List TV)(w:World):Prop where
 bel:Below N w0 w
 nz:N<=w.heap.size
 bk:∃ C tyB,w.heap[bb]?=some (.cells C tyB)/\tyB≠193/\tyB≠26/\C[bo]?=some vo/\C[bo+1]?=some vd
 bn:N<=bb
 oc:∀ o,o≠bo->o≠bo+1->w.cell? ⟨bb,o,none⟩=OC o
 rf:∀ j o,RF j=some o->w.heap[j]?=some o/\j≠bb/\vo.ownBlock≠some j/\vd.ownBlock≠some j
 no:NDo w vo NL
 td:TRo w vd DL
 oo:∀ j,vo.ownBlock=some j->N<=j
 od:∀ j,vd.ownBlock=some j->N<=j
 tr:∀ t∈DL,TAt w t
 ad:∀ a∈inR DL,N<=a.1/\a.2 % 4=0/\vd.ownBlock≠some a.1/\∃ cs,w.heap[a.1]?=some (.cells cs 26)
 dn:∀ a,(inR DL).count a<=1
theorem ro_ty {α:Type}{τ:TypeId}{k:Nat}{f:α->List Value}{w:World}{v:Value}{l:List α}(h:RO τ k f w v l){j:Nat}(hj:v.ownBlock=some j):∃ cs,w.heap[j]?=some (.cells cs τ):=by
 rcases h.2 with ⟨rfl,_⟩ | ⟨g,cap,cur,rfl,_,h2,_⟩
 ·simp [Value.ownBlock] at hj
 ·simp [Value.ownBlock] at hj
  subst hj
  exact ⟨_,h2⟩
section
variable {w0:World} {N bb bo:Nat} {OC:Nat->Option Value} {RF:Nat->Option Obj} {vo vd:Value} {NL:List (Int×Nat×Nat)} {DL:List TV} {w:World}
theorem BdM.co (h:BdM w0 N bb bo OC RF vo vd NL DL w):w.cell? ⟨bb,bo,none⟩=some vo/\w.frozen? ⟨bb,bo,none⟩=false:=by
 obtain ⟨C,ty,hb,-,-,h0,-⟩:=h.bk
 exact ⟨(cQa hb).trans h0,by simp [World.frozen?,hb]⟩
theorem BdM.cd (h:BdM w0 N bb bo OC RF vo vd NL DL w):w.cell? ⟨bb,bo+1,none⟩=some vd/\w.frozen? ⟨bb,bo+1,none⟩=false:=by
 obtain ⟨C,ty,hb,-,-,-,h1⟩:=h.bk
 exact ⟨(cQa hb).trans h1,by simp [World.frozen?,hb]⟩
theorem BdM.bb_o (h:BdM w0 N bb bo OC RF vo vd NL DL w):vo.ownBlock≠some bb:=fun e=>by
 obtain ⟨C,ty,hb,n1,-,-,-⟩:=h.bk
 obtain ⟨cs,hc⟩:=ro_ty h.no e
 rw [hb] at hc
 simp only [Option.some.injEq,Obj.cells.injEq] at hc
 exact n1 hc.2.1
theorem BdM.bb_d (h:BdM w0 N bb bo OC RF vo vd NL DL w):vd.ownBlock≠some bb:=fun e=>by
 obtain ⟨C,ty,hb,-,n2,-,-⟩:=h.bk
 obtain ⟨cs,hc⟩:=ro_ty h.td e
 rw [hb] at hc
 simp only [Option.some.injEq,Obj.cells.injEq] at hc
 exact n2 hc.2.1
theorem BdM.o_d (h:BdM w0 N bb bo OC RF vo vd NL DL w){j:Nat}(h1:vo.ownBlock=some j)(h2:vd.ownBlock=some j):False:=by
 obtain ⟨cs,hc⟩:=ro_ty h.no h1
 obtain ⟨cs',hc'⟩:=ro_ty h.td h2
 rw [hc] at hc'
 simp at hc'
theorem BdM.o_a (h:BdM w0 N bb bo OC RF vo vd NL DL w){a:Nat×Nat}(ha:a∈inR DL):vo.ownBlock≠some a.1/\a.1≠bb:=by
 obtain ⟨-,-,-,cs,hc⟩:=h.ad a ha
 refine ⟨fun e=>?_,fun e=>?_⟩
 ·obtain ⟨cs',hc'⟩:=ro_ty h.no e
  rw [hc] at hc'
  simp at hc'
 ·obtain ⟨C,ty,hb,-,n2,-,-⟩:=h.bk
  rw [e,hb] at hc
  simp only [Option.some.injEq,Obj.cells.injEq] at hc
  exact n2 hc.2.1
theorem BdM.later (h:BdM w0 N bb bo OC RF vo vd NL DL w){w':World}(hb:Below w.heap.size w w'):BdM w0 N bb bo OC RF vo vd NL DL w':=by
 obtain ⟨C,ty,hC,n1,n2,c0,c1⟩:=h.bk
 refine ⟨h.bel.trans (hb.mono h.nz),Nat.le_trans h.nz hb.size,⟨C,ty,(hb.block _ (lt_of_block hC)).trans hC,n1,n2,c0,c1⟩,h.bn,fun o h1 h2=>(hb.cell (p:=⟨bb,o,none⟩) (lt_of_block hC)).trans (h.oc o h1 h2),fun j o hj=>?_,h.no.later hb,h.td.later hb,h.oo,h.od,fun t ht=>(h.tr t ht).later hb,fun a ha=>?_,h.dn⟩
 ·obtain ⟨a,b,c,d⟩:=h.rf j o hj
  exact ⟨(hb.block _ (lt_of_block a)).trans a,b,c,d⟩
 ·obtain ⟨a,b,c,cs,d⟩:=h.ad a ha
  exact ⟨a,b,c,cs,(hb.block _ (lt_of_block d)).trans d⟩
theorem BdM.setO (h:BdM w0 N bb bo OC RF vo vd NL DL w){w5:World}{v':Value}{NL':List (Int×Nat×Nat)}(hB:Below N w0 w5)(hs:w.heap.size<=w5.heap.size)(hk:∀ j o,w.heap[j]?=some o->vo.ownBlock≠some j->w5.heap[j]?=some o)(ro:NDo w5 v' NL')(ow:∀ j,v'.ownBlock=some j->vo.ownBlock=some j∨w.heap.size<=j):BdM w0 N bb bo OC RF v' vd NL' DL (w5.setCell ⟨bb,bo,none⟩ v'):=by
 obtain ⟨C,ty,hC,n1,n2,c0,c1⟩:=h.bk
 have h5:=hk bb _ hC h.bb_o
 have ho:∀ j,j≠bb->(w5.setCell ⟨bb,bo,none⟩ v').heap[j]?=w5.heap[j]?:=fun j hj=>Below.heap_setCell _ _ _ _ hj
 have hz:(w5.setCell ⟨bb,bo,none⟩ v').heap.size=w5.heap.size:=by simp [World.setCell]
 have hlt:bo < C.size:=by
  apply Classical.byContradiction
  intro e
  rw [Array.getElem?_eq_none (by omega)] at c0
  cases c0
 have nov:∀ j,v'.ownBlock=some j->j≠bb:=fun j hj e=>by
  rcases ow j hj with q | q
  ·exact h.bb_o (by rw [<- e];exact q)
  ·have:=lt_of_block hC;omega
 have fr:∀ j,j < w.heap.size->vo.ownBlock≠some j->v'.ownBlock≠some j:=fun j hj hn e=>by
  rcases ow j e with q | q
  ·exact hn q
  ·omega
 have kk:∀ j o,w.heap[j]?=some o->vo.ownBlock≠some j->j≠bb->(w5.setCell ⟨bb,bo,none⟩ v').heap[j]?=w.heap[j]?:=fun j o hj hn hb=>by rw [ho j hb,hk j o hj hn,hj]
 have dk:∀ j,vd.ownBlock=some j->(w5.setCell ⟨bb,bo,none⟩ v').heap[j]?=w.heap[j]?:=fun j hj=>by
  obtain ⟨cs,hc⟩:=ro_ty h.td hj
  exact kk j _ hc (fun e=>h.o_d e hj) (fun e=>h.bb_d (by rw [<- e];exact hj))
 refine ⟨hB.setCell (p:=⟨bb,bo,none⟩) h.bn _,by rw [hz];exact Nat.le_trans h.nz hs,⟨C.setIfInBounds bo v',ty,heap_setCell_same w5 bb bo _ _ v' h5,n1,n2,by simp [hlt],by rw [Array.getElem?_setIfInBounds_ne (by omega)];exact c1⟩,h.bn,fun o h1 h2=>?_,fun j o hj=>?_,ro.kept fun j hj=>ho j (nov j hj),h.td.kept dk,fun j hj=>?_,h.od,fun t ht=>?_,fun a ha=>?_,h.dn⟩
 ·rw [World.cell?_setCell_other _ _ _ _ (fun e=>by simp only [Addr.mk.injEq] at e;exact h1 e.2.1.symm)]
  rw [<- h.oc o h1 h2]
  exact World.cell?_of_block (h5.trans hC.symm)
 ·obtain ⟨a,b,c,d⟩:=h.rf j o hj
  exact ⟨(kk j o a c b).trans a,b,fr j (lt_of_block a) c,d⟩
 ·rcases ow j hj with q | q
  ·exact h.oo j q
  ·have:=h.nz;omega
 ·refine keep_at t 0 0 (h.tr t ht) fun a ha=>?_
  have hm:a∈inR DL:=List.mem_flatMap.2 ⟨t,ht,ha⟩
  obtain ⟨-,-,-,cs,hc⟩:=h.ad a hm
  obtain ⟨o1,o2⟩:=h.o_a hm
  exact ⟨by rw [hz];exact Nat.lt_of_lt_of_le (lt_of_block hc) hs,fun i _=>World.cell?_of_block (kk _ _ hc o1 o2)⟩
 ·obtain ⟨a1,b,c,cs,hc⟩:=h.ad a ha
  obtain ⟨o1,o2⟩:=h.o_a ha
  exact ⟨a1,b,c,cs,(kk _ _ hc o1 o2).trans hc⟩
theorem BdM.setD (h:BdM w0 N bb bo OC RF vo vd NL DL w){w5:World}{v':Value}{DL':List TV}(hB:Below N w0 w5)(hs:w.heap.size<=w5.heap.size)(hk:∀ j o,w.heap[j]?=some o->vd.ownBlock≠some j->w5.heap[j]?=some o)(ro:TRo w5 v' DL')(ow:∀ j,v'.ownBlock=some j->vd.ownBlock=some j∨w.heap.size<=j)
  (tr:∀ t∈DL',TAt w5 t) (ad:∀ a∈inR DL',N<=a.1/\a.2 % 4=0/\v'.ownBlock≠some a.1/\a.1≠bb/\∃ cs,w5.heap[a.1]?=some (.cells cs 26)) (dn:∀ a,(inR DL').count a<=1):BdM w0 N bb bo OC RF vo v' NL DL' (w5.setCell ⟨bb,bo+1,none⟩ v'):=by
 obtain ⟨C,ty,hC,n1,n2,c0,c1⟩:=h.bk
 have h5:=hk bb _ hC h.bb_d
 have ho:∀ j,j≠bb->(w5.setCell ⟨bb,bo+1,none⟩ v').heap[j]?=w5.heap[j]?:=fun j hj=>Below.heap_setCell _ _ _ _ hj
 have hz:(w5.setCell ⟨bb,bo+1,none⟩ v').heap.size=w5.heap.size:=by simp [World.setCell]
 have hlt:bo+1 < C.size:=by
  apply Classical.byContradiction
  intro e
  rw [Array.getElem?_eq_none (by omega)] at c1
  cases c1
 have nov:∀ j,v'.ownBlock=some j->j≠bb:=fun j hj e=>by
  rcases ow j hj with q | q
  ·exact h.bb_d (by rw [<- e];exact q)
  ·have:=lt_of_block hC;omega
 have fr:∀ j,j < w.heap.size->vd.ownBlock≠some j->v'.ownBlock≠some j:=fun j hj hn e=>by
  rcases ow j e with q | q
  ·exact hn q
  ·omega
 have kk:∀ j o,w.heap[j]?=some o->vd.ownBlock≠some j->j≠bb->(w5.setCell ⟨bb,bo+1,none⟩ v').heap[j]?=w.heap[j]?:=fun j o hj hn hb=>by rw [ho j hb,hk j o hj hn,hj]
 refine ⟨hB.setCell (p:=⟨bb,bo+1,none⟩) h.bn _,by rw [hz];exact Nat.le_trans h.nz hs,⟨C.setIfInBounds (bo+1) v',ty,heap_setCell_same w5 bb (bo+1) _ _ v' h5,n1,n2,by rw [Array.getElem?_setIfInBounds_ne (by omega)];exact c0,by simp [hlt]⟩,h.bn,fun o h1 h2=>?_,fun j o hj=>?_,h.no.kept fun j hj=>?_,ro.kept fun j hj=>ho j (nov j hj),h.oo,fun j hj=>?_,fun t ht=>?_,fun a ha=>?_,dn⟩
 ·rw [World.cell?_setCell_other _ _ _ _ (fun e=>by simp only [Addr.mk.injEq] at e;exact h2 e.2.1.symm)]
  rw [<- h.oc o h1 h2]
  exact World.cell?_of_block (h5.trans hC.symm)
 ·obtain ⟨a,b,c,d⟩:=h.rf j o hj
  exact ⟨(kk j o a d b).trans a,b,c,fr j (lt_of_block a) d⟩
 ·obtain ⟨cs,hc⟩:=ro_ty h.no hj
  exact kk j _ hc (fun e=>h.o_d hj e) (fun e=>h.bb_o (by rw [<- e];exact hj))
 ·rcases ow j hj with q | q
  ·exact h.od j q
  ·have:=h.nz;omega
 ·refine keep_at t 0 0 (tr t ht) fun a ha=>?_
  obtain ⟨-,-,-,nb,cs,hc⟩:=ad a (List.mem_flatMap.2 ⟨t,ht,ha⟩)
  exact ⟨by rw [hz];exact lt_of_block hc,fun i _=>World.cell?_of_block (ho _ nb)⟩
 ·obtain ⟨a1,b,c,nb,cs,hc⟩:=ad a ha
  exact ⟨a1,b,c,cs,(ho _ nb).trans hc⟩
end
section
variable {w0:World} {N bb bo:Nat} {OC:Nat->Option Value} {RF:Nat->Option Obj} {vo vd:Value} {NL:List (Int×Nat×Nat)} {DL:List TV} {w:World}
abbrev zNode:Obj:=.cells #[.int .i64 0,.int .i64 0,.int .i64 0] 193
abbrev ndV (x:Int×Nat×Nat):Value:=.agg #[.int .i64 x.1,.int .i64 (x.2.1:Int),.int .i64 (x.2.2:Int)]
theorem setCs_threeB {w:World}{b:Nat}{a0 a1 a2 v0 v1 v2:Value}{t:TypeId}(h:w.heap[b]?=some (.cells #[a0,a1,a2] t)):(w.setCells b 0 [v0,v1,v2]).heap[b]?=some (.cells #[v0,v1,v2] t):=by
 have h1:=heap_setCell_same w b 0 _ _ v0 h
 have h2:=heap_setCell_same _ b 1 _ _ v1 h1
 exact heap_setCell_same _ b 2 _ _ v2 h2
theorem setCs_bel {n b:Nat}{w0:World}(hn:n<=b):∀ (vs:List Value) (o:Nat) (w:World),Below n w0 w->Below n w0 (w.setCells b o vs)
 | [],_,_,h=>h
 | v :: r,o,w,h=>setCs_bel hn r (o+1) _ (h.setCell (p:=⟨b,o,none⟩) hn v)
set_option linter.unusedSimpArgs false in
set_option maxRecDepth 100000 in
set_option maxHeartbeats 4000000 in
theorem last_B {x:Int×Nat×Nat}(h:BdM w0 N bb bo OC RF vo vd (NL++[x]) DL w)(hl:NL.length<=1000000000):Calls Tryz.prog 128 #[.pointer (some ⟨bb,bo,none⟩)] w fun e w'=>e=.returned (ndV x)/\Below w.heap.size w w':=by
 obtain ⟨ob,oc,rfl,hoc,hcell,-⟩:=RO.pop (f:=ndC) (k:=3) (fun _=>rfl) h.no
 have k0:=hcell 0 (by omega)
 have k1:=hcell 1 (by omega)
 have k2:=hcell 2 (by omega)
 simp only [ndC,List.getElem?_cons_zero,List.getElem?_cons_succ,Nat.add_zero] at k0 k1 k2
 have hob:=h.no.lt ob rfl
 have co:=h.co.1
 obtain ⟨C,ty,hC,-⟩:=h.bk
 have hbb:=lt_of_block hC
 have KK:Hid (∀ w',Below w.heap.size w w'->w'.cell? ⟨bb,bo,none⟩=some (.slice (some ⟨ob,0,none⟩) (NL.length+1) oc)/\w'.cell? ⟨ob,NL.length*3,none⟩=some (.int .i64 x.1)/\w'.cell? ⟨ob,NL.length*3+1,none⟩=some (.int .i64 (x.2.1:Int))/\w'.cell? ⟨ob,NL.length*3+2,none⟩=some (.int .i64 (x.2.2:Int))):=fun w' hb=>⟨(hb.cell (p:=⟨bb,bo,none⟩) hbb).trans co,(hb.cell (p:=⟨ob,_,none⟩) hob).trans k0,(hb.cell (p:=⟨ob,_,none⟩) hob).trans k1,(hb.cell (p:=⟨ob,_,none⟩) hob).trans k2⟩
 have S0:Hid (Below w.heap.size w (w.alloc zNode)/\(w.alloc zNode).heap[w.heap.size]?=some zNode):=⟨bAl _ _,heap_alloc_new _ _⟩
 clear h hoc hcell k0 k1 k2 hob co hC hbb
 generalize NL.length=n at *
 go_enter Tryz.func128,Tryz.ntmps128
 go_upto_region 1 with fail
 refine wp_world (fun w'=>Below w.heap.size w w'/\w'.heap[w.heap.size]?=some zNode) S0.out fun w1 h1=>?_
 obtain ⟨wd,hwd⟩:∃ wd:World,wd=w1.drew:=⟨_,rfl⟩
 have H1:Hid (Below w.heap.size w wd/\wd.heap[w.heap.size]?=some zNode):=by rw [hwd];exact ⟨h1.1.drew,h1.2⟩
 clear h1 S0
 obtain ⟨k,q0,q1,q2⟩:=KK.out _ H1.out.1
 have e1:IntKind.i64.wrap (n:Int)=(n:Int):=IntWalk.i64_in _ ⟨by omega,by omega⟩
 have e2:(n:Int) < (n:Int)+1:=by omega
 refine wp_region_tail_s 12 (by kernel_rfl) (by kernel_rfl) wd hwd ?_
 clear hwd
 simp only [List.take_succ_cons,List.take_zero,List.drop_succ_cons,List.drop_zero]
 iterate 12 (refine st_yes (v:=?_) (by rfl) ?_ ?_;rotate_left;(· (go_simp;with_reducible rfl));(try simp only [Act.put,List.setIfInBounds_toArray,List.set_cons_zero,List.set_cons_succ]))
 refine st_nil ?_
 have z0:wd.cell? ⟨w.heap.size,0,none⟩=some (.int .i64 0):=(cQa H1.out.2).trans rfl
 have z1:wd.cell? ⟨w.heap.size,1,none⟩=some (.int .i64 0):=(cQa H1.out.2).trans rfl
 have z2:wd.cell? ⟨w.heap.size,2,none⟩=some (.int .i64 0):=(cQa H1.out.2).trans rfl
 have f0:∀ i,wd.frozen? ⟨w.heap.size,i,none⟩=false:=fun i=>by simp [World.frozen?,H1.out.2]
 have f00:=f0 0
 have f01:=f0 1
 have f02:=f0 2
 have H2:Hid (Below w.heap.size w (wd.setCells w.heap.size 0 [.int .i64 x.1,.int .i64 (x.2.1:Int),.int .i64 (x.2.2:Int)])/\(wd.setCells w.heap.size 0 [.int .i64 x.1,.int .i64 (x.2.1:Int),.int .i64 (x.2.2:Int)]).heap[w.heap.size]?=some (.cells #[.int .i64 x.1,.int .i64 (x.2.1:Int),.int .i64 (x.2.2:Int)] 193)):=⟨setCs_bel (Nat.le_refl _) _ _ _ H1.out.1,setCs_threeB H1.out.2⟩
 clear k q0 q1 q2 f0
 go_wp2
 change bodyPost _ _ _ _ _ (wd.setCells w.heap.size 0 [.int .i64 x.1,.int .i64 (x.2.1:Int),.int .i64 (x.2.2:Int)])
 generalize wd.setCells w.heap.size 0 [.int .i64 x.1,.int .i64 (x.2.1:Int),.int .i64 (x.2.2:Int)]=w4 at *
 have x0:w4.cell? ⟨w.heap.size,0,none⟩=some (.int .i64 x.1):=(cQa H2.out.2).trans rfl
 have x1:w4.cell? ⟨w.heap.size,1,none⟩=some (.int .i64 (x.2.1:Int)):=(cQa H2.out.2).trans rfl
 have x2:w4.cell? ⟨w.heap.size,2,none⟩=some (.int .i64 (x.2.2:Int)):=(cQa H2.out.2).trans rfl
 refine bodyPost_ret (v:=ndV x) (by simp [results,Tryz.results128,go_sem,x0,x1,x2]) rfl ?_
 exact ⟨rfl,H2.out.1⟩
theorem run_last1 {o:Oper}{a:Act}{t0:TypeId}{v0:Value}{x0:Operand}(hop:o.op=Op.call { callee:=Callee.value (Operand.func 128),args:=#[x0],argTypes:=#[t0] })(h0:a.eval x0=v0)(w:World):(execOp a.eval o).run Tryz.prog w=.ok (.enter 128 #[v0]) w:=by
 have hf:a.eval (Operand.func 128)=.func (.func 128) #[] #[]:=rfl
 simp [execOp,hop,resolve,invoke,h0,hf,Deferred.ofValue]
theorem nd_field0 (a b c:Int)(w:World):(Instr.field 193 (.agg #[.int .i64 a,.int .i64 b,.int .i64 c]) 0).run Tryz.prog w=.ok (.int .i64 a) w:=by kernel_rfl
theorem nd_field1 (a b c:Int)(w:World):(Instr.field 193 (.agg #[.int .i64 a,.int .i64 b,.int .i64 c]) 1).run Tryz.prog w=.ok (.int .i64 b) w:=by kernel_rfl
theorem nd_field2 (a b c:Int)(w:World):(Instr.field 193 (.agg #[.int .i64 a,.int .i64 b,.int .i64 c]) 2).run Tryz.prog w=.ok (.int .i64 c) w:=by kernel_rfl
def kdS (bb bo:Nat)(a:Option Addr)(n c:Nat)(w:World):Prop:=w.cell? ⟨bb,bo+1,none⟩=some (.slice a n c)
set_option linter.unusedSimpArgs false in
set_option maxRecDepth 100000 in
set_option maxHeartbeats 4000000 in
theorem kids_B {x:Int×Nat×Nat}(h:BdM w0 N bb bo OC RF vo vd (NL++[x]) DL w)(hl:NL.length<=1000000000)(hd:DL.length<=1000000000)(hx:x.2.2<=DL.length):Calls Tryz.prog 129 #[.pointer (some ⟨bb,bo,none⟩)] w fun e w'=>e=.returned (.int .i64 ((DL.length - x.2.2:Nat):Int))/\Below w.heap.size w w':=by
 obtain ⟨da,dc,rfl,_⟩:=RO.len h.td
 have cd:=h.cd.1
 obtain ⟨C,ty,hC,-⟩:=h.bk
 have hbb:=lt_of_block hC
 have CL:Hid (∀ w',Below w.heap.size w w'->Calls Tryz.prog 128 #[.pointer (some ⟨bb,bo,none⟩)] w' fun e w''=>e=.returned (.agg #[.int .i64 x.1,.int .i64 (x.2.1:Int),.int .i64 (x.2.2:Int)])/\Below w'.heap.size w' w''):=fun w' hb=>last_B (h.later hb) hl
 have KK:Hid (∀ w',Below w.heap.size w w'->kdS bb bo da DL.length dc w'):=fun w' hb=>(hb.cell (p:=⟨bb,bo+1,none⟩) hbb).trans cd
 obtain ⟨m,hm⟩:∃ m,DL.length - x.2.2=m:=⟨_,rfl⟩
 have HM:Hid ((DL.length:Int) - (x.2.2:Int)=(m:Int)):=by show _=_;omega
 rw [hm]
 clear h cd hC hbb hl hm hx
 generalize DL.length=n at *
 go_enter Tryz.func129,Tryz.ntmps129
 go_upto_region 1 with fail
 obtain ⟨wd,hwd⟩:∃ wd:World,wd=w.drew:=⟨_,rfl⟩
 have BD:Hid (Below w.heap.size w wd):=by rw [hwd];exact (Below.refl _ _).drew
 have hs:Hid (kdS bb bo da n dc wd):=KK.out _ BD.out
 refine wp_region_x (S:=SX 9 (kdS bb bo da n dc) (fun _=>True)) (by kernel_rfl) ?_
 rw [<- hwd]
 clear hwd
 refine wXt (m:=9) (i:=0) (v:=?_) rfl (by kernel_rfl) (by kernel_rfl) (by decide) (by decide +kernel) (by decide +kernel) (fun _ _ _ h=>h) (by kernel_rfl) (Or.inl ⟨by rfl,?_⟩) (SX.both hs.out trivial) ?_
 rotate_left
 ·(intro w hSw;have z0:=hSw.1;unfold kdS at z0;clear hSw;have fd:=fun w=>nd_field2 x.1 (x.2.1:Int) (x.2.2:Int) w;go_simp;try (with_reducible rfl))
 (try simp only [Act.put,List.setIfInBounds_toArray,List.set_cons_zero,List.set_cons_succ])
 refine wXt (m:=9) (i:=1) (v:=?_) rfl (by kernel_rfl) (by kernel_rfl) (by decide) (by decide +kernel) (by decide +kernel) (fun _ _ _ h=>h) (by kernel_rfl) (Or.inl ⟨by rfl,?_⟩) (SX.both hs.out trivial) ?_
 rotate_left
 ·(intro w hSw;have z0:=hSw.1;unfold kdS at z0;clear hSw;have fd:=fun w=>nd_field2 x.1 (x.2.1:Int) (x.2.2:Int) w;go_simp;try (with_reducible rfl))
 (try simp only [Act.put,List.setIfInBounds_toArray,List.set_cons_zero,List.set_cons_succ])
 refine wXt (m:=9) (i:=2) (v:=?_) rfl (by kernel_rfl) (by kernel_rfl) (by decide) (by decide +kernel) (by decide +kernel) (fun _ _ _ h=>h) (by kernel_rfl) (Or.inl ⟨by rfl,?_⟩) (SX.both hs.out trivial) ?_
 rotate_left
 ·(intro w hSw;have z0:=hSw.1;unfold kdS at z0;clear hSw;have fd:=fun w=>nd_field2 x.1 (x.2.1:Int) (x.2.2:Int) w;go_simp;try (with_reducible rfl))
 (try simp only [Act.put,List.setIfInBounds_toArray,List.set_cons_zero,List.set_cons_succ])
 refine wXt (m:=9) (i:=3) (v:=?_) rfl (by kernel_rfl) (by kernel_rfl) (by decide) (by decide +kernel) (by decide +kernel) (fun _ _ _ h=>h) (by kernel_rfl) (Or.inl ⟨by rfl,?_⟩) (SX.both hs.out trivial) ?_
 rotate_left
 ·(intro w hSw;have z0:=hSw.1;unfold kdS at z0;clear hSw;have fd:=fun w=>nd_field2 x.1 (x.2.1:Int) (x.2.2:Int) w;go_simp;try (with_reducible rfl))
 (try simp only [Act.put,List.setIfInBounds_toArray,List.set_cons_zero,List.set_cons_succ])
 refine wXt (m:=9) (i:=4) (v:=?_) rfl (by kernel_rfl) (by kernel_rfl) (by decide) (by decide +kernel) (by decide +kernel) (fun _ _ _ h=>h) (by kernel_rfl) (Or.inl ⟨by rfl,?_⟩) (SX.both hs.out trivial) ?_
 rotate_left
 ·(intro w hSw;have z0:=hSw.1;unfold kdS at z0;clear hSw;have fd:=fun w=>nd_field2 x.1 (x.2.1:Int) (x.2.2:Int) w;go_simp;try (with_reducible rfl))
 (try simp only [Act.put,List.setIfInBounds_toArray,List.set_cons_zero,List.set_cons_succ])
 refine wXt (m:=9) (i:=5) (v:=?_) rfl (by kernel_rfl) (by kernel_rfl) (by decide) (by decide +kernel) (by decide +kernel) (fun _ _ _ h=>h) (by kernel_rfl) (Or.inl ⟨by rfl,?_⟩) (SX.both hs.out trivial) ?_
 rotate_left
 ·(intro w hSw;have z0:=hSw.1;unfold kdS at z0;clear hSw;have fd:=fun w=>nd_field2 x.1 (x.2.1:Int) (x.2.2:Int) w;go_simp;try (with_reducible rfl))
 (try simp only [Act.put,List.setIfInBounds_toArray,List.set_cons_zero,List.set_cons_succ])
 refine wX1 (j:=6) (by decide +kernel) rfl (fun K' hK=>?_)
 refine sCX rfl 128 #[.pointer (some ⟨bb,bo,none⟩)] _ (run_last1 (v0:=.pointer (some ⟨bb,bo,none⟩)) rfl rfl _) (CL.out _ BD.out) ?_
 rintro e w3 ⟨rfl,b3⟩
 have B3:Hid (Below w.heap.size w w3):=BD.out.trans (b3.mono BD.out.size)
 have hs3:Hid (kdS bb bo da n dc w3):=KK.out _ B3.out
 refine ⟨_,rfl,hK.out _ _ (SX.both hs3.out trivial) ?_⟩
 clear hK K' b3 hs BD
 (try simp only [Act.put,List.setIfInBounds_toArray,List.set_cons_zero,List.set_cons_succ])
 refine wXt (m:=9) (i:=7) (v:=?_) rfl (by kernel_rfl) (by kernel_rfl) (by decide) (by decide +kernel) (by decide +kernel) (fun _ _ _ h=>h) (by kernel_rfl) (Or.inl ⟨by rfl,?_⟩) (SX.both hs3.out trivial) ?_
 rotate_left
 ·(intro w hSw;have z0:=hSw.1;unfold kdS at z0;clear hSw;have fd:=fun w=>nd_field2 x.1 (x.2.1:Int) (x.2.2:Int) w;go_simp;try (with_reducible rfl))
 (try simp only [Act.put,List.setIfInBounds_toArray,List.set_cons_zero,List.set_cons_succ])
 have hw:IntKind.i64.wrap ((n:Int) - (x.2.2:Int))=(m:Int):=by rw [HM.out];exact IntWalk.i64_in _ ⟨by omega,by have:=HM.out;omega⟩
 refine wXt (m:=9) (i:=8) (v:=?_) rfl (by kernel_rfl) (by kernel_rfl) (by decide) (by decide +kernel) (by decide +kernel) (fun _ _ _ h=>h) (by kernel_rfl) (Or.inl ⟨by rfl,?_⟩) (SX.both hs3.out trivial) ?_
 rotate_left
 ·(intro w hSw;have z0:=hSw.1;unfold kdS at z0;clear hSw;have fd:=fun w=>nd_field2 x.1 (x.2.1:Int) (x.2.2:Int) w;go_simp;try (with_reducible rfl))
 (try simp only [Act.put,List.setIfInBounds_toArray,List.set_cons_zero,List.set_cons_succ])
 refine wX1 (j:=9) (by decide +kernel) rfl (fun K' hK=>?_)
 go_simp
 refine hK.out _ _ (SX.one hs3.out (by kernel_rfl)) ?_
 clear hK K'
 (try simp only [Act.put,List.setIfInBounds_toArray,List.set_cons_zero,List.set_cons_succ])
 refine wXd (by decide +kernel) ?_
 go_wp2
 go_ret
 exact ⟨rfl,B3.out⟩
set_option linter.unusedSimpArgs false in
set_option maxRecDepth 100000 in
set_option maxHeartbeats 4000000 in
theorem whole_B (h:BdM w0 N bb bo OC RF vo vd NL DL w):Calls Tryz.prog 86 #[.pointer (some ⟨bb,bo,none⟩)] w fun e w'=>e=.returned (.bool (decide (NL=[]/\DL≠[])))/\w'=w:=by
 obtain ⟨da,dc,rfl,_⟩:=RO.len h.td
 obtain ⟨oa,oc,rfl,_⟩:=RO.len h.no
 have cd:=h.cd.1
 have co:=h.co.1
 clear h
 by_cases h1:NL=[]
 ·subst h1
  by_cases h2:DL=[]
  ·subst h2
   simp only [List.length_nil] at cd co
   go_enter Tryz.func86,Tryz.ntmps86
   go_wp2
   go_ret
   exact ⟨by simp,rfl⟩
  ·have hp:0 < DL.length:=List.length_pos_iff.2 h2
   have hp1:(0:Int) < (DL.length:Int):=by omega
   have e:decide (([]:List (Int×Nat×Nat))=[]/\DL≠[])=true:=by simp [h2]
   rw [e]
   simp only [List.length_nil] at co
   clear e h2
   go_enter Tryz.func86,Tryz.ntmps86
   go_wp2
   go_ret
   exact ⟨rfl,rfl⟩
 ·have hp:0 < NL.length:=List.length_pos_iff.2 h1
  have hp1:¬ (NL.length:Int)=0:=by omega
  have hp2:((NL.length:Int) == 0)=false:=by simp;omega
  have e:decide (NL=[]/\DL≠[])=false:=by simp [h1]
  rw [e]
  clear e h1
  go_enter Tryz.func86,Tryz.ntmps86
  go_wp2
  go_ret
  exact ⟨rfl,rfl⟩
end
structure FrB where
 p:Int
 k:Nat
 ks:List TV
def mkNd:Nat->List FrB->List (Int×Nat×Nat)
 | _,[]=>[]
 | n,f :: F=>(f.p,f.k,n) :: mkNd (n+f.ks.length) F
def ksL (F:List FrB):List TV:=F.flatMap (·.ks)
theorem ksL_app (F G:List FrB):ksL (F++G)=ksL F++ksL G:=by simp [ksL]
theorem mkNd_snoc:∀ (n:Nat) (F:List FrB) (f:FrB),mkNd n (F++[f])=mkNd n F++[(f.p,f.k,n+(ksL F).length)]
 | n,[],f=>by simp [mkNd,ksL]
 | n,g :: F,f=>by
  rw [List.cons_append,mkNd,mkNd_snoc,mkNd,List.cons_append]
  have e:ksL (g :: F)=g.ks++ksL F:=by simp [ksL]
  rw [e,List.length_append,Nat.add_assoc]
theorem mkNd_len:∀ (n:Nat) (F:List FrB),(mkNd n F).length=F.length
 | _,[]=>rfl
 | n,f :: F=>by rw [mkNd,List.length_cons,mkNd_len,List.length_cons]
abbrev AB:=List TV×List FrB
def adA:AB->TV->AB
 | (D,[]),t=>(D++[t],[])
 | (D,f :: S),t=>(D,⟨f.p,f.k,f.ks++[t]⟩ :: S)
def ndT (f:FrB):TV:=TV.mk f.p 0 ByteArray.empty none 0 f.ks
def clA:Nat->AB->AB
 | 0,A=>A
 | _+1,(D,[])=>(D,[])
 | n+1,(D,f :: S)=>if f.ks.length=f.k then clA n (adA (D,S) (ndT f)) else (D,f :: S)
def clU2 (A:AB):AB:=clA (A.2.length+1) A
theorem adA_len (D:List TV)(S:List FrB)(t:TV):(adA (D,S) t).2.length=S.length:=by
 cases S with
 | nil=>rfl
 | cons f S=>rfl
theorem clU2_nil (D:List TV):clU2 (D,[])=(D,[]):=rfl
theorem clU2_cons (D:List TV)(f:FrB)(S:List FrB):clU2 (D,f :: S)=if f.ks.length=f.k then clU2 (adA (D,S) (ndT f)) else (D,f :: S):=by
 show clA (S.length+1+1) (D,f :: S)=_
 rw [clA]
 unfold clU2
 rw [adA_len]
def nlA (A:AB):List (Int×Nat×Nat):=mkNd A.1.length A.2.reverse
def dlA (A:AB):List TV:=A.1++ksL A.2.reverse
theorem nlA_cons (D:List TV)(f:FrB)(S:List FrB):nlA (D,f :: S)=nlA (D,S)++[(f.p,f.k,(dlA (D,S)).length)]:=by
 unfold nlA dlA
 simp only [List.reverse_cons]
 rw [mkNd_snoc,List.length_append]
theorem dlA_cons (D:List TV)(f:FrB)(S:List FrB):dlA (D,f :: S)=dlA (D,S)++f.ks:=by
 unfold dlA
 simp only [List.reverse_cons]
 rw [ksL_app,List.append_assoc]
 simp [ksL]
theorem nlA_ad (D:List TV)(S:List FrB)(t:TV):nlA (adA (D,S) t)=nlA (D,S):=by
 cases S with
 | nil=>rfl
 | cons f S =>
  show nlA (D,⟨f.p,f.k,f.ks++[t]⟩ :: S)=_
  rw [nlA_cons,nlA_cons]
theorem dlA_ad (D:List TV)(S:List FrB)(t:TV):dlA (adA (D,S) t)=dlA (D,S)++[t]:=by
 cases S with
 | nil=>simp [adA,dlA,ksL]
 | cons f S =>
  show dlA (D,⟨f.p,f.k,f.ks++[t]⟩ :: S)=_
  rw [dlA_cons,dlA_cons,List.append_assoc]
def samS:List FrB->List FrB->Prop
 | [],[]=>True
 | f :: S,g :: T=>f.p=g.p/\f.k=g.k/\samL f.ks g.ks/\samS S T
 | _,_=>False
def samA (A B:AB):Prop:=samL A.1 B.1/\samS A.2 B.2
theorem samA_ad {A B:AB}{t u:TV}(h:samA A B)(ht:samV t u):samA (adA A t) (adA B u):=by
 obtain ⟨D,S⟩:=A
 obtain ⟨E,T⟩:=B
 obtain ⟨h1,h2⟩:=h
 cases S with
 | nil =>
  cases T with
  | nil=>exact ⟨samL_app h1 (samL_one ht),trivial⟩
  | cons g T=>exact h2.elim
 | cons f S =>
  cases T with
  | nil=>exact h2.elim
  | cons g T =>
   obtain ⟨a,b,c,d⟩:=h2
   exact ⟨h1,a,b,samL_app c (samL_one ht),d⟩
theorem nd_sam {f g:FrB}(hp:f.p=g.p)(hk:samL f.ks g.ks)(a:Option Addr)(c:Nat):samV (TV.mk f.p 0 ByteArray.empty a c f.ks) (ndT g):=by
 refine (samV_iff _ _).2 ⟨?_,hk.2⟩
 unfold sgV
 show (f.p,(0:Int),ByteArray.empty,f.ks.length)=(g.p,(0:Int),ByteArray.empty,g.ks.length)
 rw [hp,hk.1]
def BdS (w0:World)(N bb bo:Nat)(OC:Nat->Option Value)(RF:Nat->Option Obj)(A:AB)(w:World):Prop:=∃ vo vd B,samA B A/\BdM w0 N bb bo OC RF vo vd (nlA B) (dlA B) w
theorem slice_toN (b lc len i:Nat)(hi:i<=lc)(w:World):(Instr.slice 152 (.slice (some ⟨b,0,none⟩) len lc) none (some (.int .i64 (i:Int))) none).run Tryz.prog w=.ok (.slice (some ⟨b,0,none⟩) i lc) w:=by
 have h:(Tryz.prog.info? 193).map (·.size)=some 3:=by kernel_rfl
 obtain ⟨i0,hinf,hz1⟩:=Option.map_eq_some_iff.1 h
 have hu:Tryz.prog.underlying 152=some (.slice (Tryz.prog.elem 152)):=by kernel_rfl
 have he:Tryz.prog.elem 152=193:=by kernel_rfl
 have:=run_slice_h (P:=Tryz.prog) (w:=w) 152 (some ⟨b,0,none⟩) len lc hu .i64 (i:Int) (by omega) (by omega)
 rw [this,he]
 simp [sizeOf,typeInfo,hinf,hz1]
 unfold sliced
 split<;>simp [aNn]
theorem slice_toTr (a:Option Addr)(lc len i:Nat)(hi:i<=lc)(h0:a=none->lc=0)(h1:∀ ad,a=some ad->ad=⟨ad.block,0,none⟩)(w:World):(Instr.slice 24 (.slice a len lc) none (some (.int .i64 (i:Int))) none).run Tryz.prog w=.ok (.slice a i lc) w:=by
 obtain ⟨i0,hinf,_,hz1,_⟩:=infoTree_parts
 have hu:Tryz.prog.underlying 24=some (.slice (Tryz.prog.elem 24)):=by kernel_rfl
 have he:Tryz.prog.elem 24=26:=by kernel_rfl
 have:=run_slice_h (P:=Tryz.prog) (w:=w) 24 a len lc hu .i64 (i:Int) (by omega) (by omega)
 rw [this,he]
 simp [sizeOf,typeInfo,hinf,hz1]
 unfold sliced
 cases a with
 | none=>simp
 | some ad =>
  rw [h1 ad rfl]
  split<;>simp [aNn]
theorem slice_froTr (b lc len i:Nat)(hi:i < len)(hc:len<=lc)(w:World):(Instr.slice 24 (.slice (some ⟨b,0,none⟩) len lc) (some (.int .i64 (i:Int))) none none).run Tryz.prog w=.ok (.slice (some ⟨b,i*4,none⟩) (len - i) (lc - i)) w:=by
 obtain ⟨i0,hinf,_,hz1,_⟩:=infoTree_parts
 have hu:Tryz.prog.underlying 24=some (.slice (Tryz.prog.elem 24)):=by kernel_rfl
 have he:Tryz.prog.elem 24=26:=by kernel_rfl
 have:=run_slice_l (P:=Tryz.prog) (w:=w) 24 (some ⟨b,0,none⟩) len lc hu .i64 (i:Int) (by omega) (by omega)
 rw [this,he]
 simp [sizeOf,typeInfo,hinf,hz1]
 have hne:¬ lc=i:=by omega
 unfold sliced
 simp [hne,aNn]
theorem tail_row {w:World}{v:Value}{l m:List TV}(h:TRo w v (l++m))(hm:m≠[]):∃ b c,v=.slice (some ⟨b,0,none⟩) (l++m).length c/\(l++m).length<=c/\KRow w (some ⟨b,l.length*4,none⟩) m:=by
 obtain ⟨b,c,rfl,hc,-⟩:=RO.cell (f:=trCells) (fun _=>rfl) h (i:=0) (by rw [List.length_append];have:=List.length_pos_iff.2 hm;omega)
 refine ⟨b,c,rfl,hc,fun _=>⟨b,l.length*4,rfl,h.lt b rfl,fun i hi=>?_⟩⟩
 obtain ⟨b',c',e,_,hcell⟩:=RO.cell (f:=trCells) (fun _=>rfl) h (i:=l.length+i) (by rw [List.length_append];omega)
 simp only [Value.slice.injEq,Option.some.injEq,Addr.mk.injEq,true_and,and_true] at e
 obtain ⟨rfl,rfl⟩:=e
 have eg:(l++m)[l.length+i]'(by rw [List.length_append];omega)=m.getD i .none:=by
  rw [List.getElem_append_right (by omega)]
  simp [List.getD,hi]
 rw [eg] at hcell
 have k0:=hcell 0 (by omega)
 have k1:=hcell 1 (by omega)
 have k2:=hcell 2 (by omega)
 have k3:=hcell 3 (by omega)
 simp only [trCells,List.getElem?_cons_zero,List.getElem?_cons_succ,Nat.add_zero] at k0 k1 k2 k3
 rw [show l.length*4+i*4=(l.length+i)*4 by omega]
 exact ⟨k0,k1,k2,k3⟩
theorem row_memB {a:Nat×Nat}{b o s n:Nat}(h:a∈rowA b o s n):a.1=b/\∃ i,a.2=o+i*4:=by
 unfold rowA at h
 obtain ⟨i,-,rfl⟩:=List.mem_map.1 h
 exact ⟨rfl,i,rfl⟩
section
variable {w0:World} {N bb bo:Nat} {OC:Nat->Option Value} {RF:Nat->Option Obj} {vo vd:Value} {NL:List (Int×Nat×Nat)} {DL ks:List TV} {w:World}
theorem BdM.fold (h:BdM w0 N bb bo OC RF vo vd NL (DL++ks) w)(t:TV)(ht:t.kids=ks)(hkr:KRow w t.ka ks)
  (hrow:ks≠[]->∃ b cs,t.ka=some ⟨b,0,none⟩/\N<=b/\b≠bb/\vd.ownBlock≠some b/\(∀ a∈inR (DL++ks),a.1≠b)/\w.heap[b]?=some (.cells cs 26))
  {w5:World} {v' vp:Value} (hvp:vp.ownBlock=vd.ownBlock) (hg:Grew w w5 vp v') (ro:TRo w5 v' (DL++[t])):BdM w0 N bb bo OC RF vo v' NL (DL++[t]) (w5.setCell ⟨bb,bo+1,none⟩ v'):=by
 have nz:=h.nz
 have kp:∀ j o,w.heap[j]?=some o->vd.ownBlock≠some j->w5.heap[j]?=some o:=fun j o hj hn=>(hg.grown.block j (lt_of_block hj) (by rw [hvp];exact fun e=>hn e.symm)).trans hj
 have ow:∀ j,v'.ownBlock=some j->vd.ownBlock=some j∨w.heap.size<=j:=fun j hj=>by
  rcases hg.moved with e | ⟨k,e,hk⟩
  ·exact .inl (by rw [<- hvp,<- e];exact hj)
  ·rw [e] at hj;cases hj;exact .inr hk
 have hB:Below N w0 w5:=⟨hg.grown.os.trans h.bel.os,hg.grown.tape.trans h.bel.tape,hg.grown.output.trans h.bel.output,Nat.le_trans h.bel.size hg.grown.size,fun j hj=>(hg.grown.block j (by omega) (by rw [hvp];intro e;have:=h.od j e.symm;omega)).trans (h.bel.block j hj)⟩
 have old:∀ u∈DL++ks,TAt w5 u:=fun u hu=>by
  refine keep_at u 0 0 (h.tr u hu) fun a ha=>?_
  obtain ⟨-,-,nv,cs,hc⟩:=h.ad a (List.mem_flatMap.2 ⟨u,hu,ha⟩)
  have h5:=kp _ _ hc nv
  exact ⟨lt_of_block h5,fun i _=>World.cell?_of_block (h5.trans hc.symm)⟩
 have hrA:∀ a∈adsL (kidsA t),a∈inR ks∨∃ b,t.ka=some ⟨b,0,none⟩/\a∈rowA b 0 0 ks.length:=fun a ha=>by
  by_cases hk:ks=[]
  ·subst hk
   unfold kidsA at ha
   rw [ht] at ha
   simp [kidF,adsL] at ha
  ·obtain ⟨b,cs,e,-⟩:=hrow hk
   have e1:kidsA t=kidF b 0 0 ks:=by unfold kidsA kadr;rw [ht,e]
   have hc:=List.count_pos_iff.2 ha
   rw [e1,cnt_row] at hc
   by_cases hr:a∈rowA b 0 0 ks.length
   ·exact .inr ⟨b,e,hr⟩
   ·rw [List.count_eq_zero_of_not_mem hr] at hc
    rw [Nat.zero_add] at hc
    exact .inl (List.count_pos_iff.1 hc)
 have one:∀ a∈inR (DL++ks),N<=a.1/\a.2 % 4=0/\v'.ownBlock≠some a.1/\a.1≠bb/\∃ cs,w5.heap[a.1]?=some (.cells cs 26):=fun a ha=>by
  obtain ⟨h1,h2,h3,cs,h4⟩:=h.ad a ha
  refine ⟨h1,h2,fun e=>?_,(h.o_a ha).2,cs,kp _ _ h4 h3⟩
  rcases ow _ e with q | q
  ·exact h3 q
  ·have:=lt_of_block h4;omega
 refine h.setD hB hg.grown.size kp ro ow (fun u hu=>?_) (fun a ha=>?_) fun a=>?_
 ·rcases List.mem_append.1 hu with hu | hu
  ·exact old u (List.mem_append_left _ hu)
  ·rw [List.mem_singleton.1 hu]
   refine TAt.mk t ?_ fun k hk=>old k (List.mem_append_right _ (by rw [<- ht];exact hk))
   intro hne
   rw [ht] at hne ⊢
   obtain ⟨b,cs,e,-,-,nv,-,hc⟩:=hrow hne
   obtain ⟨b',off,e',hl,hcell⟩:=hkr hne
   rw [e] at e'
   simp only [Option.some.injEq,Addr.mk.injEq] at e'
   obtain ⟨rfl,rfl,-⟩:=e'
   have h5:=kp _ _ hc nv
   have ec:∀ o,w5.cell? ⟨b,o,none⟩=w.cell? ⟨b,o,none⟩:=fun o=>World.cell?_of_block (h5.trans hc.symm)
   refine ⟨b,0,e,lt_of_block h5,fun i hi=>?_⟩
   rw [ec,ec,ec,ec]
   exact hcell i hi
 ·rw [inR_app] at ha
  rcases List.mem_append.1 ha with ha | ha
  ·exact one a (by rw [inR_app];exact List.mem_append_left _ ha)
  ·have ha':a∈adsL (kidsA t):=by simpa [inR] using ha
   rcases hrA a ha' with ha | ⟨b,e,ha⟩
   ·exact one a (by rw [inR_app];exact List.mem_append_right _ ha)
   ·have hk:ks≠[]:=fun e=>by subst e;simp [rowA] at ha
    obtain ⟨b',cs,e',h1,h2,h3,-,h4⟩:=hrow hk
    rw [e] at e'
    simp only [Option.some.injEq,Addr.mk.injEq,and_true] at e'
    subst e'
    obtain ⟨ea,i,eo⟩:=row_memB ha
    rw [ea,eo]
    refine ⟨h1,by omega,fun q=>?_,h2,cs,kp _ _ h4 h3⟩
    rcases ow _ q with q | q
    ·exact h3 q
    ·have:=lt_of_block h4;omega
 ·have hd:=h.dn a
  rw [inR_app,List.count_append] at hd ⊢
  have e0:inR [t]=adsL (kidsA t):=by simp [inR]
  rw [e0]
  by_cases hk:ks=[]
  ·have e1:kidsA t=[]:=by unfold kidsA;rw [ht,hk];rfl
   rw [e1]
   simp only [adsL,List.flatMap_nil,List.count_nil]
   omega
  ·obtain ⟨b,cs,e,-,-,-,hn,-⟩:=hrow hk
   have e1:kidsA t=kidF b 0 0 ks:=by unfold kidsA kadr;rw [ht,e]
   have e2:inL ks=inR ks:=rfl
   rw [e1,cnt_row,e2]
   have hr:=row_one a b 0 ks.length 0
   by_cases hm:a∈rowA b 0 0 ks.length
   ·have hab:=(row_memB hm).1
    have n1:a ∉ inR DL:=fun q=>hn a (by rw [inR_app];exact List.mem_append_left _ q) hab
    have n2:a ∉ inR ks:=fun q=>hn a (by rw [inR_app];exact List.mem_append_right _ q) hab
    rw [List.count_eq_zero_of_not_mem n1,List.count_eq_zero_of_not_mem n2]
    omega
   ·rw [List.count_eq_zero_of_not_mem hm]
    omega
end
end Go.Proofs.YteciabdjkaackaaGreat
