import Derived.Test.YteciabdjkaackaaGreatPTB4
namespace Go.Proofs.YteciabdjkaackaaGreat
set_option linter.unusedVariables false
open Go.RowKit
section
variable {w0:World} {N bb bo:Nat} {OC:Nat->Option Value} {RF:Nat->Option Obj} {w:World}
theorem BdM.addO {vo vd:Value}{NL NL':List (Int×Nat×Nat)}{DL:List TV}(h:BdM w0 N bb bo OC RF vo vd NL DL w){w5:World}{v':Value}(hg:Grew w w5 vo v')(ro:NDo w5 v' NL'):BdM w0 N bb bo OC RF v' vd NL' DL (w5.setCell ⟨bb,bo,none⟩ v'):=by
 have nz:=h.nz
 have kp:∀ j o,w.heap[j]?=some o->vo.ownBlock≠some j->w5.heap[j]?=some o:=fun j o hj hn=>(hg.grown.block j (lt_of_block hj) (fun e=>hn e.symm)).trans hj
 have hB:Below N w0 w5:=⟨hg.grown.os.trans h.bel.os,hg.grown.tape.trans h.bel.tape,hg.grown.output.trans h.bel.output,Nat.le_trans h.bel.size hg.grown.size,fun j hj=>(hg.grown.block j (by omega) (by intro e;have:=h.oo j e.symm;omega)).trans (h.bel.block j hj)⟩
 refine h.setO hB hg.grown.size kp ro fun j hj=>?_
 rcases hg.moved with e | ⟨k,e,hk⟩
 ·exact .inl (by rw [<- e];exact hj)
 ·rw [e] at hj;cases hj;exact .inr hk
theorem BdS.later {A:AB}(h:BdS w0 N bb bo OC RF A w){w':World}(hb:Below w.heap.size w w'):BdS w0 N bb bo OC RF A w':=by
 obtain ⟨a,b,c,d,e⟩:=h
 exact ⟨a,b,c,d,e.later hb⟩
def twS (bb bo:Nat)(vo vd:Value)(w:World):Prop:=w.cell? ⟨bb,bo,none⟩=some vo/\w.cell? ⟨bb,bo+1,none⟩=some vd
set_option linter.unusedSimpArgs false in
set_option maxRecDepth 100000 in
set_option maxHeartbeats 4000000 in
theorem node_B {A:AB}{p:Int}{k:Nat}(h:BdS w0 N bb bo OC RF A w)(hz:(dlA A).length+A.2.length<=999999999):Calls Tryz.prog 131 #[.pointer (some ⟨bb,bo,none⟩),.int .i64 p,.int .i64 (k:Int)] w fun e w'=>e=.returned (.tuple #[])/\BdS w0 N bb bo OC RF (clU2 (A.1,⟨p,k,[]⟩ :: A.2)) w':=by
 obtain ⟨vo,vd,⟨E,T⟩,hs,hM⟩:=h
 have hzE:=dlA_len hs
 have hn:=nlA_len (E,T)
 have hTl:=samS_len hs.2
 dsimp only at hn hTl
 have RS:Hid (∀ v' w',BdM w0 N bb bo OC RF v' vd (nlA (E,T)++[(p,k,(dlA (E,T)).length)]) (dlA (E,T)) w'->Calls Tryz.prog 154 #[.pointer (some ⟨bb,bo,none⟩)] w' fun e w''=>e=.returned (.tuple #[])/\BdS w0 N bb bo OC RF (clU2 (A.1,⟨p,k,[]⟩ :: A.2)) w''):=fun v' w' hM'=>by
  refine close_B ⟨v',vd,(E,⟨p,k,[]⟩ :: T),⟨hs.1,rfl,rfl,⟨rfl,fun i hi=>absurd hi (by simp)⟩,hs.2⟩,?_⟩ ?_
  ·rw [nlA_cons,dlA_cons]
   simpa using hM'
  ·have e1:dlA (A.1,⟨p,k,[]⟩ :: A.2)=dlA A:=by rw [dlA_cons];simp
   rw [e1]
   simp only [List.length_cons]
   omega
 have hb1:(nlA (E,T)).length<=1000000000:=by omega
 have hb2:(dlA (E,T)).length<=1000000000:=by omega
 clear hzE hn hTl hz hs
 generalize nlA (E,T)=NL at *
 generalize dlA (E,T)=DL at *
 have HB:Hid (NL.length<=1000000000/\DL.length<=1000000000):=⟨hb1,hb2⟩
 clear hb1 hb2
 obtain ⟨da,dc,rfl,-⟩:=RO.len hM.td
 obtain ⟨oa,oc,rfl,-⟩:=RO.len hM.no
 have HM:Hid (BdM w0 N bb bo OC RF (.slice oa NL.length oc) (.slice da DL.length dc) NL DL w):=hM
 clear hM
 obtain ⟨m,hm⟩:∃ m,DL.length=m:=⟨_,rfl⟩
 obtain ⟨n,hn⟩:∃ n,NL.length=n:=⟨_,rfl⟩
 rw [hm] at HM RS
 rw [hn] at HM
 have HNB:Hid (NL.length<=1000000000):=HB.out.1
 clear hn HB
 go_enter Tryz.func131,Tryz.ntmps131
 go_upto_region 0 with fail
 obtain ⟨wd,hwd⟩:∃ wd:World,wd=w.drew:=⟨_,rfl⟩
 have H8:Hid (BdM w0 N bb bo OC RF (.slice oa n oc) (.slice da m dc) NL DL wd):=by rw [hwd];exact HM.out.later (Below.refl _ _).drew
 have HR:Hid (∀ w',BdM w0 N bb bo OC RF (.slice oa n oc) (.slice da m dc) NL DL w'->twS bb bo (.slice oa n oc) (.slice da m dc) w'):=fun w' h=>⟨h.co.1,h.cd.1⟩
 have hs:Hid (twS bb bo (.slice oa n oc) (.slice da m dc) wd):=HR.out _ H8.out
 refine wp_region_x (S:=SX 17 (fun _=>True) (twS bb bo (.slice oa n oc) (.slice da m dc))) (by kernel_rfl) ?_
 rw [<- hwd]
 clear hwd hm HM
 refine wpAnyX_takeBM (m:=17) (i:=0) (v:=?_) rfl (by kernel_rfl) (by kernel_rfl) (by decide) (by decide +kernel) (by decide +kernel) (fun _ _ _ h=>h) (by kernel_rfl) (Or.inl ⟨by rfl,?_⟩) (SX.both trivial hs.out) ?_
 rotate_left
 ·(intro w hSw;have z0:=hSw.2;unfold twS at z0;obtain ⟨z1,z2⟩:=z0;clear hSw;go_simp;try (with_reducible rfl))
 (try simp only [Act.put,List.setIfInBounds_toArray,List.set_cons_zero,List.set_cons_succ])
 refine wpAnyX_takeBM (m:=17) (i:=1) (v:=?_) rfl (by kernel_rfl) (by kernel_rfl) (by decide) (by decide +kernel) (by decide +kernel) (fun _ _ _ h=>h) (by kernel_rfl) (Or.inl ⟨by rfl,?_⟩) (SX.both trivial hs.out) ?_
 rotate_left
 ·(intro w hSw;have z0:=hSw.2;unfold twS at z0;obtain ⟨z1,z2⟩:=z0;clear hSw;go_simp;try (with_reducible rfl))
 (try simp only [Act.put,List.setIfInBounds_toArray,List.set_cons_zero,List.set_cons_succ])
 refine wpAnyX_takeBM (m:=17) (i:=2) (v:=?_) rfl (by kernel_rfl) (by kernel_rfl) (by decide) (by decide +kernel) (by decide +kernel) (fun _ _ _ h=>h) (by kernel_rfl) (Or.inl ⟨by rfl,?_⟩) (SX.both trivial hs.out) ?_
 rotate_left
 ·(intro w hSw;have z0:=hSw.2;unfold twS at z0;obtain ⟨z1,z2⟩:=z0;clear hSw;go_simp;try (with_reducible rfl))
 (try simp only [Act.put,List.setIfInBounds_toArray,List.set_cons_zero,List.set_cons_succ])
 refine wpAnyX_takeBM (m:=17) (i:=3) (v:=?_) rfl (by kernel_rfl) (by kernel_rfl) (by decide) (by decide +kernel) (by decide +kernel) (fun _ _ _ h=>h) (by kernel_rfl) (Or.inl ⟨by rfl,?_⟩) (SX.both trivial hs.out) ?_
 rotate_left
 ·(intro w hSw;have z0:=hSw.2;unfold twS at z0;obtain ⟨z1,z2⟩:=z0;clear hSw;go_simp;try (with_reducible rfl))
 (try simp only [Act.put,List.setIfInBounds_toArray,List.set_cons_zero,List.set_cons_succ])
 refine wpAnyX_takeBM (m:=17) (i:=4) (v:=?_) rfl (by kernel_rfl) (by kernel_rfl) (by decide) (by decide +kernel) (by decide +kernel) (fun _ _ _ h=>h) (by kernel_rfl) (Or.inl ⟨by rfl,?_⟩) (SX.both trivial hs.out) ?_
 rotate_left
 ·(intro w hSw;have z0:=hSw.2;unfold twS at z0;obtain ⟨z1,z2⟩:=z0;clear hSw;go_simp;try (with_reducible rfl))
 (try simp only [Act.put,List.setIfInBounds_toArray,List.set_cons_zero,List.set_cons_succ])
 refine wpAnyX_takeBM (m:=17) (i:=5) (v:=?_) rfl (by kernel_rfl) (by kernel_rfl) (by decide) (by decide +kernel) (by decide +kernel) (fun _ _ _ h=>h) (by kernel_rfl) (Or.inl ⟨by rfl,?_⟩) (SX.both trivial hs.out) ?_
 rotate_left
 ·(intro w hSw;have z0:=hSw.2;unfold twS at z0;obtain ⟨z1,z2⟩:=z0;clear hSw;go_simp;try (with_reducible rfl))
 (try simp only [Act.put,List.setIfInBounds_toArray,List.set_cons_zero,List.set_cons_succ])
 refine wpAnyX_takeBM (m:=17) (i:=6) (v:=?_) rfl (by kernel_rfl) (by kernel_rfl) (by decide) (by decide +kernel) (by decide +kernel) (fun _ _ _ h=>h) (by kernel_rfl) (Or.inl ⟨by rfl,?_⟩) (SX.both trivial hs.out) ?_
 rotate_left
 ·(intro w hSw;have z0:=hSw.2;unfold twS at z0;obtain ⟨z1,z2⟩:=z0;clear hSw;go_simp;try (with_reducible rfl))
 (try simp only [Act.put,List.setIfInBounds_toArray,List.set_cons_zero,List.set_cons_succ])
 refine wpAnyX_takeBM (m:=17) (i:=7) (v:=?_) rfl (by kernel_rfl) (by kernel_rfl) (by decide) (by decide +kernel) (by decide +kernel) (fun _ _ _ h=>h) (by kernel_rfl) (Or.inl ⟨by rfl,?_⟩) (SX.both trivial hs.out) ?_
 rotate_left
 ·(intro w hSw;have z0:=hSw.2;unfold twS at z0;obtain ⟨z1,z2⟩:=z0;clear hSw;go_simp;try (with_reducible rfl))
 (try simp only [Act.put,List.setIfInBounds_toArray,List.set_cons_zero,List.set_cons_succ])
 refine wpAnyX_takeBM (m:=17) (i:=8) (v:=?_) rfl (by kernel_rfl) (by kernel_rfl) (by decide) (by decide +kernel) (by decide +kernel) (fun _ _ _ h=>h) (by kernel_rfl) (Or.inl ⟨by rfl,?_⟩) (SX.both trivial hs.out) ?_
 rotate_left
 ·(intro w hSw;have z0:=hSw.2;unfold twS at z0;obtain ⟨z1,z2⟩:=z0;clear hSw;go_simp;try (with_reducible rfl))
 (try simp only [Act.put,List.setIfInBounds_toArray,List.set_cons_zero,List.set_cons_succ])
 refine wpAnyX_takeBM (m:=17) (i:=9) (v:=?_) rfl (by kernel_rfl) (by kernel_rfl) (by decide) (by decide +kernel) (by decide +kernel) (fun _ _ _ h=>h) (by kernel_rfl) (Or.inl ⟨by rfl,?_⟩) (SX.both trivial hs.out) ?_
 rotate_left
 ·(intro w hSw;have z0:=hSw.2;unfold twS at z0;obtain ⟨z1,z2⟩:=z0;clear hSw;go_simp;try (with_reducible rfl))
 (try simp only [Act.put,List.setIfInBounds_toArray,List.set_cons_zero,List.set_cons_succ])
 refine wpAnyX_takeBM (m:=17) (i:=10) (v:=?_) rfl (by kernel_rfl) (by kernel_rfl) (by decide) (by decide +kernel) (by decide +kernel) (fun _ _ _ h=>h) (by kernel_rfl) (Or.inl ⟨by rfl,?_⟩) (SX.both trivial hs.out) ?_
 rotate_left
 ·(intro w hSw;have z0:=hSw.2;unfold twS at z0;obtain ⟨z1,z2⟩:=z0;clear hSw;go_simp;try (with_reducible rfl))
 (try simp only [Act.put,List.setIfInBounds_toArray,List.set_cons_zero,List.set_cons_succ])
 refine wpAnyX_takeBM (m:=17) (i:=11) (v:=?_) rfl (by kernel_rfl) (by kernel_rfl) (by decide) (by decide +kernel) (by decide +kernel) (fun _ _ _ h=>h) (by kernel_rfl) (Or.inl ⟨by rfl,?_⟩) (SX.both trivial hs.out) ?_
 rotate_left
 ·(intro w hSw;have z0:=hSw.2;unfold twS at z0;obtain ⟨z1,z2⟩:=z0;clear hSw;go_simp;try (with_reducible rfl))
 (try simp only [Act.put,List.setIfInBounds_toArray,List.set_cons_zero,List.set_cons_succ])
 refine wpAnyX_takeBM (m:=17) (i:=12) (v:=?_) rfl (by kernel_rfl) (by kernel_rfl) (by decide) (by decide +kernel) (by decide +kernel) (fun _ _ _ h=>h) (by kernel_rfl) (Or.inl ⟨by rfl,?_⟩) (SX.both trivial hs.out) ?_
 rotate_left
 ·(intro w hSw;have z0:=hSw.2;unfold twS at z0;obtain ⟨z1,z2⟩:=z0;clear hSw;go_simp;try (with_reducible rfl))
 (try simp only [Act.put,List.setIfInBounds_toArray,List.set_cons_zero,List.set_cons_succ])
 refine wX1 (j:=13) (by decide +kernel) rfl (fun K' hK=>?_)
 go_simp
 have H9:Hid (BdM w0 N bb bo OC RF (.slice oa n oc) (.slice da m dc) NL DL (wd.alloc (ndB (p,k,m)))):=H8.out.later (bAl _ _)
 have hb9:(wd.alloc (ndB (p,k,m))).heap[wd.heap.size]?=some (ndB (p,k,m)):=heap_alloc_new _ _
 refine hK.out _ _ (SX.both trivial (HR.out _ H9.out)) ?_
 clear hK K' H8 hs
 generalize wd.alloc (ndB (p,k,m))=w7 at *
 generalize wd.heap.size=b9 at *
 (try simp only [Act.put,List.setIfInBounds_toArray,List.set_cons_zero,List.set_cons_succ])
 refine wX1 (j:=14) (by decide +kernel) rfl (fun K' hK=>?_)
 refine step_ro_append rkNode (by rfl) _ _ (by rfl) (.slice oa n oc) NL (by rfl) H9.out.no b9 1 (p,k,m) (by rfl) (fun j u hu=>?_) HNB.out ?_
 ·rw [cQa hb9]
  simpa [ndC] using hu
 intro a5 n5 c5 w8 ro hg
 have FIN:Hid (BdM w0 N bb bo OC RF (.slice a5 n5 c5) (.slice da m dc) (NL++[(p,k,m)]) DL (w8.setCell ⟨bb,bo,none⟩ (.slice a5 n5 c5))):=H9.out.addO hg ro
 have HG:Hid (w8.heap[bb]?=w7.heap[bb]?):=by
  obtain ⟨C,ty,hC,-⟩:=H9.out.bk
  exact hg.grown.block bb (lt_of_block hC) fun q=>H9.out.bb_o q.symm
 have h8:Hid (twS bb bo (.slice oa n oc) (.slice da m dc) w8):=by
  obtain ⟨q1,q2⟩:=HR.out _ H9.out
  exact ⟨(World.cell?_of_block HG.out).trans q1,(World.cell?_of_block HG.out).trans q2⟩
 have x8:w8.cell? ⟨bb,bo,none⟩=some (.slice oa n oc):=h8.out.1
 have f8:w8.frozen? ⟨bb,bo,none⟩=false:=by
  have:=H9.out.co.2
  simp only [World.frozen?] at this ⊢
  rw [HG.out];exact this
 refine hK.out _ _ (SX.both trivial h8.out) ?_
 clear hK K' hg ro hb9
 (try simp only [Act.put,List.setIfInBounds_toArray,List.set_cons_zero,List.set_cons_succ])
 refine wpAnyX_takeBP (m:=17) (i:=15) (v:=?_) rfl (by kernel_rfl) (by decide) (by decide +kernel) (by decide +kernel) (fun _ _ _ h=>h) (Or.inl ⟨by rfl,?_⟩) (SX.both trivial h8.out) ?_
 rotate_left
 ·(intro w _;go_simp;try (with_reducible rfl))
 (try simp only [Act.put,List.setIfInBounds_toArray,List.set_cons_zero,List.set_cons_succ])
 refine wpAnyX_takeBP (m:=17) (i:=16) (v:=?_) rfl (by kernel_rfl) (by decide) (by decide +kernel) (by decide +kernel) (fun _ _ _ h=>h) (Or.inl ⟨by rfl,?_⟩) (SX.both trivial h8.out) ?_
 rotate_left
 ·(intro w _;go_simp;try (with_reducible rfl))
 (try simp only [Act.put,List.setIfInBounds_toArray,List.set_cons_zero,List.set_cons_succ])
 refine wX1 (j:=17) (by decide +kernel) rfl (fun K' hK=>?_)
 go_simp
 refine hK.out _ _ (SX.one trivial (by kernel_rfl)) ?_
 clear hK K'
 (try simp only [Act.put,List.setIfInBounds_toArray,List.set_cons_zero,List.set_cons_succ])
 refine wXd (by decide +kernel) ?_
 generalize w8.setCell ⟨bb,bo,none⟩ (.slice a5 n5 c5)=w9 at *
 clear x8 f8
 go_wp2_with (go_at_call 154;refine (RS.out _ _ FIN.out).mono ?_;rintro e w10 ⟨rfl,b10⟩;have H10:Hid (BdS w0 N bb bo OC RF (clU2 (A.1,⟨p,k,[]⟩ :: A.2)) w10):=b10;clear b10)
 refine bodyPost_end (results_none rfl _ _ _) rfl ?_
 exact ⟨rfl,H10.out⟩
theorem setCs_fourB {w:World}{b:Nat}{a0 a1 a2 a3 v0 v1 v2 v3:Value}{t:TypeId}(h:w.heap[b]?=some (.cells #[a0,a1,a2,a3] t)):(w.setCells b 0 [v0,v1,v2,v3]).heap[b]?=some (.cells #[v0,v1,v2,v3] t):=by
 have h1:=heap_setCell_same w b 0 _ _ v0 h
 have h2:=heap_setCell_same _ b 1 _ _ v1 h1
 have h3:=heap_setCell_same _ b 2 _ _ v2 h2
 exact heap_setCell_same _ b 3 _ _ v3 h3
set_option linter.unusedSimpArgs false in
set_option maxRecDepth 100000 in
set_option maxHeartbeats 4000000 in
theorem tree_B {A:AB}(h:BdS w0 N bb bo OC RF A w)(hne:A.1≠[])(hS:A.2=[]):Calls Tryz.prog 88 #[.pointer (some ⟨bb,bo,none⟩)] w fun e w'=>∃ t t',A.1.head?=some t'/\samV t t'/\e=.returned t.val/\OwT N w' t/\BdS w0 N bb bo OC RF A w':=by
 obtain ⟨D,S⟩:=A
 dsimp only at hne hS
 subst hS
 have h0:=h
 obtain ⟨vo,vd,⟨E,T⟩,hs,hM⟩:=h
 obtain ⟨h1,h2⟩:=hs
 cases T with
 | cons g T=>exact h2.elim
 | nil =>
  cases D with
  | nil=>exact absurd rfl hne
  | cons t' D =>
   cases E with
   | nil=>exact absurd h1.1 (by simp)
   | cons t E =>
    have hsm:samV t t':=h1.2 0 (by simp) (by simp)
    have hdl:dlA (t :: E,[])=t :: E:=by simp [dlA,ksL]
    rw [hdl] at hM
    obtain ⟨db,dc,rfl,hdc,hcell⟩:=RO.cell (f:=trCells) (fun _=>rfl) hM.td (i:=0) (by simp)
    have hOW:OwT N w t:=⟨hM.tr t (List.mem_cons_self),fun a=>by have:=hM.dn a;unfold inR at this;rw [List.flatMap_cons,List.count_append] at this;omega,fun a ha=>by obtain ⟨h1,h2,-,h3⟩:=hM.ad a (by unfold inR;rw [List.flatMap_cons];exact List.mem_append_left _ ha);exact ⟨h1,h2,h3⟩⟩
    have HF:Hid (BdS w0 N bb bo OC RF (t' :: D,[]) w/\OwT N w t/\samV t t'):=⟨h0,hOW,hsm⟩
    have cd:=hM.cd.1
    have k0:=hcell 0 (by omega)
    have k1:=hcell 1 (by omega)
    have k2:=hcell 2 (by omega)
    have k3:=hcell 3 (by omega)
    simp only [trCells,List.getElem_cons_zero,List.getElem?_cons_zero,List.getElem?_cons_succ,Nat.zero_mul,Nat.zero_add,List.length_cons] at k0 k1 k2 k3 cd
    have LT:Hid (db < w.heap.size/\bb < w.heap.size):=by
     obtain ⟨C,ty,hC,-⟩:=hM.bk
     exact ⟨hM.td.lt db rfl,lt_of_block hC⟩
    have hpos:(0:Int) < (E.length:Int)+1:=by omega
    clear hM hcell h0 h1 h2 hsm hdl hne hOW
    generalize E.length=el at *
    have KK:Hid (∀ w',Below w.heap.size w w'->w'.cell? ⟨bb,bo+1,none⟩=some (.slice (some ⟨db,0,none⟩) (el+1) dc)/\w'.cell? ⟨db,0,none⟩=some (.int .i64 t.prod)/\w'.cell? ⟨db,1,none⟩=some (.int .i64 t.kind)/\w'.cell? ⟨db,2,none⟩=some (.string t.tx)/\w'.cell? ⟨db,3,none⟩=some (.slice t.ka t.kids.length t.kc)):=fun w' hb=>⟨(hb.cell (p:=⟨bb,bo+1,none⟩) LT.out.2).trans cd,(hb.cell (p:=⟨db,_,none⟩) LT.out.1).trans k0,(hb.cell (p:=⟨db,_,none⟩) LT.out.1).trans k1,(hb.cell (p:=⟨db,_,none⟩) LT.out.1).trans k2,(hb.cell (p:=⟨db,_,none⟩) LT.out.1).trans k3⟩
    clear k0 k1 k2 k3 cd LT
    go_enter Tryz.func88,Tryz.ntmps88
    go_upto_region 1 with fail
    refine wp_world (fun w'=>Below w.heap.size w w'/\w'.heap[w.heap.size]?=some (trB 0 none 0 0)) ⟨bAl _ _,heap_alloc_new _ _⟩ fun w1 h1=>?_
    have H1:Hid (Below w.heap.size w w1/\w1.heap[w.heap.size]?=some (trB 0 none 0 0)):=h1
    clear h1
    have HFB:Hid (∀ w',Below w.heap.size w w'->∃ t t'_1,(t' :: D).head?=some t'_1/\samV t t'_1/\Ending.returned (.agg #[.int .i64 t.prod,.int .i64 t.kind,.string t.tx,.slice t.ka t.kids.length t.kc])=Ending.returned t.val/\OwT N w' t/\BdS w0 N bb bo OC RF (t' :: D,[]) w'):=fun w' hb=>⟨t,t',rfl,HF.out.2.2,rfl,HF.out.2.1.later hb,HF.out.1.later hb⟩
    have HFC:Hid (∀ w',Below w.heap.size w w'->∃ t0 t'_1,(t' :: D).head?=some t'_1/\samV t0 t'_1/\Ending.returned (.agg #[.int .i64 t.prod,.int .i64 t.kind,.string t.tx,.slice t.ka t.kids.length t.kc])=Ending.returned t0.val/\OwT N w' t0/\BdS w0 N bb bo OC RF (t' :: D,[]) w'):=fun w' hb=>⟨t,t',rfl,HF.out.2.2,rfl,HF.out.2.1.later hb,HF.out.1.later hb⟩
    clear HFB HF
    obtain ⟨q0,q1,q2,q3,q4⟩:=KK.out _ H1.out.1
    clear KK
    have H2:Hid (Below w.heap.size w (w1.setCells w.heap.size 0 [.int .i64 t.prod,.int .i64 t.kind,.string t.tx,.slice t.ka t.kids.length t.kc])/\(w1.setCells w.heap.size 0 [.int .i64 t.prod,.int .i64 t.kind,.string t.tx,.slice t.ka t.kids.length t.kc]).heap[w.heap.size]?=some (.cells #[.int .i64 t.prod,.int .i64 t.kind,.string t.tx,.slice t.ka t.kids.length t.kc] 26)):=⟨setCs_bel (Nat.le_refl _) _ _ _ H1.out.1,setCs_fourB H1.out.2⟩
    have f0:∀ i,w1.frozen? ⟨w.heap.size,i,none⟩=false:=fun i=>by simp [World.frozen?,H1.out.2]
    have f00:=f0 0
    have f01:=f0 1
    have f02:=f0 2
    have f03:=f0 3
    have z0:w1.cell? ⟨w.heap.size,0,none⟩=some (.int .i64 0):=(cQa H1.out.2).trans rfl
    have z1:w1.cell? ⟨w.heap.size,1,none⟩=some (.int .i64 0):=(cQa H1.out.2).trans rfl
    have z2:w1.cell? ⟨w.heap.size,2,none⟩=some (.string ByteArray.empty):=(cQa H1.out.2).trans rfl
    have z3:w1.cell? ⟨w.heap.size,3,none⟩=some (.slice none 0 0):=(cQa H1.out.2).trans rfl
    clear H1 f0
    generalize t.ka=ta at *
    generalize t.kids.length=tn at *
    generalize t.kc=tc at *
    generalize t.tx=tx at *
    generalize t.prod=tp at *
    generalize t.kind=tk at *
    go_wp2
    change bodyPost _ _ _ _ _ (w1.setCells w.heap.size 0 [.int .i64 tp,.int .i64 tk,.string tx,.slice ta tn tc])
    generalize w1.setCells w.heap.size 0 [.int .i64 tp,.int .i64 tk,.string tx,.slice ta tn tc]=w4 at *
    have x0:w4.cell? ⟨w.heap.size,0,none⟩=some (.int .i64 tp):=(cQa H2.out.2).trans rfl
    have x1:w4.cell? ⟨w.heap.size,1,none⟩=some (.int .i64 tk):=(cQa H2.out.2).trans rfl
    have x2:w4.cell? ⟨w.heap.size,2,none⟩=some (.string tx):=(cQa H2.out.2).trans rfl
    have x3:w4.cell? ⟨w.heap.size,3,none⟩=some (.slice ta tn tc):=(cQa H2.out.2).trans rfl
    refine bodyPost_ret (v:=.agg #[.int .i64 tp,.int .i64 tk,.string tx,.slice ta tn tc]) (by simp [results,Tryz.results88,go_sem,x0,x1,x2,x3]) rfl ?_
    exact HFC.out _ H2.out.1
end
abbrev zTrB:Obj:=.cells #[.int .i64 0,.int .i64 0,.string ⟨#[]⟩,.slice none 0 0] 26
theorem set_app4 {α:Type}(A B:List α)(a0 a1 a2 a3 v0 v1 v2 v3:α)(n:Nat)(hn:A.length=n):((((A++a0 :: a1 :: a2 :: a3 :: B).set n v0).set (n+1) v1).set (n+2) v2).set (n+3) v3=A++v0 :: v1 :: v2 :: v3 :: B:=by
 subst hn
 simp
theorem tro_last {w:World}{g n c:Nat}{l:List TV}{x:TV}(T:TV)(h:TRo w (.slice (some ⟨g,0,none⟩) n c) (l++[x])):TRo (set4 w g (l.length*4) T) (.slice (some ⟨g,0,none⟩) n c) (l++[T]):=by
 rcases h.2 with ⟨e,_⟩ | ⟨g',cap,cur,e,h1,h2,h3,h4,h5,h6⟩
 ·cases e
 ·simp only [Value.slice.injEq,Option.some.injEq,Addr.mk.injEq,and_true] at e
  obtain ⟨rfl,rfl,rfl⟩:=e
  have b0:=heap_setCell_same w g (l.length*4) _ _ (.int .i64 T.prod) h2
  have b1:=heap_setCell_same _ g (l.length*4+1) _ _ (.int .i64 T.kind) b0
  have b2:=heap_setCell_same _ g (l.length*4+2) _ _ (.string T.tx) b1
  have b3:=heap_setCell_same _ g (l.length*4+3) _ _ (.slice T.ka T.kids.length T.kc) b2
  have hA:=fm_len (k:=4) (f:=trCells) (fun _=>rfl) l
  have hlen:(l++[x]).length=(l++[T]).length:=by simp
  refine ⟨fm_len (k:=4) (fun _=>rfl) _,.inr ⟨g,c,_,by rw [hlen],h1,b3,by rw [<- hlen];exact h3,h4,by simpa using h5,?_⟩⟩
  obtain ⟨B,hB⟩:∃ B,cur.toList=l.flatMap trCells++(.int .i64 x.prod) :: (.int .i64 x.kind) :: (.string x.tx) :: (.slice x.ka x.kids.length x.kc) :: B:=by
   refine ⟨cur.toList.drop ((l++[x]).length*4),?_⟩
   conv=>lhs;rw [<- List.take_append_drop ((l++[x]).length*4) cur.toList,h6]
   simp [trCells]
  simp only [Array.toList_setIfInBounds,hB]
  rw [set_app4 _ _ _ _ _ _ _ _ _ _ _ hA,List.flatMap_append]
  have hT:([T]:List TV).flatMap trCells=[.int .i64 T.prod,.int .i64 T.kind,.string T.tx,.slice T.ka T.kids.length T.kc]:=by simp [trCells]
  rw [hT]
  have e2:(l++[T]).length*4=(l.flatMap trCells++[Value.int .i64 T.prod,Value.int .i64 T.kind,Value.string T.tx,Value.slice T.ka T.kids.length T.kc]).length:=by
   rw [List.length_append,List.length_append,hA];simp;omega
  rw [e2]
  have e3:l.flatMap trCells++(Value.int .i64 T.prod) :: (Value.int .i64 T.kind) :: (Value.string T.tx) :: (Value.slice T.ka T.kids.length T.kc) :: B=(l.flatMap trCells++[Value.int .i64 T.prod,Value.int .i64 T.kind,Value.string T.tx,Value.slice T.ka T.kids.length T.kc])++B:=by simp
  rw [e3,List.take_left']
  rfl
theorem grew_set4 {w w':World}{v v':Value}{g o:Nat}(T:TV)(h:Grew w w' v v')(hv:v'.ownBlock=some g):Grew w (set4 w' g o T) v v':=by
 refine ⟨⟨h.grown.os,h.grown.tape,h.grown.output,by rw [set4_size];exact h.grown.size,fun i hi hne=>?_⟩,h.moved⟩
 rw [set4_other _ _ _ _ _ (fun e=>?_)]
 ·exact h.grown.block i hi hne
 ·subst e
  rcases h.moved with q | ⟨k,q,hk⟩
  ·exact hne (by rw [<- q,hv])
  ·rw [hv] at q;cases q;omega
theorem set_swapB (w:World){q g:Nat}(hqg:q≠g)(i o:Nat)(v:Value)(T:TV):set4 (w.setCell ⟨q,i,none⟩ v) g o T=(set4 w g o T).setCell ⟨q,i,none⟩ v:=by
 unfold set4
 have sw:∀ (w:World) (j:Nat) (u:Value),(w.setCell ⟨q,i,none⟩ v).setCell ⟨g,j,none⟩ u=(w.setCell ⟨g,j,none⟩ u).setCell ⟨q,i,none⟩ v:=fun w j u=>by
  simp only [World.setCell]
  congr 1
  apply Array.ext_getElem?
  intro k
  simp only [Array.getElem?_modify]
  by_cases h1:g=k
  ·subst h1
   simp [hqg]
  ·by_cases h2:q=k
   ·subst h2
    simp [h1]
   ·simp [h1,h2]
 rw [sw,sw,sw,sw]
theorem ro_there {w:World}{g n c:Nat}{l:List TV}{x:TV}(h:TRo w (.slice (some ⟨g,0,none⟩) n c) (l++[x])):w.there g (l.length*4) 4:=by
 rcases h.2 with ⟨e,_⟩ | ⟨g',cap,cur,e,h1,h2,h3,h4,h5,h6⟩
 ·cases e
 ·simp only [Value.slice.injEq,Option.some.injEq,Addr.mk.injEq,and_true] at e
  obtain ⟨rfl,rfl,rfl⟩:=e
  intro j hj
  have hc:l.length*4+j < cur.size:=by rw [h5];simp at h3;omega
  refine ⟨?_,by simp [World.frozen?,h2]⟩
  rw [cQa h2,Array.getElem?_eq_getElem hc]
  first | rfl | simp
section
variable {w0:World} {N bb bo:Nat} {OC:Nat->Option Value} {RF:Nat->Option Obj} {w:World}
variable {A:AB}
def leS (bb bo bt:Nat)(vd:Value)(tk:Int)(tx:ByteArray)(w:World):Prop:=w.cell? ⟨bb,bo+1,none⟩=some vd/\w.cell? ⟨bt,0,none⟩=some (.int .i64 tk)/\w.cell? ⟨bt,1,none⟩=some (.string tx)
def lfT (tk:Int)(tx:ByteArray):TV:=TV.mk (-1) tk tx none 0 []
theorem BdM.addL {vo:Value}{da:Option Addr}{dl dc:Nat}{NL:List (Int×Nat×Nat)}{DL:List TV}(h:BdM w0 N bb bo OC RF vo (.slice da dl dc) NL DL w)(tk:Int)(tx:ByteArray){x:TV}{w8:World}{g n c:Nat}(hg:Grew w w8 (.slice da dl dc) (.slice (some ⟨g,0,none⟩) n c))(ro:TRo w8 (.slice (some ⟨g,0,none⟩) n c) (DL++[x])):BdM w0 N bb bo OC RF vo (.slice (some ⟨g,0,none⟩) n c) NL (DL++[lfT tk tx]) ((set4 w8 g (DL.length*4) (lfT tk tx)).setCell ⟨bb,bo+1,none⟩ (.slice (some ⟨g,0,none⟩) n c)):=by
 have h':BdM w0 N bb bo OC RF vo (.slice da dl dc) NL (DL++[]) w:=by rw [List.append_nil];exact h
 exact h'.fold (lfT tk tx) rfl (fun e=>absurd rfl e) (fun e=>absurd rfl e) rfl (grew_set4 _ hg rfl) (tro_last _ ro)
set_option linter.unusedSimpArgs false in
set_option maxRecDepth 100000 in
set_option maxHeartbeats 4000000 in
theorem leaf_B (tk:Int)(tx:ByteArray)(h:BdS w0 N bb bo OC RF A w)(hz:(dlA A).length+A.2.length<=999999999):Calls Tryz.prog 130 #[.pointer (some ⟨bb,bo,none⟩),.agg #[.int .i64 tk,.string tx]] w fun e w'=>e=.returned (.tuple #[])/\BdS w0 N bb bo OC RF (clU2 (adA A (lfT tk tx))) w':=by
 obtain ⟨vo,vd,B,hs,hM⟩:=h
 have hzE:=dlA_len hs
 have RS:Hid (∀ v' w',BdM w0 N bb bo OC RF vo v' (nlA B) (dlA B++[lfT tk tx]) w'->Calls Tryz.prog 154 #[.pointer (some ⟨bb,bo,none⟩)] w' fun e w''=>e=.returned (.tuple #[])/\BdS w0 N bb bo OC RF (clU2 (adA A (lfT tk tx))) w''):=fun v' w' hM'=>by
  obtain ⟨D,S⟩:=A
  obtain ⟨E,T⟩:=B
  refine close_B ⟨vo,v',adA (E,T) (lfT tk tx),samA_ad hs (samV_refl _),?_⟩ ?_
  ·rw [nlA_ad,dlA_ad]
   exact hM'
  ·rw [dlA_ad,adA_len]
   simp only [List.length_append,List.length_singleton]
   dsimp only at hz
   omega
 have HDL:Hid ((dlA B).length<=1000000000):=by show _<=_;omega
 clear hzE hz hs
 generalize nlA B=NL at *
 generalize dlA B=DL at *
 obtain ⟨da,dc,rfl,-⟩:=RO.len hM.td
 have HM:Hid (BdM w0 N bb bo OC RF vo (.slice da DL.length dc) NL DL w):=hM
 clear hM
 obtain ⟨m,hm⟩:∃ m,DL.length=m:=⟨_,rfl⟩
 have HMM:Hid (DL.length=m):=hm
 rw [hm] at HM HDL
 clear hm
 have e1:(m:Int) < (m:Int)+1:=by omega
 go_enter Tryz.func130,Tryz.ntmps130
 go_upto_region 1 with fail
 refine wp_world (fun w'=>BdM w0 N bb bo OC RF vo (.slice da m dc) NL DL w'/\w'.heap[w.heap.size]?=some (.cells #[.int .i64 tk,.string tx] 23)) ⟨HM.out.later (bAl _ _),heap_alloc_new _ _⟩ fun w1 h1=>?_
 obtain ⟨wd,hwd⟩:∃ wd:World,wd=w1.drew:=⟨_,rfl⟩
 have H8:Hid (BdM w0 N bb bo OC RF vo (.slice da m dc) NL DL wd/\wd.heap[w.heap.size]?=some (.cells #[.int .i64 tk,.string tx] 23)):=by rw [hwd];exact ⟨h1.1.later (Below.refl _ _).drew,h1.2⟩
 clear h1
 have HBT:Hid (w.heap.size≠bb/\(Value.slice da m dc).ownBlock≠some w.heap.size):=by
  obtain ⟨C,ty,hC,-⟩:=HM.out.bk
  refine ⟨fun e=>?_,fun e=>?_⟩
  ·have:=lt_of_block hC;omega
  ·have:=HM.out.td.lt _ e;omega
 generalize w.heap.size=bt at *
 have HR:Hid (∀ w',BdM w0 N bb bo OC RF vo (.slice da m dc) NL DL w'/\w'.heap[bt]?=some (.cells #[.int .i64 tk,.string tx] 23)->leS bb bo bt (.slice da m dc) tk tx w'):=fun w' h=>⟨h.1.cd.1,(cQa h.2).trans rfl,(cQa h.2).trans rfl⟩
 have hs:Hid (leS bb bo bt (.slice da m dc) tk tx wd):=HR.out _ H8.out
 refine wp_region_x (S:=SX 8 (fun _=>True) (leS bb bo bt (.slice da m dc) tk tx)) (by kernel_rfl) ?_
 rw [<- hwd]
 clear hwd HM
 refine wpAnyX_takeBM (m:=8) (i:=0) (v:=?_) rfl (by kernel_rfl) (by kernel_rfl) (by decide) (by decide +kernel) (by decide +kernel) (fun _ _ _ h=>h) (by kernel_rfl) (Or.inl ⟨by rfl,?_⟩) (SX.both trivial hs.out) ?_
 rotate_left
 ·(intro w hSw;have z0:=hSw.2;unfold leS at z0;obtain ⟨z1,z2,z3⟩:=z0;clear hSw;go_simp;try (with_reducible rfl))
 (try simp only [Act.put,List.setIfInBounds_toArray,List.set_cons_zero,List.set_cons_succ])
 refine wpAnyX_takeBM (m:=8) (i:=1) (v:=?_) rfl (by kernel_rfl) (by kernel_rfl) (by decide) (by decide +kernel) (by decide +kernel) (fun _ _ _ h=>h) (by kernel_rfl) (Or.inl ⟨by rfl,?_⟩) (SX.both trivial hs.out) ?_
 rotate_left
 ·(intro w hSw;have z0:=hSw.2;unfold leS at z0;obtain ⟨z1,z2,z3⟩:=z0;clear hSw;go_simp;try (with_reducible rfl))
 (try simp only [Act.put,List.setIfInBounds_toArray,List.set_cons_zero,List.set_cons_succ])
 refine wpAnyX_takeBM (m:=8) (i:=2) (v:=?_) rfl (by kernel_rfl) (by kernel_rfl) (by decide) (by decide +kernel) (by decide +kernel) (fun _ _ _ h=>h) (by kernel_rfl) (Or.inl ⟨by rfl,?_⟩) (SX.both trivial hs.out) ?_
 rotate_left
 ·(intro w hSw;have z0:=hSw.2;unfold leS at z0;obtain ⟨z1,z2,z3⟩:=z0;clear hSw;go_simp;try (with_reducible rfl))
 (try simp only [Act.put,List.setIfInBounds_toArray,List.set_cons_zero,List.set_cons_succ])
 refine wpAnyX_takeBM (m:=8) (i:=3) (v:=?_) rfl (by kernel_rfl) (by kernel_rfl) (by decide) (by decide +kernel) (by decide +kernel) (fun _ _ _ h=>h) (by kernel_rfl) (Or.inl ⟨by rfl,?_⟩) (SX.both trivial hs.out) ?_
 rotate_left
 ·(intro w hSw;have z0:=hSw.2;unfold leS at z0;obtain ⟨z1,z2,z3⟩:=z0;clear hSw;go_simp;try (with_reducible rfl))
 (try simp only [Act.put,List.setIfInBounds_toArray,List.set_cons_zero,List.set_cons_succ])
 refine wpAnyX_takeBM (m:=8) (i:=4) (v:=?_) rfl (by kernel_rfl) (by kernel_rfl) (by decide) (by decide +kernel) (by decide +kernel) (fun _ _ _ h=>h) (by kernel_rfl) (Or.inl ⟨by rfl,?_⟩) (SX.both trivial hs.out) ?_
 rotate_left
 ·(intro w hSw;have z0:=hSw.2;unfold leS at z0;obtain ⟨z1,z2,z3⟩:=z0;clear hSw;go_simp;try (with_reducible rfl))
 (try simp only [Act.put,List.setIfInBounds_toArray,List.set_cons_zero,List.set_cons_succ])
 refine wpAnyX_takeBM (m:=8) (i:=5) (v:=?_) rfl (by kernel_rfl) (by kernel_rfl) (by decide) (by decide +kernel) (by decide +kernel) (fun _ _ _ h=>h) (by kernel_rfl) (Or.inl ⟨by rfl,?_⟩) (SX.both trivial hs.out) ?_
 rotate_left
 ·(intro w hSw;have z0:=hSw.2;unfold leS at z0;obtain ⟨z1,z2,z3⟩:=z0;clear hSw;go_simp;try (with_reducible rfl))
 (try simp only [Act.put,List.setIfInBounds_toArray,List.set_cons_zero,List.set_cons_succ])
 refine wpAnyX_takeBM (m:=8) (i:=6) (v:=?_) rfl (by kernel_rfl) (by kernel_rfl) (by decide) (by decide +kernel) (by decide +kernel) (fun _ _ _ h=>h) (by kernel_rfl) (Or.inl ⟨by rfl,?_⟩) (SX.both trivial hs.out) ?_
 rotate_left
 ·(intro w hSw;have z0:=hSw.2;unfold leS at z0;obtain ⟨z1,z2,z3⟩:=z0;clear hSw;go_simp;try (with_reducible rfl))
 (try simp only [Act.put,List.setIfInBounds_toArray,List.set_cons_zero,List.set_cons_succ])
 refine wX1 (j:=7) (by decide +kernel) rfl (fun K' hK=>?_)
 go_simp
 have H9:Hid (BdM w0 N bb bo OC RF vo (.slice da m dc) NL DL (wd.alloc zTrB)/\(wd.alloc zTrB).heap[bt]?=some (.cells #[.int .i64 tk,.string tx] 23)):=⟨H8.out.1.later (bAl _ _),((bAl wd zTrB).block _ (lt_of_block H8.out.2)).trans H8.out.2⟩
 have hb9:(wd.alloc zTrB).heap[wd.heap.size]?=some zTrB:=heap_alloc_new _ _
 refine hK.out _ _ (SX.both trivial (HR.out _ H9.out)) ?_
 clear hK K' H8 hs
 generalize wd.alloc zTrB=w7 at *
 generalize wd.heap.size=b9 at *
 (try simp only [Act.put,List.setIfInBounds_toArray,List.set_cons_zero,List.set_cons_succ])
 refine wX1 (j:=8) (by decide +kernel) rfl (fun K' hK=>?_)
 refine step_ro_append rkTree (by rfl) _ _ (by rfl) (.slice da m dc) DL (by rfl) H9.out.1.td b9 1 TV.none (by rfl) (fun j u hu=>?_) (by rw [HMM.out];exact HDL.out) ?_
 ·rw [cQa hb9,<- hu]
  simp [trCells,TV.none,TV.prod,TV.kind,TV.tx,TV.ka,TV.kc,TV.kids,TV.pay,TV.mk]
  rfl
 intro a5 n5 c5 w8 ro hg
 obtain ⟨g,c0,eg,-,-⟩:=RO.cell (f:=trCells) (fun _=>rfl) ro (i:=DL.length) (by simp)
 simp only [Value.slice.injEq,List.length_append,List.length_singleton,HMM.out] at eg
 obtain ⟨rfl,rfl,rfl⟩:=eg
 have FIN:Hid (BdM w0 N bb bo OC RF vo (.slice (some ⟨g,0,none⟩) (m+1) c5) NL (DL++[lfT tk tx]) ((set4 w8 g (m*4) (lfT tk tx)).setCell ⟨bb,bo+1,none⟩ (.slice (some ⟨g,0,none⟩) (m+1) c5))):=by
  have:=H9.out.1.addL tk tx hg ro
  rwa [HMM.out] at this
 have HGB:Hid (g≠bb):=fun e=>by
  subst e
  rcases hg.moved with q | ⟨k,q,hk⟩
  ·exact H9.out.1.bb_d (by rw [<- q];rfl)
  ·obtain ⟨C,ty,hC,-⟩:=H9.out.1.bk
   have:=lt_of_block hC
   simp only [Value.ownBlock,Option.map_some,Option.some.injEq] at q
   omega
 have HW8:Hid (w8.heap[bb]?=w7.heap[bb]?):=by
  obtain ⟨C,ty,hC,-⟩:=H9.out.1.bk
  exact hg.grown.block bb (lt_of_block hC) fun q=>H9.out.1.bb_d q.symm
 have tb8:w8.there g (m*4) 4:=by
  have:=ro_there ro
  rwa [HMM.out] at this
 have s20:((set4 w8 g (m*4) (lfT tk tx)).cell? ⟨bb,bo+1,none⟩=some (.slice da m dc)/\(set4 w8 g (m*4) (lfT tk tx)).frozen? ⟨bb,bo+1,none⟩=false)/\(w8.cell? ⟨bb,bo+1,none⟩=some (.slice da m dc)/\w8.frozen? ⟨bb,bo+1,none⟩=false):=by
  have e:=(set4_other w8 g (m*4) (lfT tk tx) bb (Ne.symm HGB.out)).trans HW8.out
  refine ⟨⟨(World.cell?_of_block e).trans H9.out.1.cd.1,?_⟩,(World.cell?_of_block HW8.out).trans H9.out.1.cd.1,?_⟩
  ·have:=H9.out.1.cd.2
   simp only [World.frozen?] at this ⊢
   rw [e];exact this
  ·have:=H9.out.1.cd.2
   simp only [World.frozen?] at this ⊢
   rw [HW8.out];exact this
 have th8:(w8.setCell ⟨bb,bo+1,none⟩ (.slice (some ⟨g,0,none⟩) (m+1) c5)).there g (m*4) 4:=fun j hj=>by
  obtain ⟨t1,t2⟩:=tb8 j hj
  have e:(w8.setCell ⟨bb,bo+1,none⟩ (.slice (some ⟨g,0,none⟩) (m+1) c5)).heap[g]?=w8.heap[g]?:=Below.heap_setCell _ _ _ _ HGB.out
  refine ⟨by rw [World.cell?_of_block e];exact t1,?_⟩
  simp only [World.frozen?] at t2 ⊢
  rw [e];exact t2
 have SW:Hid (BdM w0 N bb bo OC RF vo (.slice (some ⟨g,0,none⟩) (m+1) c5) NL (DL++[lfT tk tx]) (set4 (w8.setCell ⟨bb,bo+1,none⟩ (.slice (some ⟨g,0,none⟩) (m+1) c5)) g (m*4) (lfT tk tx))):=by
  show BdM _ _ _ _ _ _ _ _ _ _ _
  rw [set_swapB _ (Ne.symm HGB.out)];exact FIN.out
 refine hK.out _ _ (SX.one trivial (by kernel_rfl)) ?_
 clear hK K' hg ro hb9
 (try simp only [Act.put,List.setIfInBounds_toArray,List.set_cons_zero,List.set_cons_succ])
 refine wpAnyX_takeBP (m:=8) (i:=9) (v:=?_) rfl (by kernel_rfl) (by decide) (by decide +kernel) (by decide +kernel) (fun _ _ _ h=>h) (Or.inl ⟨by rfl,?_⟩) (SX.one trivial (by kernel_rfl)) ?_
 rotate_left
 ·(intro w _;go_simp;try (with_reducible rfl))
 (try simp only [Act.put,List.setIfInBounds_toArray,List.set_cons_zero,List.set_cons_succ])
 refine wpAnyX_takeBP (m:=8) (i:=11) (v:=?_) rfl (by kernel_rfl) (by decide) (by decide +kernel) (by decide +kernel) (fun _ _ _ h=>h) (Or.inl ⟨by rfl,?_⟩) (SX.one trivial (by kernel_rfl)) ?_
 rotate_left
 ·(intro w _;go_simp;try (with_reducible rfl))
 (try simp only [Act.put,List.setIfInBounds_toArray,List.set_cons_zero,List.set_cons_succ])
 refine wpAnyX_takeBP (m:=8) (i:=12) (v:=?_) rfl (by kernel_rfl) (by decide) (by decide +kernel) (by decide +kernel) (fun _ _ _ h=>h) (Or.inl ⟨by rfl,?_⟩) (SX.one trivial (by kernel_rfl)) ?_
 rotate_left
 ·(intro w _;go_simp;try (with_reducible rfl))
 (try simp only [Act.put,List.setIfInBounds_toArray,List.set_cons_zero,List.set_cons_succ])
 refine pickT (l:=[10,13]) (by decide +kernel) (by simp) (fun j hj=>?_)
 simp only [List.mem_cons,List.not_mem_nil,or_false] at hj
 rcases hj with hj | hj<;>rw [hj]
 ·refine ⟨_,rfl,fun K' hK=>?_⟩
  refine step_storeO rfl 26 (.tmp 13) (.tmp 9) rfl g (m*4) #[.int .i64 (-1),.int .i64 tk,.string tx,.slice none 0 0] rfl rfl tb8 (by kernel_rfl) (by kernel_rfl) ?_
  have e7:w8.setCells g (m*4) (#[Value.int .i64 (-1),.int .i64 tk,.string tx,.slice none 0 0]:Array Value).toList=set4 w8 g (m*4) (lfT tk tx):=rfl
  rw [e7]
  clear e7
  refine hK.out _ _ (SX.one trivial (by kernel_rfl)) ?_
  clear hK K' SW
  (try simp only [Act.put,List.setIfInBounds_toArray,List.set_cons_zero,List.set_cons_succ])
  obtain ⟨⟨s1,s2⟩,-⟩:=s20
  generalize set4 w8 g (m*4) (lfT tk tx)=w9 at *
  refine wX1 (j:=13) (by decide +kernel) rfl (fun K' hK=>?_)
  go_simp
  refine hK.out _ _ (SX.one trivial (by kernel_rfl)) ?_
  clear hK K'
  (try simp only [Act.put,List.setIfInBounds_toArray,List.set_cons_zero,List.set_cons_succ])
  refine wXd (by decide +kernel) ?_
  generalize w9.setCell ⟨bb,bo+1,none⟩ (.slice (some ⟨g,0,none⟩) (m+1) c5)=w10 at *
  clear s1 s2 tb8 th8
  go_wp2_with (go_at_call 154;refine (RS.out _ _ FIN.out).mono ?_;rintro e w11 ⟨rfl,b11⟩;have H11:Hid (BdS w0 N bb bo OC RF (clU2 (adA A (lfT tk tx))) w11):=b11;clear b11)
  refine bodyPost_end (results_none rfl _ _ _) rfl ?_
  exact ⟨rfl,H11.out⟩
 ·refine ⟨_,rfl,fun K' hK=>?_⟩
  obtain ⟨-,s1,s2⟩:=s20
  go_simp
  refine hK.out _ _ (SX.one trivial (by kernel_rfl)) ?_
  clear hK K' FIN
  (try simp only [Act.put,List.setIfInBounds_toArray,List.set_cons_zero,List.set_cons_succ])
  refine wX1 (j:=10) (by decide +kernel) rfl (fun K' hK=>?_)
  refine step_storeO rfl 26 (.tmp 13) (.tmp 9) rfl g (m*4) #[.int .i64 (-1),.int .i64 tk,.string tx,.slice none 0 0] rfl rfl th8 (by kernel_rfl) (by kernel_rfl) ?_
  have e7:(w8.setCell ⟨bb,bo+1,none⟩ (.slice (some ⟨g,0,none⟩) (m+1) c5)).setCells g (m*4) (#[Value.int .i64 (-1),.int .i64 tk,.string tx,.slice none 0 0]:Array Value).toList=set4 (w8.setCell ⟨bb,bo+1,none⟩ (.slice (some ⟨g,0,none⟩) (m+1) c5)) g (m*4) (lfT tk tx):=rfl
  rw [e7]
  clear e7
  refine hK.out _ _ (SX.one trivial (by kernel_rfl)) ?_
  clear hK K'
  (try simp only [Act.put,List.setIfInBounds_toArray,List.set_cons_zero,List.set_cons_succ])
  refine wXd (by decide +kernel) ?_
  generalize set4 (w8.setCell ⟨bb,bo+1,none⟩ (.slice (some ⟨g,0,none⟩) (m+1) c5)) g (m*4) (lfT tk tx)=w10 at *
  clear s1 s2 tb8 th8
  go_wp2_with (go_at_call 154;refine (RS.out _ _ SW.out).mono ?_;rintro e w11 ⟨rfl,b11⟩;have H11:Hid (BdS w0 N bb bo OC RF (clU2 (adA A (lfT tk tx))) w11):=b11;clear b11)
  refine bodyPost_end (results_none rfl _ _ _) rfl ?_
  exact ⟨rfl,H11.out⟩
end
end Go.Proofs.YteciabdjkaackaaGreat
