import Derived.Test.YteciabdjkaackaaGreatPTB7ToTB9
namespace Go.Proofs.YteciabdjkaackaaGreat
set_option linter.unusedVariables false
open Go.RowKit
def tpS (db:Nat)(g:GV)(pb po n lb lo u ll lc:Nat)(L:Int)(ra:Option Addr)(rl rc:Nat)(w:World):Prop:=w.cell? ⟨db,3,none⟩=some (.slice (some ⟨pb,po,none⟩) g.ps.length g.pc)/\w.cell? ⟨db,5,none⟩=some (.slice (some ⟨lb,lo,none⟩) ll lc)/\w.cell? ⟨db,7,none⟩=some (.int .i64 (u:Int))/\w.cell? ⟨lb,lo+u,none⟩=some (.int .i64 (n:Int))/\w.cell? ⟨pb,po+n*3,none⟩=some (.int .i64 L)/\w.cell? ⟨pb,po+n*3+1,none⟩=some (.slice ra rl rc)
theorem tpS.later {db:Nat}{g:GV}{pb po n lb lo u ll lc:Nat}{L:Int}{ra:Option Addr}{rl rc:Nat}{w w':World}(h:tpS db g pb po n lb lo u ll lc L ra rl rc w)(hb:Below w.heap.size w w'):tpS db g pb po n lb lo u ll lc L ra rl rc w':=⟨cellW hb h.1,cellW hb h.2.1,cellW hb h.2.2.1,cellW hb h.2.2.2.1,cellW hb h.2.2.2.2.1,cellW hb h.2.2.2.2.2⟩
theorem wpAnyX_takeBC {P:Program}{ops:Array Oper}{Q:Exit->Act->World->Prop}{md:Region.Mode}{m i:Nat}{oi:Oper}{v:Value}{S0 S1:World->Prop}{fuel:Nat}{listed:Array Bool}{a:Act}{w:World}(ch:List (Nat×Nat))(hi':ops.toList[i]?=some oi)
  (hs:Region.noSelect ops=true) (hl:(ch.all fun p=>Region.waitsFor md ops p.1 p.2)=true) (hch:∀ L:Nat->Prop,(∀ p∈ch,L p.1->L p.2)->L m->L i) (him:i < m) (hf:Region.free md ops listed i=true) (hr:(Region.ready md ops listed).contains i=true)
  (hQ:∀ c a w,Q (.panic c) (a.put oi.dst v) w->Q (.panic c) a w) (hcl:(ch.all fun p=>!listed.getD p.1 false)=true) (hy:YieldsIf P ops (fun w=>S0 w/\S1 w) oi v a) (hS:SX m S0 S1 listed w)
  (h:wpAnyX P md ops Q (SX m S0 S1) fuel (listed.setIfInBounds i true) (a.put oi.dst v) w):wpAnyX P md ops Q (SX m S0 S1) (fuel+1) listed a w :=
 have hi:ops[i]?=some oi:=by rw [<- Array.getElem?_toList];exact hi'
 wpAnyX_first (Cl:=fun L=>∀ p∈ch,L.getD p.1 false=true->L.getD p.2 false=true) hi (Region.noSelect_spec hs) hQ
  (fun L j hL hj=>fun p hp hm=>by
   by_cases hjm:j=p.1
   ·subst hjm
    obtain ⟨_,oj,hoj,hall⟩:=mem_ready.1 hj
    obtain ⟨o',ho',e,he,hb,hon⟩:=Region.waitsFor_spec (List.all_eq_true.1 hl p hp)
    obtain rfl:o'=oj:=Option.some.inj (ho'.symm.trans hoj)
    have h2:=hall e he hb
    rw [hon] at h2
    exact getD_set_true h2
   ·rw [getD_set_ne false hjm] at hm
    exact getD_set_true (hL p hp hm))
  (fun L w hc hun hS=>⟨hS.1,hS.2 (by
   cases e:L.getD m false with
   | false=>rfl
   | true=>have:=hch (fun k=>L.getD k false=true) hc e;rw [getD_both hun] at this;cases this)⟩)
  (fun L w=>by
   have e:(L.setIfInBounds i true).getD m false=L.getD m false:=getD_set_ne false (by omega)
   unfold SX
   rw [e]) fuel listed a w (Region.free_spec hi hf) (by simpa using hr) (fun p hp e=>by have:=List.all_eq_true.1 hcl p hp;rw [e] at this;cases this) hy hS h
theorem ent_node:EntW 131:=fun _ _=>by kernel_rfl
theorem BdS.fro {w0:World}{N bb bo:Nat}{OC:Nat->Option Value}{RF:Nat->Option Obj}{A:AB}{w:World}(h:BdS w0 N bb bo OC RF A w)(o:Nat):w.frozen? ⟨bb,o,none⟩=false:=by
 obtain ⟨a,b,c,d,e⟩:=h
 obtain ⟨C,ty,hC,-⟩:=e.bk
 simp [World.frozen?,hC]
section
variable {w0:World} {N db:Nat} {RF:Nat->Option Obj} {w:World} {g:GV} {pa:Option Addr} {pc:Nat} {wl:Value} {r:Int} {A:AB}
set_option linter.unusedSimpArgs false in
set_option maxRecDepth 100000 in
set_option maxHeartbeats 4000000 in
theorem prod_wrong {l:List Int}{u n:Nat}{s:Int}(h:BdS w0 N db 9 (dvO g (.slice pa l.length pc) wl (u:Int) r) RF A w)(hg:GAt 140737488355328 w g)(hl:InRow w pa l)(hu:u < l.length)(hub:u<=1000000000)(hn:l.getD u 0=(n:Int))(hnl:n < g.ps.length)(hs:(g.ps.getD n .none).left≠s):Calls Tryz.prog 109 #[.pointer (some ⟨db,0,none⟩),.int .i64 s] w fun e w'=>e=.returned (.tuple #[.int .i64 81,.int .i64 (u:Int)])/\BdS w0 N db 9 (dvO g (.slice pa l.length pc) wl (u:Int) r) RF A w':=by
 have c3:=h.oc (o:=3) (by omega) (by omega)
 have c5:=h.oc (o:=5) (by omega) (by omega)
 have c7:=h.oc (o:=7) (by omega) (by omega)
 simp only [dvO,List.getElem?_cons_succ,List.getElem?_cons_zero] at c3 c5 c7
 obtain ⟨pb,po,hpa,-,k0,k1,-⟩:=ps_cells hg hnl
 obtain ⟨lb,lo,rfl,-,hcl⟩:=hl (by intro e;rw [e] at hu;simp at hu)
 have k2:=hcl u hu
 rw [hn] at k2
 rw [hpa] at c3
 obtain ⟨L,hL⟩:∃ L,(g.ps.getD n .none).left=L:=⟨_,rfl⟩
 obtain ⟨ra,hra⟩:∃ ra,(g.ps.getD n .none).ra=ra:=⟨_,rfl⟩
 obtain ⟨rc,hrc⟩:∃ rc,(g.ps.getD n .none).rc=rc:=⟨_,rfl⟩
 obtain ⟨rl,hrl⟩:∃ rl,(g.ps.getD n .none).right.length=rl:=⟨_,rfl⟩
 rw [hL] at k0
 rw [hra,hrl,hrc] at k1
 rw [hL] at hs
 have lne:¬ L=s:=hs
 clear hs hL hrl
 have une:¬ (u:Int)=(l.length:Int):=by omega
 have unn:¬ u=l.length:=by omega
 have ult:(u:Int) < (l.length:Int):=by omega
 have nlt:(n:Int) < (g.ps.length:Int):=by omega
 have HH:Hid (BdS w0 N db 9 (dvO g (.slice (some ⟨lb,lo,none⟩) l.length pc) wl (u:Int) r) RF A w):=h
 have HS:Hid (tpS db g pb po n lb lo u l.length pc L ra rl rc w):=⟨c3,c5,c7,k2,k0,k1⟩
 clear h hg hl hu hn hnl c3 c5 c7 hpa k0 k1 k2 hcl hra hrc
 generalize l.length=ll at *
 go_enter Tryz.func109,Tryz.ntmps109
 go_upto_region 1 with fail
 obtain ⟨wd,hwd⟩:∃ wd:World,wd=w.drew:=⟨_,rfl⟩
 have HD:Hid (BdS w0 N db 9 (dvO g (.slice (some ⟨lb,lo,none⟩) ll pc) wl (u:Int) r) RF A wd):=by show BdS _ _ _ _ _ _ _ _;rw [hwd];exact HH.out.later (Below.refl _ _).drew
 have SD:Hid (tpS db g pb po n lb lo u ll pc L ra rl rc wd):=by show tpS _ _ _ _ _ _ _ _ _ _ _ _ _ _ _;rw [hwd];exact HS.out.later (Below.refl _ _).drew
 obtain ⟨d3,d5,d7,m2,m0,m1⟩:=SD.out
 refine wp_region_s (by kernel_rfl) (by kernel_rfl) wd hwd ?_
 clear hwd HH HS
 iterate 10 (refine st_yes (v:=?_) (by rfl) ?_ ?_;rotate_left;(· (go_simp;with_reducible rfl));(try simp only [Act.put,List.setIfInBounds_toArray,List.set_cons_zero,List.set_cons_succ]))
 refine st_nil ?_
 clear d3 d5 d7 m2 m0 m1
 go_upto_region 3 with fail
 obtain ⟨we,hwe⟩:∃ we:World,we=wd.drew:=⟨_,rfl⟩
 have HE:Hid (BdS w0 N db 9 (dvO g (.slice (some ⟨lb,lo,none⟩) ll pc) wl (u:Int) r) RF A we):=by show BdS _ _ _ _ _ _ _ _;rw [hwe];exact HD.out.later (Below.refl _ _).drew
 have SE:Hid (tpS db g pb po n lb lo u ll pc L ra rl rc we):=by show tpS _ _ _ _ _ _ _ _ _ _ _ _ _ _ _;rw [hwe];exact SD.out.later (Below.refl _ _).drew
 obtain ⟨d3,d5,d7,m2,m0,m1⟩:=SE.out
 refine wp_region_s (by kernel_rfl) (by kernel_rfl) we hwe ?_
 clear hwe HD SD
 iterate 11 (refine st_yes (v:=?_) (by rfl) ?_ ?_;rotate_left;(· (go_simp;with_reducible rfl));(try simp only [Act.put,List.setIfInBounds_toArray,List.set_cons_zero,List.set_cons_succ]))
 refine st_nil ?_
 go_upto_region 5 with fail
 clear d3 d5 d7 m2 m0 m1
 obtain ⟨wf,hwf⟩:∃ wf:World,wf=we.drew:=⟨_,rfl⟩
 have HF:Hid (BdS w0 N db 9 (dvO g (.slice (some ⟨lb,lo,none⟩) ll pc) wl (u:Int) r) RF A wf):=by show BdS _ _ _ _ _ _ _ _;rw [hwf];exact HE.out.later (Below.refl _ _).drew
 have d7:wf.cell? ⟨db,7,none⟩=some (.int .i64 (u:Int)):=by rw [hwf];exact SE.out.2.2.1
 refine wp_region_s (by kernel_rfl) (by kernel_rfl) wf hwf ?_
 clear hwf HE SE
 iterate 6 (refine st_yes (v:=?_) (by rfl) ?_ ?_;rotate_left;(· (go_simp;with_reducible rfl));(try simp only [Act.put,List.setIfInBounds_toArray,List.set_cons_zero,List.set_cons_succ]))
 refine st_nil ?_
 go_wp2
 refine bodyPost_ret (v:=.tuple #[.int .i64 81,.int .i64 (u:Int)]) (by simp [results,Tryz.results109,go_sem]) rfl ?_
 exact ⟨rfl,HF.out⟩
set_option linter.unusedSimpArgs false in
set_option maxRecDepth 100000 in
set_option maxHeartbeats 4000000 in
theorem prod_ok {l:List Int}{u n:Nat}{s:Int}(h:BdS w0 N db 9 (dvO g (.slice pa l.length pc) wl (u:Int) r) RF A w)(hg:GAt 140737488355328 w g)(hl:InRow w pa l)(hu:u < l.length)(hub:u<=1000000000)(hn:l.getD u 0=(n:Int))(hnl:n < g.ps.length)(hs:(g.ps.getD n .none).left=s)(hz:(dlA A).length+A.2.length<=999999999):Calls Tryz.prog 109 #[.pointer (some ⟨db,0,none⟩),.int .i64 s] w fun e w'=>e=.returned (.tuple #[.int .i64 0,.int .i64 0])/\BdS w0 N db 9 (dvO g (.slice pa l.length pc) wl ((u:Int)+1) r) RF (clU2 (A.1,⟨(n:Int),(g.ps.getD n .none).right.length,[]⟩ :: A.2)) w':=by
 have c3:=h.oc (o:=3) (by omega) (by omega)
 have c5:=h.oc (o:=5) (by omega) (by omega)
 have c7:=h.oc (o:=7) (by omega) (by omega)
 simp only [dvO,List.getElem?_cons_succ,List.getElem?_cons_zero] at c3 c5 c7
 obtain ⟨pb,po,hpa,-,k0,k1,-⟩:=ps_cells hg hnl
 obtain ⟨lb,lo,rfl,-,hcl⟩:=hl (by intro e;rw [e] at hu;simp at hu)
 have k2:=hcl u hu
 rw [hn] at k2
 rw [hpa] at c3
 obtain ⟨L,hL⟩:∃ L,(g.ps.getD n .none).left=L:=⟨_,rfl⟩
 obtain ⟨ra,hra⟩:∃ ra,(g.ps.getD n .none).ra=ra:=⟨_,rfl⟩
 obtain ⟨rc,hrc⟩:∃ rc,(g.ps.getD n .none).rc=rc:=⟨_,rfl⟩
 obtain ⟨rl,hrl⟩:∃ rl,(g.ps.getD n .none).right.length=rl:=⟨_,rfl⟩
 rw [hL] at k0
 rw [hra,hrl,hrc] at k1
 rw [hL] at hs
 rw [hrl]
 subst hs
 have HZ:Hid ((dlA A).length+A.2.length<=999999999):=hz
 have e2:IntKind.i64.wrap ((u:Int)+1)=(u:Int)+1:=IntWalk.i64_in _ ⟨by omega,by omega⟩
 clear hz hL hrl
 have une:¬ (u:Int)=(l.length:Int):=by omega
 have unn:¬ u=l.length:=by omega
 have ult:(u:Int) < (l.length:Int):=by omega
 have nlt:(n:Int) < (g.ps.length:Int):=by omega
 have HH:Hid (BdS w0 N db 9 (dvO g (.slice (some ⟨lb,lo,none⟩) l.length pc) wl (u:Int) r) RF A w):=h
 have HS:Hid (tpS db g pb po n lb lo u l.length pc L ra rl rc w):=⟨c3,c5,c7,k2,k0,k1⟩
 clear h hg hl hu hn hnl c3 c5 c7 hpa k0 k1 k2 hcl hra hrc
 generalize l.length=ll at *
 go_enter Tryz.func109,Tryz.ntmps109
 go_upto_region 1 with fail
 obtain ⟨wd,hwd⟩:∃ wd:World,wd=w.drew:=⟨_,rfl⟩
 have HD:Hid (BdS w0 N db 9 (dvO g (.slice (some ⟨lb,lo,none⟩) ll pc) wl (u:Int) r) RF A wd):=by show BdS _ _ _ _ _ _ _ _;rw [hwd];exact HH.out.later (Below.refl _ _).drew
 have SD:Hid (tpS db g pb po n lb lo u ll pc L ra rl rc wd):=by show tpS _ _ _ _ _ _ _ _ _ _ _ _ _ _ _;rw [hwd];exact HS.out.later (Below.refl _ _).drew
 obtain ⟨d3,d5,d7,m2,m0,m1⟩:=SD.out
 refine wp_region_s (by kernel_rfl) (by kernel_rfl) wd hwd ?_
 clear hwd HH HS
 iterate 10 (refine st_yes (v:=?_) (by rfl) ?_ ?_;rotate_left;(· (go_simp;with_reducible rfl));(try simp only [Act.put,List.setIfInBounds_toArray,List.set_cons_zero,List.set_cons_succ]))
 refine st_nil ?_
 clear d3 d5 d7 m2 m0 m1
 go_upto_region 3 with fail
 obtain ⟨we,hwe⟩:∃ we:World,we=wd.drew:=⟨_,rfl⟩
 have HE:Hid (BdS w0 N db 9 (dvO g (.slice (some ⟨lb,lo,none⟩) ll pc) wl (u:Int) r) RF A we):=by show BdS _ _ _ _ _ _ _ _;rw [hwe];exact HD.out.later (Below.refl _ _).drew
 have SE:Hid (tpS db g pb po n lb lo u ll pc L ra rl rc we):=by show tpS _ _ _ _ _ _ _ _ _ _ _ _ _ _ _;rw [hwe];exact SD.out.later (Below.refl _ _).drew
 obtain ⟨d3,d5,d7,m2,m0,m1⟩:=SE.out
 refine wp_region_s (by kernel_rfl) (by kernel_rfl) we hwe ?_
 clear hwe HD SD
 iterate 11 (refine st_yes (v:=?_) (by rfl) ?_ ?_;rotate_left;(· (go_simp;with_reducible rfl));(try simp only [Act.put,List.setIfInBounds_toArray,List.set_cons_zero,List.set_cons_succ]))
 refine st_nil ?_
 go_upto_region 6 with fail
 clear d3 d5 d7 m2 m0 m1
 obtain ⟨wf,hwf⟩:∃ wf:World,wf=we.drew:=⟨_,rfl⟩
 have HF:Hid (BdS w0 N db 9 (dvO g (.slice (some ⟨lb,lo,none⟩) ll pc) wl (u:Int) r) RF A wf):=by show BdS _ _ _ _ _ _ _ _;rw [hwf];exact HE.out.later (Below.refl _ _).drew
 have SF:Hid (tpS db g pb po n lb lo u ll pc L ra rl rc wf):=by show tpS _ _ _ _ _ _ _ _ _ _ _ _ _ _ _;rw [hwf];exact SE.out.later (Below.refl _ _).drew
 refine wp_region_x (S:=SX 14 (fun _=>True) (tpS db g pb po n lb lo u ll pc L ra rl rc)) (by kernel_rfl) ?_
 rw [<- hwf]
 clear hwf HE SE
 refine wpAnyX_takeBP (m:=14) (i:=0) (v:=?_) rfl (by kernel_rfl) (by decide) (by decide +kernel) (by decide +kernel) (fun _ _ _ h=>h) (Or.inl ⟨by rfl,?_⟩) (SX.both trivial SF.out) ?_
 rotate_left
 ·(intro w _;go_simp;try (with_reducible rfl))
 (try simp only [Act.put,List.setIfInBounds_toArray,List.set_cons_zero,List.set_cons_succ])
 refine wpAnyX_takeBP (m:=14) (i:=1) (v:=?_) rfl (by kernel_rfl) (by decide) (by decide +kernel) (by decide +kernel) (fun _ _ _ h=>h) (Or.inl ⟨by rfl,?_⟩) (SX.both trivial SF.out) ?_
 rotate_left
 ·(intro w _;go_simp;try (with_reducible rfl))
 (try simp only [Act.put,List.setIfInBounds_toArray,List.set_cons_zero,List.set_cons_succ])
 refine wpAnyX_takeBP (m:=14) (i:=2) (v:=?_) rfl (by kernel_rfl) (by decide) (by decide +kernel) (by decide +kernel) (fun _ _ _ h=>h) (Or.inl ⟨by rfl,?_⟩) (SX.both trivial SF.out) ?_
 rotate_left
 ·(intro w _;go_simp;try (with_reducible rfl))
 (try simp only [Act.put,List.setIfInBounds_toArray,List.set_cons_zero,List.set_cons_succ])
 refine wpAnyX_takeBP (m:=14) (i:=3) (v:=?_) rfl (by kernel_rfl) (by decide) (by decide +kernel) (by decide +kernel) (fun _ _ _ h=>h) (Or.inl ⟨by rfl,?_⟩) (SX.both trivial SF.out) ?_
 rotate_left
 ·(intro w _;go_simp;try (with_reducible rfl))
 (try simp only [Act.put,List.setIfInBounds_toArray,List.set_cons_zero,List.set_cons_succ])
 refine wpAnyX_takeBP (m:=14) (i:=4) (v:=?_) rfl (by kernel_rfl) (by decide) (by decide +kernel) (by decide +kernel) (fun _ _ _ h=>h) (Or.inl ⟨by rfl,?_⟩) (SX.both trivial SF.out) ?_
 rotate_left
 ·(intro w _;go_simp;try (with_reducible rfl))
 (try simp only [Act.put,List.setIfInBounds_toArray,List.set_cons_zero,List.set_cons_succ])
 refine wpAnyX_takeBP (m:=14) (i:=5) (v:=?_) rfl (by kernel_rfl) (by decide) (by decide +kernel) (by decide +kernel) (fun _ _ _ h=>h) (Or.inl ⟨by rfl,?_⟩) (SX.both trivial SF.out) ?_
 rotate_left
 ·(intro w _;go_simp;try (with_reducible rfl))
 (try simp only [Act.put,List.setIfInBounds_toArray,List.set_cons_zero,List.set_cons_succ])
 refine wpAnyX_takeBP (m:=14) (i:=6) (v:=?_) rfl (by kernel_rfl) (by decide) (by decide +kernel) (by decide +kernel) (fun _ _ _ h=>h) (Or.inl ⟨by rfl,?_⟩) (SX.both trivial SF.out) ?_
 rotate_left
 ·(intro w _;go_simp;try (with_reducible rfl))
 (try simp only [Act.put,List.setIfInBounds_toArray,List.set_cons_zero,List.set_cons_succ])
 refine wpAnyX_takeBP (m:=14) (i:=7) (v:=?_) rfl (by kernel_rfl) (by decide) (by decide +kernel) (by decide +kernel) (fun _ _ _ h=>h) (Or.inl ⟨by rfl,?_⟩) (SX.both trivial SF.out) ?_
 rotate_left
 ·(intro w _;go_simp;try (with_reducible rfl))
 (try simp only [Act.put,List.setIfInBounds_toArray,List.set_cons_zero,List.set_cons_succ])
 refine wpAnyX_takeBC (m:=14) (i:=8) (v:=?_) [(14,13),(13,12),(12,11),(11,10),(10,8)] rfl (by kernel_rfl) (by kernel_rfl) (fun L h e=>h (10,8) (by decide) (h (11,10) (by decide) (h (12,11) (by decide) (h (13,12) (by decide) (h (14,13) (by decide) e))))) (by decide) (by decide +kernel) (by decide +kernel) (fun _ _ _ h=>h) (by kernel_rfl) (Or.inl ⟨by rfl,?_⟩) (SX.both trivial SF.out) ?_
 rotate_left
 ·(intro w hSw;have z0:=hSw.2;unfold tpS at z0;obtain ⟨z1,z2,z3,z4,z5,z6⟩:=z0;clear hSw;go_simp;try (with_reducible rfl))
 (try simp only [Act.put,List.setIfInBounds_toArray,List.set_cons_zero,List.set_cons_succ])
 refine wpAnyX_takeBP (m:=14) (i:=9) (v:=?_) rfl (by kernel_rfl) (by decide) (by decide +kernel) (by decide +kernel) (fun _ _ _ h=>h) (Or.inl ⟨by rfl,?_⟩) (SX.both trivial SF.out) ?_
 rotate_left
 ·(intro w _;go_simp;try (with_reducible rfl))
 (try simp only [Act.put,List.setIfInBounds_toArray,List.set_cons_zero,List.set_cons_succ])
 refine wpAnyX_takeBP (m:=14) (i:=10) (v:=?_) rfl (by kernel_rfl) (by decide) (by decide +kernel) (by decide +kernel) (fun _ _ _ h=>h) (Or.inl ⟨by rfl,?_⟩) (SX.both trivial SF.out) ?_
 rotate_left
 ·(intro w _;go_simp;try (with_reducible rfl))
 (try simp only [Act.put,List.setIfInBounds_toArray,List.set_cons_zero,List.set_cons_succ])
 refine wpAnyX_takeBP (m:=14) (i:=11) (v:=?_) rfl (by kernel_rfl) (by decide) (by decide +kernel) (by decide +kernel) (fun _ _ _ h=>h) (Or.inl ⟨by rfl,?_⟩) (SX.both trivial SF.out) ?_
 rotate_left
 ·(intro w _;go_simp;try (with_reducible rfl))
 (try simp only [Act.put,List.setIfInBounds_toArray,List.set_cons_zero,List.set_cons_succ])
 refine wpAnyX_takeBC (m:=14) (i:=12) (v:=?_) [(14,13),(13,12)] rfl (by kernel_rfl) (by kernel_rfl) (fun L h e=>h (13,12) (by decide) (h (14,13) (by decide) e)) (by decide) (by decide +kernel) (by decide +kernel) (fun _ _ _ h=>h) (by kernel_rfl) (Or.inl ⟨by rfl,?_⟩) (SX.both trivial SF.out) ?_
 rotate_left
 ·(intro w hSw;have z0:=hSw.2;unfold tpS at z0;obtain ⟨z1,z2,z3,z4,z5,z6⟩:=z0;clear hSw;go_simp;try (with_reducible rfl))
 (try simp only [Act.put,List.setIfInBounds_toArray,List.set_cons_zero,List.set_cons_succ])
 refine wpAnyX_takeBP (m:=14) (i:=13) (v:=?_) rfl (by kernel_rfl) (by decide) (by decide +kernel) (by decide +kernel) (fun _ _ _ h=>h) (Or.inl ⟨by rfl,?_⟩) (SX.both trivial SF.out) ?_
 rotate_left
 ·(intro w _;go_simp;try (with_reducible rfl))
 (try simp only [Act.put,List.setIfInBounds_toArray,List.set_cons_zero,List.set_cons_succ])
 refine wX1 (j:=14) (by decide +kernel) rfl (fun K' hK=>?_)
 refine sCX rfl 131 #[.pointer (some ⟨db,9,none⟩),.int .i64 (n:Int),.int .i64 (rl:Int)] _ (run_W3 ent_node (v0:=.pointer (some ⟨db,9,none⟩)) (v1:=.int .i64 (n:Int)) (v2:=.int .i64 (rl:Int)) (by rfl) (by rfl) (by rfl) (by rfl)) (node_B HF.out HZ.out) ?_
 rintro e w3 ⟨rfl,b3⟩
 have H3:Hid (BdS w0 N db 9 (dvO g (.slice (some ⟨lb,lo,none⟩) ll pc) wl (u:Int) r) RF (clU2 (A.1,⟨(n:Int),rl,[]⟩ :: A.2)) w3):=b3
 clear b3 SF HF
 refine ⟨_,rfl,hK.out _ _ (SX.one trivial (by kernel_rfl)) ?_⟩
 clear hK K'
 (try simp only [Act.put,List.setIfInBounds_toArray,List.set_cons_zero,List.set_cons_succ])
 refine wXd (by decide +kernel) ?_
 have d7:w3.cell? ⟨db,7,none⟩=some (.int .i64 (u:Int)):=H3.out.oc (o:=7) (by omega) (by omega)
 have f7:w3.frozen? ⟨db,7,none⟩=false:=H3.out.fro 7
 have FIN:Hid (BdS w0 N db 9 (dvO g (.slice (some ⟨lb,lo,none⟩) ll pc) wl ((u:Int)+1) r) RF (clU2 (A.1,⟨(n:Int),rl,[]⟩ :: A.2)) (w3.setCell ⟨db,7,none⟩ (.int .i64 ((u:Int)+1)))):=by
  have:=H3.out.setC (o:=7) (by omega) (by omega) (c:=.int .i64 (u:Int)) rfl (.int .i64 ((u:Int)+1))
  rw [dvO_u] at this
  exact this
 clear H3
 go_wp2
 refine bodyPost_ret (v:=.tuple #[.int .i64 0,.int .i64 0]) (by simp [results,Tryz.results109,go_sem]) rfl ?_
 exact ⟨rfl,FIN.out⟩
end
def twdS (db:Nat)(xb xo r xl xc:Nat)(tk:Int)(tx:ByteArray)(w:World):Prop:=w.cell? ⟨db,6,none⟩=some (.slice (some ⟨xb,xo,none⟩) xl xc)/\w.cell? ⟨db,8,none⟩=some (.int .i64 (r:Int))/\w.cell? ⟨xb,xo+r*2,none⟩=some (.int .i64 tk)/\w.cell? ⟨xb,xo+r*2+1,none⟩=some (.string tx)
theorem twdS.later {db:Nat}{xb xo r xl xc:Nat}{tk:Int}{tx:ByteArray}{w w':World}(h:twdS db xb xo r xl xc tk tx w)(hb:Below w.heap.size w w'):twdS db xb xo r xl xc tk tx w':=⟨cellW hb h.1,cellW hb h.2.1,cellW hb h.2.2.1,cellW hb h.2.2.2⟩
theorem ent_leaf:EntW 130:=fun _ _=>by kernel_rfl
section
variable {w0:World} {N db:Nat} {RF:Nat->Option Obj} {w:World} {g:GV} {wa:Option Addr} {wc:Nat} {pl:Value} {u:Int} {A:AB}
set_option linter.unusedSimpArgs false in
set_option maxRecDepth 100000 in
set_option maxHeartbeats 4000000 in
theorem word_short {L:List (Int×ByteArray)}{r:Nat}{s:Int}(h:BdS w0 N db 9 (dvO g pl (.slice wa L.length wc) u (r:Int)) RF A w)(hr:r=L.length):Calls Tryz.prog 108 #[.pointer (some ⟨db,0,none⟩),.int .i64 s] w fun e w'=>e=.returned (.tuple #[.int .i64 82,.int .i64 (r:Int)])/\BdS w0 N db 9 (dvO g pl (.slice wa L.length wc) u (r:Int)) RF A w':=by
 have c6:=h.oc (o:=6) (by omega) (by omega)
 have c8:=h.oc (o:=8) (by omega) (by omega)
 simp only [dvO,List.getElem?_cons_succ,List.getElem?_cons_zero] at c6 c8
 have HH:Hid (BdS w0 N db 9 (dvO g pl (.slice wa L.length wc) u (r:Int)) RF A w):=h
 rw [<- hr] at c6
 clear h hr
 go_enter Tryz.func108,Tryz.ntmps108
 go_upto_region 1 with fail
 obtain ⟨wd,hwd⟩:∃ wd:World,wd=w.drew:=⟨_,rfl⟩
 have HD:Hid (BdS w0 N db 9 (dvO g pl (.slice wa L.length wc) u (r:Int)) RF A wd):=by show BdS _ _ _ _ _ _ _ _;rw [hwd];exact HH.out.later (Below.refl _ _).drew
 have d6:wd.cell? ⟨db,6,none⟩=some (.slice wa r wc):=by rw [hwd];exact c6
 have d8:wd.cell? ⟨db,8,none⟩=some (.int .i64 (r:Int)):=by rw [hwd];exact c8
 refine wp_region_s (by kernel_rfl) (by kernel_rfl) wd hwd ?_
 clear hwd c6 c8 HH
 iterate 11 (refine st_yes (v:=?_) (by rfl) ?_ ?_;rotate_left;(· (go_simp;with_reducible rfl));(try simp only [Act.put,List.setIfInBounds_toArray,List.set_cons_zero,List.set_cons_succ]))
 iterate 13 (refine st_no (by rfl) ?_;(try simp only [Act.put,List.setIfInBounds_toArray,List.set_cons_zero,List.set_cons_succ]))
 iterate 1 (refine st_yes (v:=?_) (by rfl) ?_ ?_;rotate_left;(· (go_simp;with_reducible rfl));(try simp only [Act.put,List.setIfInBounds_toArray,List.set_cons_zero,List.set_cons_succ]))
 refine st_nil ?_
 go_upto_region 2 with fail
 obtain ⟨we,hwe⟩:∃ we:World,we=wd.drew:=⟨_,rfl⟩
 have HE:Hid (BdS w0 N db 9 (dvO g pl (.slice wa L.length wc) u (r:Int)) RF A we):=by show BdS _ _ _ _ _ _ _ _;rw [hwe];exact HD.out.later (Below.refl _ _).drew
 have e8:we.cell? ⟨db,8,none⟩=some (.int .i64 (r:Int)):=by rw [hwe];exact d8
 refine wp_region_s (by kernel_rfl) (by kernel_rfl) we hwe ?_
 clear hwe d6 d8 HD
 iterate 6 (refine st_yes (v:=?_) (by rfl) ?_ ?_;rotate_left;(· (go_simp;with_reducible rfl));(try simp only [Act.put,List.setIfInBounds_toArray,List.set_cons_zero,List.set_cons_succ]))
 refine st_nil ?_
 go_wp2
 refine bodyPost_ret (v:=.tuple #[.int .i64 82,.int .i64 (r:Int)]) (by simp [results,Tryz.results108,go_sem]) rfl ?_
 exact ⟨rfl,HE.out⟩
set_option linter.unusedSimpArgs false in
set_option maxRecDepth 100000 in
set_option maxHeartbeats 4000000 in
theorem word_wrong {L:List (Int×ByteArray)}{r:Nat}{s:Int}(h:BdS w0 N db 9 (dvO g pl (.slice wa L.length wc) u (r:Int)) RF A w)(hl:TkRow w wa L)(hr:r < L.length)(hrb:r<=1000000000)(hs:(L.getD r (0,ByteArray.empty)).1≠s):Calls Tryz.prog 108 #[.pointer (some ⟨db,0,none⟩),.int .i64 s] w fun e w'=>e=.returned (.tuple #[.int .i64 82,.int .i64 (r:Int)])/\BdS w0 N db 9 (dvO g pl (.slice wa L.length wc) u (r:Int)) RF A w':=by
 have c6:=h.oc (o:=6) (by omega) (by omega)
 have c8:=h.oc (o:=8) (by omega) (by omega)
 simp only [dvO,List.getElem?_cons_succ,List.getElem?_cons_zero] at c6 c8
 obtain ⟨xb,xo,rfl,-,hcl⟩:=hl (by intro e;rw [e] at hr;simp at hr)
 obtain ⟨k0,k1⟩:=hcl r hr
 obtain ⟨x,hx⟩:∃ x,L.getD r (0,ByteArray.empty)=x:=⟨_,rfl⟩
 rw [hx] at k0 k1 hs
 clear hx
 obtain ⟨tk,tx⟩:=x
 dsimp only at k0 k1 hs
 have sne:¬ tk=s:=hs
 clear hs
 have rne:¬ (r:Int)=(L.length:Int):=by omega
 have rnn:¬ r=L.length:=by omega
 have rlt:(r:Int) < (L.length:Int):=by omega
 have HH:Hid (BdS w0 N db 9 (dvO g pl (.slice (some ⟨xb,xo,none⟩) L.length wc) u (r:Int)) RF A w):=h
 have HS:Hid (twdS db xb xo r L.length wc tk tx w):=⟨c6,c8,k0,k1⟩
 clear h hl c6 c8 k0 k1 hcl
 have rbe:((r:Int) == (L.length:Int))=false:=by simp;omega
 clear hr
 generalize L.length=ll at *
 go_enter Tryz.func108,Tryz.ntmps108
 go_upto_region 1 with fail
 obtain ⟨wd,hwd⟩:∃ wd:World,wd=w.drew:=⟨_,rfl⟩
 have HD:Hid (BdS w0 N db 9 (dvO g pl (.slice (some ⟨xb,xo,none⟩) ll wc) u (r:Int)) RF A wd):=by show BdS _ _ _ _ _ _ _ _;rw [hwd];exact HH.out.later (Below.refl _ _).drew
 have SD:Hid (twdS db xb xo r ll wc tk tx wd):=by show twdS _ _ _ _ _ _ _ _ _;rw [hwd];exact HS.out.later (Below.refl _ _).drew
 obtain ⟨d6,d8,m0,m1⟩:=SD.out
 refine wp_region_s (by kernel_rfl) (by kernel_rfl) wd hwd ?_
 clear hwd HH HS
 iterate 11 (refine st_yes (v:=?_) (by rfl) ?_ ?_;rotate_left;(· (go_simp;with_reducible rfl));(try simp only [Act.put,List.setIfInBounds_toArray,List.set_cons_zero,List.set_cons_succ]))
 (try simp only [rbe])
 iterate 14 (refine st_yes (v:=?_) (by rfl) ?_ ?_;rotate_left;(· (go_simp;with_reducible rfl));(try simp only [Act.put,List.setIfInBounds_toArray,List.set_cons_zero,List.set_cons_succ]))
 refine st_nil ?_
 clear d6 d8 m0 m1
 go_upto_region 2 with fail
 obtain ⟨wf,hwf⟩:∃ wf:World,wf=wd.drew:=⟨_,rfl⟩
 have HF:Hid (BdS w0 N db 9 (dvO g pl (.slice (some ⟨xb,xo,none⟩) ll wc) u (r:Int)) RF A wf):=by show BdS _ _ _ _ _ _ _ _;rw [hwf];exact HD.out.later (Below.refl _ _).drew
 have d8:wf.cell? ⟨db,8,none⟩=some (.int .i64 (r:Int)):=by rw [hwf];exact SD.out.2.1
 refine wp_region_s (by kernel_rfl) (by kernel_rfl) wf hwf ?_
 clear hwf HD SD
 iterate 6 (refine st_yes (v:=?_) (by rfl) ?_ ?_;rotate_left;(· (go_simp;with_reducible rfl));(try simp only [Act.put,List.setIfInBounds_toArray,List.set_cons_zero,List.set_cons_succ]))
 refine st_nil ?_
 go_wp2
 refine bodyPost_ret (v:=.tuple #[.int .i64 82,.int .i64 (r:Int)]) (by simp [results,Tryz.results108,go_sem]) rfl ?_
 exact ⟨rfl,HF.out⟩
set_option linter.unusedSimpArgs false in
set_option maxRecDepth 100000 in
set_option maxHeartbeats 4000000 in
theorem word_ok {L:List (Int×ByteArray)}{r:Nat}{s:Int}(h:BdS w0 N db 9 (dvO g pl (.slice wa L.length wc) u (r:Int)) RF A w)(hl:TkRow w wa L)(hr:r < L.length)(hrb:r<=1000000000)(hs:(L.getD r (0,ByteArray.empty)).1=s)(hz:(dlA A).length+A.2.length<=999999999):Calls Tryz.prog 108 #[.pointer (some ⟨db,0,none⟩),.int .i64 s] w fun e w'=>e=.returned (.tuple #[.int .i64 0,.int .i64 0])/\BdS w0 N db 9 (dvO g pl (.slice wa L.length wc) u ((r:Int)+1)) RF (clU2 (adA A (lfT (L.getD r (0,ByteArray.empty)).1 (L.getD r (0,ByteArray.empty)).2))) w':=by
 have c6:=h.oc (o:=6) (by omega) (by omega)
 have c8:=h.oc (o:=8) (by omega) (by omega)
 simp only [dvO,List.getElem?_cons_succ,List.getElem?_cons_zero] at c6 c8
 obtain ⟨xb,xo,rfl,-,hcl⟩:=hl (by intro e;rw [e] at hr;simp at hr)
 obtain ⟨k0,k1⟩:=hcl r hr
 obtain ⟨x,hx⟩:∃ x,L.getD r (0,ByteArray.empty)=x:=⟨_,rfl⟩
 rw [hx] at k0 k1 hs ⊢
 clear hx
 obtain ⟨tk,tx⟩:=x
 dsimp only at k0 k1 hs ⊢
 subst hs
 have HZ:Hid ((dlA A).length+A.2.length<=999999999):=hz
 have e2:IntKind.i64.wrap ((r:Int)+1)=(r:Int)+1:=IntWalk.i64_in _ ⟨by omega,by omega⟩
 clear hz
 have rne:¬ (r:Int)=(L.length:Int):=by omega
 have rnn:¬ r=L.length:=by omega
 have rlt:(r:Int) < (L.length:Int):=by omega
 have HH:Hid (BdS w0 N db 9 (dvO g pl (.slice (some ⟨xb,xo,none⟩) L.length wc) u (r:Int)) RF A w):=h
 have HS:Hid (twdS db xb xo r L.length wc tk tx w):=⟨c6,c8,k0,k1⟩
 clear h hl c6 c8 k0 k1 hcl
 have rbe:((r:Int) == (L.length:Int))=false:=by simp;omega
 clear hr
 generalize L.length=ll at *
 go_enter Tryz.func108,Tryz.ntmps108
 go_upto_region 1 with fail
 obtain ⟨wd,hwd⟩:∃ wd:World,wd=w.drew:=⟨_,rfl⟩
 have HD:Hid (BdS w0 N db 9 (dvO g pl (.slice (some ⟨xb,xo,none⟩) ll wc) u (r:Int)) RF A wd):=by show BdS _ _ _ _ _ _ _ _;rw [hwd];exact HH.out.later (Below.refl _ _).drew
 have SD:Hid (twdS db xb xo r ll wc tk tx wd):=by show twdS _ _ _ _ _ _ _ _ _;rw [hwd];exact HS.out.later (Below.refl _ _).drew
 obtain ⟨d6,d8,m0,m1⟩:=SD.out
 refine wp_region_s (by kernel_rfl) (by kernel_rfl) wd hwd ?_
 clear hwd HH HS
 iterate 11 (refine st_yes (v:=?_) (by rfl) ?_ ?_;rotate_left;(· (go_simp;with_reducible rfl));(try simp only [Act.put,List.setIfInBounds_toArray,List.set_cons_zero,List.set_cons_succ]))
 (try simp only [rbe])
 iterate 14 (refine st_yes (v:=?_) (by rfl) ?_ ?_;rotate_left;(· (go_simp;with_reducible rfl));(try simp only [Act.put,List.setIfInBounds_toArray,List.set_cons_zero,List.set_cons_succ]))
 refine st_nil ?_
 clear d6 d8 m0 m1
 go_upto_region 3 with fail
 obtain ⟨wf,hwf⟩:∃ wf:World,wf=wd.drew:=⟨_,rfl⟩
 have HF:Hid (BdS w0 N db 9 (dvO g pl (.slice (some ⟨xb,xo,none⟩) ll wc) u (r:Int)) RF A wf):=by show BdS _ _ _ _ _ _ _ _;rw [hwf];exact HD.out.later (Below.refl _ _).drew
 have SF:Hid (twdS db xb xo r ll wc tk tx wf):=by show twdS _ _ _ _ _ _ _ _ _;rw [hwf];exact SD.out.later (Below.refl _ _).drew
 refine wp_region_x (S:=SX 13 (fun _=>True) (twdS db xb xo r ll wc tk tx)) (by kernel_rfl) ?_
 rw [<- hwf]
 clear hwf HD SD
 refine wpAnyX_takeBP (m:=13) (i:=0) (v:=?_) rfl (by kernel_rfl) (by decide) (by decide +kernel) (by decide +kernel) (fun _ _ _ h=>h) (Or.inl ⟨by rfl,?_⟩) (SX.both trivial SF.out) ?_
 rotate_left
 ·(intro w _;go_simp;try (with_reducible rfl))
 (try simp only [Act.put,List.setIfInBounds_toArray,List.set_cons_zero,List.set_cons_succ])
 refine wpAnyX_takeBP (m:=13) (i:=1) (v:=?_) rfl (by kernel_rfl) (by decide) (by decide +kernel) (by decide +kernel) (fun _ _ _ h=>h) (Or.inl ⟨by rfl,?_⟩) (SX.both trivial SF.out) ?_
 rotate_left
 ·(intro w _;go_simp;try (with_reducible rfl))
 (try simp only [Act.put,List.setIfInBounds_toArray,List.set_cons_zero,List.set_cons_succ])
 refine wpAnyX_takeBP (m:=13) (i:=2) (v:=?_) rfl (by kernel_rfl) (by decide) (by decide +kernel) (by decide +kernel) (fun _ _ _ h=>h) (Or.inl ⟨by rfl,?_⟩) (SX.both trivial SF.out) ?_
 rotate_left
 ·(intro w _;go_simp;try (with_reducible rfl))
 (try simp only [Act.put,List.setIfInBounds_toArray,List.set_cons_zero,List.set_cons_succ])
 refine wpAnyX_takeBP (m:=13) (i:=3) (v:=?_) rfl (by kernel_rfl) (by decide) (by decide +kernel) (by decide +kernel) (fun _ _ _ h=>h) (Or.inl ⟨by rfl,?_⟩) (SX.both trivial SF.out) ?_
 rotate_left
 ·(intro w _;go_simp;try (with_reducible rfl))
 (try simp only [Act.put,List.setIfInBounds_toArray,List.set_cons_zero,List.set_cons_succ])
 refine wpAnyX_takeBP (m:=13) (i:=4) (v:=?_) rfl (by kernel_rfl) (by decide) (by decide +kernel) (by decide +kernel) (fun _ _ _ h=>h) (Or.inl ⟨by rfl,?_⟩) (SX.both trivial SF.out) ?_
 rotate_left
 ·(intro w _;go_simp;try (with_reducible rfl))
 (try simp only [Act.put,List.setIfInBounds_toArray,List.set_cons_zero,List.set_cons_succ])
 refine wpAnyX_takeBP (m:=13) (i:=5) (v:=?_) rfl (by kernel_rfl) (by decide) (by decide +kernel) (by decide +kernel) (fun _ _ _ h=>h) (Or.inl ⟨by rfl,?_⟩) (SX.both trivial SF.out) ?_
 rotate_left
 ·(intro w _;go_simp;try (with_reducible rfl))
 (try simp only [Act.put,List.setIfInBounds_toArray,List.set_cons_zero,List.set_cons_succ])
 refine wpAnyX_takeBC (m:=13) (i:=6) (v:=?_) [(13,12),(12,11),(11,6)] rfl (by kernel_rfl) (by kernel_rfl) (fun L h e=>h (11,6) (by decide) (h (12,11) (by decide) (h (13,12) (by decide) e))) (by decide) (by decide +kernel) (by decide +kernel) (fun _ _ _ h=>h) (by kernel_rfl) (Or.inl ⟨by rfl,?_⟩) (SX.both trivial SF.out) ?_
 rotate_left
 ·(intro w hSw;have z0:=hSw.2;unfold twdS at z0;obtain ⟨z1,z2,z3,z4⟩:=z0;clear hSw;go_simp;try (with_reducible rfl))
 (try simp only [Act.put,List.setIfInBounds_toArray,List.set_cons_zero,List.set_cons_succ])
 refine wpAnyX_takeBP (m:=13) (i:=7) (v:=?_) rfl (by kernel_rfl) (by decide) (by decide +kernel) (by decide +kernel) (fun _ _ _ h=>h) (Or.inl ⟨by rfl,?_⟩) (SX.both trivial SF.out) ?_
 rotate_left
 ·(intro w _;go_simp;try (with_reducible rfl))
 (try simp only [Act.put,List.setIfInBounds_toArray,List.set_cons_zero,List.set_cons_succ])
 refine wpAnyX_takeBP (m:=13) (i:=8) (v:=?_) rfl (by kernel_rfl) (by decide) (by decide +kernel) (by decide +kernel) (fun _ _ _ h=>h) (Or.inl ⟨by rfl,?_⟩) (SX.both trivial SF.out) ?_
 rotate_left
 ·(intro w _;go_simp;try (with_reducible rfl))
 (try simp only [Act.put,List.setIfInBounds_toArray,List.set_cons_zero,List.set_cons_succ])
 refine wpAnyX_takeBP (m:=13) (i:=9) (v:=?_) rfl (by kernel_rfl) (by decide) (by decide +kernel) (by decide +kernel) (fun _ _ _ h=>h) (Or.inl ⟨by rfl,?_⟩) (SX.both trivial SF.out) ?_
 rotate_left
 ·(intro w _;go_simp;try (with_reducible rfl))
 (try simp only [Act.put,List.setIfInBounds_toArray,List.set_cons_zero,List.set_cons_succ])
 refine wpAnyX_takeBC (m:=13) (i:=10) (v:=?_) [(13,12),(12,11),(11,10)] rfl (by kernel_rfl) (by kernel_rfl) (fun L h e=>h (11,10) (by decide) (h (12,11) (by decide) (h (13,12) (by decide) e))) (by decide) (by decide +kernel) (by decide +kernel) (fun _ _ _ h=>h) (by kernel_rfl) (Or.inl ⟨by rfl,?_⟩) (SX.both trivial SF.out) ?_
 rotate_left
 ·(intro w hSw;have z0:=hSw.2;unfold twdS at z0;obtain ⟨z1,z2,z3,z4⟩:=z0;clear hSw;go_simp;try (with_reducible rfl))
 (try simp only [Act.put,List.setIfInBounds_toArray,List.set_cons_zero,List.set_cons_succ])
 refine wpAnyX_takeBP (m:=13) (i:=11) (v:=?_) rfl (by kernel_rfl) (by decide) (by decide +kernel) (by decide +kernel) (fun _ _ _ h=>h) (Or.inl ⟨by rfl,?_⟩) (SX.both trivial SF.out) ?_
 rotate_left
 ·(intro w _;go_simp;try (with_reducible rfl))
 (try simp only [Act.put,List.setIfInBounds_toArray,List.set_cons_zero,List.set_cons_succ])
 refine wpAnyX_takeBC (m:=13) (i:=12) (v:=?_) [(13,12)] rfl (by kernel_rfl) (by kernel_rfl) (fun L h e=>h (13,12) (by decide) e) (by decide) (by decide +kernel) (by decide +kernel) (fun _ _ _ h=>h) (by kernel_rfl) (Or.inl ⟨by rfl,?_⟩) (SX.both trivial SF.out) ?_
 rotate_left
 ·(intro w hSw;have z0:=hSw.2;unfold twdS at z0;obtain ⟨z1,z2,z3,z4⟩:=z0;clear hSw;go_simp;try (with_reducible rfl))
 (try simp only [Act.put,List.setIfInBounds_toArray,List.set_cons_zero,List.set_cons_succ])
 refine wX1 (j:=13) (by decide +kernel) rfl (fun K' hK=>?_)
 refine sCX rfl 130 #[.pointer (some ⟨db,9,none⟩),.agg #[.int .i64 tk,.string tx]] _ (run_W2 ent_leaf (v0:=.pointer (some ⟨db,9,none⟩)) (v1:=.agg #[.int .i64 tk,.string tx]) (by rfl) (by rfl) (by rfl)) (leaf_B tk tx HF.out HZ.out) ?_
 rintro e w3 ⟨rfl,b3⟩
 have H3:Hid (BdS w0 N db 9 (dvO g pl (.slice (some ⟨xb,xo,none⟩) ll wc) u (r:Int)) RF (clU2 (adA A (lfT tk tx))) w3):=b3
 clear b3 SF HF
 refine ⟨_,rfl,hK.out _ _ (SX.one trivial (by kernel_rfl)) ?_⟩
 clear hK K'
 (try simp only [Act.put,List.setIfInBounds_toArray,List.set_cons_zero,List.set_cons_succ])
 refine wXd (by decide +kernel) ?_
 have d8:w3.cell? ⟨db,8,none⟩=some (.int .i64 (r:Int)):=H3.out.oc (o:=8) (by omega) (by omega)
 have f8:w3.frozen? ⟨db,8,none⟩=false:=H3.out.fro 8
 have FIN:Hid (BdS w0 N db 9 (dvO g pl (.slice (some ⟨xb,xo,none⟩) ll wc) u ((r:Int)+1)) RF (clU2 (adA A (lfT tk tx))) (w3.setCell ⟨db,8,none⟩ (.int .i64 ((r:Int)+1)))):=by
  have:=H3.out.setC (o:=8) (by omega) (by omega) (c:=.int .i64 (r:Int)) rfl (.int .i64 ((r:Int)+1))
  rw [dvO_r] at this
  exact this
 clear H3
 go_wp2
 refine bodyPost_ret (v:=.tuple #[.int .i64 0,.int .i64 0]) (by simp [results,Tryz.results108,go_sem]) rfl ?_
 exact ⟨rfl,FIN.out⟩
end
set_option linter.unusedSimpArgs false in
set_option maxRecDepth 100000 in
set_option maxHeartbeats 4000000 in
theorem step_term {db:Nat}{n e1 at_:Int}{w:World}{P:World->Prop}(hn:Calls Tryz.prog 107 #[.pointer (some ⟨db,0,none⟩)] w fun e w'=>e=.returned (.agg #[.int .i64 1,.int .i64 n])/\Below w.heap.size w w')(ht:∀ w',Below w.heap.size w w'->Calls Tryz.prog 108 #[.pointer (some ⟨db,0,none⟩),.int .i64 n] w' fun e w''=>e=.returned (.tuple #[.int .i64 e1,.int .i64 at_])/\P w''):Calls Tryz.prog 87 #[.pointer (some ⟨db,0,none⟩)] w fun e w'=>e=.returned (.tuple #[.int .i64 e1,.int .i64 at_])/\P w':=by
 have CN:Hid (Calls Tryz.prog 107 #[.pointer (some ⟨db,0,none⟩)] w fun e w'=>e=.returned (.agg #[.int .i64 1,.int .i64 n])/\Below w.heap.size w w'):=hn
 have CT:Hid (∀ w',Below w.heap.size w w'->Calls Tryz.prog 108 #[.pointer (some ⟨db,0,none⟩),.int .i64 n] w' fun e w''=>e=.returned (.tuple #[.int .i64 e1,.int .i64 at_])/\P w''):=ht
 clear hn ht
 go_enter Tryz.func87,Tryz.ntmps87
 go_upto_region 2 with (go_at_call 107;refine CN.out.mono ?_;rintro e w1 ⟨rfl,b1⟩;have B1:Hid (Below w.heap.size w w1):=b1;clear b1)
 refine wp_world (fun w'=>Below w.heap.size w w'/\w'.heap[w1.heap.size]?=some (yBoxC 1 n)) ⟨B1.out.trans ((bAl _ _).mono B1.out.size),heap_alloc_new _ _⟩ fun w2 h2=>?_
 have z0:w2.cell? ⟨w1.heap.size,0,none⟩=some (.int .i64 1):=(cQa h2.2).trans rfl
 have z1:w2.cell? ⟨w1.heap.size,1,none⟩=some (.int .i64 n):=(cQa h2.2).trans rfl
 have B2:Hid (Below w.heap.size w w2):=h2.1
 clear h2 B1
 generalize w1.heap.size=b4 at *
 go_wp2_with (go_at_call 108;refine (CT.out _ B2.out).mono ?_;rintro e w3 ⟨rfl,b3⟩;have B3:Hid (P w3):=b3;clear b3)
 refine bodyPost_ret (v:=.tuple #[.int .i64 e1,.int .i64 at_]) (by simp [results,Tryz.results87,go_sem]) rfl ?_
 exact ⟨rfl,B3.out⟩
set_option linter.unusedSimpArgs false in
set_option maxRecDepth 100000 in
set_option maxHeartbeats 4000000 in
theorem step_non {db:Nat}{n e1 at_:Int}{w:World}{P:World->Prop}{k:Int}(hk:¬ k=1)(hn:Calls Tryz.prog 107 #[.pointer (some ⟨db,0,none⟩)] w fun e w'=>e=.returned (.agg #[.int .i64 k,.int .i64 n])/\Below w.heap.size w w')(ht:∀ w',Below w.heap.size w w'->Calls Tryz.prog 109 #[.pointer (some ⟨db,0,none⟩),.int .i64 n] w' fun e w''=>e=.returned (.tuple #[.int .i64 e1,.int .i64 at_])/\P w''):Calls Tryz.prog 87 #[.pointer (some ⟨db,0,none⟩)] w fun e w'=>e=.returned (.tuple #[.int .i64 e1,.int .i64 at_])/\P w':=by
 have CN:Hid (Calls Tryz.prog 107 #[.pointer (some ⟨db,0,none⟩)] w fun e w'=>e=.returned (.agg #[.int .i64 k,.int .i64 n])/\Below w.heap.size w w'):=hn
 have CT:Hid (∀ w',Below w.heap.size w w'->Calls Tryz.prog 109 #[.pointer (some ⟨db,0,none⟩),.int .i64 n] w' fun e w''=>e=.returned (.tuple #[.int .i64 e1,.int .i64 at_])/\P w''):=ht
 clear hn ht
 go_enter Tryz.func87,Tryz.ntmps87
 go_upto_region 2 with (go_at_call 107;refine CN.out.mono ?_;rintro e w1 ⟨rfl,b1⟩;have B1:Hid (Below w.heap.size w w1):=b1;clear b1)
 refine wp_world (fun w'=>Below w.heap.size w w'/\w'.heap[w1.heap.size]?=some (yBoxC k n)) ⟨B1.out.trans ((bAl _ _).mono B1.out.size),heap_alloc_new _ _⟩ fun w2 h2=>?_
 have z0:w2.cell? ⟨w1.heap.size,0,none⟩=some (.int .i64 k):=(cQa h2.2).trans rfl
 have z1:w2.cell? ⟨w1.heap.size,1,none⟩=some (.int .i64 n):=(cQa h2.2).trans rfl
 have B2:Hid (Below w.heap.size w w2):=h2.1
 clear h2 B1
 generalize w1.heap.size=b4 at *
 go_wp2_with (go_at_call 109;refine (CT.out _ B2.out).mono ?_;rintro e w3 ⟨rfl,b3⟩;have B3:Hid (P w3):=b3;clear b3)
 refine bodyPost_ret (v:=.tuple #[.int .i64 e1,.int .i64 at_]) (by simp [results,Tryz.results87,go_sem]) rfl ?_
 exact ⟨rfl,B3.out⟩
structure DvU where
 u:Nat
 r:Nat
 A:AB
def wU_ (A:AB):Bool:=A.2.isEmpty && !A.1.isEmpty
def nextU (g:GV)(l:List Int)(A:AB):Int×Int:=match A.2 with
 | []=>(2,(g.ps.getD (l.getD 0 0).toNat .none).left)
 | f :: _=>(g.ps.getD f.p.toNat .none).right.getD f.ks.length (0,0)
def wordU (L:List (Int×ByteArray))(r:Nat):TV:=lfT (L.getD r (0,ByteArray.empty)).1 (L.getD r (0,ByteArray.empty)).2
def prodU2 (g:GV)(n:Int):FrB:=⟨n,(g.ps.getD n.toNat .none).right.length,[]⟩
def stepU (g:GV)(l:List Int)(L:List (Int×ByteArray))(x:DvU):(Int×Int) ⊕ DvU :=
 if (nextU g l x.A).1=1 then
  if x.r=L.length then .inl (82,(x.r:Int))
  else if (L.getD x.r (0,ByteArray.empty)).1=(nextU g l x.A).2 then .inr ⟨x.u,x.r+1,clU2 (adA x.A (wordU L x.r))⟩
  else .inl (82,(x.r:Int))
 else
  if x.u=l.length then .inl (11,(x.u:Int))
  else if (g.ps.getD (l.getD x.u 0).toNat .none).left=(nextU g l x.A).2 then .inr ⟨x.u+1,x.r,clU2 (x.A.1,prodU2 g (l.getD x.u 0) :: x.A.2)⟩
  else .inl (81,(x.u:Int))
def OkF (g:GV)(f:FrB):Prop:=0<=f.p/\f.p < g.ps.length/\f.k=(g.ps.getD f.p.toNat .none).right.length
theorem cl_ok {g:GV}:∀ (S:List FrB) (D:List TV),(∀ f∈S,OkF g f)->(∀ f∈S.tail,f.ks.length < f.k)->(∀ f∈S.head?,f.ks.length<=f.k)->∀ f∈(clU2 (D,S)).2,OkF g f/\f.ks.length < f.k
 | [],D,_,_,_=>by
  rw [clU2_nil]
  intro f hf
  cases hf
 | f :: S,D,h1,h2,h3=>by
  rw [clU2_cons]
  by_cases hk:f.ks.length=f.k
  ·rw [if_pos hk]
   cases S with
   | nil=>exact cl_ok [] _ (fun _ h=>by cases h) (fun _ h=>by cases h) (fun _ h=>by cases h)
   | cons g' S =>
    refine cl_ok (⟨g'.p,g'.k,g'.ks++[ndT f]⟩ :: S) D (fun x hx=>?_) (fun x hx=>?_) (fun x hx=>?_)
    ·rcases List.mem_cons.1 hx with rfl | hx
     ·exact h1 g' (by simp)
     ·exact h1 x (by simp [hx])
    ·exact h2 x (by simp only [List.tail_cons] at hx ⊢;exact List.mem_cons_of_mem _ hx)
    ·simp only [List.head?_cons,Option.mem_def,Option.some.injEq] at hx
     subst hx
     have:=h2 g' (by simp)
     simp only [List.length_append,List.length_singleton]
     omega
  ·rw [if_neg hk]
   intro x hx
   refine ⟨h1 x hx,?_⟩
   rcases List.mem_cons.1 hx with rfl | hx
   ·have:=h3 x (by simp)
    omega
   ·exact h2 x hx
termination_by S=>S.length
theorem cl_lenB:∀ (S:List FrB) (D:List TV),(dlA (clU2 (D,S))).length+(clU2 (D,S)).2.length<=(dlA (D,S)).length+S.length
 | [],D=>by rw [clU2_nil];exact Nat.le_refl _
 | f :: S,D=>by
  rw [clU2_cons]
  by_cases hk:f.ks.length=f.k
  ·rw [if_pos hk]
   cases S with
   | nil =>
    have:=cl_lenB [] (D++[ndT f])
    have e:=dlA_ad D [] (ndT f)
    have e2:=dlA_cons D f []
    have q1:=congrArg List.length e
    have q2:=congrArg List.length e2
    simp only [List.length_append,List.length_cons,List.length_nil] at q1 q2 this ⊢
    show (dlA (clU2 (adA (D,[]) (ndT f)))).length+(clU2 (adA (D,[]) (ndT f))).2.length<=_
    simp only [adA] at q1 ⊢
    omega
   | cons g' S =>
    have:=cl_lenB (⟨g'.p,g'.k,g'.ks++[ndT f]⟩ :: S) D
    have e:=dlA_ad D (g' :: S) (ndT f)
    have e2:=dlA_cons D f (g' :: S)
    have q1:=congrArg List.length e
    have q2:=congrArg List.length e2
    simp only [List.length_append,List.length_cons,List.length_nil] at q1 q2 this ⊢
    simp only [adA] at q1 ⊢
    omega
  ·rw [if_neg hk]
   exact Nat.le_refl _
termination_by S=>S.length
structure OkD2 (g:GV)(l:List Int)(L:List (Int×ByteArray))(x:DvU):Prop where
 ok:∀ f∈x.A.2,OkF g f/\f.ks.length < f.k
 ul:x.u<=l.length
 rl:x.r<=L.length
 ln:(dlA x.A).length+x.A.2.length<=x.u+x.r
theorem ok_start (g:GV)(l:List Int)(L:List (Int×ByteArray)):OkD2 g l L ⟨0,0,([],[])⟩:=⟨(fun f hf=>by cases hf),Nat.zero_le _,Nat.zero_le _,by simp [dlA,ksL]⟩
theorem ok_step {g:GV}{l:List Int}{L:List (Int×ByteArray)}{x y:DvU}(hl:∀ n∈l,0<=n/\n < g.ps.length)(h:OkD2 g l L x)(hs:stepU g l L x=.inr y):OkD2 g l L y/\y.u+y.r=x.u+x.r+1:=by
 obtain ⟨u,r,D,S⟩:=x
 unfold stepU at hs
 have h1:=h.ok
 have h2:=h.ul
 have h3:=h.rl
 have h4:=h.ln
 dsimp only at h1 h2 h3 h4 hs
 split at hs
 ·split at hs
  ·cases hs
  ·split at hs
   ·rename_i hr _
    simp only [Sum.inr.injEq] at hs
    subst hs
    refine ⟨⟨?_,h2,?_,?_⟩,by simp;omega⟩
    ·cases S with
     | nil=>exact cl_ok [] _ (fun _ h=>by cases h) (fun _ h=>by cases h) (fun _ h=>by cases h)
     | cons f S =>
      refine cl_ok (⟨f.p,f.k,f.ks++[wordU L r]⟩ :: S) D (fun x hx=>?_) (fun x hx=>(h1 x (by simp only [List.tail_cons] at hx;exact List.mem_cons_of_mem _ hx)).2) (fun x hx=>?_)
      ·rcases List.mem_cons.1 hx with rfl | hx
       ·exact (h1 f (by simp)).1
       ·exact (h1 x (by simp [hx])).1
      ·simp only [List.head?_cons,Option.mem_def,Option.some.injEq] at hx
       subst hx
       have:=(h1 f (by simp)).2
       simp only [List.length_append,List.length_singleton]
       omega
    ·show r+1<=L.length
     omega
    ·have e:=dlA_ad D S (wordU L r)
     have e2:=adA_len D S (wordU L r)
     have q:=congrArg List.length e
     rw [List.length_append,List.length_singleton] at q
     have:=cl_lenB (adA (D,S) (wordU L r)).2 (adA (D,S) (wordU L r)).1
     show _<=u+(r+1)
     dsimp only
     have e3:((adA (D,S) (wordU L r)).1,(adA (D,S) (wordU L r)).2)=adA (D,S) (wordU L r):=rfl
     rw [e3] at this
     omega
   ·cases hs
 ·split at hs
  ·cases hs
  ·split at hs
   ·rename_i hu _
    simp only [Sum.inr.injEq] at hs
    subst hs
    have hul:u < l.length:=by omega
    have hm:l.getD u 0∈l:=by
     simp [List.getD,hul]
    refine ⟨⟨?_,?_,h3,?_⟩,by simp;omega⟩
    ·refine cl_ok (prodU2 g (l.getD u 0) :: S) D (fun x hx=>?_) (fun x hx=>(h1 x hx).2) (fun x hx=>?_)
     ·rcases List.mem_cons.1 hx with rfl | hx
      ·exact ⟨(hl _ hm).1,(hl _ hm).2,rfl⟩
      ·exact (h1 x hx).1
     ·simp only [List.head?_cons,Option.mem_def,Option.some.injEq] at hx
      subst hx
      exact Nat.zero_le _
    ·show u+1<=l.length
     omega
    ·have e2:=dlA_cons D (prodU2 g (l.getD u 0)) S
     have q:=congrArg List.length e2
     rw [List.length_append] at q
     have q0:(prodU2 g (l.getD u 0)).ks.length=0:=rfl
     have:=cl_lenB (prodU2 g (l.getD u 0) :: S) D
     rw [List.length_cons] at this
     show _<=(u+1)+r
     dsimp only
     omega
   ·cases hs
section
variable {w0:World} {N db:Nat} {RF:Nat->Option Obj} {w:World} {g:GV} {pa wa:Option Addr} {pc wc:Nat} {l:List Int} {L:List (Int×ByteArray)} {x:DvU}
theorem getD_nat {l:List Int}(hl:∀ n∈l,0<=n/\n < g.ps.length){i:Nat}(hi:i < l.length):l.getD i 0=((l.getD i 0).toNat:Int)/\(l.getD i 0).toNat < g.ps.length:=by
 have hm:l.getD i 0∈l:=by simp [List.getD,hi]
 obtain ⟨h1,h2⟩:=hl _ hm
 exact ⟨by omega,by omega⟩
theorem next_W (h:BdS w0 N db 9 (dvO g (.slice pa l.length pc) (.slice wa L.length wc) (x.u:Int) (x.r:Int)) RF x.A w)(ok:OkD2 g l L x)(hne:l≠[])(hl:∀ n∈l,0<=n/\n < g.ps.length)(hg:GAt 140737488355328 w g)(hli:InRow w pa l)(hb:l.length<=400000000)(hB:L.length<=400000000):Calls Tryz.prog 107 #[.pointer (some ⟨db,0,none⟩)] w fun e w'=>e=.returned (.agg #[.int .i64 (nextU g l x.A).1,.int .i64 (nextU g l x.A).2])/\Below w.heap.size w w':=by
 obtain ⟨u,r,D,S⟩:=x
 have h1:=ok.ok
 have h2:=ok.ul
 have h3:=ok.rl
 have h4:=ok.ln
 dsimp only at h h1 h2 h3 h4
 cases S with
 | nil =>
  obtain ⟨e1,e2⟩:=getD_nat hl (List.length_pos_iff.2 hne)
  exact next_no h hg hli hne e1 e2
 | cons f S =>
  obtain ⟨⟨o1,o2,o3⟩,o4⟩:=h1 f (by simp)
  exact next_some h (by omega) hg (j:=f.p.toNat) (by omega) (by omega) (by omega)
theorem step_W (h:BdS w0 N db 9 (dvO g (.slice pa l.length pc) (.slice wa L.length wc) (x.u:Int) (x.r:Int)) RF x.A w)(ok:OkD2 g l L x)(hne:l≠[])(hl:∀ n∈l,0<=n/\n < g.ps.length)(hg:GAt 140737488355328 w g)(hli:InRow w pa l)(hLi:TkRow w wa L)(hb:l.length<=400000000)(hB:L.length<=400000000) :
  (∀ e1 at_,stepU g l L x=.inl (e1,at_)->Calls Tryz.prog 87 #[.pointer (some ⟨db,0,none⟩)] w fun e w'=>e=.returned (.tuple #[.int .i64 e1,.int .i64 at_])/\BdS w0 N db 9 (dvO g (.slice pa l.length pc) (.slice wa L.length wc) (x.u:Int) (x.r:Int)) RF x.A w') /\
  (∀ y,stepU g l L x=.inr y->Calls Tryz.prog 87 #[.pointer (some ⟨db,0,none⟩)] w fun e w'=>e=.returned (.tuple #[.int .i64 0,.int .i64 0])/\BdS w0 N db 9 (dvO g (.slice pa l.length pc) (.slice wa L.length wc) (y.u:Int) (y.r:Int)) RF y.A w'):=by
 have hN:=next_W h ok hne hl hg hli hb hB
 have h2:=ok.ul
 have h3:=ok.rl
 have h4:=ok.ln
 unfold stepU
 generalize nextU g l x.A=kn at *
 obtain ⟨k,n⟩:=kn
 dsimp only at hN ⊢
 by_cases hk:k=1
 ·subst hk
  rw [if_pos rfl]
  by_cases hr:x.r=L.length
  ·rw [if_pos hr]
   refine ⟨fun e1 at_ e=>?_,fun y e=>by cases e⟩
   cases e
   exact step_term hN fun w' hb=>word_short (h.later hb) hr
  ·rw [if_neg hr]
   have hrl:x.r < L.length:=by omega
   by_cases hs:(L.getD x.r (0,ByteArray.empty)).1=n
   ·rw [if_pos hs]
    refine ⟨(fun e1 at_ e=>by cases e),fun y e=>?_⟩
    cases e
    exact step_term hN fun w' hb=>word_ok (h.later hb) (hLi.later hb) hrl (by omega) hs (by omega)
   ·rw [if_neg hs]
    refine ⟨fun e1 at_ e=>?_,fun y e=>by cases e⟩
    cases e
    exact step_term hN fun w' hb=>word_wrong (h.later hb) (hLi.later hb) hrl (by omega) hs
 ·rw [if_neg hk]
  by_cases hu:x.u=l.length
  ·rw [if_pos hu]
   refine ⟨fun e1 at_ e=>?_,fun y e=>by cases e⟩
   cases e
   exact step_non hk hN fun w' hb=>prod_short (h.later hb) hu
  ·rw [if_neg hu]
   have hul:x.u < l.length:=by omega
   obtain ⟨q1,q2⟩:=getD_nat hl hul
   by_cases hs:(g.ps.getD (l.getD x.u 0).toNat .none).left=n
   ·rw [if_pos hs]
    refine ⟨(fun e1 at_ e=>by cases e),fun y e=>?_⟩
    cases e
    refine step_non hk hN fun w' hb=>?_
    have:=prod_ok (h.later hb) (hg.later hb) (hli.later hb) hul (by omega) q1 q2 hs (by omega)
    rw [<- q1] at this
    exact this
   ·rw [if_neg hs]
    refine ⟨fun e1 at_ e=>?_,fun y e=>by cases e⟩
    cases e
    exact step_non hk hN fun w' hb=>prod_wrong (h.later hb) (hg.later hb) (hli.later hb) hul (by omega) q1 q2 hs
end
end Go.Proofs.YteciabdjkaackaaGreat
