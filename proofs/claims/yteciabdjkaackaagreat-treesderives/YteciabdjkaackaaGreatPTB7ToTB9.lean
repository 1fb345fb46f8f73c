import Derived.Test.YteciabdjkaackaaGreatPTB5ToTB6
namespace Go.Proofs.YteciabdjkaackaaGreat
set_option linter.unusedVariables false
open Go.RowKit
def dvO (g:GV)(pl wl:Value)(u r:Int)(o:Nat):Option Value:=[Value.slice g.ta g.ts.length g.tc,.slice g.na g.ns.length g.nc,.int .i64 g.start,.slice g.pa g.ps.length g.pc,.slice g.la g.ls.length g.lc,pl,wl,.int .i64 u,.int .i64 r][o]?
theorem BdS.oc {w0:World}{N bb bo:Nat}{OC:Nat->Option Value}{RF:Nat->Option Obj}{A:AB}{w:World}(h:BdS w0 N bb bo OC RF A w){o:Nat}(h1:o≠bo)(h2:o≠bo+1):w.cell? ⟨bb,o,none⟩=OC o:=by
 obtain ⟨a,b,c,d,e⟩:=h
 exact e.oc o h1 h2
def nxS (db:Nat)(g:GV)(pb po j lb lo:Nat)(ll lc:Nat)(L:Int)(w:World):Prop:=w.cell? ⟨db,3,none⟩=some (.slice (some ⟨pb,po,none⟩) g.ps.length g.pc)/\w.cell? ⟨db,5,none⟩=some (.slice (some ⟨lb,lo,none⟩) ll lc)/\w.cell? ⟨lb,lo,none⟩=some (.int .i64 (j:Int))/\w.cell? ⟨pb,po+j*3,none⟩=some (.int .i64 L)
theorem nxS.later {db:Nat}{g:GV}{pb po j lb lo:Nat}{ll lc:Nat}{L:Int}{w w':World}(h:nxS db g pb po j lb lo ll lc L w)(hb:Below w.heap.size w w'):nxS db g pb po j lb lo ll lc L w':=⟨cellW hb h.1,cellW hb h.2.1,cellW hb h.2.2.1,cellW hb h.2.2.2⟩
section
variable {w0:World} {N db:Nat} {RF:Nat->Option Obj} {w:World} {g:GV} {pa:Option Addr} {pc:Nat} {wl:Value} {u r:Int} {D:List TV}
set_option linter.unusedSimpArgs false in
set_option maxRecDepth 100000 in
set_option maxHeartbeats 4000000 in
theorem next_no {l:List Int}(h:BdS w0 N db 9 (dvO g (.slice pa l.length pc) wl u r) RF (D,[]) w)(hg:GAt 140737488355328 w g)(hl:InRow w pa l)(hne:l≠[]){j:Nat}(hj:l.getD 0 0=(j:Int))(hjl:j < g.ps.length):Calls Tryz.prog 107 #[.pointer (some ⟨db,0,none⟩)] w fun e w'=>e=.returned (.agg #[.int .i64 2,.int .i64 (g.ps.getD j .none).left])/\Below w.heap.size w w':=by
 have hdb:db < w.heap.size:=by
  obtain ⟨a,b,c,d,e⟩:=h
  obtain ⟨C,ty,hC,-⟩:=e.bk
  exact lt_of_block hC
 have c3:=h.oc (o:=3) (by omega) (by omega)
 have c5:=h.oc (o:=5) (by omega) (by omega)
 obtain ⟨oa,ocp,co⟩:∃ oa ocp,w.cell? ⟨db,9,none⟩=some (.slice oa 0 ocp):=by
  obtain ⟨a,b,⟨E,T⟩,⟨hs1,hs2⟩,e⟩:=h
  cases T with
  | cons x T=>exact hs2.elim
  | nil =>
   have hno:NDo w a []:=e.no
   obtain ⟨oa,ocp,rfl,_⟩:=RO.len hno
   exact ⟨oa,ocp,e.co.1⟩
 simp only [dvO,List.getElem?_cons_succ,List.getElem?_cons_zero] at c3 c5
 obtain ⟨pb,po,hpa,-,k0,-⟩:=ps_cells hg hjl
 obtain ⟨lb,lo,rfl,-,hcl⟩:=hl hne
 have k1:=hcl 0 (List.length_pos_iff.2 hne)
 rw [hj,Nat.add_zero] at k1
 rw [hpa] at c3
 have hpos:0 < l.length:=List.length_pos_iff.2 hne
 have jlt:(j:Int) < (g.ps.length:Int):=by omega
 obtain ⟨L,hL⟩:∃ L,(g.ps.getD j .none).left=L:=⟨_,rfl⟩
 rw [hL] at k0 ⊢
 have S0:Hid (nxS db g pb po j lb lo l.length pc L w):=⟨c3,c5,k1,k0⟩
 have CO:Hid (∀ w',Below w.heap.size w w'->w'.cell? ⟨db,9,none⟩=some (.slice oa 0 ocp)):=fun w' hb=>(hb.cell (p:=⟨db,9,none⟩) hdb).trans co
 clear h hg hl hne hj hjl hdb c3 c5 co hpa k0 hcl k1 hL
 generalize l.length=ll at *
 go_enter Tryz.func107,Tryz.ntmps107
 go_upto_region 1 with fail
 refine wp_world (fun w'=>Below w.heap.size w w'/\w'.heap[w.heap.size]?=some (yBoxC 0 0)) ⟨bAl _ _,heap_alloc_new _ _⟩ fun w1 h1=>?_
 have H1:Hid (Below w.heap.size w w1/\w1.heap[w.heap.size]?=some (yBoxC 0 0)):=h1
 clear h1
 have co:=CO.out _ H1.out.1
 go_upto_region 2 with fail
 clear co
 obtain ⟨wd,hwd⟩:∃ wd:World,wd=w1.drew:=⟨_,rfl⟩
 have HD:Hid (Below w.heap.size w wd/\wd.heap[w.heap.size]?=some (yBoxC 0 0)):=by rw [hwd];exact ⟨H1.out.1.drew,H1.out.2⟩
 have hs:Hid (nxS db g pb po j lb lo ll pc L wd):=S0.out.later HD.out.1
 refine wp_region_x (S:=SX 15 (fun _=>True) (nxS db g pb po j lb lo ll pc L)) (by kernel_rfl) ?_
 rw [<- hwd]
 clear hwd H1 CO
 refine wpAnyX_takeBM (m:=15) (i:=0) (v:=?_) rfl (by kernel_rfl) (by kernel_rfl) (by decide) (by decide +kernel) (by decide +kernel) (fun _ _ _ h=>h) (by kernel_rfl) (Or.inl ⟨by rfl,?_⟩) (SX.both trivial hs.out) ?_
 rotate_left
 ·(intro w hSw;have z0:=hSw.2;unfold nxS at z0;obtain ⟨z1,z2,z3,z4⟩:=z0;clear hSw;go_simp;try (with_reducible rfl))
 (try simp only [Act.put,List.setIfInBounds_toArray,List.set_cons_zero,List.set_cons_succ])
 refine wpAnyX_takeBM (m:=15) (i:=1) (v:=?_) rfl (by kernel_rfl) (by kernel_rfl) (by decide) (by decide +kernel) (by decide +kernel) (fun _ _ _ h=>h) (by kernel_rfl) (Or.inl ⟨by rfl,?_⟩) (SX.both trivial hs.out) ?_
 rotate_left
 ·(intro w hSw;have z0:=hSw.2;unfold nxS at z0;obtain ⟨z1,z2,z3,z4⟩:=z0;clear hSw;go_simp;try (with_reducible rfl))
 (try simp only [Act.put,List.setIfInBounds_toArray,List.set_cons_zero,List.set_cons_succ])
 refine wpAnyX_takeBM (m:=15) (i:=2) (v:=?_) rfl (by kernel_rfl) (by kernel_rfl) (by decide) (by decide +kernel) (by decide +kernel) (fun _ _ _ h=>h) (by kernel_rfl) (Or.inl ⟨by rfl,?_⟩) (SX.both trivial hs.out) ?_
 rotate_left
 ·(intro w hSw;have z0:=hSw.2;unfold nxS at z0;obtain ⟨z1,z2,z3,z4⟩:=z0;clear hSw;go_simp;try (with_reducible rfl))
 (try simp only [Act.put,List.setIfInBounds_toArray,List.set_cons_zero,List.set_cons_succ])
 refine wpAnyX_takeBM (m:=15) (i:=3) (v:=?_) rfl (by kernel_rfl) (by kernel_rfl) (by decide) (by decide +kernel) (by decide +kernel) (fun _ _ _ h=>h) (by kernel_rfl) (Or.inl ⟨by rfl,?_⟩) (SX.both trivial hs.out) ?_
 rotate_left
 ·(intro w hSw;have z0:=hSw.2;unfold nxS at z0;obtain ⟨z1,z2,z3,z4⟩:=z0;clear hSw;go_simp;try (with_reducible rfl))
 (try simp only [Act.put,List.setIfInBounds_toArray,List.set_cons_zero,List.set_cons_succ])
 refine wpAnyX_takeBM (m:=15) (i:=4) (v:=?_) rfl (by kernel_rfl) (by kernel_rfl) (by decide) (by decide +kernel) (by decide +kernel) (fun _ _ _ h=>h) (by kernel_rfl) (Or.inl ⟨by rfl,?_⟩) (SX.both trivial hs.out) ?_
 rotate_left
 ·(intro w hSw;have z0:=hSw.2;unfold nxS at z0;obtain ⟨z1,z2,z3,z4⟩:=z0;clear hSw;go_simp;try (with_reducible rfl))
 (try simp only [Act.put,List.setIfInBounds_toArray,List.set_cons_zero,List.set_cons_succ])
 refine wpAnyX_takeBM (m:=15) (i:=5) (v:=?_) rfl (by kernel_rfl) (by kernel_rfl) (by decide) (by decide +kernel) (by decide +kernel) (fun _ _ _ h=>h) (by kernel_rfl) (Or.inl ⟨by rfl,?_⟩) (SX.both trivial hs.out) ?_
 rotate_left
 ·(intro w hSw;have z0:=hSw.2;unfold nxS at z0;obtain ⟨z1,z2,z3,z4⟩:=z0;clear hSw;go_simp;try (with_reducible rfl))
 (try simp only [Act.put,List.setIfInBounds_toArray,List.set_cons_zero,List.set_cons_succ])
 refine wpAnyX_takeBM (m:=15) (i:=6) (v:=?_) rfl (by kernel_rfl) (by kernel_rfl) (by decide) (by decide +kernel) (by decide +kernel) (fun _ _ _ h=>h) (by kernel_rfl) (Or.inl ⟨by rfl,?_⟩) (SX.both trivial hs.out) ?_
 rotate_left
 ·(intro w hSw;have z0:=hSw.2;unfold nxS at z0;obtain ⟨z1,z2,z3,z4⟩:=z0;clear hSw;go_simp;try (with_reducible rfl))
 (try simp only [Act.put,List.setIfInBounds_toArray,List.set_cons_zero,List.set_cons_succ])
 refine wpAnyX_takeBM (m:=15) (i:=7) (v:=?_) rfl (by kernel_rfl) (by kernel_rfl) (by decide) (by decide +kernel) (by decide +kernel) (fun _ _ _ h=>h) (by kernel_rfl) (Or.inl ⟨by rfl,?_⟩) (SX.both trivial hs.out) ?_
 rotate_left
 ·(intro w hSw;have z0:=hSw.2;unfold nxS at z0;obtain ⟨z1,z2,z3,z4⟩:=z0;clear hSw;go_simp;try (with_reducible rfl))
 (try simp only [Act.put,List.setIfInBounds_toArray,List.set_cons_zero,List.set_cons_succ])
 refine wpAnyX_takeBM (m:=15) (i:=8) (v:=?_) rfl (by kernel_rfl) (by kernel_rfl) (by decide) (by decide +kernel) (by decide +kernel) (fun _ _ _ h=>h) (by kernel_rfl) (Or.inl ⟨by rfl,?_⟩) (SX.both trivial hs.out) ?_
 rotate_left
 ·(intro w hSw;have z0:=hSw.2;unfold nxS at z0;obtain ⟨z1,z2,z3,z4⟩:=z0;clear hSw;go_simp;try (with_reducible rfl))
 (try simp only [Act.put,List.setIfInBounds_toArray,List.set_cons_zero,List.set_cons_succ])
 refine wpAnyX_takeBM (m:=15) (i:=9) (v:=?_) rfl (by kernel_rfl) (by kernel_rfl) (by decide) (by decide +kernel) (by decide +kernel) (fun _ _ _ h=>h) (by kernel_rfl) (Or.inl ⟨by rfl,?_⟩) (SX.both trivial hs.out) ?_
 rotate_left
 ·(intro w hSw;have z0:=hSw.2;unfold nxS at z0;obtain ⟨z1,z2,z3,z4⟩:=z0;clear hSw;go_simp;try (with_reducible rfl))
 (try simp only [Act.put,List.setIfInBounds_toArray,List.set_cons_zero,List.set_cons_succ])
 refine wpAnyX_takeBM (m:=15) (i:=10) (v:=?_) rfl (by kernel_rfl) (by kernel_rfl) (by decide) (by decide +kernel) (by decide +kernel) (fun _ _ _ h=>h) (by kernel_rfl) (Or.inl ⟨by rfl,?_⟩) (SX.both trivial hs.out) ?_
 rotate_left
 ·(intro w hSw;have z0:=hSw.2;unfold nxS at z0;obtain ⟨z1,z2,z3,z4⟩:=z0;clear hSw;go_simp;try (with_reducible rfl))
 (try simp only [Act.put,List.setIfInBounds_toArray,List.set_cons_zero,List.set_cons_succ])
 refine wpAnyX_takeBM (m:=15) (i:=11) (v:=?_) rfl (by kernel_rfl) (by kernel_rfl) (by decide) (by decide +kernel) (by decide +kernel) (fun _ _ _ h=>h) (by kernel_rfl) (Or.inl ⟨by rfl,?_⟩) (SX.both trivial hs.out) ?_
 rotate_left
 ·(intro w hSw;have z0:=hSw.2;unfold nxS at z0;obtain ⟨z1,z2,z3,z4⟩:=z0;clear hSw;go_simp;try (with_reducible rfl))
 (try simp only [Act.put,List.setIfInBounds_toArray,List.set_cons_zero,List.set_cons_succ])
 refine wpAnyX_takeBM (m:=15) (i:=12) (v:=?_) rfl (by kernel_rfl) (by kernel_rfl) (by decide) (by decide +kernel) (by decide +kernel) (fun _ _ _ h=>h) (by kernel_rfl) (Or.inl ⟨by rfl,?_⟩) (SX.both trivial hs.out) ?_
 rotate_left
 ·(intro w hSw;have z0:=hSw.2;unfold nxS at z0;obtain ⟨z1,z2,z3,z4⟩:=z0;clear hSw;go_simp;try (with_reducible rfl))
 (try simp only [Act.put,List.setIfInBounds_toArray,List.set_cons_zero,List.set_cons_succ])
 refine wpAnyX_takeBM (m:=15) (i:=13) (v:=?_) rfl (by kernel_rfl) (by kernel_rfl) (by decide) (by decide +kernel) (by decide +kernel) (fun _ _ _ h=>h) (by kernel_rfl) (Or.inl ⟨by rfl,?_⟩) (SX.both trivial hs.out) ?_
 rotate_left
 ·(intro w hSw;have z0:=hSw.2;unfold nxS at z0;obtain ⟨z1,z2,z3,z4⟩:=z0;clear hSw;go_simp;try (with_reducible rfl))
 (try simp only [Act.put,List.setIfInBounds_toArray,List.set_cons_zero,List.set_cons_succ])
 refine wX1 (j:=14) (by decide +kernel) rfl (fun K' hK=>?_)
 refine sCX rfl 127 #[.int .i64 L] _ (run_W1 ent_non (v0:=.int .i64 L) (by rfl) (by rfl)) (non_W L _) ?_
 rintro e w3 ⟨rfl,b3⟩
 have hs3:Hid (nxS db g pb po j lb lo ll pc L w3):=hs.out.later b3
 have B3:Hid (Below w.heap.size w w3/\w3.heap[w.heap.size]?=some (yBoxC 0 0)):=⟨HD.out.1.trans (b3.mono HD.out.1.size),(b3.block _ (lt_of_block HD.out.2)).trans HD.out.2⟩
 clear b3 hs
 refine ⟨_,rfl,hK.out _ _ (SX.both trivial hs3.out) ?_⟩
 clear hK K'
 (try simp only [Act.put,List.setIfInBounds_toArray,List.set_cons_zero,List.set_cons_succ])
 have z0:=(cQa (i:=0) B3.out.2).trans rfl
 have z1:=(cQa (i:=1) B3.out.2).trans rfl
 have zf:∀ i,w3.frozen? ⟨w.heap.size,i,none⟩=false:=(fun i=>by simp [World.frozen?,B3.out.2])
 have RB:Hid (Below w.heap.size w ((w3.setCell ⟨w.heap.size,0,none⟩ (.int .i64 2)).setCell ⟨w.heap.size,1,none⟩ (.int .i64 L))):=(B3.out.1.setCell (p:=⟨w.heap.size,0,none⟩) (Nat.le_refl _) _).setCell (p:=⟨w.heap.size,1,none⟩) (Nat.le_refl _) _
 refine wX1 (j:=15) (by decide +kernel) rfl (fun K' hK=>?_)
 go_simp
 refine hK.out _ _ (SX.one trivial (by kernel_rfl)) ?_
 clear hK K'
 (try simp only [Act.put,List.setIfInBounds_toArray,List.set_cons_zero,List.set_cons_succ])
 refine wXd (by decide +kernel) ?_
 go_wp2
 refine bodyPost_ret (v:=.agg #[.int .i64 2,.int .i64 L]) (by simp [results,Tryz.results107,go_sem,z0,z1]) rfl ?_
 exact ⟨rfl,RB.out⟩
end
theorem run_kids1 {o:Oper}{a:Act}{t0:TypeId}{v0:Value}{x0:Operand}(hop:o.op=Op.call { callee:=Callee.value (Operand.func 129),args:=#[x0],argTypes:=#[t0] })(h0:a.eval x0=v0)(w:World):(execOp a.eval o).run Tryz.prog w=.ok (.enter 129 #[v0]) w:=by
 have hf:a.eval (Operand.func 129)=.func (.func 129) #[] #[]:=rfl
 simp [execOp,hop,resolve,invoke,h0,hf,Deferred.ofValue]
def ntS (db:Nat)(g:GV)(pb po j rb ro i:Nat)(rl rc:Nat)(s1 s2:Int)(w:World):Prop:=w.cell? ⟨db,3,none⟩=some (.slice (some ⟨pb,po,none⟩) g.ps.length g.pc)/\w.cell? ⟨pb,po+j*3+1,none⟩=some (.slice (some ⟨rb,ro,none⟩) rl rc)/\w.cell? ⟨rb,ro+i*2,none⟩=some (.int .i64 s1)/\w.cell? ⟨rb,ro+i*2+1,none⟩=some (.int .i64 s2)
theorem ntS.later {db:Nat}{g:GV}{pb po j rb ro i:Nat}{rl rc:Nat}{s1 s2:Int}{w w':World}(h:ntS db g pb po j rb ro i rl rc s1 s2 w)(hb:Below w.heap.size w w'):ntS db g pb po j rb ro i rl rc s1 s2 w':=⟨cellW hb h.1,cellW hb h.2.1,cellW hb h.2.2.1,cellW hb h.2.2.2⟩
section
variable {w0:World} {N db:Nat} {RF:Nat->Option Obj} {w:World} {g:GV} {pl wl:Value} {u r:Int} {D:List TV}
set_option linter.unusedSimpArgs false in
set_option maxRecDepth 100000 in
set_option maxHeartbeats 4000000 in
theorem next_some {f:FrB}{S:List FrB}(h:BdS w0 N db 9 (dvO g pl wl u r) RF (D,f :: S) w)(hz:(dlA (D,f :: S)).length+(f :: S).length<=1000000000)(hg:GAt 140737488355328 w g){j:Nat}(hj:f.p=(j:Int))(hjl:j < g.ps.length)(hk:f.ks.length < (g.ps.getD j .none).right.length):Calls Tryz.prog 107 #[.pointer (some ⟨db,0,none⟩)] w fun e w'=>e=.returned (.agg #[.int .i64 ((g.ps.getD j .none).right.getD f.ks.length (0,0)).1,.int .i64 ((g.ps.getD j .none).right.getD f.ks.length (0,0)).2])/\Below w.heap.size w w':=by
 have c3:=h.oc (o:=3) (by omega) (by omega)
 simp only [dvO,List.getElem?_cons_succ,List.getElem?_cons_zero] at c3
 obtain ⟨pb,po,hpa,-,-,k0,hsr⟩:=ps_cells hg hjl
 obtain ⟨rb,ro,hra,-,hrc⟩:=hsr (by intro e;rw [e] at hk;simp at hk)
 obtain ⟨q1,q2⟩:=hrc f.ks.length hk
 rw [hpa] at c3
 rw [hra] at k0
 obtain ⟨vo,vd,⟨E,T⟩,hs,hM⟩:=h
 have hzE:=dlA_len hs
 cases T with
 | nil=>exact hs.2.elim
 | cons x T =>
  obtain ⟨h1,h2,h3,h4,h5⟩:=hs
  have hn:=nlA_len (E,T)
  have hTl:=samS_len h5
  dsimp only at hn
  rw [nlA_cons,dlA_cons] at hM
  rw [dlA_cons,List.length_append] at hzE
  simp only [List.length_cons] at hz
  have CK:Hid (∀ w',Below w.heap.size w w'->Calls Tryz.prog 129 #[.pointer (some ⟨db,9,none⟩)] w' fun e w''=>e=.returned (.int .i64 (x.ks.length:Int))/\Below w'.heap.size w' w''):=fun w' hb=>kids_B2 (hM.later hb) (by omega) (by rw [List.length_append];omega)
  have CL:Hid (∀ w',Below w.heap.size w w'->Calls Tryz.prog 128 #[.pointer (some ⟨db,9,none⟩)] w' fun e w''=>e=.returned (.agg #[.int .i64 x.p,.int .i64 (x.k:Int),.int .i64 ((dlA (E,T)).length:Int)])/\Below w'.heap.size w' w''):=fun w' hb=>last_B (hM.later hb) (by omega)
  obtain ⟨oa,ocp,e0,-⟩:=RO.len hM.no
  have co:=hM.co.1
  rw [e0,List.length_append,List.length_singleton] at co
  have hdb:db < w.heap.size:=by
   obtain ⟨C,ty,hC,-⟩:=hM.bk
   exact lt_of_block hC
  rw [h4.1] at CK
  rw [h2,hj] at CL
  obtain ⟨rl,hrl⟩:∃ rl,(g.ps.getD j .none).right.length=rl:=⟨_,rfl⟩
  rw [hrl] at k0 hk
  obtain ⟨rc,hrc'⟩:∃ rc,(g.ps.getD j .none).rc=rc:=⟨_,rfl⟩
  rw [hrc'] at k0
  obtain ⟨s,hss⟩:∃ s,(g.ps.getD j .none).right.getD f.ks.length (0,0)=s:=⟨_,rfl⟩
  rw [hss] at q1 q2 ⊢
  obtain ⟨i,hi⟩:∃ i,f.ks.length=i:=⟨_,rfl⟩
  rw [hi] at q1 q2 CK hk
  obtain ⟨s1,s2⟩:=s
  dsimp only at q1 q2 ⊢
  have jlt:(j:Int) < (g.ps.length:Int):=by omega
  have ilt:(i:Int) < (rl:Int):=by omega
  have S0:Hid (ntS db g pb po j rb ro i rl rc s1 s2 w):=⟨c3,k0,q1,q2⟩
  obtain ⟨nn,hnn⟩:∃ nn,(nlA (E,T)).length=nn:=⟨_,rfl⟩
  rw [hnn] at co
  obtain ⟨m,hm⟩:∃ m,(dlA (E,T)).length=m:=⟨_,rfl⟩
  rw [hm] at CL
  generalize x.k=k at *
  have CO:Hid (∀ w',Below w.heap.size w w'->w'.cell? ⟨db,9,none⟩=some (.slice oa (nn+1) ocp)):=fun w' hb=>(hb.cell (p:=⟨db,9,none⟩) hdb).trans co
  clear hM h1 h2 h3 h4 h5 hz hzE hn hTl hg hj hk hpa hra hrc q1 q2 c3 k0 co hdb hrl hrc' hss hi hnn hm e0 hjl
  go_enter Tryz.func107,Tryz.ntmps107
  go_upto_region 1 with fail
  refine wp_world (fun w'=>Below w.heap.size w w'/\w'.heap[w.heap.size]?=some (yBoxC 0 0)) ⟨bAl _ _,heap_alloc_new _ _⟩ fun w1 h1=>?_
  have H1:Hid (Below w.heap.size w w1/\w1.heap[w.heap.size]?=some (yBoxC 0 0)):=h1
  clear h1
  have co:=CO.out _ H1.out.1
  have npos:¬ (nn:Int)+1=0:=by omega
  go_upto_region 3 with fail
  clear co npos
  obtain ⟨wd,hwd⟩:∃ wd:World,wd=w1.drew:=⟨_,rfl⟩
  have HD:Hid (Below w.heap.size w wd/\wd.heap[w.heap.size]?=some (yBoxC 0 0)):=by rw [hwd];exact ⟨H1.out.1.drew,H1.out.2⟩
  have hs:Hid (ntS db g pb po j rb ro i rl rc s1 s2 wd):=S0.out.later HD.out.1
  refine wp_region_x (S:=SX 19 (fun _=>True) (ntS db g pb po j rb ro i rl rc s1 s2)) (by kernel_rfl) ?_
  rw [<- hwd]
  clear hwd H1 CO
  refine wpAnyX_takeBM (m:=19) (i:=0) (v:=?_) rfl (by kernel_rfl) (by kernel_rfl) (by decide) (by decide +kernel) (by decide +kernel) (fun _ _ _ h=>h) (by kernel_rfl) (Or.inl ⟨by rfl,?_⟩) (SX.both trivial hs.out) ?_
  rotate_left
  ·(intro w hSw;have fd:=fun w=>nd_field0 (j:Int) (k:Int) (m:Int) w;have z0:=hSw.2;unfold ntS at z0;obtain ⟨z1,z2,z3,z4⟩:=z0;clear hSw;go_simp;try (with_reducible rfl))
  (try simp only [Act.put,List.setIfInBounds_toArray,List.set_cons_zero,List.set_cons_succ])
  refine wpAnyX_takeBM (m:=19) (i:=1) (v:=?_) rfl (by kernel_rfl) (by kernel_rfl) (by decide) (by decide +kernel) (by decide +kernel) (fun _ _ _ h=>h) (by kernel_rfl) (Or.inl ⟨by rfl,?_⟩) (SX.both trivial hs.out) ?_
  rotate_left
  ·(intro w hSw;have fd:=fun w=>nd_field0 (j:Int) (k:Int) (m:Int) w;have z0:=hSw.2;unfold ntS at z0;obtain ⟨z1,z2,z3,z4⟩:=z0;clear hSw;go_simp;try (with_reducible rfl))
  (try simp only [Act.put,List.setIfInBounds_toArray,List.set_cons_zero,List.set_cons_succ])
  refine wpAnyX_takeBM (m:=19) (i:=2) (v:=?_) rfl (by kernel_rfl) (by kernel_rfl) (by decide) (by decide +kernel) (by decide +kernel) (fun _ _ _ h=>h) (by kernel_rfl) (Or.inl ⟨by rfl,?_⟩) (SX.both trivial hs.out) ?_
  rotate_left
  ·(intro w hSw;have fd:=fun w=>nd_field0 (j:Int) (k:Int) (m:Int) w;have z0:=hSw.2;unfold ntS at z0;obtain ⟨z1,z2,z3,z4⟩:=z0;clear hSw;go_simp;try (with_reducible rfl))
  (try simp only [Act.put,List.setIfInBounds_toArray,List.set_cons_zero,List.set_cons_succ])
  refine wpAnyX_takeBM (m:=19) (i:=3) (v:=?_) rfl (by kernel_rfl) (by kernel_rfl) (by decide) (by decide +kernel) (by decide +kernel) (fun _ _ _ h=>h) (by kernel_rfl) (Or.inl ⟨by rfl,?_⟩) (SX.both trivial hs.out) ?_
  rotate_left
  ·(intro w hSw;have fd:=fun w=>nd_field0 (j:Int) (k:Int) (m:Int) w;have z0:=hSw.2;unfold ntS at z0;obtain ⟨z1,z2,z3,z4⟩:=z0;clear hSw;go_simp;try (with_reducible rfl))
  (try simp only [Act.put,List.setIfInBounds_toArray,List.set_cons_zero,List.set_cons_succ])
  refine wpAnyX_takeBM (m:=19) (i:=4) (v:=?_) rfl (by kernel_rfl) (by kernel_rfl) (by decide) (by decide +kernel) (by decide +kernel) (fun _ _ _ h=>h) (by kernel_rfl) (Or.inl ⟨by rfl,?_⟩) (SX.both trivial hs.out) ?_
  rotate_left
  ·(intro w hSw;have fd:=fun w=>nd_field0 (j:Int) (k:Int) (m:Int) w;have z0:=hSw.2;unfold ntS at z0;obtain ⟨z1,z2,z3,z4⟩:=z0;clear hSw;go_simp;try (with_reducible rfl))
  (try simp only [Act.put,List.setIfInBounds_toArray,List.set_cons_zero,List.set_cons_succ])
  refine wpAnyX_takeBM (m:=19) (i:=5) (v:=?_) rfl (by kernel_rfl) (by kernel_rfl) (by decide) (by decide +kernel) (by decide +kernel) (fun _ _ _ h=>h) (by kernel_rfl) (Or.inl ⟨by rfl,?_⟩) (SX.both trivial hs.out) ?_
  rotate_left
  ·(intro w hSw;have fd:=fun w=>nd_field0 (j:Int) (k:Int) (m:Int) w;have z0:=hSw.2;unfold ntS at z0;obtain ⟨z1,z2,z3,z4⟩:=z0;clear hSw;go_simp;try (with_reducible rfl))
  (try simp only [Act.put,List.setIfInBounds_toArray,List.set_cons_zero,List.set_cons_succ])
  refine wpAnyX_takeBM (m:=19) (i:=6) (v:=?_) rfl (by kernel_rfl) (by kernel_rfl) (by decide) (by decide +kernel) (by decide +kernel) (fun _ _ _ h=>h) (by kernel_rfl) (Or.inl ⟨by rfl,?_⟩) (SX.both trivial hs.out) ?_
  rotate_left
  ·(intro w hSw;have fd:=fun w=>nd_field0 (j:Int) (k:Int) (m:Int) w;have z0:=hSw.2;unfold ntS at z0;obtain ⟨z1,z2,z3,z4⟩:=z0;clear hSw;go_simp;try (with_reducible rfl))
  (try simp only [Act.put,List.setIfInBounds_toArray,List.set_cons_zero,List.set_cons_succ])
  refine wpAnyX_takeBM (m:=19) (i:=7) (v:=?_) rfl (by kernel_rfl) (by kernel_rfl) (by decide) (by decide +kernel) (by decide +kernel) (fun _ _ _ h=>h) (by kernel_rfl) (Or.inl ⟨by rfl,?_⟩) (SX.both trivial hs.out) ?_
  rotate_left
  ·(intro w hSw;have fd:=fun w=>nd_field0 (j:Int) (k:Int) (m:Int) w;have z0:=hSw.2;unfold ntS at z0;obtain ⟨z1,z2,z3,z4⟩:=z0;clear hSw;go_simp;try (with_reducible rfl))
  (try simp only [Act.put,List.setIfInBounds_toArray,List.set_cons_zero,List.set_cons_succ])
  refine wpAnyX_takeBM (m:=19) (i:=13) (v:=?_) rfl (by kernel_rfl) (by kernel_rfl) (by decide) (by decide +kernel) (by decide +kernel) (fun _ _ _ h=>h) (by kernel_rfl) (Or.inl ⟨by rfl,?_⟩) (SX.both trivial hs.out) ?_
  rotate_left
  ·(intro w hSw;have fd:=fun w=>nd_field0 (j:Int) (k:Int) (m:Int) w;have z0:=hSw.2;unfold ntS at z0;obtain ⟨z1,z2,z3,z4⟩:=z0;clear hSw;go_simp;try (with_reducible rfl))
  (try simp only [Act.put,List.setIfInBounds_toArray,List.set_cons_zero,List.set_cons_succ])
  refine wpAnyX_takeBM (m:=19) (i:=14) (v:=?_) rfl (by kernel_rfl) (by kernel_rfl) (by decide) (by decide +kernel) (by decide +kernel) (fun _ _ _ h=>h) (by kernel_rfl) (Or.inl ⟨by rfl,?_⟩) (SX.both trivial hs.out) ?_
  rotate_left
  ·(intro w hSw;have fd:=fun w=>nd_field0 (j:Int) (k:Int) (m:Int) w;have z0:=hSw.2;unfold ntS at z0;obtain ⟨z1,z2,z3,z4⟩:=z0;clear hSw;go_simp;try (with_reducible rfl))
  (try simp only [Act.put,List.setIfInBounds_toArray,List.set_cons_zero,List.set_cons_succ])
  refine wpAnyX_takeBM (m:=19) (i:=15) (v:=?_) rfl (by kernel_rfl) (by kernel_rfl) (by decide) (by decide +kernel) (by decide +kernel) (fun _ _ _ h=>h) (by kernel_rfl) (Or.inl ⟨by rfl,?_⟩) (SX.both trivial hs.out) ?_
  rotate_left
  ·(intro w hSw;have fd:=fun w=>nd_field0 (j:Int) (k:Int) (m:Int) w;have z0:=hSw.2;unfold ntS at z0;obtain ⟨z1,z2,z3,z4⟩:=z0;clear hSw;go_simp;try (with_reducible rfl))
  (try simp only [Act.put,List.setIfInBounds_toArray,List.set_cons_zero,List.set_cons_succ])
  refine wX1 (j:=8) (by decide +kernel) rfl (fun K' hK=>?_)
  refine sCX rfl 128 #[.pointer (some ⟨db,9,none⟩)] _ (run_last1 (v0:=.pointer (some ⟨db,9,none⟩)) (by rfl) (by rfl) _) (CL.out _ HD.out.1) ?_
  rintro e w3 ⟨rfl,b3⟩
  have hs3:Hid (ntS db g pb po j rb ro i rl rc s1 s2 w3):=hs.out.later b3
  have B3:Hid (Below w.heap.size w w3/\w3.heap[w.heap.size]?=some (yBoxC 0 0)):=⟨HD.out.1.trans (b3.mono HD.out.1.size),(b3.block _ (lt_of_block HD.out.2)).trans HD.out.2⟩
  clear b3 hs
  refine ⟨_,rfl,hK.out _ _ (SX.both trivial hs3.out) ?_⟩
  clear hK K'
  (try simp only [Act.put,List.setIfInBounds_toArray,List.set_cons_zero,List.set_cons_succ])
  refine wpAnyX_takeBM (m:=19) (i:=9) (v:=?_) rfl (by kernel_rfl) (by kernel_rfl) (by decide) (by decide +kernel) (by decide +kernel) (fun _ _ _ h=>h) (by kernel_rfl) (Or.inl ⟨by rfl,?_⟩) (SX.both trivial hs3.out) ?_
  rotate_left
  ·(intro w hSw;have fd:=fun w=>nd_field0 (j:Int) (k:Int) (m:Int) w;have z0:=hSw.2;unfold ntS at z0;obtain ⟨z1,z2,z3,z4⟩:=z0;clear hSw;go_simp;try (with_reducible rfl))
  (try simp only [Act.put,List.setIfInBounds_toArray,List.set_cons_zero,List.set_cons_succ])
  refine wpAnyX_takeBM (m:=19) (i:=10) (v:=?_) rfl (by kernel_rfl) (by kernel_rfl) (by decide) (by decide +kernel) (by decide +kernel) (fun _ _ _ h=>h) (by kernel_rfl) (Or.inl ⟨by rfl,?_⟩) (SX.both trivial hs3.out) ?_
  rotate_left
  ·(intro w hSw;have fd:=fun w=>nd_field0 (j:Int) (k:Int) (m:Int) w;have z0:=hSw.2;unfold ntS at z0;obtain ⟨z1,z2,z3,z4⟩:=z0;clear hSw;go_simp;try (with_reducible rfl))
  (try simp only [Act.put,List.setIfInBounds_toArray,List.set_cons_zero,List.set_cons_succ])
  refine wpAnyX_takeBM (m:=19) (i:=11) (v:=?_) rfl (by kernel_rfl) (by kernel_rfl) (by decide) (by decide +kernel) (by decide +kernel) (fun _ _ _ h=>h) (by kernel_rfl) (Or.inl ⟨by rfl,?_⟩) (SX.both trivial hs3.out) ?_
  rotate_left
  ·(intro w hSw;have fd:=fun w=>nd_field0 (j:Int) (k:Int) (m:Int) w;have z0:=hSw.2;unfold ntS at z0;obtain ⟨z1,z2,z3,z4⟩:=z0;clear hSw;go_simp;try (with_reducible rfl))
  (try simp only [Act.put,List.setIfInBounds_toArray,List.set_cons_zero,List.set_cons_succ])
  refine wpAnyX_takeBM (m:=19) (i:=12) (v:=?_) rfl (by kernel_rfl) (by kernel_rfl) (by decide) (by decide +kernel) (by decide +kernel) (fun _ _ _ h=>h) (by kernel_rfl) (Or.inl ⟨by rfl,?_⟩) (SX.both trivial hs3.out) ?_
  rotate_left
  ·(intro w hSw;have fd:=fun w=>nd_field0 (j:Int) (k:Int) (m:Int) w;have z0:=hSw.2;unfold ntS at z0;obtain ⟨z1,z2,z3,z4⟩:=z0;clear hSw;go_simp;try (with_reducible rfl))
  (try simp only [Act.put,List.setIfInBounds_toArray,List.set_cons_zero,List.set_cons_succ])
  refine wX1 (j:=16) (by decide +kernel) rfl (fun K' hK=>?_)
  refine sCX rfl 129 #[.pointer (some ⟨db,9,none⟩)] _ (run_kids1 (v0:=.pointer (some ⟨db,9,none⟩)) (by rfl) (by rfl) _) (CK.out _ B3.out.1) ?_
  rintro e w4 ⟨rfl,b4⟩
  have hs4:Hid (ntS db g pb po j rb ro i rl rc s1 s2 w4):=hs3.out.later b4
  have B4:Hid (Below w.heap.size w w4/\w4.heap[w.heap.size]?=some (yBoxC 0 0)):=⟨B3.out.1.trans (b4.mono B3.out.1.size),(b4.block _ (lt_of_block B3.out.2)).trans B3.out.2⟩
  clear b4 hs3
  refine ⟨_,rfl,hK.out _ _ (SX.both trivial hs4.out) ?_⟩
  clear hK K'
  (try simp only [Act.put,List.setIfInBounds_toArray,List.set_cons_zero,List.set_cons_succ])
  refine wpAnyX_takeBM (m:=19) (i:=17) (v:=?_) rfl (by kernel_rfl) (by kernel_rfl) (by decide) (by decide +kernel) (by decide +kernel) (fun _ _ _ h=>h) (by kernel_rfl) (Or.inl ⟨by rfl,?_⟩) (SX.both trivial hs4.out) ?_
  rotate_left
  ·(intro w hSw;have fd:=fun w=>nd_field0 (j:Int) (k:Int) (m:Int) w;have z0:=hSw.2;unfold ntS at z0;obtain ⟨z1,z2,z3,z4⟩:=z0;clear hSw;go_simp;try (with_reducible rfl))
  (try simp only [Act.put,List.setIfInBounds_toArray,List.set_cons_zero,List.set_cons_succ])
  refine wpAnyX_takeBM (m:=19) (i:=18) (v:=?_) rfl (by kernel_rfl) (by kernel_rfl) (by decide) (by decide +kernel) (by decide +kernel) (fun _ _ _ h=>h) (by kernel_rfl) (Or.inl ⟨by rfl,?_⟩) (SX.both trivial hs4.out) ?_
  rotate_left
  ·(intro w hSw;have fd:=fun w=>nd_field0 (j:Int) (k:Int) (m:Int) w;have z0:=hSw.2;unfold ntS at z0;obtain ⟨z1,z2,z3,z4⟩:=z0;clear hSw;go_simp;try (with_reducible rfl))
  (try simp only [Act.put,List.setIfInBounds_toArray,List.set_cons_zero,List.set_cons_succ])
  have z0:=(cQa (i:=0) B4.out.2).trans rfl
  have z1:=(cQa (i:=1) B4.out.2).trans rfl
  have zf:∀ i,w4.frozen? ⟨w.heap.size,i,none⟩=false:=(fun i=>by simp [World.frozen?,B4.out.2])
  have RB:Hid (Below w.heap.size w ((w4.setCell ⟨w.heap.size,0,none⟩ (.int .i64 s1)).setCell ⟨w.heap.size,1,none⟩ (.int .i64 s2))):=(B4.out.1.setCell (p:=⟨w.heap.size,0,none⟩) (Nat.le_refl _) _).setCell (p:=⟨w.heap.size,1,none⟩) (Nat.le_refl _) _
  refine wX1 (j:=19) (by decide +kernel) rfl (fun K' hK=>?_)
  go_simp
  refine hK.out _ _ (SX.one trivial (by kernel_rfl)) ?_
  clear hK K'
  (try simp only [Act.put,List.setIfInBounds_toArray,List.set_cons_zero,List.set_cons_succ])
  refine wXd (by decide +kernel) ?_
  go_wp2
  refine bodyPost_ret (v:=.agg #[.int .i64 s1,.int .i64 s2]) (by simp [results,Tryz.results107,go_sem,z0,z1]) rfl ?_
  exact ⟨rfl,RB.out⟩
end
section
variable {w0:World} {N bb bo:Nat} {OC:Nat->Option Value} {RF:Nat->Option Obj} {vo vd:Value} {NL:List (Int×Nat×Nat)} {DL:List TV} {w:World}
theorem BdM.setC (h:BdM w0 N bb bo OC RF vo vd NL DL w){o:Nat}(h1:o≠bo)(h2:o≠bo+1){c:Value}(hc:OC o=some c)(v:Value):BdM w0 N bb bo (fun i=>if i=o then some v else OC i) RF vo vd NL DL (w.setCell ⟨bb,o,none⟩ v):=by
 obtain ⟨C,ty,hC,n1,n2,c0,c1⟩:=h.bk
 have ho:∀ j,j≠bb->(w.setCell ⟨bb,o,none⟩ v).heap[j]?=w.heap[j]?:=fun j hj=>Below.heap_setCell _ _ _ _ hj
 have hz:(w.setCell ⟨bb,o,none⟩ v).heap.size=w.heap.size:=by simp [World.setCell]
 have hco:C[o]?=some c:=by
  have:=h.oc o h1 h2
  rw [hc,cQa hC] at this
  exact this
 have hlt:o < C.size:=by
  apply Classical.byContradiction
  intro e
  rw [Array.getElem?_eq_none (by omega)] at hco
  cases hco
 have hS:=heap_setCell_same w bb o _ _ v hC
 refine ⟨h.bel.setCell (p:=⟨bb,o,none⟩) h.bn _,by rw [hz];exact h.nz,⟨C.setIfInBounds o v,ty,hS,n1,n2,by rw [Array.getElem?_setIfInBounds_ne h1];exact c0,by rw [Array.getElem?_setIfInBounds_ne h2];exact c1⟩,h.bn,fun i k1 k2=>?_,fun j q hj=>?_,h.no.kept fun j hj=>ho j (fun e=>h.bb_o (by rw [<- e];exact hj)),h.td.kept fun j hj=>ho j (fun e=>h.bb_d (by rw [<- e];exact hj)),h.oo,h.od,fun t ht=>?_,fun a ha=>?_,h.dn⟩
 ·by_cases e:i=o
  ·subst e
   rw [if_pos rfl,cQa hS]
   simp [hlt]
  ·rw [if_neg e,World.cell?_setCell_other _ _ _ _ (fun q=>by simp only [Addr.mk.injEq] at q;exact e q.2.1.symm)]
   exact h.oc i k1 k2
 ·obtain ⟨a,b,c,d⟩:=h.rf j q hj
  exact ⟨(ho j b).trans a,b,c,d⟩
 ·refine keep_at t 0 0 (h.tr t ht) fun a ha=>?_
  have hm:a∈inR DL:=List.mem_flatMap.2 ⟨t,ht,ha⟩
  obtain ⟨-,-,-,cs,hc'⟩:=h.ad a hm
  have e:=ho a.1 (h.o_a hm).2
  exact ⟨lt_of_block (e.trans hc'),fun i _=>World.cell?_of_block e⟩
 ·obtain ⟨a1,b,c,cs,hc'⟩:=h.ad a ha
  exact ⟨a1,b,c,cs,(ho a.1 (h.o_a ha).2).trans hc'⟩
theorem BdS.setC {A:AB}(h:BdS w0 N bb bo OC RF A w){o:Nat}(h1:o≠bo)(h2:o≠bo+1){c:Value}(hc:OC o=some c)(v:Value):BdS w0 N bb bo (fun i=>if i=o then some v else OC i) RF A (w.setCell ⟨bb,o,none⟩ v):=by
 obtain ⟨a,b,B,d,e⟩:=h
 exact ⟨a,b,B,d,e.setC h1 h2 hc v⟩
end
theorem dvO_u (g:GV)(pl wl:Value)(u r u':Int):(fun i=>if i=7 then some (Value.int .i64 u') else dvO g pl wl u r i)=dvO g pl wl u' r:=by
 funext i
 unfold dvO
 rcases i with _ | _ | _ | _ | _ | _ | _ | _ | _ | i<;>simp
theorem dvO_r (g:GV)(pl wl:Value)(u r r':Int):(fun i=>if i=8 then some (Value.int .i64 r') else dvO g pl wl u r i)=dvO g pl wl u r':=by
 funext i
 unfold dvO
 rcases i with _ | _ | _ | _ | _ | _ | _ | _ | _ | i<;>simp
section
variable {w0:World} {N db:Nat} {RF:Nat->Option Obj} {w:World} {g:GV} {pa:Option Addr} {pc:Nat} {wl:Value} {r:Int} {A:AB}
set_option linter.unusedSimpArgs false in
set_option maxRecDepth 100000 in
set_option maxHeartbeats 4000000 in
theorem prod_short {l:List Int}{u:Nat}{s:Int}(h:BdS w0 N db 9 (dvO g (.slice pa l.length pc) wl (u:Int) r) RF A w)(hu:u=l.length):Calls Tryz.prog 109 #[.pointer (some ⟨db,0,none⟩),.int .i64 s] w fun e w'=>e=.returned (.tuple #[.int .i64 11,.int .i64 (u:Int)])/\BdS w0 N db 9 (dvO g (.slice pa l.length pc) wl (u:Int) r) RF A w':=by
 have c5:=h.oc (o:=5) (by omega) (by omega)
 have c7:=h.oc (o:=7) (by omega) (by omega)
 simp only [dvO,List.getElem?_cons_succ,List.getElem?_cons_zero] at c5 c7
 have HH:Hid (BdS w0 N db 9 (dvO g (.slice pa l.length pc) wl (u:Int) r) RF A w):=h
 rw [<- hu] at c5
 clear h hu
 go_enter Tryz.func109,Tryz.ntmps109
 go_upto_region 1 with fail
 obtain ⟨wd,hwd⟩:∃ wd:World,wd=w.drew:=⟨_,rfl⟩
 have HD:Hid (BdS w0 N db 9 (dvO g (.slice pa l.length pc) wl (u:Int) r) RF A wd):=by show BdS _ _ _ _ _ _ _ _;rw [hwd];exact HH.out.later (Below.refl _ _).drew
 have d5:wd.cell? ⟨db,5,none⟩=some (.slice pa u pc):=by rw [hwd];exact c5
 have d7:wd.cell? ⟨db,7,none⟩=some (.int .i64 (u:Int)):=by rw [hwd];exact c7
 refine wp_region_s (by kernel_rfl) (by kernel_rfl) wd hwd ?_
 clear hwd c5 c7 HH
 iterate 10 (refine st_yes (v:=?_) (by rfl) ?_ ?_;rotate_left;(· (go_simp;with_reducible rfl));(try simp only [Act.put,List.setIfInBounds_toArray,List.set_cons_zero,List.set_cons_succ]))
 refine st_nil ?_
 go_upto_region 2 with fail
 obtain ⟨we,hwe⟩:∃ we:World,we=wd.drew:=⟨_,rfl⟩
 have HE:Hid (BdS w0 N db 9 (dvO g (.slice pa l.length pc) wl (u:Int) r) RF A we):=by show BdS _ _ _ _ _ _ _ _;rw [hwe];exact HD.out.later (Below.refl _ _).drew
 have e7:we.cell? ⟨db,7,none⟩=some (.int .i64 (u:Int)):=by rw [hwe];exact d7
 refine wp_region_s (by kernel_rfl) (by kernel_rfl) we hwe ?_
 clear hwe d5 d7 HD
 iterate 6 (refine st_yes (v:=?_) (by rfl) ?_ ?_;rotate_left;(· (go_simp;with_reducible rfl));(try simp only [Act.put,List.setIfInBounds_toArray,List.set_cons_zero,List.set_cons_succ]))
 refine st_nil ?_
 go_wp2
 refine bodyPost_ret (v:=.tuple #[.int .i64 11,.int .i64 (u:Int)]) (by simp [results,Tryz.results109,go_sem]) rfl ?_
 exact ⟨rfl,HE.out⟩
end
end Go.Proofs.YteciabdjkaackaaGreat
