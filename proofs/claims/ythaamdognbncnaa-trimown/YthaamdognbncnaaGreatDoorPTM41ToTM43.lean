import Derived.Test.YthaamdognbncnaaGreatDoorPTM37ToTM40
import Derived.Test.YthaamdognbncnaaGreatDoorPGG0ToGG1
namespace Go.Proofs.YthaamdognbncnaaGreatDoor
set_option linter.unusedVariables false
set_option maxRecDepth 100000
set_option maxHeartbeats 16000000
open Go.RowKit Go.Shelf Go.Maps
theorem run_k2 {o:Oper}{a:Act}{ts:Array TypeId}{v0 v1:Value}{x0 x1:Operand}{F:FuncId}(hE:EntF F)(hop:o.op=Op.call { callee:=Callee.value (Operand.func F),args:=#[x0,x1],argTypes:=ts })(h0:a.eval x0=v0)(h1:a.eval x1=v1)(w:World):(execOp a.eval o).run Tryz.prog w=.ok (.enter F #[v0,v1]) w:=by
 have hf:a.eval (Operand.func F)=.func (.func F) #[] #[]:=rfl
 have hE':=hE #[v0,v1] w
 simp [execOp,hop,resolve,invoke,h0,h1,hf,Deferred.ofValue,hE']
theorem run_k3 {o:Oper}{a:Act}{ts:Array TypeId}{v0 v1 v2:Value}{x0 x1 x2:Operand}{F:FuncId}(hE:EntF F)(hop:o.op=Op.call { callee:=Callee.value (Operand.func F),args:=#[x0,x1,x2],argTypes:=ts })(h0:a.eval x0=v0)(h1:a.eval x1=v1)(h2:a.eval x2=v2)(w:World):(execOp a.eval o).run Tryz.prog w=.ok (.enter F #[v0,v1,v2]) w:=by
 have hf:a.eval (Operand.func F)=.func (.func F) #[] #[]:=rfl
 have hE':=hE #[v0,v1,v2] w
 simp [execOp,hop,resolve,invoke,h0,h1,h2,hf,Deferred.ofValue,hE']
theorem ent_names:EntF 69:=fun args w=>by simp
theorem ent_prods:EntF 71:=fun args w=>by simp
theorem ent_levels:EntF 72:=fun args w=>by simp
structure TrG (f:Int×Int->Option Int)(C:PV->Bool)(g x:GV):Prop where
 ts:x.ts=nmU f 1 g.ts g.ts.length
 ns:x.ns=nmU f 2 g.ns g.ns.length
 st:x.start=(f (2,g.start)).getD 0
 ps:x.ps.map PV.core=(g.ps.filter C).map (prU7 f)
 ls:x.ls.map LV.core=lvsU f g.ls
def grS (g:GV)(q mb:Nat)(v:Value)(w':World):Prop:=w'.cell? ⟨q,0,none⟩=some (.slice g.ta g.ts.length g.tc)/\w'.cell? ⟨q,1,none⟩=some (.slice g.na g.ns.length g.nc)/\w'.cell? ⟨q,2,none⟩=some (.int .i64 g.start)/\w'.cell? ⟨q,3,none⟩=some (.slice g.pa g.ps.length g.pc)/\w'.cell? ⟨q,4,none⟩=some (.slice g.la g.ls.length g.lc)/\(Instr.lookup 82 (.map (some mb)) (.agg #[.int .i64 2,.int .i64 g.start]) false).run Tryz.prog w'=.ok v w'
set_option linter.unusedSimpArgs false in
theorem gramN_P (mb:Nat)(f:Int×Int->Option Int)(g:GV)(C:PV->Bool)(F:FuncId)(cap:Array Value)(w:World)(hm:MI w mb f)(h:GAt 140737488355328 w g)(hfg:FG w g)(hC:CntF g C w F cap)(hst:wfI g.start)(hp:∀ p∈g.ps,wfI p.prec)(hll:g.ls.length<=100000)(ht:∀ l∈g.ls,l.terms.length<=100000/\∀ x∈l.terms,wfI x) :
  Calls Tryz.prog 32 #[.map (some mb),g.val,.func (.func F) #[] cap] w fun e w'=>∃ x:GV,e=.returned x.val/\TrG f C g x/\DG (w.heap.size+1+1) w' x/\Below w.heap.size w w':=by
 obtain ⟨wb,hwb⟩:∃ wb:World,wb=(w.alloc (gBox g)).alloc zG:=⟨_,rfl⟩
 have zb:wb.heap.size=w.heap.size+1+1:=by rw [hwb];simp
 have bb:Below w.heap.size w wb:=by rw [hwb];exact (bAl w _).trans ((bAl _ _).mono (bAl w _).size)
 have X0:wb.heap[w.heap.size]?=some (gBox g):=by
  rw [hwb]
  exact ((bAl (w.alloc _) _).block _ (by simp)).trans (heap_alloc_new _ _)
 have X1:wb.heap[w.heap.size+1]?=some zG:=by
  rw [hwb]
  have:=heap_alloc_new (w.alloc (gBox g)) zG
  rwa [show (w.alloc (gBox g)).heap.size=w.heap.size+1 by simp] at this
 have XB:Hid (wb.heap.size=w.heap.size+1+1/\Below w.heap.size w wb/\wb.heap[w.heap.size]?=some (gBox g)/\wb.heap[w.heap.size+1]?=some zG):=⟨zb,bb,X0,X1⟩
 have BW:Hid (∀ wq,Below wb.heap.size wb wq->Below w.heap.size w wq):=fun wq hq=>bb.trans (hq.mono bb.size)
 have GEN:Hid (∀ wq,Below wb.heap.size wb wq->grS g w.heap.size mb (.int .i64 ((f (2,g.start)).getD 0)) wq):=fun wq hq=>by
  obtain ⟨x0,x1,x2,x3,x4⟩:=gbc ((hq.block _ (lt_of_block X0)).trans X0)
  exact ⟨x0,x1,x2,x3,x4,(hm.later (BW.out wq hq)).run (by unfold wfI;decide) hst⟩
 have N1:Hid (∀ wq,Below wb.heap.size wb wq->Calls Tryz.prog 69 #[.map (some mb),.slice g.ta g.ts.length g.tc,.func (.func 70) #[] #[]] wq fun e w'=>∃ v,e=.returned v/\GBs wq (nmU f 1 g.ts g.ts.length) v w'):=fun wq hq=>names1_P mb f g.ta g.tc g.ts wq (hm.later (BW.out wq hq)) (h.later (BW.out wq hq)).t (by have:=hfg.tl.2;omega)
 have N2:Hid (∀ wq,Below wb.heap.size wb wq->Calls Tryz.prog 69 #[.map (some mb),.slice g.na g.ns.length g.nc,.func (.func 30) #[] #[]] wq fun e w'=>∃ v,e=.returned v/\GBs wq (nmU f 2 g.ns g.ns.length) v w'):=fun wq hq=>names2_P mb f g.na g.nc g.ns wq (hm.later (BW.out wq hq)) (h.later (BW.out wq hq)).n_ (by have:=hfg.nl.2;omega)
 have PR:Hid (∀ wq,Below wb.heap.size wb wq->Calls Tryz.prog 71 #[.map (some mb),.slice g.pa g.ps.length g.pc,.func (.func F) #[] cap] wq fun e w'=>∃ v l',e=.returned v/\PO wq.heap.size w' v l'/\l'.map PV.core=(g.ps.filter C).map (prU7 f)/\Below wq.heap.size wq w'):=fun wq hq=>prods_P mb f g C F cap wq (hm.later (BW.out wq hq)) (hfg.later (BW.out wq hq)) ⟨hC.1,fun wz p hb hp'=>hC.2 wz p ((BW.out wq hq).trans (hb.mono (BW.out wq hq).size)) hp'⟩ hp
 have LVH:Hid (∀ wq,Below wb.heap.size wb wq->Calls Tryz.prog 72 #[.map (some mb),.slice g.la g.ls.length g.lc] wq fun e w'=>∃ v l',e=.returned v/\LO wq.heap.size w' v l'/\l'.map LV.core=lvsU f g.ls/\Below wq.heap.size wq w'):=fun wq hq=>levels_P mb f g.la g.lc g.ls wq (hm.later (BW.out wq hq)) (h.later (BW.out wq hq)).l hll ht
 obtain ⟨wd,hwd⟩:∃ wd:World,wd=wb.drew:=⟨_,rfl⟩
 have BD:Hid (Below wb.heap.size wb wd):=by rw [hwd];exact (Below.refl _ _).drew
 clear hm h hfg hC hst hp hll ht zb bb X0 X1
 simp only [gBox,zG] at hwb
 go_enter Tryz.func32,Tryz.ntmps32
 go_wp2
 rw [<- hwb]
 clear hwb
 have hs:Hid (grS g w.heap.size mb (.int .i64 ((f (2,g.start)).getD 0)) wd):=GEN.out wd BD.out
 refine wp_region_x (S:=SX 23 (fun _=>True) (grS g w.heap.size mb (.int .i64 ((f (2,g.start)).getD 0)))) (by kernel_rfl) ?_
 rw [<- hwd]
 clear hwd
 refine wtT (m:=23) (i:=0) (v:=?_) rfl (Or.inl ⟨by rfl,?_⟩) (SX.both trivial hs.out) ?_
 rotate_left
 ·(intro w hSw;obtain ⟨_,z0,z1,z2,z3,z4,z5⟩:=hSw;go_simp;try (with_reducible rfl))
 (try simp only [Act.put,lsA,lsZ,lsN])
 refine wtT (m:=23) (i:=1) (v:=?_) rfl (Or.inl ⟨by rfl,?_⟩) (SX.both trivial hs.out) ?_
 rotate_left
 ·(intro w hSw;obtain ⟨_,z0,z1,z2,z3,z4,z5⟩:=hSw;go_simp;try (with_reducible rfl))
 (try simp only [Act.put,lsA,lsZ,lsN])
 refine wtT (m:=23) (i:=2) (v:=?_) rfl (Or.inl ⟨by rfl,?_⟩) (SX.both trivial hs.out) ?_
 rotate_left
 ·(intro w hSw;obtain ⟨_,z0,z1,z2,z3,z4,z5⟩:=hSw;go_simp;try (with_reducible rfl))
 (try simp only [Act.put,lsA,lsZ,lsN])
 refine wtT (m:=23) (i:=4) (v:=?_) rfl (Or.inl ⟨by rfl,?_⟩) (SX.both trivial hs.out) ?_
 rotate_left
 ·(intro w hSw;obtain ⟨_,z0,z1,z2,z3,z4,z5⟩:=hSw;go_simp;try (with_reducible rfl))
 (try simp only [Act.put,lsA,lsZ,lsN])
 refine wtT (m:=23) (i:=5) (v:=?_) rfl (Or.inl ⟨by rfl,?_⟩) (SX.both trivial hs.out) ?_
 rotate_left
 ·(intro w hSw;obtain ⟨_,z0,z1,z2,z3,z4,z5⟩:=hSw;go_simp;try (with_reducible rfl))
 (try simp only [Act.put,lsA,lsZ,lsN])
 refine wtT (m:=23) (i:=6) (v:=?_) rfl (Or.inl ⟨by rfl,?_⟩) (SX.both trivial hs.out) ?_
 rotate_left
 ·(intro w hSw;obtain ⟨_,z0,z1,z2,z3,z4,z5⟩:=hSw;go_simp;try (with_reducible rfl))
 (try simp only [Act.put,lsA,lsZ,lsN])
 refine wtT (m:=23) (i:=8) (v:=?_) rfl (Or.inl ⟨by rfl,?_⟩) (SX.both trivial hs.out) ?_
 rotate_left
 ·(intro w hSw;obtain ⟨_,z0,z1,z2,z3,z4,z5⟩:=hSw;go_simp;try (with_reducible rfl))
 (try simp only [Act.put,lsA,lsZ,lsN])
 refine wtT (m:=23) (i:=9) (v:=?_) rfl (Or.inl ⟨by rfl,?_⟩) (SX.both trivial hs.out) ?_
 rotate_left
 ·(intro w hSw;obtain ⟨_,z0,z1,z2,z3,z4,z5⟩:=hSw;go_simp;try (with_reducible rfl))
 (try simp only [Act.put,lsA,lsZ,lsN])
 refine wtT (m:=23) (i:=10) (v:=?_) rfl (Or.inl ⟨by rfl,?_⟩) (SX.both trivial hs.out) ?_
 rotate_left
 ·(intro w hSw;obtain ⟨_,z0,z1,z2,z3,z4,z5⟩:=hSw;go_simp;try (with_reducible rfl))
 (try simp only [Act.put,lsA,lsZ,lsN])
 refine wtT (m:=23) (i:=13) (v:=?_) rfl (Or.inl ⟨by rfl,?_⟩) (SX.both trivial hs.out) ?_
 rotate_left
 ·(intro w hSw;obtain ⟨_,z0,z1,z2,z3,z4,z5⟩:=hSw;go_simp;try (with_reducible rfl))
 (try simp only [Act.put,lsA,lsZ,lsN])
 refine wtT (m:=23) (i:=14) (v:=?_) rfl (Or.inl ⟨by rfl,?_⟩) (SX.both trivial hs.out) ?_
 rotate_left
 ·(intro w hSw;obtain ⟨_,z0,z1,z2,z3,z4,z5⟩:=hSw;go_simp;try (with_reducible rfl))
 (try simp only [Act.put,lsA,lsZ,lsN])
 refine wtT (m:=23) (i:=15) (v:=?_) rfl (Or.inl ⟨by rfl,?_⟩) (SX.both trivial hs.out) ?_
 rotate_left
 ·(intro w hSw;obtain ⟨_,z0,z1,z2,z3,z4,z5⟩:=hSw;go_simp;try (with_reducible rfl))
 (try simp only [Act.put,lsA,lsZ,lsN])
 refine wtT (m:=23) (i:=16) (v:=?_) rfl (Or.inl ⟨by rfl,?_⟩) (SX.both trivial hs.out) ?_
 rotate_left
 ·(intro w hSw;obtain ⟨_,z0,z1,z2,z3,z4,z5⟩:=hSw;go_simp;try (with_reducible rfl))
 (try simp only [Act.put,lsA,lsZ,lsN])
 refine wtT (m:=23) (i:=18) (v:=?_) rfl (Or.inl ⟨by rfl,?_⟩) (SX.both trivial hs.out) ?_
 rotate_left
 ·(intro w hSw;obtain ⟨_,z0,z1,z2,z3,z4,z5⟩:=hSw;go_simp;try (with_reducible rfl))
 (try simp only [Act.put,lsA,lsZ,lsN])
 refine wtT (m:=23) (i:=19) (v:=?_) rfl (Or.inl ⟨by rfl,?_⟩) (SX.both trivial hs.out) ?_
 rotate_left
 ·(intro w hSw;obtain ⟨_,z0,z1,z2,z3,z4,z5⟩:=hSw;go_simp;try (with_reducible rfl))
 (try simp only [Act.put,lsA,lsZ,lsN])
 refine wtT (m:=23) (i:=20) (v:=?_) rfl (Or.inl ⟨by rfl,?_⟩) (SX.both trivial hs.out) ?_
 rotate_left
 ·(intro w hSw;obtain ⟨_,z0,z1,z2,z3,z4,z5⟩:=hSw;go_simp;try (with_reducible rfl))
 (try simp only [Act.put,lsA,lsZ,lsN])
 refine wX1 (j:=3) (by decide +kernel) rfl (fun K' hK=>?_)
 refine sCX rfl 69 #[.map (some mb),.slice g.ta g.ts.length g.tc,.func (.func 70) #[] #[]] _ (run_k3 ent_names (v0:=.map (some mb)) (v1:=.slice g.ta g.ts.length g.tc) (v2:=.func (.func 70) #[] #[]) (by rfl) (by rfl) (by rfl) (by rfl) _) (N1.out wd BD.out) ?_
 rintro e w3 ⟨v3,rfl,g3⟩
 obtain ⟨a3,c3,rfl⟩:=gs_len g3.gs
 have Bw3:Hid (Below wb.heap.size wb w3):=BD.out.trans (g3.bel.mono BD.out.size)
 have G3:Hid (GBs wd (nmU f 1 g.ts g.ts.length) (.slice a3 (nmU f 1 g.ts g.ts.length).length c3) w3):=g3
 clear g3
 have hs3:Hid (grS g w.heap.size mb (.int .i64 ((f (2,g.start)).getD 0)) w3):=GEN.out w3 Bw3.out
 refine ⟨_,rfl,hK.out _ _ (SX.both trivial hs3.out) ?_⟩
 clear hK K' hs
 (try simp only [Act.put,lsA,lsZ,lsN])
 refine wX1 (j:=7) (by decide +kernel) rfl (fun K' hK=>?_)
 refine sCX rfl 69 #[.map (some mb),.slice g.na g.ns.length g.nc,.func (.func 30) #[] #[]] _ (run_k3 ent_names (v0:=.map (some mb)) (v1:=.slice g.na g.ns.length g.nc) (v2:=.func (.func 30) #[] #[]) (by rfl) (by rfl) (by rfl) (by rfl) _) (N2.out w3 Bw3.out) ?_
 rintro e w4 ⟨v4,rfl,g4⟩
 obtain ⟨a4,c4,rfl⟩:=gs_len g4.gs
 have Bw4:Hid (Below wb.heap.size wb w4):=Bw3.out.trans (g4.bel.mono Bw3.out.size)
 have G4:Hid (GBs w3 (nmU f 2 g.ns g.ns.length) (.slice a4 (nmU f 2 g.ns g.ns.length).length c4) w4):=g4
 clear g4
 have hs4:Hid (grS g w.heap.size mb (.int .i64 ((f (2,g.start)).getD 0)) w4):=GEN.out w4 Bw4.out
 refine ⟨_,rfl,hK.out _ _ (SX.both trivial hs4.out) ?_⟩
 clear hK K' hs3
 (try simp only [Act.put,lsA,lsZ,lsN])
 refine wX1 (j:=11) (by decide +kernel) rfl (fun K' hK=>?_)
 refine sCX rfl 30 #[.int .i64 g.start] _ (run_non1 (v0:=.int .i64 g.start) (by rfl) (by rfl) _) (non_P _ _) ?_
 rintro e w5 ⟨rfl,b5⟩
 have B45:Hid (Below w4.heap.size w4 w5):=b5
 have Bw5:Hid (Below wb.heap.size wb w5):=Bw4.out.trans (b5.mono Bw4.out.size)
 clear b5
 have hs5:Hid (grS g w.heap.size mb (.int .i64 ((f (2,g.start)).getD 0)) w5):=GEN.out w5 Bw5.out
 refine ⟨_,rfl,hK.out _ _ (SX.both trivial hs5.out) ?_⟩
 clear hK K' hs4
 (try simp only [Act.put,lsA,lsZ,lsN])
 refine wtT (m:=23) (i:=12) (v:=?_) rfl (Or.inl ⟨by rfl,?_⟩) (SX.both trivial hs5.out) ?_
 rotate_left
 ·(intro w hSw;obtain ⟨_,z0,z1,z2,z3,z4,z5⟩:=hSw;go_simp;try (with_reducible rfl))
 (try simp only [Act.put,lsA,lsZ,lsN])
 refine wX1 (j:=17) (by decide +kernel) rfl (fun K' hK=>?_)
 refine sCX rfl 71 #[.map (some mb),.slice g.pa g.ps.length g.pc,.func (.func F) #[] cap] _ (run_k3 ent_prods (v0:=.map (some mb)) (v1:=.slice g.pa g.ps.length g.pc) (v2:=.func (.func F) #[] cap) (by rfl) (by rfl) (by rfl) (by rfl) _) (PR.out w5 Bw5.out) ?_
 rintro e w6 ⟨v6,l6,rfl,o6,k6,b6⟩
 obtain ⟨a6,c6,rfl⟩:=PY.len o6.row
 have Bw6:Hid (Below wb.heap.size wb w6):=Bw5.out.trans (b6.mono Bw5.out.size)
 have G6:Hid (PO w5.heap.size w6 (.slice a6 l6.length c6) l6/\l6.map PV.core=(g.ps.filter C).map (prU7 f)/\Below w5.heap.size w5 w6):=⟨o6,k6,b6⟩
 clear o6 k6 b6
 have hs6:Hid (grS g w.heap.size mb (.int .i64 ((f (2,g.start)).getD 0)) w6):=GEN.out w6 Bw6.out
 refine ⟨_,rfl,hK.out _ _ (SX.both trivial hs6.out) ?_⟩
 clear hK K' hs5
 (try simp only [Act.put,lsA,lsZ,lsN])
 refine wX1 (j:=21) (by decide +kernel) rfl (fun K' hK=>?_)
 refine sCX rfl 72 #[.map (some mb),.slice g.la g.ls.length g.lc] _ (run_k2 ent_levels (v0:=.map (some mb)) (v1:=.slice g.la g.ls.length g.lc) (by rfl) (by rfl) (by rfl) _) (LVH.out w6 Bw6.out) ?_
 rintro e w7 ⟨v7,l7,rfl,o7,k7,b7⟩
 obtain ⟨a7,c7,rfl⟩:=LY.len o7.row
 have Bw7:Hid (Below wb.heap.size wb w7):=Bw6.out.trans (b7.mono Bw6.out.size)
 have G7:Hid (LO w6.heap.size w7 (.slice a7 l7.length c7) l7/\l7.map LV.core=lvsU f g.ls/\Below w6.heap.size w6 w7):=⟨o7,k7,b7⟩
 clear o7 k7 b7
 have hs7:Hid (grS g w.heap.size mb (.int .i64 ((f (2,g.start)).getD 0)) w7):=GEN.out w7 Bw7.out
 refine ⟨_,rfl,hK.out _ _ (SX.both trivial hs7.out) ?_⟩
 clear hK K' hs6
 (try simp only [Act.put,lsA,lsZ,lsN])
 refine wX1 (j:=22) (by decide +kernel) rfl (fun K' hK=>?_)
 go_simp
 refine hK.out _ _ (SX.both trivial hs7.out) ?_
 clear hK K'
 (try simp only [Act.put,lsA,lsZ,lsN])
 have RB:w7.heap[w.heap.size+1]?=some zG:=(Bw7.out.block _ (by have:=XB.out.1;omega)).trans XB.out.2.2.2
 have HRB:Hid (w7.heap[w.heap.size+1]?=some zG):=RB
 obtain ⟨r0,r1,r2,r3,r4⟩:w7.cell? ⟨w.heap.size+1,0,none⟩=some (.slice none 0 0)/\w7.cell? ⟨w.heap.size+1,1,none⟩=some (.slice none 0 0)/\w7.cell? ⟨w.heap.size+1,2,none⟩=some (.int .i64 0)/\w7.cell? ⟨w.heap.size+1,3,none⟩=some (.slice none 0 0)/\w7.cell? ⟨w.heap.size+1,4,none⟩=some (.slice none 0 0):=⟨(cQa RB).trans rfl,(cQa RB).trans rfl,(cQa RB).trans rfl,(cQa RB).trans rfl,(cQa RB).trans rfl⟩
 have rf:∀ i,w7.frozen? ⟨w.heap.size+1,i,none⟩=false:=fun i=>by simp [World.frozen?,RB,zG]
 have rf0:=rf 0
 have rf1:=rf 1
 have rf2:=rf 2
 have rf3:=rf 3
 have rf4:=rf 4
 clear rf RB
 refine wX1 (j:=23) (by decide +kernel) rfl (fun K' hK=>?_)
 go_simp
 refine hK.out _ _ (SX.one trivial (by kernel_rfl)) ?_
 clear hK K'
 (try simp only [Act.put,lsA,lsZ,lsN])
 refine wXd (by decide +kernel) ?_
 have DD:Hid (DG (w.heap.size+1+1) w7 ⟨a3,c3,nmU f 1 g.ts g.ts.length,a4,c4,nmU f 2 g.ns g.ns.length,(f (2,g.start)).getD 0,a6,c6,l6,a7,c7,l7⟩):=by
  have z:=XB.out.1
  have s1:=BD.out.size
  have s2:=G3.out.bel.size
  have s3:=G4.out.bel.size
  have s4:=B45.out.size
  have s5:=G6.out.2.2.size
  have b47:Below w4.heap.size w4 w7:=(B45.out.trans (G6.out.2.2.mono s4)).trans (G7.out.2.2.mono (Nat.le_trans s4 s5))
  have b37:Below w3.heap.size w3 w7:=G4.out.bel.trans (b47.mono s3)
  refine ⟨⟨(G3.out.any b37).gs,fun j hj=>by have:=G3.out.own j hj;omega⟩,⟨(G4.out.any b47).gs,fun j hj=>by have:=G4.out.own j hj;omega⟩,(G6.out.1.later G7.out.2.2).mono (by omega),G7.out.1.mono (by omega),fun j hj e=>?_⟩
  have h1:=G3.out.gs.lt j hj
  have h2:=G4.out.own j e
  omega
 clear hs7 BD G3 G4 B45 N1 N2 PR LVH GEN
 go_wp2
 refine bodyPost_ret (v:=.agg #[.slice a3 (nmU f 1 g.ts g.ts.length).length c3,.slice a4 (nmU f 2 g.ns g.ns.length).length c4,.int .i64 ((f (2,g.start)).getD 0),.slice a6 l6.length c6,.slice a7 l7.length c7]) (by simp [results,Tryz.results32,go_sem,r0,r1,r2,r3,r4]) rfl ?_
 refine ⟨⟨a3,c3,nmU f 1 g.ts g.ts.length,a4,c4,nmU f 2 g.ns g.ns.length,(f (2,g.start)).getD 0,a6,c6,l6,a7,c7,l7⟩,rfl,⟨rfl,rfl,rfl,G6.out.2.1,G7.out.2.1⟩,DD.out.kept fun k hk hk2=>?_,?_⟩
 ·exact (set5 (o:=w7.heap[k]'hk2) (by omega) (by simp) _ _ _ _ _ _ _ _ _ _).trans (by simp)
 ·have bq:=BW.out w7 Bw7.out
  exact ((((bq.setCell (p:=⟨w.heap.size+1,0,none⟩) (Nat.le_succ _) _).setCell (p:=⟨w.heap.size+1,1,none⟩) (Nat.le_succ _) _).setCell (p:=⟨w.heap.size+1,2,none⟩) (Nat.le_succ _) _).setCell (p:=⟨w.heap.size+1,3,none⟩) (Nat.le_succ _) _).setCell (p:=⟨w.heap.size+1,4,none⟩) (Nat.le_succ _) _
theorem indexB_P (b n:Nat)(l:List Bool)(w:World)(hn:l.length=n)(hl:n<=100000)(hr:BB w b l) :
  Calls Tryz.prog 93 #[.slice (some ⟨b,0,none⟩) n n,.bool true] w fun e w'=>∃ v,e=.returned (.int .i64 v)/\(l.contains true=decide (0<=v))/\w'=w:=by
 have HR:Hid (BB w b l):=hr
 have HN:Hid (l.length=n):=hn
 clear hr hn
 go_enter Tryz.func93,Tryz.ntmps93
 go_wp2
 go_loopw [8] (fun z wr=>∃ k:Nat,k<=n/\z=.int .i64 k/\wr=w/\Hid (∀ j,j < k->l.getD j false=false)) (fun z _=>n - (intOf z).toNat)
 case atStart=>exact ⟨0,Nat.zero_le _,rfl,rfl,fun j hj=>by omega⟩
 case round =>
  obtain ⟨k,hk,rfl,rfl,HA⟩:=hrel
  by_cases hlt:k < n
  ·have r0:=HR.out.cell (i:=k) (by rw [HN.out];exact hlt)
   have klt:(k:Int) < (n:Int):=by omega
   obtain ⟨y,hy⟩:∃ y,l.getD k false=y:=⟨_,rfl⟩
   have HY:Hid (l.getD k false=y):=hy
   rw [hy] at r0
   clear hy
   cases y
   ·have HX:Hid (∀ j,j < k+1->l.getD j false=false):=fun j hj=>by
     rcases Nat.lt_succ_iff_lt_or_eq.1 hj with r | rfl
     ·exact HA.out j r
     ·exact HY.out
    go_wp2
    go_roundw
    case rel=>exact ⟨k+1,by omega,by go_num,by first | rfl | trivial,HX.out⟩
    case measure=>simp [intOf];omega
   ·have HX:Hid (l.contains true=true):=by
     show _=_
     have hl2:k < l.length:=by rw [HN.out];exact hlt
     have:=HY.out
     rw [List.getD_eq_getElem?_getD,List.getElem?_eq_getElem hl2] at this
     simp only [Option.getD_some] at this
     rw [List.contains_iff_mem,<- this]
     exact List.getElem_mem _
    go_wp2
    go_ret
    exact ⟨_,rfl,by rw [HX.out];simp,rfl⟩
  ·have HX:Hid (l.contains true=false):=by
    show _=_
    rw [Bool.eq_false_iff]
    intro hc
    obtain ⟨j,hj,e⟩:=List.mem_iff_getElem.1 (List.contains_iff_mem.1 hc)
    have:=HA.out j (by have:=HN.out;omega)
    rw [List.getD_eq_getElem?_getD,List.getElem?_eq_getElem hj] at this
    simp only [Option.getD_some] at this
    rw [this] at e
    cases e
   clear HA
   go_wp2
   go_ret
   exact ⟨-1,rfl,by rw [HX.out];rfl,rfl⟩
theorem containsB_P (b n:Nat)(l:List Bool)(w:World)(hn:l.length=n)(hl:n<=100000)(hr:BB w b l) :
  Calls Tryz.prog 67 #[.slice (some ⟨b,0,none⟩) n n,.bool true] w fun e w'=>e=.returned (.bool (l.contains true))/\w'=w:=by
 have HC:=indexB_P b n l w hn hl hr
 clear hn hr
 go_enter Tryz.func67,Tryz.ntmps67
 go_wp2_with (go_at_call 93;refine HC.mono ?_;rintro e w1 ⟨v,rfl,hv',rfl⟩;have hv:Hid _:=hv';clear hv' HC)
 go_ret
 exact ⟨by rw [hv.out];rfl,rfl⟩
theorem noTerms_P (tb:Nat)(xn:Nat)(T:List Bool)(y:Value)(w:World)(hn:T.length=xn)(hl:xn<=100000)(hr:BB w tb T) :
  Calls Tryz.prog 27 #[.agg #[.slice (some ⟨tb,0,none⟩) xn xn,y]] w fun e w'=>e=.returned (.bool (!T.contains true))/\Below w.heap.size w w':=by
 have HC:=containsB_P tb xn T (w.alloc (.cells #[.slice (some ⟨tb,0,none⟩) xn xn,y] 78)) hn hl (hr.later (bAl _ _))
 have HB:Hid (Below w.heap.size w (w.alloc (.cells #[.slice (some ⟨tb,0,none⟩) xn xn,y] 78))):=bAl _ _
 clear hn hr
 go_enter Tryz.func27,Tryz.ntmps27
 go_wp2_with (go_at_call 67;refine HC.mono ?_;rintro e w1 ⟨rfl,rfl⟩;clear HC)
 go_ret
 exact ⟨by simp,HB.out⟩
theorem whole1_P (g:GV)(M:List Bool)(gb mb:Nat)(w:World)(hfg:FG w g)(hM:M.length=g.ns.length)(hb:BB w mb M)(hg:w.heap[gb]?=some (.cells #[.slice (some ⟨mb,0,none⟩) g.ns.length g.ns.length] 73))(p:PV)(hp:p∈g.ps) :
  Calls Tryz.prog 24 #[.agg #[.int .i64 p.left,.slice p.ra p.right.length p.rc,.int .i64 p.prec],.pointer (some ⟨gb,0,none⟩)] w fun e w'=>e=.returned (.bool (wU_ true M p.right))/\Below w.heap.size w w':=by
 obtain ⟨wb,hwb⟩:∃ wb:World,wb=w.alloc (.cells #[.int .i64 p.left,.slice p.ra p.right.length p.rc,.int .i64 p.prec] 68):=⟨_,rfl⟩
 have bb:Below w.heap.size w wb:=by rw [hwb];exact bAl _ _
 have hf2:=hfg.later bb
 have hsy:=hf2.sym p hp
 have hrl:=hf2.rl p hp
 have LC:Hid (Calls Tryz.prog 25 #[.slice (some ⟨mb,0,none⟩) g.ns.length g.ns.length,.slice p.ra p.right.length p.rc] wb fun e w'=>e=.returned (.bool (wU_ true M p.right))/\Below wb.heap.size wb w'):=by
  have:=fruitList_P (some ⟨mb,0,none⟩) g.ns.length M p.ra p.rc p.right wb (hb.later bb).row (hf2.p.rows _ hp) (by omega) (by rw [hM];have:=hf2.nl.2;omega) (fun s hs e=>by
   rcases hsy s hs with q | q
   ·omega
   ·rw [hM];exact q.2)
  rwa [hM] at this
 have BB':Hid (Below w.heap.size w wb):=bb
 have c0:wb.cell? ⟨gb,0,none⟩=some (.slice (some ⟨mb,0,none⟩) g.ns.length g.ns.length):=(cQa ((bb.block _ (lt_of_block hg)).trans hg)).trans rfl
 obtain ⟨d0,d1,d2,d3⟩:wb.cell? ⟨w.heap.size,0,none⟩=some (.int .i64 p.left)/\wb.cell? ⟨w.heap.size,1,none⟩=some (.slice p.ra p.right.length p.rc)/\wb.cell? ⟨w.heap.size,2,none⟩=some (.int .i64 p.prec)/\True:=by
  have:=c3Z (w:=wb) (b:=w.heap.size) (by rw [hwb];exact heap_alloc_new _ _)
  exact ⟨this.1,this.2.1,this.2.2.1,trivial⟩
 clear hfg hM hb hg hp bb hf2 hsy hrl d3
 subst hwb
 go_enter Tryz.func24,Tryz.ntmps24
 go_wp2_with (go_at_call 25;refine LC.out.mono ?_;rintro e w2 ⟨rfl,b2⟩;have B2:Hid (Below w.heap.size w w2):=BB'.out.trans (b2.mono BB'.out.size);clear b2)
 go_ret
 exact ⟨rfl,B2.out⟩
theorem whole1_C (g:GV)(M:List Bool)(gb mb:Nat)(w:World)(hfg:FG w g)(hM:M.length=g.ns.length)(hb:BB w mb M)(hg:w.heap[gb]?=some (.cells #[.slice (some ⟨mb,0,none⟩) g.ns.length g.ns.length] 73)):CntF g (fun p=>wU_ true M p.right) w 24 #[.pointer (some ⟨gb,0,none⟩)]:=⟨fun args w=>by simp,fun wq p hq hp=>by
 have:=whole1_P g M gb mb wq (hfg.later hq) hM (hb.later hq) ((hq.block _ (lt_of_block hg)).trans hg) p hp
 unfold pVal
 simpa using this⟩
def sU_ (N M:List Bool)(p:PV):Bool:=N.getD p.left.toNat false && wU_ true M p.right
set_option linter.unusedSimpArgs false in
theorem stays_P (g:GV)(T N M:List Bool)(tb nb ub hb:Nat)(F:FuncId)(cap:Array Value)(w:World)(hfg:FG w g)(hT:T.length=g.ts.length)(hN:N.length=g.ns.length)(bt:BB w tb T)(bn:BB w nb N)(hu:w.heap[ub]?=some (.cells #[.slice (some ⟨tb,0,none⟩) g.ts.length g.ts.length,.slice (some ⟨nb,0,none⟩) g.ns.length g.ns.length] 78))(hc:w.heap[hb]?=some (.cells #[.func (.func F) #[] cap] 76))(hC:CntF g (fun p=>wU_ true M p.right) w F cap)(p:PV)(hp:p∈g.ps) :
  Calls Tryz.prog 28 #[.agg #[.int .i64 p.left,.slice p.ra p.right.length p.rc,.int .i64 p.prec],.pointer (some ⟨ub,0,none⟩),.pointer (some ⟨hb,0,none⟩)] w fun e w'=>e=.returned (.bool (sU_ N M p))/\Below w.heap.size w w':=by
 obtain ⟨l0,l1⟩:=hfg.left _ hp
 have hnl:=hfg.nl.2
 have htl:=hfg.tl.2
 obtain ⟨wb,hwb⟩:∃ wb:World,wb=w.alloc (.cells #[.int .i64 p.left,.slice p.ra p.right.length p.rc,.int .i64 p.prec] 68):=⟨_,rfl⟩
 have bB:Below w.heap.size w wb:=by rw [hwb];exact bAl _ _
 have cB:wb.heap[w.heap.size]?=some (.cells #[.int .i64 p.left,.slice p.ra p.right.length p.rc,.int .i64 p.prec] 68):=by rw [hwb];exact heap_alloc_new _ _
 have BR:Hid (Below wb.heap.size wb wb.drew):=(Below.refl _ _).drew
 obtain ⟨m,hm⟩:∃ m:Nat,p.left=(m:Int):=⟨p.left.toNat,by omega⟩
 have hml:m < g.ns.length:=by omega
 have BW:Hid (∀ wq,Below wb.heap.size wb wq->Below w.heap.size w wq):=fun wq hq=>bB.trans (hq.mono bB.size)
 have FX:Hid (∀ wq,Below wb.heap.size wb wq->wq.cell? ⟨w.heap.size,0,none⟩=some (.int .i64 (m:Int))/\wq.cell? ⟨w.heap.size,1,none⟩=some (.slice p.ra p.right.length p.rc)/\wq.cell? ⟨w.heap.size,2,none⟩=some (.int .i64 p.prec)/\wq.cell? ⟨ub,0,none⟩=some (.slice (some ⟨tb,0,none⟩) g.ts.length g.ts.length)/\wq.cell? ⟨ub,1,none⟩=some (.slice (some ⟨nb,0,none⟩) g.ns.length g.ns.length)/\wq.cell? ⟨hb,0,none⟩=some (.func (.func F) #[] cap)):=fun wq hq=>by
  have e:=(hq.block _ (lt_of_block cB)).trans cB
  rw [hm] at e
  have b:=BW.out wq hq
  have e2:=(b.block _ (lt_of_block hu)).trans hu
  have e3:=(b.block _ (lt_of_block hc)).trans hc
  exact ⟨(cQa e).trans rfl,(cQa e).trans rfl,(cQa e).trans rfl,(cQa e2).trans rfl,(cQa e2).trans rfl,(cQa e3).trans rfl⟩
 have CN:Hid (∀ wq,Below wb.heap.size wb wq->Calls Tryz.prog 30 #[.int .i64 (m:Int)] wq fun e w'=>e=.returned (.agg #[.int .i64 2,.int .i64 (m:Int)])/\Below wb.heap.size wb w'):=fun wq hq=>(non_P _ wq).mono fun e w' ⟨q1,q2⟩=>⟨q1,hq.trans (q2.mono hq.size)⟩
 have CH0:Hid (∀ wq,Below wb.heap.size wb wq->Calls Tryz.prog 29 #[.agg #[.slice (some ⟨tb,0,none⟩) g.ts.length g.ts.length,.slice (some ⟨nb,0,none⟩) g.ns.length g.ns.length],.agg #[.int .i64 2,.int .i64 (m:Int)]] wq fun e w'=>e=.returned (.bool (N.getD m false))/\Below wb.heap.size wb w'):=fun wq hq=>(has_P _ _ _ _ _ _ 2 m nb g.ns.length g.ns.length (N.getD m false) wq (by rw [if_neg (by decide)]) hml (by omega) ((bn.later (BW.out wq hq)).cell (by rw [hN];exact hml))).mono fun e w' ⟨q1,q2⟩=>⟨q1,hq.trans (q2.mono hq.size)⟩
 obtain ⟨A,hA⟩:∃ A:Array Value,A=#[.agg #[.int .i64 (m:Int),.slice p.ra p.right.length p.rc,.int .i64 p.prec]]++cap:=⟨_,rfl⟩
 have CC0:Hid (∀ wq,Below wb.heap.size wb wq->Calls Tryz.prog F A wq fun e w'=>e=.returned (.bool (wU_ true M p.right))/\Below wb.heap.size wb w'):=fun wq hq=>by
  have:=hC.2 wq p (BW.out wq hq) hp
  unfold pVal at this
  rw [hm,<- hA] at this
  exact this.mono fun e w' ⟨q1,q2⟩=>⟨q1,hq.trans (q2.mono hq.size)⟩
 have HEN:Hid (EntF F):=hC.1
 have HS:Hid (sU_ N M p=(N.getD m false && wU_ true M p.right)):=by show _=_;unfold sU_;rw [hm];rfl
 generalize sU_ N M p=SV at *
 rw [hm] at hwb ⊢
 obtain ⟨cv,hcv⟩:∃ cv,wU_ true M p.right=cv:=⟨_,rfl⟩
 obtain ⟨mv,hmv⟩:∃ mv,N.getD m false=mv:=⟨_,rfl⟩
 rw [hcv] at CC0 HS
 rw [hmv] at CH0 HS
 clear hfg hT hN bt bn hu hc hC hp cB bB hcv hmv l0 l1 hm
 go_enter Tryz.func28,Tryz.ntmps28
 cases mv
 ·have CH:Hid (∀ wq,Below wb.heap.size wb wq->Calls Tryz.prog 29 #[.agg #[.slice (some ⟨tb,0,none⟩) g.ts.length g.ts.length,.slice (some ⟨nb,0,none⟩) g.ns.length g.ns.length],.agg #[.int .i64 2,.int .i64 (m:Int)]] wq fun e w'=>e=.returned (.bool false)/\Below wb.heap.size wb w'):=CH0.out
  clear CH0
  go_wp2
  rw [<- hwb]
  refine wp_region_q (C:=fun wq=>Below wb.heap.size wb wq) (by kernel_rfl) (by kernel_rfl) BR.out ?_
  iterate 3 (refine qt_yes (v:=?_) (by rfl) ?_ ?_;rotate_left;(· (intro wq hSw;obtain ⟨f0,f1,f2,f3,f4,f5⟩:=FX.out wq hSw;clear hSw;go_simp;with_reducible rfl));(try simp only [Act.put,lsA,lsZ,lsN]))
  refine qt_call (v:=.agg #[.int .i64 2,.int .i64 (m:Int)]) 30 #[.int .i64 (m:Int)] (by rfl) ?_ (fun wq hq=>CN.out wq hq) ?_
  ·intro wq hSw
   clear hSw
   go_simp
   try with_reducible rfl
  (try simp only [Act.put,lsA,lsZ,lsN])
  refine qt_call (v:=.bool false) 29 #[.agg #[.slice (some ⟨tb,0,none⟩) g.ts.length g.ts.length,.slice (some ⟨nb,0,none⟩) g.ns.length g.ns.length],.agg #[.int .i64 2,.int .i64 (m:Int)]] (by rfl) ?_ (fun wq hq=>CH.out wq hq) ?_
  ·intro wq hSw
   clear hSw
   go_simp
   try with_reducible rfl
  (try simp only [Act.put,lsA,lsZ,lsN])
  (refine qt_yes (v:=?_) (by rfl) ?_ ?_;rotate_left;(· (intro wq hSw;obtain ⟨f0,f1,f2,f3,f4,f5⟩:=FX.out wq hSw;clear hSw;go_simp;with_reducible rfl));(try simp only [Act.put,lsA,lsZ,lsN]))
  iterate 3 (refine qt_no (by rfl) ?_;(try simp only [Act.put,lsA,lsZ,lsN]))
  iterate 2 (refine qt_yes (v:=?_) (by rfl) ?_ ?_;rotate_left;(· (intro wq hSw;obtain ⟨f0,f1,f2,f3,f4,f5⟩:=FX.out wq hSw;clear hSw;go_simp;with_reducible rfl));(try simp only [Act.put,lsA,lsZ,lsN]))
  refine qt_nil ?_
  intro wq hSw
  have R:Hid (Below w.heap.size w wq):=BW.out wq hSw
  clear hSw
  go_wp2
  go_ret
  exact ⟨by rw [HS.out];rfl,R.out⟩
 ·have CH:Hid (∀ wq,Below wb.heap.size wb wq->Calls Tryz.prog 29 #[.agg #[.slice (some ⟨tb,0,none⟩) g.ts.length g.ts.length,.slice (some ⟨nb,0,none⟩) g.ns.length g.ns.length],.agg #[.int .i64 2,.int .i64 (m:Int)]] wq fun e w'=>e=.returned (.bool true)/\Below wb.heap.size wb w'):=CH0.out
  clear CH0
  go_wp2
  rw [<- hwb]
  refine wp_region_q (C:=fun wq=>Below wb.heap.size wb wq) (by kernel_rfl) (by kernel_rfl) BR.out ?_
  iterate 3 (refine qt_yes (v:=?_) (by rfl) ?_ ?_;rotate_left;(· (intro wq hSw;obtain ⟨f0,f1,f2,f3,f4,f5⟩:=FX.out wq hSw;clear hSw;go_simp;with_reducible rfl));(try simp only [Act.put,lsA,lsZ,lsN]))
  refine qt_call (v:=.agg #[.int .i64 2,.int .i64 (m:Int)]) 30 #[.int .i64 (m:Int)] (by rfl) ?_ (fun wq hq=>CN.out wq hq) ?_
  ·intro wq hSw
   clear hSw
   go_simp
   try with_reducible rfl
  (try simp only [Act.put,lsA,lsZ,lsN])
  refine qt_call (v:=.bool true) 29 #[.agg #[.slice (some ⟨tb,0,none⟩) g.ts.length g.ts.length,.slice (some ⟨nb,0,none⟩) g.ns.length g.ns.length],.agg #[.int .i64 2,.int .i64 (m:Int)]] (by rfl) ?_ (fun wq hq=>CH.out wq hq) ?_
  ·intro wq hSw
   clear hSw
   go_simp
   try with_reducible rfl
  (try simp only [Act.put,lsA,lsZ,lsN])
  (refine qt_yes (v:=?_) (by rfl) ?_ ?_;rotate_left;(· (intro wq hSw;obtain ⟨f0,f1,f2,f3,f4,f5⟩:=FX.out wq hSw;clear hSw;go_simp;with_reducible rfl));(try simp only [Act.put,lsA,lsZ,lsN]))
  iterate 2 (refine qt_yes (v:=?_) (by rfl) ?_ ?_;rotate_left;(· (intro wq hSw;obtain ⟨f0,f1,f2,f3,f4,f5⟩:=FX.out wq hSw;clear hSw;go_simp;with_reducible rfl));(try simp only [Act.put,lsA,lsZ,lsN]))
  refine qt_call (v:=.bool cv) F A (by rfl) ?_ CC0.out ?_
  ·intro wq hSw
   clear hSw
   rw [hA]
   refine run_fn1 (x:=.tmp 11) (x0:=.tmp 12) (t0:=68) HEN.out ?_ ?_ ?_ wq
   ·rfl
   ·rfl
   ·rfl
  (try simp only [Act.put,lsA,lsZ,lsN])
  iterate 2 (refine qt_yes (v:=?_) (by rfl) ?_ ?_;rotate_left;(· (intro wq hSw;obtain ⟨f0,f1,f2,f3,f4,f5⟩:=FX.out wq hSw;clear hSw;go_simp;with_reducible rfl));(try simp only [Act.put,lsA,lsZ,lsN]))
  refine qt_nil ?_
  intro wq hSw
  have R:Hid (Below w.heap.size w wq):=BW.out wq hSw
  clear hSw
  go_wp2
  go_ret
  exact ⟨by rw [HS.out];simp,R.out⟩
theorem stays_C (g:GV)(T N M:List Bool)(tb nb ub hb:Nat)(F:FuncId)(cap:Array Value)(w:World)(hfg:FG w g)(hT:T.length=g.ts.length)(hN:N.length=g.ns.length)(bt:BB w tb T)(bn:BB w nb N)(hu:w.heap[ub]?=some (.cells #[.slice (some ⟨tb,0,none⟩) g.ts.length g.ts.length,.slice (some ⟨nb,0,none⟩) g.ns.length g.ns.length] 78))(hc:w.heap[hb]?=some (.cells #[.func (.func F) #[] cap] 76))(hC:CntF g (fun p=>wU_ true M p.right) w F cap):CntF g (sU_ N M) w 28 #[.pointer (some ⟨ub,0,none⟩),.pointer (some ⟨hb,0,none⟩)]:=⟨fun args w=>by simp,fun wq p hq hp=>by
 have:=stays_P g T N M tb nb ub hb F cap wq (hfg.later hq) hT hN (bt.later hq) (bn.later hq) ((hq.block _ (lt_of_block hu)).trans hu) ((hq.block _ (lt_of_block hc)).trans hc) ⟨hC.1,fun wz p hz hp'=>hC.2 wz p (hq.trans (hz.mono hq.size)) hp'⟩ p hp
 unfold pVal
 simpa using this⟩
def gNil7:GV:=⟨none,0,[],none,0,[],0,none,0,[],none,0,[]⟩
theorem DG.nil7 (B:Nat)(w:World):DG B w gNil7:=⟨⟨GS.nil w,fun j hj=>by simp [gNil7,Value.ownBlock] at hj⟩,⟨GS.nil w,fun j hj=>by simp [gNil7,Value.ownBlock] at hj⟩,PO.nil _ _,LO.nil _ _,fun j hj=>by simp [gNil7,Value.ownBlock] at hj⟩
theorem zcells {w:World}{b:Nat}(h:w.heap[b]?=some zG):w.cell? ⟨b,0,none⟩=some (.slice none 0 0)/\w.cell? ⟨b,1,none⟩=some (.slice none 0 0)/\w.cell? ⟨b,2,none⟩=some (.int .i64 0)/\w.cell? ⟨b,3,none⟩=some (.slice none 0 0)/\w.cell? ⟨b,4,none⟩=some (.slice none 0 0) :=
 ⟨(cQa h).trans rfl,(cQa h).trans rfl,(cQa h).trans rfl,(cQa h).trans rfl,(cQa h).trans rfl⟩
theorem zfree {w:World}{b:Nat}(h:w.heap[b]?=some zG):w.frozen? ⟨b,0,none⟩=false/\w.frozen? ⟨b,1,none⟩=false/\w.frozen? ⟨b,2,none⟩=false/\w.frozen? ⟨b,3,none⟩=false/\w.frozen? ⟨b,4,none⟩=false:=by
 simp [World.frozen?,h,zG]
theorem below_set5 {w wq:World}(bq:Below w.heap.size w wq)(v0 v1 v2 v3 v4:Value):Below w.heap.size w (((((wq.setCell ⟨w.heap.size+1,0,none⟩ v0).setCell ⟨w.heap.size+1,1,none⟩ v1).setCell ⟨w.heap.size+1,2,none⟩ v2).setCell ⟨w.heap.size+1,3,none⟩ v3).setCell ⟨w.heap.size+1,4,none⟩ v4) :=
 ((((bq.setCell (p:=⟨w.heap.size+1,0,none⟩) (Nat.le_succ _) _).setCell (p:=⟨w.heap.size+1,1,none⟩) (Nat.le_succ _) _).setCell (p:=⟨w.heap.size+1,2,none⟩) (Nat.le_succ _) _).setCell (p:=⟨w.heap.size+1,3,none⟩) (Nat.le_succ _) _).setCell (p:=⟨w.heap.size+1,4,none⟩) (Nat.le_succ _) _
def TrOk (g:GV)(k:Int)(x:GV):Prop:=∃ M,MLst g.ps g.ns.length true M/\((M.getD g.start.toNat false=false/\k=71/\x=gNil7)∨(M.getD g.start.toNat false=true/\∃ T N,RLst (gF g fun p=>wU_ true M p.right) T N/\((T.contains true=false/\k=31/\x=gNil7)∨(T.contains true=true/\k=0/\TrG (nuF T N (syD 1 g.ts.length++syD 2 g.ns.length)).1 (sU_ N M) g x))))
def TrR (g:GV)(er k:Int)(x:GV):Prop:=(er=0->TrOk g k x)/\(er≠0->k=er/\x=gNil7)
def trS (g:GV)(q ub tb nb:Nat)(w':World):Prop:=w'.cell? ⟨q,0,none⟩=some (.slice g.ta g.ts.length g.tc)/\w'.cell? ⟨q,1,none⟩=some (.slice g.na g.ns.length g.nc)/\w'.cell? ⟨q,2,none⟩=some (.int .i64 g.start)/\w'.cell? ⟨q,3,none⟩=some (.slice g.pa g.ps.length g.pc)/\w'.cell? ⟨q,4,none⟩=some (.slice g.la g.ls.length g.lc)/\w'.cell? ⟨ub,0,none⟩=some (.slice (some ⟨tb,0,none⟩) g.ts.length g.ts.length)/\w'.cell? ⟨ub,1,none⟩=some (.slice (some ⟨nb,0,none⟩) g.ns.length g.ns.length)
theorem ent_numbered:EntF 31:=fun args w=>by simp
theorem ent_gramN:EntF 32:=fun args w=>by simp
structure PrW (g:GV):Prop where
 p:∀ p∈g.ps,wfI p.prec
 ll:g.ls.length<=100000
 l:∀ l∈g.ls,l.terms.length<=100000/\∀ x∈l.terms,wfI x
set_option linter.unusedSimpArgs false in
theorem Trim_P (g:GV)(w:World)(h:GAt 140737488355328 w g)(hpc:g.ps.length<=g.pc)(er at_:Int)(hE:cG_ g (cF_ g.ts g.ns)=(er,at_))(hPW:er=0->PrW g) :
  Calls Tryz.prog 9 #[g.val] w fun e w'=>∃ x k,e=.returned (.tuple #[x.val,.int .i64 k])/\TrR g er k x/\DG (w.heap.size+1+1) w' x/\Below w.heap.size w w':=by
 have B1:Hid (Below w.heap.size w ((w.alloc (gBox g)).alloc zG)/\((w.alloc (gBox g)).alloc zG).heap[w.heap.size]?=some (gBox g)/\((w.alloc (gBox g)).alloc zG).heap[w.heap.size+1]?=some zG):=by
  have q0:=heap_alloc_new w (gBox g)
  have q:=heap_alloc_new (w.alloc (gBox g)) zG
  rw [show (w.alloc (gBox g)).heap.size=w.heap.size+1 by simp] at q
  exact ⟨(bAl w _).trans ((bAl (w.alloc (gBox g)) _).mono (bAl w _).size),((bAl (w.alloc (gBox g)) _).block _ (by simp)).trans q0,q⟩
 have CK:Hid (Calls Tryz.prog 19 #[g.val] ((w.alloc (gBox g)).alloc zG) fun e w'=>e=.returned (.tuple #[.int .i64 er,.int .i64 at_])/\Below ((w.alloc (gBox g)).alloc zG).heap.size ((w.alloc (gBox g)).alloc zG) w'):=check_G g _ (h.later B1.out.1) hpc er at_ hE
 obtain ⟨x0,x1,x2,x3,x4⟩:=gbc B1.out.2.1
 by_cases h0:er=0
 ·subst h0
  have ok:OkC g:=OkC.of (by rw [hE])
  have pw:=hPW rfl
  have HG:Hid (∀ w',Below w.heap.size w w'->GAt 140737488355328 w' g/\FG w' g):=fun w' hb=>⟨h.later hb,ok.fg (h.later hb)⟩
  have HST:Hid (0<=g.start/\g.start < g.ns.length):=ok.st
  have HPW:Hid (PrW g):=pw
  obtain ⟨sm,hsm⟩:∃ m:Nat,g.start=(m:Int):=⟨g.start.toNat,by have:=ok.st;omega⟩
  have slt:(sm:Int) < (g.ns.length:Int):=by have:=ok.st;omega
  have HSM:Hid (g.start=(sm:Int)):=hsm
  have hnl:=ok.nl.2
  have htl:=ok.tl.2
  have t1:((0:Int) != 0)=false:=by decide
  clear h hE hPW hpc ok pw hsm
  go_enter Tryz.func9,Tryz.ntmps9
  go_wp2_with (first
   | (go_at_call 19;refine CK.out.mono ?_;rintro e w2 ⟨rfl,b2⟩;have Bw2:Hid (Below w.heap.size w w2/\w2.heap[w.heap.size]?=some (gBox g)/\w2.heap[w.heap.size+1]?=some zG):=⟨B1.out.1.trans (b2.mono B1.out.1.size),(b2.block _ (lt_of_block B1.out.2.1)).trans B1.out.2.1,(b2.block _ (lt_of_block B1.out.2.2)).trans B1.out.2.2⟩;clear b2 x0 x1 x2 x3 x4;obtain ⟨x0,x1,x2,x3,x4⟩:=gbc Bw2.out.2.1)
   | (go_at_call 23;refine (fruitful_P g _ (HG.out _ Bw2.out.1).2).mono ?_))
  rintro e w3 ⟨mb,M,rfl,m3,bb3,l3,b3⟩
  obtain ⟨wg,hwg⟩:∃ wg:World,wg=w3.alloc (.cells #[.slice (some ⟨mb,0,none⟩) g.ns.length g.ns.length] 73):=⟨_,rfl⟩
  have b3g:Below w3.heap.size w3 wg:=by rw [hwg];exact bAl _ _
  have b2g:Below w2.heap.size w2 wg:=b3.trans (b3g.mono b3.size)
  have Bg:Hid (Below w.heap.size w wg/\wg.heap[w.heap.size]?=some (gBox g)/\wg.heap[w.heap.size+1]?=some zG):=⟨Bw2.out.1.trans (b2g.mono Bw2.out.1.size),(b2g.block _ (lt_of_block Bw2.out.2.1)).trans Bw2.out.2.1,(b2g.block _ (lt_of_block Bw2.out.2.2)).trans Bw2.out.2.2⟩
  have Mg:Hid (MLst g.ps g.ns.length true M/\BB wg mb M/\wg.heap[w3.heap.size]?=some (.cells #[.slice (some ⟨mb,0,none⟩) g.ns.length g.ns.length] 73)):=⟨m3,bb3.later b3g,by rw [hwg];exact heap_alloc_new _ _⟩
  clear m3 bb3 l3 b3 b3g b2g x0 x1 x2 x3 x4
  obtain ⟨x0,x1,x2,x3,x4⟩:=gbc Bg.out.2.1
  rw [HSM.out] at x2
  have cg:wg.cell? ⟨w3.heap.size,0,none⟩=some (.slice (some ⟨mb,0,none⟩) g.ns.length g.ns.length):=(cQa Mg.out.2.2).trans rfl
  have cm:=Mg.out.2.1.cell (i:=sm) (by rw [Mg.out.1.len];omega)
  have HMS:Hid (g.start.toNat=sm):=by show _=_;rw [HSM.out];rfl
  obtain ⟨mv,hmv⟩:∃ mv,M.getD sm false=mv:=⟨_,rfl⟩
  rw [hmv] at cm
  have HMV:Hid (M.getD g.start.toNat false=mv):=by show _=_;rw [HMS.out];exact hmv
  clear hmv
  cases mv
  ·have REL:Hid (TrR g 0 71 gNil7):=⟨fun _=>⟨M,Mg.out.1,.inl ⟨HMV.out,rfl,rfl⟩⟩,fun q=>absurd rfl q⟩
   subst hwg
   obtain ⟨r0,r1,r2,r3,r4⟩:=zcells Bg.out.2.2
   obtain ⟨e0,e1,e2,e3,e4⟩:=zfree Bg.out.2.2
   go_wp2
   refine bodyPost_ret (v:=.tuple #[gNil7.val,.int .i64 71]) (by simp [results,Tryz.results9,go_sem,r0,r1,r2,r3,r4,gNil7]) rfl ?_
   exact ⟨gNil7,71,rfl,REL.out,DG.nil7 _ _,below_set5 Bg.out.1 _ _ _ _ _⟩
  ·subst hwg
   have zg:(w3.alloc (.cells #[.slice (some ⟨mb,0,none⟩) g.ns.length g.ns.length] 73)).heap.size=w3.heap.size+1:=by simp
   obtain ⟨wh,hwh⟩:∃ wh:World,wh=(w3.alloc (.cells #[.slice (some ⟨mb,0,none⟩) g.ns.length g.ns.length] 73)).alloc (.cells #[.func (.func 24) #[] #[.pointer (some ⟨w3.heap.size,0,none⟩)]] 76):=⟨_,rfl⟩
   have bgh:Below (w3.alloc (.cells #[.slice (some ⟨mb,0,none⟩) g.ns.length g.ns.length] 73)).heap.size (w3.alloc (.cells #[.slice (some ⟨mb,0,none⟩) g.ns.length g.ns.length] 73)) wh:=by rw [hwh];exact bAl _ _
   have Bh:Hid (Below w.heap.size w wh/\wh.heap[w.heap.size]?=some (gBox g)/\wh.heap[w.heap.size+1]?=some zG):=⟨Bg.out.1.trans (bgh.mono Bg.out.1.size),(bgh.block _ (lt_of_block Bg.out.2.1)).trans Bg.out.2.1,(bgh.block _ (lt_of_block Bg.out.2.2)).trans Bg.out.2.2⟩
   have Mh:Hid (BB wh mb M/\wh.heap[w3.heap.size]?=some (.cells #[.slice (some ⟨mb,0,none⟩) g.ns.length g.ns.length] 73)/\wh.heap[w3.heap.size+1]?=some (.cells #[.func (.func 24) #[] #[.pointer (some ⟨w3.heap.size,0,none⟩)]] 76)):=⟨Mg.out.2.1.later bgh,(bgh.block _ (lt_of_block Mg.out.2.2)).trans Mg.out.2.2,by rw [hwh,<- zg];exact heap_alloc_new _ _⟩
   have RC:Hid (Calls Tryz.prog 26 #[g.val,.func (.func 24) #[] #[.pointer (some ⟨w3.heap.size,0,none⟩)]] wh fun e w'=>∃ tb nb T N,e=.returned (.agg #[.slice (some ⟨tb,0,none⟩) g.ts.length g.ts.length,.slice (some ⟨nb,0,none⟩) g.ns.length g.ns.length])/\RLst (gF g fun p=>wU_ true M p.right) T N/\BB w' tb T/\BB w' nb N/\wh.heap.size<=tb/\wh.heap.size<=nb/\Below wh.heap.size wh w'):=reached_P g _ wh 24 #[.pointer (some ⟨w3.heap.size,0,none⟩)] (HG.out wh Bh.out.1).2 HST.out (whole1_C g M w3.heap.size mb wh (HG.out wh Bh.out.1).2 Mg.out.1.len Mh.out.1 Mh.out.2.1)
   obtain ⟨y0,y1,y2,y3,y4⟩:=gbc Bh.out.2.1
   have ch:wh.cell? ⟨w3.heap.size+1,0,none⟩=some (.func (.func 24) #[] #[.pointer (some ⟨w3.heap.size,0,none⟩)]):=(cQa Mh.out.2.2).trans rfl
   have hsf:(store ⟨w3.heap.size+1,0,none⟩ (.func (.func 24) #[] #[.pointer (some ⟨w3.heap.size,0,none⟩)])).run Tryz.prog ((w3.alloc (.cells #[.slice (some ⟨mb,0,none⟩) g.ns.length g.ns.length] 73)).alloc (.cells #[.nilFunc] 76))=.ok () wh:=by
    have:=run_store Tryz.prog ((w3.alloc (.cells #[.slice (some ⟨mb,0,none⟩) g.ns.length g.ns.length] 73)).alloc (.cells #[.nilFunc] 76)) ⟨w3.heap.size+1,0,none⟩ (.func (.func 24) #[] #[.pointer (some ⟨w3.heap.size,0,none⟩)]) .plain rfl
    rw [this]
    rw [hwh]
    simp [go_sem]
   clear bgh hwh
   go_wp2_with (go_at_call 26;refine RC.out.mono ?_)
   rintro e w5 ⟨tb,nb,T,N,rfl,m5,t5,n5,l5,l6,b5⟩
   have zu:Below w5.heap.size w5 (w5.alloc (.cells #[.slice (some ⟨tb,0,none⟩) g.ts.length g.ts.length,.slice (some ⟨nb,0,none⟩) g.ns.length g.ns.length] 78)):=bAl _ _
   have bhu:Below wh.heap.size wh (w5.alloc (.cells #[.slice (some ⟨tb,0,none⟩) g.ts.length g.ts.length,.slice (some ⟨nb,0,none⟩) g.ns.length g.ns.length] 78)):=b5.trans (zu.mono b5.size)
   have Bu:Hid (Below w.heap.size w (w5.alloc (.cells #[.slice (some ⟨tb,0,none⟩) g.ts.length g.ts.length,.slice (some ⟨nb,0,none⟩) g.ns.length g.ns.length] 78))/\(w5.alloc (.cells #[.slice (some ⟨tb,0,none⟩) g.ts.length g.ts.length,.slice (some ⟨nb,0,none⟩) g.ns.length g.ns.length] 78)).heap[w.heap.size]?=some (gBox g)/\(w5.alloc (.cells #[.slice (some ⟨tb,0,none⟩) g.ts.length g.ts.length,.slice (some ⟨nb,0,none⟩) g.ns.length g.ns.length] 78)).heap[w.heap.size+1]?=some zG):=⟨Bh.out.1.trans (bhu.mono Bh.out.1.size),(bhu.block _ (lt_of_block Bh.out.2.1)).trans Bh.out.2.1,(bhu.block _ (lt_of_block Bh.out.2.2)).trans Bh.out.2.2⟩
   have Mu:Hid (BB (w5.alloc (.cells #[.slice (some ⟨tb,0,none⟩) g.ts.length g.ts.length,.slice (some ⟨nb,0,none⟩) g.ns.length g.ns.length] 78)) tb T/\BB (w5.alloc (.cells #[.slice (some ⟨tb,0,none⟩) g.ts.length g.ts.length,.slice (some ⟨nb,0,none⟩) g.ns.length g.ns.length] 78)) nb N/\(w5.alloc (.cells #[.slice (some ⟨tb,0,none⟩) g.ts.length g.ts.length,.slice (some ⟨nb,0,none⟩) g.ns.length g.ns.length] 78)).heap[w5.heap.size]?=some (.cells #[.slice (some ⟨tb,0,none⟩) g.ts.length g.ts.length,.slice (some ⟨nb,0,none⟩) g.ns.length g.ns.length] 78)/\(w5.alloc (.cells #[.slice (some ⟨tb,0,none⟩) g.ts.length g.ts.length,.slice (some ⟨nb,0,none⟩) g.ns.length g.ns.length] 78)).heap[w3.heap.size+1]?=some (.cells #[.func (.func 24) #[] #[.pointer (some ⟨w3.heap.size,0,none⟩)]] 76)/\BB (w5.alloc (.cells #[.slice (some ⟨tb,0,none⟩) g.ts.length g.ts.length,.slice (some ⟨nb,0,none⟩) g.ns.length g.ns.length] 78)) mb M/\(w5.alloc (.cells #[.slice (some ⟨tb,0,none⟩) g.ts.length g.ts.length,.slice (some ⟨nb,0,none⟩) g.ns.length g.ns.length] 78)).heap[w3.heap.size]?=some (.cells #[.slice (some ⟨mb,0,none⟩) g.ns.length g.ns.length] 73)):=⟨t5.later zu,n5.later zu,heap_alloc_new _ _,(bhu.block _ (lt_of_block Mh.out.2.2)).trans Mh.out.2.2,Mh.out.1.later bhu,(bhu.block _ (lt_of_block Mh.out.2.1)).trans Mh.out.2.1⟩
   have RL:Hid (RLst (gF g fun p=>wU_ true M p.right) T N):=m5
   have S5:Hid (w.heap.size+1 < w5.heap.size):=by have:=lt_of_block Bh.out.2.2;have:=b5.size;show _ < _;omega
   have TL:Hid (T.length=g.ts.length/\N.length=g.ns.length):=⟨m5.tl,m5.nl⟩
   have c0:(w5.alloc (.cells #[.slice (some ⟨tb,0,none⟩) g.ts.length g.ts.length,.slice (some ⟨nb,0,none⟩) g.ns.length g.ns.length] 78)).cell? ⟨w5.heap.size,0,none⟩=some (.slice (some ⟨tb,0,none⟩) g.ts.length g.ts.length):=(cQa Mu.out.2.2.1).trans rfl
   have c1:(w5.alloc (.cells #[.slice (some ⟨tb,0,none⟩) g.ts.length g.ts.length,.slice (some ⟨nb,0,none⟩) g.ns.length g.ns.length] 78)).cell? ⟨w5.heap.size,1,none⟩=some (.slice (some ⟨nb,0,none⟩) g.ns.length g.ns.length):=(cQa Mu.out.2.2.1).trans rfl
   have NT:Hid (Calls Tryz.prog 27 #[.agg #[.slice (some ⟨tb,0,none⟩) g.ts.length g.ts.length,.slice (some ⟨nb,0,none⟩) g.ns.length g.ns.length]] (w5.alloc (.cells #[.slice (some ⟨tb,0,none⟩) g.ts.length g.ts.length,.slice (some ⟨nb,0,none⟩) g.ns.length g.ns.length] 78)) fun e w'=>e=.returned (.bool (!T.contains true))/\Below (w5.alloc (.cells #[.slice (some ⟨tb,0,none⟩) g.ts.length g.ts.length,.slice (some ⟨nb,0,none⟩) g.ns.length g.ns.length] 78)).heap.size (w5.alloc (.cells #[.slice (some ⟨tb,0,none⟩) g.ts.length g.ts.length,.slice (some ⟨nb,0,none⟩) g.ns.length g.ns.length] 78)) w'):=noTerms_P tb g.ts.length T (.slice (some ⟨nb,0,none⟩) g.ns.length g.ns.length) (w5.alloc (.cells #[.slice (some ⟨tb,0,none⟩) g.ts.length g.ts.length,.slice (some ⟨nb,0,none⟩) g.ns.length g.ns.length] 78)) m5.tl (by omega) Mu.out.1
   clear m5 t5 n5 l5 l6 b5 zu bhu y0 y1 y2 y3 y4 ch RC hsf
   obtain ⟨tc,htc⟩:∃ tc,T.contains true=tc:=⟨_,rfl⟩
   have HTC:Hid (T.contains true=tc):=htc
   rw [htc] at NT
   clear htc
   cases tc
   ·have REL:Hid (TrR g 0 31 gNil7):=⟨fun _=>⟨M,Mg.out.1,.inr ⟨HMV.out,T,N,RL.out,.inl ⟨HTC.out,rfl,rfl⟩⟩⟩,fun q=>absurd rfl q⟩
    go_wp2_with (go_at_call 27;refine NT.out.mono ?_;rintro e w6 ⟨rfl,b6⟩;have B6:Hid (Below w.heap.size w w6/\w6.heap[w.heap.size]?=some (gBox g)/\w6.heap[w.heap.size+1]?=some zG):=⟨Bu.out.1.trans (b6.mono Bu.out.1.size),(b6.block _ (lt_of_block Bu.out.2.1)).trans Bu.out.2.1,(b6.block _ (lt_of_block Bu.out.2.2)).trans Bu.out.2.2⟩;clear b6;obtain ⟨r0,r1,r2,r3,r4⟩:=zcells B6.out.2.2;obtain ⟨e0,e1,e2,e3,e4⟩:=zfree B6.out.2.2)
    refine bodyPost_ret (v:=.tuple #[gNil7.val,.int .i64 31]) (by simp [results,Tryz.results9,go_sem,r0,r1,r2,r3,r4,gNil7]) rfl ?_
    exact ⟨gNil7,31,rfl,REL.out,DG.nil7 _ _,below_set5 B6.out.1 _ _ _ _ _⟩
   ·go_wp2_with (go_at_call 27;refine NT.out.mono ?_;rintro e w6 ⟨rfl,b6⟩;have B6:Hid (Below w.heap.size w w6/\w6.heap[w.heap.size]?=some (gBox g)/\w6.heap[w.heap.size+1]?=some zG):=⟨Bu.out.1.trans (b6.mono Bu.out.1.size),(b6.block _ (lt_of_block Bu.out.2.1)).trans Bu.out.2.1,(b6.block _ (lt_of_block Bu.out.2.2)).trans Bu.out.2.2⟩;have M6:Hid (BB w6 tb T/\BB w6 nb N/\w6.heap[w5.heap.size]?=some (.cells #[.slice (some ⟨tb,0,none⟩) g.ts.length g.ts.length,.slice (some ⟨nb,0,none⟩) g.ns.length g.ns.length] 78)/\w6.heap[w3.heap.size+1]?=some (.cells #[.func (.func 24) #[] #[.pointer (some ⟨w3.heap.size,0,none⟩)]] 76)/\BB w6 mb M/\w6.heap[w3.heap.size]?=some (.cells #[.slice (some ⟨mb,0,none⟩) g.ns.length g.ns.length] 73)):=⟨Mu.out.1.later b6,Mu.out.2.1.later b6,(b6.block _ (lt_of_block Mu.out.2.2.1)).trans Mu.out.2.2.1,(b6.block _ (lt_of_block Mu.out.2.2.2.1)).trans Mu.out.2.2.2.1,Mu.out.2.2.2.2.1.later b6,(b6.block _ (lt_of_block Mu.out.2.2.2.2.2)).trans Mu.out.2.2.2.2.2⟩;clear b6 c0 c1)
    obtain ⟨wd,hwd⟩:∃ wd:World,wd=w6.drew:=⟨_,rfl⟩
    have b6d:Below w6.heap.size w6 wd:=by rw [hwd];exact (Below.refl _ _).drew
    have GEN:Hid (∀ wq,Below w6.heap.size w6 wq->trS g w.heap.size w5.heap.size tb nb wq):=fun wq hq=>by
     obtain ⟨q0,q1,q2,q3,q4⟩:=gbc ((hq.block _ (lt_of_block B6.out.2.1)).trans B6.out.2.1)
     have e:=(hq.block _ (lt_of_block M6.out.2.2.1)).trans M6.out.2.2.1
     exact ⟨q0,q1,q2,q3,q4,(cQa e).trans rfl,(cQa e).trans rfl⟩
    have hs:Hid (trS g w.heap.size w5.heap.size tb nb wd):=GEN.out wd b6d
    have BD:Hid (Below w6.heap.size w6 wd):=b6d
    have GEN5:Hid (∀ wq v0 v1 v2 v3 v4,Below w6.heap.size w6 wq->trS g w.heap.size w5.heap.size tb nb (((((wq.setCell ⟨w.heap.size+1,0,none⟩ v0).setCell ⟨w.heap.size+1,1,none⟩ v1).setCell ⟨w.heap.size+1,2,none⟩ v2).setCell ⟨w.heap.size+1,3,none⟩ v3).setCell ⟨w.heap.size+1,4,none⟩ v4)):=fun wq v0 v1 v2 v3 v4 hq=>by
     have e:=(hq.block _ (lt_of_block M6.out.2.2.1)).trans M6.out.2.2.1
     have ne5:w5.heap.size≠w.heap.size+1:=by have:=S5.out;omega
     obtain ⟨q0,q1,q2,q3,q4⟩:=gbc (set5 (p:=w.heap.size+1) (by omega) ((hq.block _ (lt_of_block B6.out.2.1)).trans B6.out.2.1) 0 1 2 3 4 v0 v1 v2 v3 v4)
     have e':=set5 ne5 e 0 1 2 3 4 v0 v1 v2 v3 v4
     exact ⟨q0,q1,q2,q3,q4,(cQa e').trans rfl,(cQa e').trans rfl⟩
    have NU:Hid (Calls Tryz.prog 31 #[g.val,.agg #[.slice (some ⟨tb,0,none⟩) g.ts.length g.ts.length,.slice (some ⟨nb,0,none⟩) g.ns.length g.ns.length]] wd fun e w'=>∃ mb D n,e=.returned (.map (some mb))/\w'.ownsMap Tryz.prog 62 rI mb n D/\SMp D (nuF T N (syD 1 g.ts.length++syD 2 g.ns.length)).1/\wd.heap.size<=mb/\Below wd.heap.size wd w'):=numbered_P g wd tb nb T N (HG.out wd (B6.out.1.trans (b6d.mono B6.out.1.size))).2 TL.out.1 TL.out.2 (M6.out.1.later b6d) (M6.out.2.1.later b6d)
    clear b6d NT
    refine wp_region_x (S:=fun _=>trS g w.heap.size w5.heap.size tb nb) (by kernel_rfl) ?_
    rw [<- hwd]
    clear hwd
    refine takeF (i:=0) (v:=?_) rfl (by kernel_rfl) (by decide +kernel) (by decide +kernel) (fun _ _ _ h=>h) (Or.inl ⟨by rfl,?_⟩) hs.out ?_
    rotate_left
    ·(intro w hSw;obtain ⟨z0,z1,z2,z3,z4,z5,z6⟩:=hSw;go_simp;try (with_reducible rfl))
    (try simp only [Act.put,lsA,lsZ,lsN])
    refine takeF (i:=1) (v:=?_) rfl (by kernel_rfl) (by decide +kernel) (by decide +kernel) (fun _ _ _ h=>h) (Or.inl ⟨by rfl,?_⟩) hs.out ?_
    rotate_left
    ·(intro w hSw;obtain ⟨z0,z1,z2,z3,z4,z5,z6⟩:=hSw;go_simp;try (with_reducible rfl))
    (try simp only [Act.put,lsA,lsZ,lsN])
    refine takeF (i:=3) (v:=?_) rfl (by kernel_rfl) (by decide +kernel) (by decide +kernel) (fun _ _ _ h=>h) (Or.inl ⟨by rfl,?_⟩) hs.out ?_
    rotate_left
    ·(intro w hSw;obtain ⟨z0,z1,z2,z3,z4,z5,z6⟩:=hSw;go_simp;try (with_reducible rfl))
    (try simp only [Act.put,lsA,lsZ,lsN])
    refine takeF (i:=4) (v:=?_) rfl (by kernel_rfl) (by decide +kernel) (by decide +kernel) (fun _ _ _ h=>h) (Or.inl ⟨by rfl,?_⟩) hs.out ?_
    rotate_left
    ·(intro w hSw;obtain ⟨z0,z1,z2,z3,z4,z5,z6⟩:=hSw;go_simp;try (with_reducible rfl))
    (try simp only [Act.put,lsA,lsZ,lsN])
    refine wX1 (j:=2) (by decide +kernel) rfl (fun K' hK=>?_)
    refine sCX rfl 31 #[g.val,.agg #[.slice (some ⟨tb,0,none⟩) g.ts.length g.ts.length,.slice (some ⟨nb,0,none⟩) g.ns.length g.ns.length]] _ (run_k2 ent_numbered (v0:=g.val) (v1:=.agg #[.slice (some ⟨tb,0,none⟩) g.ts.length g.ts.length,.slice (some ⟨nb,0,none⟩) g.ns.length g.ns.length]) (by rfl) (by rfl) (by rfl) _) NU.out ?_
    rintro e w7 ⟨nm,D,nn,rfl,o7,s7,l7,b7⟩
    have B67:Hid (Below w6.heap.size w6 w7):=BD.out.trans (b7.mono BD.out.size)
    have MI7:Hid (MI w7 nm (nuF T N (syD 1 g.ts.length++syD 2 g.ns.length)).1):=⟨D,nn,o7,s7⟩
    have hs7:Hid (trS g w.heap.size w5.heap.size tb nb w7):=GEN.out w7 B67.out
    clear o7 s7 l7 b7 NU
    refine ⟨_,rfl,hK.out _ _ hs7.out ?_⟩
    clear hK K' hs
    (try simp only [Act.put,lsA,lsZ,lsN])
    have GR:Hid (Calls Tryz.prog 32 #[.map (some nm),g.val,.func (.func 28) #[] #[.pointer (some ⟨w5.heap.size,0,none⟩),.pointer (some ⟨w3.heap.size+1,0,none⟩)]] w7 fun e w'=>∃ x:GV,e=.returned x.val/\TrG (nuF T N (syD 1 g.ts.length++syD 2 g.ns.length)).1 (sU_ N M) g x/\DG (w7.heap.size+1+1) w' x/\Below w7.heap.size w7 w'):=by
     have bw7:=B6.out.1.trans (B67.out.mono B6.out.1.size)
     have hw:=HG.out w7 bw7
     have hst:=HST.out
     exact gramN_P nm _ g (sU_ N M) 28 #[.pointer (some ⟨w5.heap.size,0,none⟩),.pointer (some ⟨w3.heap.size+1,0,none⟩)] w7 MI7.out hw.1 hw.2 (stays_C g T N M tb nb w5.heap.size (w3.heap.size+1) 24 #[.pointer (some ⟨w3.heap.size,0,none⟩)] w7 hw.2 TL.out.1 TL.out.2 (M6.out.1.later B67.out) (M6.out.2.1.later B67.out) ((B67.out.block _ (lt_of_block M6.out.2.2.1)).trans M6.out.2.2.1) ((B67.out.block _ (lt_of_block M6.out.2.2.2.1)).trans M6.out.2.2.2.1) (whole1_C g M w3.heap.size mb w7 hw.2 Mg.out.1.len (M6.out.2.2.2.2.1.later B67.out) ((B67.out.block _ (lt_of_block M6.out.2.2.2.2.2)).trans M6.out.2.2.2.2.2))) (wf_small (by omega) (by omega)) HPW.out.p HPW.out.ll HPW.out.l
    refine wX1 (j:=5) (by decide +kernel) rfl (fun K' hK=>?_)
    refine sCX rfl 32 #[.map (some nm),g.val,.func (.func 28) #[] #[.pointer (some ⟨w5.heap.size,0,none⟩),.pointer (some ⟨w3.heap.size+1,0,none⟩)]] _ (run_k3 ent_gramN (v0:=.map (some nm)) (v1:=g.val) (v2:=.func (.func 28) #[] #[.pointer (some ⟨w5.heap.size,0,none⟩),.pointer (some ⟨w3.heap.size+1,0,none⟩)]) (by rfl) (by rfl) (by rfl) (by rfl) _) GR.out ?_
    rintro e w8 ⟨x,rfl,t8,d8,b8⟩
    have B68:Hid (Below w6.heap.size w6 w8):=B67.out.trans (b8.mono B67.out.size)
    have D8:Hid (TrG (nuF T N (syD 1 g.ts.length++syD 2 g.ns.length)).1 (sU_ N M) g x/\DG (w7.heap.size+1+1) w8 x):=⟨t8,d8⟩
    have hs8:Hid (trS g w.heap.size w5.heap.size tb nb w8):=GEN.out w8 B68.out
    have S78:Hid (w.heap.size+1+1<=w7.heap.size):=by have:=lt_of_block B6.out.2.2;have:=B67.out.size;show _<=_;omega
    clear t8 d8 b8 GR hs7
    refine ⟨_,rfl,hK.out _ _ hs8.out ?_⟩
    clear hK K'
    (try simp only [Act.put,lsA,lsZ,lsN])
    have B8:Hid (Below w.heap.size w w8/\w8.heap[w.heap.size]?=some (gBox g)/\w8.heap[w.heap.size+1]?=some zG):=⟨B6.out.1.trans (B68.out.mono B6.out.1.size),(B68.out.block _ (lt_of_block B6.out.2.1)).trans B6.out.2.1,(B68.out.block _ (lt_of_block B6.out.2.2)).trans B6.out.2.2⟩
    obtain ⟨r0,r1,r2,r3,r4⟩:=zcells B8.out.2.2
    obtain ⟨e0,e1,e2,e3,e4⟩:=zfree B8.out.2.2
    refine wX1 (j:=6) (by decide +kernel) rfl (fun K' hK=>?_)
    go_simp
    refine hK.out _ _ ?_ ?_
    ·exact GEN5.out w8 _ _ _ _ _ B68.out
    clear hK K'
    (try simp only [Act.put,lsA,lsZ,lsN])
    refine wX1 (j:=7) (by decide +kernel) rfl (fun K' hK=>?_)
    go_simp
    refine hK.out _ _ (GEN5.out w8 _ _ _ _ _ B68.out) ?_
    clear hK K'
    (try simp only [Act.put,lsA,lsZ,lsN])
    refine wXd (by decide +kernel) ?_
    go_wp2
    refine bodyPost_ret (v:=.tuple #[x.val,.int .i64 0]) (by simp [results,Tryz.results9,go_sem,r0,r1,r2,r3,r4]) rfl ?_
    refine ⟨x,0,rfl,⟨fun _=>⟨M,Mg.out.1,.inr ⟨HMV.out,T,N,RL.out,.inr ⟨HTC.out,rfl,D8.out.1⟩⟩⟩,fun q=>absurd rfl q⟩,(D8.out.2.mono (by have:=S78.out;omega)).kept fun k hk hk2=>?_,below_set5 B8.out.1 _ _ _ _ _⟩
    exact (set5 (o:=w8.heap[k]'hk2) (by omega) (by simp) _ _ _ _ _ _ _ _ _ _).trans (by simp)
 ·have t1:(er != 0)=true:=by simpa using h0
  have REL:Hid (TrR g er er gNil7):=⟨fun q=>absurd q h0,fun _=>⟨rfl,rfl⟩⟩
  clear h hE h0 hPW hpc
  go_enter Tryz.func9,Tryz.ntmps9
  go_wp2_with (go_at_call 19;refine CK.out.mono ?_;rintro e w2 ⟨rfl,b2⟩;have Bw2:Hid (Below w.heap.size w w2/\w2.heap[w.heap.size]?=some (gBox g)/\w2.heap[w.heap.size+1]?=some zG):=⟨B1.out.1.trans (b2.mono B1.out.1.size),(b2.block _ (lt_of_block B1.out.2.1)).trans B1.out.2.1,(b2.block _ (lt_of_block B1.out.2.2)).trans B1.out.2.2⟩;clear b2 x0 x1 x2 x3 x4;obtain ⟨r0,r1,r2,r3,r4⟩:=zcells Bw2.out.2.2;obtain ⟨e0,e1,e2,e3,e4⟩:=zfree Bw2.out.2.2)
  refine bodyPost_ret (v:=.tuple #[gNil7.val,.int .i64 er]) (by simp [results,Tryz.results9,go_sem,r0,r1,r2,r3,r4,gNil7]) rfl ?_
  exact ⟨gNil7,er,rfl,REL.out,DG.nil7 _ _,below_set5 Bw2.out.1 _ _ _ _ _⟩
end Go.Proofs.YthaamdognbncnaaGreatDoor
