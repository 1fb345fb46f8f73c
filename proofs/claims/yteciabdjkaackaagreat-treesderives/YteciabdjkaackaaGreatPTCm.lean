import Derived.Test.YteciabdjkaackaaGreatPTCkToTCl
namespace Go.Proofs.YteciabdjkaackaaGreat
set_option linter.unusedVariables false
open Go.RowKit
theorem row_pop {N:Nat}{w:World}{v:Value}{L:List (Int×Int)}{s:Int×Int}(h:w.ownsRow N 82 2 v (L++[s]).length (sCl (L++[s]))):∃ sb c,v=.slice (some ⟨sb,0,none⟩) (L.length+1) c/\L.length+1<=c/\w.cell? ⟨sb,L.length*2,none⟩=some (.int .i64 s.1)/\w.cell? ⟨sb,L.length*2+1,none⟩=some (.int .i64 s.2)/\w.ownsRow N 82 2 (.slice (some ⟨sb,0,none⟩) L.length c) L.length (sCl L):=by
 have hl:(L++[s]).length=L.length+1:=by simp
 rw [hl] at h
 have hrow:=h
 rcases h.2 with ⟨_,h0⟩ | ⟨gg,cap,cur,rfl,h1,h2,h3,h4,h5,h6⟩
 ·omega
 ·have hg:∀ j,j < (L.length+1)*2->w.cell? ⟨gg,j,none⟩=(sCl (L++[s]))[j]?:=fun j hj=>by
   rw [cQa h2,<- h6,List.getElem?_take_of_lt hj]
   simp
  rw [symCells_app] at hg h6
  have hsl:=symCells_len L
  refine ⟨gg,cap,rfl,h3,?_,?_,symCells_len L,.inr ⟨gg,cap,cur,rfl,h1,h2,by omega,h4,h5,?_⟩⟩
  ·rw [hg _ (by omega),<- hsl];simp
  ·rw [hg _ (by omega),<- hsl];simp
  ·have e:cur.toList.take (L.length*2)=(cur.toList.take ((L.length+1)*2)).take (L.length*2):=by
    rw [List.take_take];congr 1;omega
   rw [e,h6,<- hsl,List.take_left]
theorem wrap_W {x:Int}(h1:-9223372036854775808<=x)(h2:x<=9223372036854775807):IntKind.i64.wrap x=x:=IntWalk.i64_in _ ⟨by omega,by omega⟩
theorem ent_due:EntW 105:=fun _ _=>by kernel_rfl
theorem ent_push:EntW 106:=fun _ _=>by kernel_rfl
theorem ent_check1:EntW 103:=fun _ _=>by kernel_rfl
theorem duP_cons {x:SP}{P:List SP}(h:x.u=true):duP (x :: P)=duP P++[x.s]:=by
 unfold duP
 rw [List.filter_cons_of_pos (by simpa using h)]
 simp
theorem duP_skip {x:SP}{P:List SP}(h:x.u=false):duP (x :: P)=duP P:=by
 unfold duP
 rw [List.filter_cons_of_neg (by simp [h])]
abbrev gcS (b:Nat)(g:GV)(w:World):Prop:=w.cell? ⟨b,0,none⟩=some (.slice g.ta g.ts.length g.tc)/\w.cell? ⟨b,1,none⟩=some (.slice g.na g.ns.length g.nc)/\w.cell? ⟨b,2,none⟩=some (.int .i64 g.start)/\w.cell? ⟨b,3,none⟩=some (.slice g.pa g.ps.length g.pc)/\w.cell? ⟨b,4,none⟩=some (.slice g.la g.ls.length g.lc)
def du3 (b:Nat)(g:GV)(sb k c:Nat)(s:Int×Int)(w:World):Prop:=gcS b g w/\w.cell? ⟨b+3,0,none⟩=some (.slice (some ⟨sb,0,none⟩) (k+1) c)/\w.cell? ⟨sb,k*2,none⟩=some (.int .i64 s.1)/\w.cell? ⟨sb,k*2+1,none⟩=some (.int .i64 s.2)
theorem du3.later {b:Nat}{g:GV}{sb k c:Nat}{s:Int×Int}{w w':World}(h:du3 b g sb k c s w)(hb:Below w.heap.size w w'):du3 b g sb k c s w':=by
 obtain ⟨⟨a0,a1,a2,a3,a4⟩,a5,a6,a7⟩:=h
 exact ⟨⟨cellW hb a0,cellW hb a1,cellW hb a2,cellW hb a3,cellW hb a4⟩,cellW hb a5,cellW hb a6,cellW hb a7⟩
def pu9 (b:Nat)(g:GV)(v:Value)(pb po j:Nat)(ra:Option Addr)(rl rc:Nat)(p q:Nat)(w:World):Prop:=w.cell? ⟨b+3,0,none⟩=some v/\w.cell? ⟨b,3,none⟩=some (.slice (some ⟨pb,po,none⟩) g.ps.length g.pc)/\w.cell? ⟨p,q,none⟩=some (.int .i64 (j:Int))/\w.cell? ⟨pb,po+j*3+1,none⟩=some (.slice ra rl rc)
set_option linter.unusedSimpArgs false in
set_option maxRecDepth 100000 in
set_option maxHeartbeats 8000000 in
theorem check1_W (w0:World)(g:GV)(p0 q0:Nat)(t0:TV)(b:Nat)(D R2:List EV)(p q:Nat)(t:TV)(w:World)(h:KSt w0 g p0 q0 t0 b D w)(hD:D++⟨true,p,q,t⟩ :: R2=evT p0 q0 t0)(ht:TBx w0 p q t)(hg:GAt 140737488355328 w0 g)(hsz:szT t0<=100000000) :
  Calls Tryz.prog 103 #[.pointer (some ⟨p,q,none⟩),.pointer (some ⟨b,0,none⟩),.pointer (some ⟨b+1,0,none⟩),.pointer (some ⟨b+2,0,none⟩),.pointer (some ⟨b+3,0,none⟩)] w fun e w'=>∃ r,e=.returned (.bool r)/\OnStp w0.heap.size w w'/\(r=true->KSt w0 g p0 q0 t0 b (D++[⟨true,p,q,t⟩]) w')/\(r=false->KFn w0 g t0 b w'):=by
 obtain ⟨R,P,v,a1,a2,a3,a4,a4',a5,a6,a7⟩:=h.th
 obtain ⟨x,P',rfl,hxt,hR2⟩:=kst_head a1 hD a2
 have hxd:=a3 x List.mem_cons_self
 have hxu:=a4' x (by simp)
 rw [ckP_cons g x P' hxd,hxt] at a5
 have HEN:Hid (enE (D++[⟨true,p,q,t⟩])=enE D++[t]):=by rw [enE_app,enE_in];exact rfl
 have hdb:(enE D).length<=200000000:=Nat.le_trans (enE_len D) (Nat.le_of_lt (ev_bound hD hsz))
 have hlen:(enE R2).length<=100000000:=by
  have h1:=ev_pre t0 p0 q0
  rw [<- hD,show D++(⟨true,p,q,t⟩:EV) :: R2=D++[⟨true,p,q,t⟩]++R2 by simp,enE_app] at h1
  have h2:=congrArg List.length h1
  rw [List.length_append,preT_len] at h2
  omega
 rw [hR2,List.length_append] at hlen
 have HKL:Hid (t.kids.length<=100000000):=by
  have h1:t.kids.length<=(preL t.kids).length:=by
   have h2:=szL_len t.kids
   have h3:=preT_len t
   rw [preT_eq,List.length_cons,szT_eq] at h3
   omega
  show _<=_
  omega
 have HDL:Hid ((duP P').length<=100000000):=by have:=duP_len P';show _<=_;omega
 have K0:Hid (KW w0 w g b 0 ((enE D).length:Int) v (duP (x :: P')) w):=⟨h.bel,h.yn,h.gb,h.eb,h.pb,a6,a7,OnStp.refl _ _⟩
 have HT:Hid (∀ w',Below w0.heap.size w0 w'->TBx w' p q t):=fun w' hb=>ht.later hb
 have HGA:Hid (∀ w',Below w0.heap.size w0 w'->GAt 140737488355328 w' g):=fun w' hb=>hg.later hb
 have HBW:Hid (Below w0.heap.size w0 w):=h.bel
 have CI:Hid (∀ w',Below w0.heap.size w0 w'->Calls Tryz.prog 36 #[.pointer (some ⟨p,q,none⟩)] w' fun e w''=>e=.returned (.bool (t.prod == -1))/\w''=w'):=fun w' hb=>isLeaf_W p q t w' (ht.later hb)
 have CO:Hid (∀ w',Below w0.heap.size w0 w'->Calls Tryz.prog 104 #[g.val,.pointer (some ⟨p,q,none⟩)] w' fun e w''=>e=.returned (.int .i64 (alTU g t))/\Below w'.heap.size w' w''):=fun w' hb=>ownFault_W g p q t w' (hg.later hb) (ht.later hb) (by have:=HKL.out;omega)
 have HFA:Hid (∀ e w',erU g x=e->e≠0->Below w0.heap.size w0 w'->w'.heap[b+1]?=some (eBox e)->w'.heap[b+2]?=some (iBox ((enE D).length:Int))->KFn w0 g t0 b w'):=fun e w' he hne h1 h2 h3=>by
  rw [runU_bad (by rw [he];exact hne),he] at a5
  exact ⟨h1,e,(enE D).length,a5.symm,h2,h3⟩
 have HFI:Hid (erU g x=0->∀ v'' w'',KW w0 w g b 0 (((enE D).length:Int)+1) v'' (duP (ckK (rightU g t) t.kids++P')) w''->KSt w0 g p0 q0 t0 b (D++[⟨true,p,q,t⟩]) w''):=fun he v'' w'' k=>by
  rw [runU_good he] at a5
  refine ⟨k.bel,k.yn,k.gb,k.eb,?_,R2,ckK (rightU g t) t.kids++P',v'',by rw [<- hD];simp,?_,?_,?_,?_,?_,k.db,k.row⟩
  ·rw [HEN.out,List.length_append,List.length_singleton]
   exact k.pb
  ·rw [hR2,preP_kids]
  ·intro y hy
   rcases List.mem_append.1 hy with hy | hy
   ·exact (ckK_u _ _ y hy).2
   ·exact a3 y (List.mem_cons_of_mem _ hy)
  ·intro y hy
   rcases List.mem_append.1 (List.mem_of_mem_tail hy) with hy | hy
   ·exact (ckK_u _ _ y hy).1
   ·exact a4 y hy
  ·intro y hy
   have hy':y∈ckK (rightU g t) t.kids++P':=List.mem_of_mem_head? hy
   rw [HEN.out,List.length_append,List.length_singleton]
   rw [decide_eq_true (by omega)]
   rcases List.mem_append.1 hy' with hy | hy
   ·exact (ckK_u _ _ y hy).1
   ·exact a4 y hy
  ·rw [HEN.out,List.length_append,List.length_singleton]
   exact a5
 clear a5 a7 a6 a1 a2 a3 a4 a4' hlen hR2 HEN h ht hg hsz hD
 obtain ⟨n,hn⟩:∃ n,(enE D).length=n:=⟨_,rfl⟩
 rw [hn] at K0 HFA HFI hdb hxu
 clear hn
 by_cases hal:alTU g t=0
 ·have HAR:Hid ((t.prod=-1∨(0<=t.prod/\t.prod < g.ps.length))/\rtU g t=rootU g t/\(t.prod=-1->t.kids=[])/\(t.prod≠-1->(rightU g t).length=t.kids.length)):=al_root hal
  have HLF:Hid (t.prod=-1->duP (ckK (rightU g t) t.kids++P')=duP P'):=fun hp=>by rw [HAR.out.2.2.1 hp];rfl
  have GB9:Hid (∀ (wd w9:World) {v5:Value},KW w0 w g b 0 ((n:Int)+1) v5 (duP P') wd->FrS wd w9->w9.heap[b]?=some (gBox g)):=fun wd w9 {v5} k hf=>hf _ _ k.gb (fun ⟨_,_,e⟩=>by simp at e)
  rw [hal] at CO
  obtain ⟨g0,g1,g2,g3,g4⟩:=gbx_cells K0.out.gb
  have e0:w.cell? ⟨b+1,0,none⟩=some (.int .i64 0):=(cQa K0.out.eb).trans rfl
  by_cases hn0:n=0
  ·subst hn0
   have hxf:x.u=false:=by rw [hxu];rfl
   have her:erU g x=0:=by
    unfold erU
    rw [hxt,if_neg (by simpa using hal),if_neg (by rintro ⟨q,_⟩;rw [hxf] at q;cases q)]
   have HFIN:Hid (∀ v'' w'',KW w0 w g b 0 (((0:Nat):Int)+1) v'' (duP (ckK (rightU g t) t.kids++P')) w''->KSt w0 g p0 q0 t0 b (D++[⟨true,p,q,t⟩]) w''):=HFI.out her
   rw [duP_skip hxf] at K0
   clear HFI HFA her hxf hxu hal hxt
   go_enter Tryz.func103,Tryz.ntmps103
   go_upto_region 2 with (go_at_call 104;refine (CO.out _ HBW.out).mono ?_;rintro e w1 ⟨rfl,b1⟩;have K1:Hid (KW w0 w g b 0 ((0:Nat):Int) v (duP P') w1):=K0.out.later b1;have e1:w1.cell? ⟨b+1,0,none⟩=some (.int .i64 0):=(cQa K1.out.eb).trans rfl;have f1:w1.frozen? ⟨b+1,0,none⟩=false:=(by simp [World.frozen?,K1.out.eb]);clear b1 g0 g1 g2 g3 g4 e0)
   refine wp_world (fun w'=>KW w0 w g b 0 ((0:Nat):Int) v (duP P') w') (K1.out.setE _) fun w5 k5=>?_
   have K5:Hid (KW w0 w g b 0 ((0:Nat):Int) v (duP P') w5):=k5
   clear k5 K1 K0 e1 f1
   obtain ⟨v5,hv5⟩:∃ v5,v5=v:=⟨_,rfl⟩
   rw [<- hv5] at K5
   clear hv5
   have e5:w5.cell? ⟨b+1,0,none⟩=some (.int .i64 0):=(cQa K5.out.eb).trans rfl
   have p5:w5.cell? ⟨b+2,0,none⟩=some (.int .i64 0):=(cQa K5.out.pb).trans rfl
   go_upto_region 5 with fail
   clear e5 p5
   obtain ⟨n,hn⟩:∃ n:Nat,n=0:=⟨_,rfl⟩
   rw [<- hn] at K5 HFIN GB9
   have hdb:n<=200000000:=by omega
   clear hn
   obtain ⟨e0,-⟩:w5.cell? ⟨b+1,0,none⟩=some (.int .i64 0)/\True:=⟨(cQa K5.out.eb).trans rfl,trivial⟩
   obtain ⟨c0,c1⟩:=ib_cell K5.out.pb
   go_upto_region 8 with fail
   refine wp_world (fun w'=>KW w0 w g b 0 ((n:Int)+1) v5 (duP P') w') (K5.out.setP _) fun w8 k8=>?_
   have K8:Hid (KW w0 w g b 0 ((n:Int)+1) v5 (duP P') w8):=k8
   clear e0 c0 c1 K5 k8
   by_cases hp:t.prod=-1
   ·have t1:(t.prod == -1)=true:=by simpa using hp
    rw [t1] at CI
    have HL:=HLF.out hp
    clear t1 hp
    go_wp2_with (go_at_call 36;refine (CI.out _ K8.out.bel).mono ?_;rintro e w9 ⟨rfl,hw9⟩;obtain rfl:=hw9.symm)
    go_ret
    exact ⟨true,rfl,K8.out.on,fun _=>HFIN.out _ _ (by rw [HL];exact K8.out),fun q=>by cases q⟩
   ·have t1:(t.prod == -1)=false:=by simpa using hp
    rw [t1] at CI
    obtain ⟨j,hj⟩:∃ j:Nat,t.prod=(j:Int):=⟨t.prod.toNat,by have:=HAR.out.1;omega⟩
    have hjl:j < g.ps.length:=by have:=HAR.out.1;omega
    have hru:rightU g t=(g.ps.getD j .none).right:=by unfold rightU;rw [hj,Int.toNat_natCast]
    have HLR:Hid ((rightU g t).length=t.kids.length):=HAR.out.2.2.2 hp
    obtain ⟨pb,po,hpa,-⟩:=ps_cells (HGA.out w (by exact HBW.out)) hjl
    have jlt:(j:Int) < (g.ps.length:Int):=by omega
    obtain ⟨ra,hra⟩:∃ ra,(g.ps.getD j .none).ra=ra:=⟨_,rfl⟩
    obtain ⟨rc,hrc⟩:∃ rc,(g.ps.getD j .none).rc=rc:=⟨_,rfl⟩
    have HS9:Hid (∀ w',Below w0.heap.size w0 w'->w'.heap[b]?=some (gBox g)->w'.heap[b+3]?=some (.cells #[v5] 100)->pu9 b g v5 pb po j ra (rightU g t).length rc p q w'/\SymRow w' ra (rightU g t)):=fun w' hb hx hd=>by
     obtain ⟨pb',po',hpa',-,-,c1,c2⟩:=ps_cells (HGA.out w' hb) hjl
     rw [hpa] at hpa'
     simp only [Option.some.injEq,Addr.mk.injEq,and_true] at hpa'
     obtain ⟨rfl,rfl⟩:=hpa'
     have h4:=(gbx_cells hx).2.2.2.1
     rw [hpa] at h4
     have h5:=(HT.out w' hb).c0
     rw [hj] at h5
     rw [hra,hrc,<- hru] at c1
     rw [hra,<- hru] at c2
     exact ⟨⟨(cQa hd).trans rfl,h4,h5,c1⟩,c2⟩
    have HSR:Hid (∀ w',Below w0.heap.size w0 w'->SymRow w' ra (rightU g t)):=fun w' hb=>by
     obtain ⟨_,_,_,-,-,-,c2⟩:=ps_cells (HGA.out w' hb) hjl
     rw [hra,<- hru] at c2
     exact c2
    have HN9:Hid ((duP P').length+(rightU g t).length<=1000000000):=by have h1:=HDL.out;have h2:=HLR.out;have h3:=HKL.out;show _<=_;omega
    have HDK:Hid (duP (ckK (rightU g t) t.kids++P')=duP P'++(rightU g t).reverse):=duP_kids _ _ HLR.out _
    clear t1 hp hru hj hjl hpa hra hrc
    go_upto_region 9 with (go_at_call 36;refine (CI.out _ K8.out.bel).mono ?_;rintro e w9 ⟨rfl,hw9⟩;obtain rfl:=hw9.symm)
    obtain ⟨wd,hwd⟩:∃ wd:World,wd=w8.drew:=⟨_,rfl⟩
    have KD:Hid (KW w0 w g b 0 ((n:Int)+1) v5 (duP P') wd):=by rw [hwd];exact K8.out.later (Below.refl _ _).drew
    have hs:Hid (pu9 b g v5 pb po j ra (rightU g t).length rc p q wd):=(HS9.out wd KD.out.bel KD.out.gb KD.out.db).1
    refine wp_region_x (S:=SX 11 (fun _=>True) (pu9 b g v5 pb po j ra (rightU g t).length rc p q)) (by kernel_rfl) ?_
    rw [<- hwd]
    clear hwd
    refine wXt (m:=11) (i:=0) (v:=?_) rfl (by kernel_rfl) (by kernel_rfl) (by decide) (by decide +kernel) (by decide +kernel) (fun _ _ _ h=>h) (by kernel_rfl) (Or.inl ⟨by rfl,?_⟩) (SX.both trivial hs.out) ?_
    rotate_left
    ·(intro w hSw;obtain ⟨_,z0,z1,z2,z3⟩:=hSw;go_simp;try (with_reducible rfl))
    (try simp only [Act.put,List.setIfInBounds_toArray,List.set_cons_zero,List.set_cons_succ])
    refine wXt (m:=11) (i:=1) (v:=?_) rfl (by kernel_rfl) (by kernel_rfl) (by decide) (by decide +kernel) (by decide +kernel) (fun _ _ _ h=>h) (by kernel_rfl) (Or.inl ⟨by rfl,?_⟩) (SX.both trivial hs.out) ?_
    rotate_left
    ·(intro w hSw;obtain ⟨_,z0,z1,z2,z3⟩:=hSw;go_simp;try (with_reducible rfl))
    (try simp only [Act.put,List.setIfInBounds_toArray,List.set_cons_zero,List.set_cons_succ])
    refine wXt (m:=11) (i:=2) (v:=?_) rfl (by kernel_rfl) (by kernel_rfl) (by decide) (by decide +kernel) (by decide +kernel) (fun _ _ _ h=>h) (by kernel_rfl) (Or.inl ⟨by rfl,?_⟩) (SX.both trivial hs.out) ?_
    rotate_left
    ·(intro w hSw;obtain ⟨_,z0,z1,z2,z3⟩:=hSw;go_simp;try (with_reducible rfl))
    (try simp only [Act.put,List.setIfInBounds_toArray,List.set_cons_zero,List.set_cons_succ])
    refine wXt (m:=11) (i:=3) (v:=?_) rfl (by kernel_rfl) (by kernel_rfl) (by decide) (by decide +kernel) (by decide +kernel) (fun _ _ _ h=>h) (by kernel_rfl) (Or.inl ⟨by rfl,?_⟩) (SX.both trivial hs.out) ?_
    rotate_left
    ·(intro w hSw;obtain ⟨_,z0,z1,z2,z3⟩:=hSw;go_simp;try (with_reducible rfl))
    (try simp only [Act.put,List.setIfInBounds_toArray,List.set_cons_zero,List.set_cons_succ])
    refine wXt (m:=11) (i:=4) (v:=?_) rfl (by kernel_rfl) (by kernel_rfl) (by decide) (by decide +kernel) (by decide +kernel) (fun _ _ _ h=>h) (by kernel_rfl) (Or.inl ⟨by rfl,?_⟩) (SX.both trivial hs.out) ?_
    rotate_left
    ·(intro w hSw;obtain ⟨_,z0,z1,z2,z3⟩:=hSw;go_simp;try (with_reducible rfl))
    (try simp only [Act.put,List.setIfInBounds_toArray,List.set_cons_zero,List.set_cons_succ])
    refine wXt (m:=11) (i:=5) (v:=?_) rfl (by kernel_rfl) (by kernel_rfl) (by decide) (by decide +kernel) (by decide +kernel) (fun _ _ _ h=>h) (by kernel_rfl) (Or.inl ⟨by rfl,?_⟩) (SX.both trivial hs.out) ?_
    rotate_left
    ·(intro w hSw;obtain ⟨_,z0,z1,z2,z3⟩:=hSw;go_simp;try (with_reducible rfl))
    (try simp only [Act.put,List.setIfInBounds_toArray,List.set_cons_zero,List.set_cons_succ])
    refine wXt (m:=11) (i:=6) (v:=?_) rfl (by kernel_rfl) (by kernel_rfl) (by decide) (by decide +kernel) (by decide +kernel) (fun _ _ _ h=>h) (by kernel_rfl) (Or.inl ⟨by rfl,?_⟩) (SX.both trivial hs.out) ?_
    rotate_left
    ·(intro w hSw;obtain ⟨_,z0,z1,z2,z3⟩:=hSw;go_simp;try (with_reducible rfl))
    (try simp only [Act.put,List.setIfInBounds_toArray,List.set_cons_zero,List.set_cons_succ])
    refine wXt (m:=11) (i:=7) (v:=?_) rfl (by kernel_rfl) (by kernel_rfl) (by decide) (by decide +kernel) (by decide +kernel) (fun _ _ _ h=>h) (by kernel_rfl) (Or.inl ⟨by rfl,?_⟩) (SX.both trivial hs.out) ?_
    rotate_left
    ·(intro w hSw;obtain ⟨_,z0,z1,z2,z3⟩:=hSw;go_simp;try (with_reducible rfl))
    (try simp only [Act.put,List.setIfInBounds_toArray,List.set_cons_zero,List.set_cons_succ])
    refine wXt (m:=11) (i:=8) (v:=?_) rfl (by kernel_rfl) (by kernel_rfl) (by decide) (by decide +kernel) (by decide +kernel) (fun _ _ _ h=>h) (by kernel_rfl) (Or.inl ⟨by rfl,?_⟩) (SX.both trivial hs.out) ?_
    rotate_left
    ·(intro w hSw;obtain ⟨_,z0,z1,z2,z3⟩:=hSw;go_simp;try (with_reducible rfl))
    (try simp only [Act.put,List.setIfInBounds_toArray,List.set_cons_zero,List.set_cons_succ])
    refine wXt (m:=11) (i:=9) (v:=?_) rfl (by kernel_rfl) (by kernel_rfl) (by decide) (by decide +kernel) (by decide +kernel) (fun _ _ _ h=>h) (by kernel_rfl) (Or.inl ⟨by rfl,?_⟩) (SX.both trivial hs.out) ?_
    rotate_left
    ·(intro w hSw;obtain ⟨_,z0,z1,z2,z3⟩:=hSw;go_simp;try (with_reducible rfl))
    (try simp only [Act.put,List.setIfInBounds_toArray,List.set_cons_zero,List.set_cons_succ])
    refine wX1 (j:=10) (by decide +kernel) rfl (fun K' hK=>?_)
    refine sCX rfl 106 #[v5,.slice ra (rightU g t).length rc] _ (run_W2 ent_push (v0:=v5) (v1:=.slice ra (rightU g t).length rc) (by rfl) (by rfl) (by rfl)) (pushRight_W w0.heap.size v5 (duP P') ra rc (rightU g t) _ KD.out.bel.size KD.out.row (fun W' hW=>HSR.out W' (KD.out.bel.trans hW)) HN9.out) ?_
    rintro e w9 ⟨v9,rfl,r9,b9,f9⟩
    obtain ⟨k9,d9⟩:=KD.out.fr b9 f9 r9
    have K9:Hid (KW w0 w g b 0 ((n:Int)+1) v9 (duP P'++(rightU g t).reverse) (w9.setCell ⟨b+3,0,none⟩ v9)):=k9
    have hs9:Hid (pu9 b g v5 pb po j ra (rightU g t).length rc p q w9):=(HS9.out w9 (KD.out.bel.trans b9) (GB9.out wd w9 KD.out f9) d9).1
    obtain ⟨v9a,v9n,v9c,rfl⟩:∃ a n c,v9=.slice a n c:=by
     rcases r9.2 with ⟨rfl,h0⟩ | ⟨gg,cap,cur,rfl,_⟩
     ·exact ⟨_,_,_,rfl⟩
     ·exact ⟨_,_,_,rfl⟩
    have z0:=hs9.out.1
    have zf:w9.frozen? ⟨b+3,0,none⟩=false:=by simp [World.frozen?,d9]
    clear hs k9 d9 r9 b9 f9
    refine ⟨_,rfl,hK.out _ _ (SX.both trivial hs9.out) ?_⟩
    clear hK K'
    (try simp only [Act.put,List.setIfInBounds_toArray,List.set_cons_zero,List.set_cons_succ])
    refine wX1 (j:=11) (by decide +kernel) rfl (fun K' hK=>?_)
    go_simp
    refine hK.out _ _ (SX.one trivial (by kernel_rfl)) ?_
    clear hK K'
    (try simp only [Act.put,List.setIfInBounds_toArray,List.set_cons_zero,List.set_cons_succ])
    refine wXd (by decide +kernel) ?_
    go_wp2
    go_ret
    exact ⟨true,rfl,K9.out.on,fun _=>HFIN.out _ _ (by rw [HDK.out];exact K9.out),fun q=>by cases q⟩
  ·have hxtr:x.u=true:=by rw [hxu];exact decide_eq_true (by omega)
   have her:erU g x=duU g t x.s:=by
    unfold erU duU
    rw [hxt,if_neg (by simpa using hal),HAR.out.2.1]
    by_cases hq:rootU g t=x.s
    ·rw [if_pos hq,if_neg (fun e=>e.2 hq)]
    ·rw [if_neg hq,if_pos ⟨hxtr,hq⟩]
   obtain ⟨er,hdu⟩:∃ er,duU g t x.s=er:=⟨_,rfl⟩
   rw [hdu] at her
   have CD:Hid (∀ w',Below w0.heap.size w0 w'->Calls Tryz.prog 105 #[g.val,.pointer (some ⟨p,q,none⟩),.agg #[.int .i64 x.s.1,.int .i64 x.s.2]] w' fun e w''=>e=.returned (.int .i64 er)/\Below w'.heap.size w' w''):=fun w' hb=>by
    have:=dueFault_W g p q t x.s w' (HGA.out w' hb) (HT.out w' hb) HAR.out.1
    rwa [hdu] at this
   rw [duP_cons hxtr] at K0
   obtain ⟨sb,c,rfl,hc,-,-,-⟩:=row_pop K0.out.row
   have HER:Hid (erU g x=er):=her
   have hk:(duP P').length<=100000000:=HDL.out
   obtain ⟨k,hkk⟩:∃ k,(duP P').length=k:=⟨_,rfl⟩
   have HKK:Hid ((duP P').length=k):=hkk
   rw [hkk] at K0 hk hc
   have S3:Hid (∀ w',KW w0 w g b 0 (n:Int) (.slice (some ⟨sb,0,none⟩) (k+1) c) (duP P'++[x.s]) w'->du3 b g sb k c x.s w'):=fun w' kw=>by
    obtain ⟨sb',c',e',-,h1,h2,-⟩:=row_pop kw.row
    simp only [Value.slice.injEq,Option.some.injEq,Addr.mk.injEq,and_true] at e'
    obtain ⟨rfl,-,rfl⟩:=e'
    rw [HKK.out] at h1 h2
    exact ⟨gbx_cells kw.gb,(cQa kw.db).trans rfl,h1,h2⟩
   have HPO:Hid (∀ w',KW w0 w g b er (n:Int) (.slice (some ⟨sb,0,none⟩) (k+1) c) (duP P'++[x.s]) w'->KW w0 w g b er (n:Int) (.slice (some ⟨sb,0,none⟩) k c) (duP P') (w'.setCell ⟨b+3,0,none⟩ (.slice (some ⟨sb,0,none⟩) k c))):=fun w' kw=>by
    obtain ⟨sb',c',e',-,-,-,h3⟩:=row_pop kw.row
    simp only [Value.slice.injEq,Option.some.injEq,Addr.mk.injEq,and_true] at e'
    obtain ⟨rfl,-,rfl⟩:=e'
    rw [HKK.out] at h3
    exact kw.setD (by rw [HKK.out];exact h3)
   have hp1:(0:Int) < (n:Int):=by omega
   have tw:IntKind.i64.wrap (k:Int)=(k:Int):=wrap_W (by omega) (by omega)
   have tk:(k:Int) < (k:Int)+1:=by omega
   clear her hdu hxtr hxu hal hxt hkk hn0
   go_enter Tryz.func103,Tryz.ntmps103
   go_upto_region 2 with (go_at_call 104;refine (CO.out _ HBW.out).mono ?_;rintro e w1 ⟨rfl,b1⟩;have K1:Hid (KW w0 w g b 0 (n:Int) (.slice (some ⟨sb,0,none⟩) (k+1) c) (duP P'++[x.s]) w1):=K0.out.later b1;have e1:w1.cell? ⟨b+1,0,none⟩=some (.int .i64 0):=(cQa K1.out.eb).trans rfl;have f1:w1.frozen? ⟨b+1,0,none⟩=false:=(by simp [World.frozen?,K1.out.eb]);clear b1 g0 g1 g2 g3 g4 e0)
   refine wp_world (fun w'=>KW w0 w g b 0 (n:Int) (.slice (some ⟨sb,0,none⟩) (k+1) c) (duP P'++[x.s]) w') (K1.out.setE _) fun w2 k2=>?_
   have K2:Hid (KW w0 w g b 0 (n:Int) (.slice (some ⟨sb,0,none⟩) (k+1) c) (duP P'++[x.s]) w2):=k2
   clear k2 K1 K0 e1 f1
   have e5:w2.cell? ⟨b+1,0,none⟩=some (.int .i64 0):=(cQa K2.out.eb).trans rfl
   have p5:w2.cell? ⟨b+2,0,none⟩=some (.int .i64 (n:Int)):=(cQa K2.out.pb).trans rfl
   go_upto_region 3 with fail
   clear e5 p5
   obtain ⟨wd,hwd⟩:∃ wd:World,wd=w2.drew:=⟨_,rfl⟩
   have KD:Hid (KW w0 w g b 0 (n:Int) (.slice (some ⟨sb,0,none⟩) (k+1) c) (duP P'++[x.s]) wd):=by rw [hwd];exact K2.out.later (Below.refl _ _).drew
   have hs:Hid (du3 b g sb k c x.s wd):=S3.out wd KD.out
   refine wp_region_x (S:=SX 9 (fun _=>True) (du3 b g sb k c x.s)) (by kernel_rfl) ?_
   rw [<- hwd]
   clear hwd K2
   refine wXt (m:=9) (i:=0) (v:=?_) rfl (by kernel_rfl) (by kernel_rfl) (by decide) (by decide +kernel) (by decide +kernel) (fun _ _ _ h=>h) (by kernel_rfl) (Or.inl ⟨by rfl,?_⟩) (SX.both trivial hs.out) ?_
   rotate_left
   ·(intro w hSw;obtain ⟨_,⟨y0,y1,y2,y3,y4⟩,y5,y6,y7⟩:=hSw;go_simp;try (with_reducible rfl))
   (try simp only [Act.put,List.setIfInBounds_toArray,List.set_cons_zero,List.set_cons_succ])
   refine wXt (m:=9) (i:=1) (v:=?_) rfl (by kernel_rfl) (by kernel_rfl) (by decide) (by decide +kernel) (by decide +kernel) (fun _ _ _ h=>h) (by kernel_rfl) (Or.inl ⟨by rfl,?_⟩) (SX.both trivial hs.out) ?_
   rotate_left
   ·(intro w hSw;obtain ⟨_,⟨y0,y1,y2,y3,y4⟩,y5,y6,y7⟩:=hSw;go_simp;try (with_reducible rfl))
   (try simp only [Act.put,List.setIfInBounds_toArray,List.set_cons_zero,List.set_cons_succ])
   refine wXt (m:=9) (i:=2) (v:=?_) rfl (by kernel_rfl) (by kernel_rfl) (by decide) (by decide +kernel) (by decide +kernel) (fun _ _ _ h=>h) (by kernel_rfl) (Or.inl ⟨by rfl,?_⟩) (SX.both trivial hs.out) ?_
   rotate_left
   ·(intro w hSw;obtain ⟨_,⟨y0,y1,y2,y3,y4⟩,y5,y6,y7⟩:=hSw;go_simp;try (with_reducible rfl))
   (try simp only [Act.put,List.setIfInBounds_toArray,List.set_cons_zero,List.set_cons_succ])
   refine wXt (m:=9) (i:=3) (v:=?_) rfl (by kernel_rfl) (by kernel_rfl) (by decide) (by decide +kernel) (by decide +kernel) (fun _ _ _ h=>h) (by kernel_rfl) (Or.inl ⟨by rfl,?_⟩) (SX.both trivial hs.out) ?_
   rotate_left
   ·(intro w hSw;obtain ⟨_,⟨y0,y1,y2,y3,y4⟩,y5,y6,y7⟩:=hSw;go_simp;try (with_reducible rfl))
   (try simp only [Act.put,List.setIfInBounds_toArray,List.set_cons_zero,List.set_cons_succ])
   refine wXt (m:=9) (i:=4) (v:=?_) rfl (by kernel_rfl) (by kernel_rfl) (by decide) (by decide +kernel) (by decide +kernel) (fun _ _ _ h=>h) (by kernel_rfl) (Or.inl ⟨by rfl,?_⟩) (SX.both trivial hs.out) ?_
   rotate_left
   ·(intro w hSw;obtain ⟨_,⟨y0,y1,y2,y3,y4⟩,y5,y6,y7⟩:=hSw;go_simp;try (with_reducible rfl))
   (try simp only [Act.put,List.setIfInBounds_toArray,List.set_cons_zero,List.set_cons_succ])
   refine wXt (m:=9) (i:=5) (v:=?_) rfl (by kernel_rfl) (by kernel_rfl) (by decide) (by decide +kernel) (by decide +kernel) (fun _ _ _ h=>h) (by kernel_rfl) (Or.inl ⟨by rfl,?_⟩) (SX.both trivial hs.out) ?_
   rotate_left
   ·(intro w hSw;obtain ⟨_,⟨y0,y1,y2,y3,y4⟩,y5,y6,y7⟩:=hSw;go_simp;try (with_reducible rfl))
   (try simp only [Act.put,List.setIfInBounds_toArray,List.set_cons_zero,List.set_cons_succ])
   refine wXt (m:=9) (i:=6) (v:=?_) rfl (by kernel_rfl) (by kernel_rfl) (by decide) (by decide +kernel) (by decide +kernel) (fun _ _ _ h=>h) (by kernel_rfl) (Or.inl ⟨by rfl,?_⟩) (SX.both trivial hs.out) ?_
   rotate_left
   ·(intro w hSw;obtain ⟨_,⟨y0,y1,y2,y3,y4⟩,y5,y6,y7⟩:=hSw;go_simp;try (with_reducible rfl))
   (try simp only [Act.put,List.setIfInBounds_toArray,List.set_cons_zero,List.set_cons_succ])
   refine wXt (m:=9) (i:=7) (v:=?_) rfl (by kernel_rfl) (by kernel_rfl) (by decide) (by decide +kernel) (by decide +kernel) (fun _ _ _ h=>h) (by kernel_rfl) (Or.inl ⟨by rfl,?_⟩) (SX.both trivial hs.out) ?_
   rotate_left
   ·(intro w hSw;obtain ⟨_,⟨y0,y1,y2,y3,y4⟩,y5,y6,y7⟩:=hSw;go_simp;try (with_reducible rfl))
   (try simp only [Act.put,List.setIfInBounds_toArray,List.set_cons_zero,List.set_cons_succ])
   refine wX1 (j:=8) (by decide +kernel) rfl (fun K' hK=>?_)
   refine sCX rfl 105 #[g.val,.pointer (some ⟨p,q,none⟩),.agg #[.int .i64 x.s.1,.int .i64 x.s.2]] _ (run_W3 ent_due (v0:=g.val) (v1:=.pointer (some ⟨p,q,none⟩)) (v2:=.agg #[.int .i64 x.s.1,.int .i64 x.s.2]) (by rfl) (by rfl) (by rfl) (by rfl)) (CD.out _ KD.out.bel) ?_
   rintro e w3 ⟨rfl,b3⟩
   have K3:Hid (KW w0 w g b 0 (n:Int) (.slice (some ⟨sb,0,none⟩) (k+1) c) (duP P'++[x.s]) w3):=KD.out.later b3
   have hs3:Hid (du3 b g sb k c x.s w3):=hs.out.later b3
   clear b3 hs KD
   refine ⟨_,rfl,hK.out _ _ (SX.both trivial hs3.out) ?_⟩
   clear hK K'
   (try simp only [Act.put,List.setIfInBounds_toArray,List.set_cons_zero,List.set_cons_succ])
   have z0:w3.cell? ⟨b+1,0,none⟩=some (.int .i64 0):=(cQa K3.out.eb).trans rfl
   have zf:w3.frozen? ⟨b+1,0,none⟩=false:=by simp [World.frozen?,K3.out.eb]
   refine wX1 (j:=9) (by decide +kernel) rfl (fun K' hK=>?_)
   go_simp
   refine hK.out _ _ (SX.one trivial (by kernel_rfl)) ?_
   clear hK K'
   (try simp only [Act.put,List.setIfInBounds_toArray,List.set_cons_zero,List.set_cons_succ])
   refine wXd (by decide +kernel) ?_
   clear z0 zf hs3
   go_upto_region 4 with fail
   refine wp_world (fun w'=>KW w0 w g b er (n:Int) (.slice (some ⟨sb,0,none⟩) (k+1) c) (duP P'++[x.s]) w') (K3.out.setE _) fun w4 k4=>?_
   have K4:Hid (KW w0 w g b er (n:Int) (.slice (some ⟨sb,0,none⟩) (k+1) c) (duP P'++[x.s]) w4):=k4
   clear k4 K3
   have d4:w4.cell? ⟨b+3,0,none⟩=some (.slice (some ⟨sb,0,none⟩) (k+1) c):=(cQa K4.out.db).trans rfl
   have df:w4.frozen? ⟨b+3,0,none⟩=false:=by simp [World.frozen?,K4.out.db]
   go_upto_region 5 with fail
   refine wp_world (fun w'=>KW w0 w g b er (n:Int) (.slice (some ⟨sb,0,none⟩) k c) (duP P') w') (HPO.out _ K4.out) fun w5 k5=>?_
   have K5:Hid (KW w0 w g b er (n:Int) (.slice (some ⟨sb,0,none⟩) k c) (duP P') w5):=k5
   clear k5 K4 d4 df
   by_cases hez:er=0
   ·subst hez
    have HFIN:Hid (∀ v'' w'',KW w0 w g b 0 ((n:Int)+1) v'' (duP (ckK (rightU g t) t.kids++P')) w''->KSt w0 g p0 q0 t0 b (D++[⟨true,p,q,t⟩]) w''):=HFI.out HER.out
    obtain ⟨v5,hv5⟩:∃ v5,v5=Value.slice (some ⟨sb,0,none⟩) k c:=⟨_,rfl⟩
    rw [<- hv5] at K5
    clear hv5 HFI HFA
    obtain ⟨e0,-⟩:w5.cell? ⟨b+1,0,none⟩=some (.int .i64 0)/\True:=⟨(cQa K5.out.eb).trans rfl,trivial⟩
    obtain ⟨c0,c1⟩:=ib_cell K5.out.pb
    go_upto_region 8 with fail
    refine wp_world (fun w'=>KW w0 w g b 0 ((n:Int)+1) v5 (duP P') w') (K5.out.setP _) fun w8 k8=>?_
    have K8:Hid (KW w0 w g b 0 ((n:Int)+1) v5 (duP P') w8):=k8
    clear e0 c0 c1 K5 k8
    by_cases hp:t.prod=-1
    ·have t1:(t.prod == -1)=true:=by simpa using hp
     rw [t1] at CI
     have HL:=HLF.out hp
     clear t1 hp
     go_wp2_with (go_at_call 36;refine (CI.out _ K8.out.bel).mono ?_;rintro e w9 ⟨rfl,hw9⟩;obtain rfl:=hw9.symm)
     go_ret
     exact ⟨true,rfl,K8.out.on,fun _=>HFIN.out _ _ (by rw [HL];exact K8.out),fun q=>by cases q⟩
    ·have t1:(t.prod == -1)=false:=by simpa using hp
     rw [t1] at CI
     obtain ⟨j,hj⟩:∃ j:Nat,t.prod=(j:Int):=⟨t.prod.toNat,by have:=HAR.out.1;omega⟩
     have hjl:j < g.ps.length:=by have:=HAR.out.1;omega
     have hru:rightU g t=(g.ps.getD j .none).right:=by unfold rightU;rw [hj,Int.toNat_natCast]
     have HLR:Hid ((rightU g t).length=t.kids.length):=HAR.out.2.2.2 hp
     obtain ⟨pb,po,hpa,-⟩:=ps_cells (HGA.out w (by exact HBW.out)) hjl
     have jlt:(j:Int) < (g.ps.length:Int):=by omega
     obtain ⟨ra,hra⟩:∃ ra,(g.ps.getD j .none).ra=ra:=⟨_,rfl⟩
     obtain ⟨rc,hrc⟩:∃ rc,(g.ps.getD j .none).rc=rc:=⟨_,rfl⟩
     have HS9:Hid (∀ w',Below w0.heap.size w0 w'->w'.heap[b]?=some (gBox g)->w'.heap[b+3]?=some (.cells #[v5] 100)->pu9 b g v5 pb po j ra (rightU g t).length rc p q w'/\SymRow w' ra (rightU g t)):=fun w' hb hx hd=>by
      obtain ⟨pb',po',hpa',-,-,c1,c2⟩:=ps_cells (HGA.out w' hb) hjl
      rw [hpa] at hpa'
      simp only [Option.some.injEq,Addr.mk.injEq,and_true] at hpa'
      obtain ⟨rfl,rfl⟩:=hpa'
      have h4:=(gbx_cells hx).2.2.2.1
      rw [hpa] at h4
      have h5:=(HT.out w' hb).c0
      rw [hj] at h5
      rw [hra,hrc,<- hru] at c1
      rw [hra,<- hru] at c2
      exact ⟨⟨(cQa hd).trans rfl,h4,h5,c1⟩,c2⟩
     have HSR:Hid (∀ w',Below w0.heap.size w0 w'->SymRow w' ra (rightU g t)):=fun w' hb=>by
      obtain ⟨_,_,_,-,-,-,c2⟩:=ps_cells (HGA.out w' hb) hjl
      rw [hra,<- hru] at c2
      exact c2
     have HN9:Hid ((duP P').length+(rightU g t).length<=1000000000):=by have h1:=HDL.out;have h2:=HLR.out;have h3:=HKL.out;show _<=_;omega
     have HDK:Hid (duP (ckK (rightU g t) t.kids++P')=duP P'++(rightU g t).reverse):=duP_kids _ _ HLR.out _
     clear t1 hp hru hj hjl hpa hra hrc
     go_upto_region 9 with (go_at_call 36;refine (CI.out _ K8.out.bel).mono ?_;rintro e w9 ⟨rfl,hw9⟩;obtain rfl:=hw9.symm)
     obtain ⟨wd,hwd⟩:∃ wd:World,wd=w8.drew:=⟨_,rfl⟩
     have KD:Hid (KW w0 w g b 0 ((n:Int)+1) v5 (duP P') wd):=by rw [hwd];exact K8.out.later (Below.refl _ _).drew
     have hs:Hid (pu9 b g v5 pb po j ra (rightU g t).length rc p q wd):=(HS9.out wd KD.out.bel KD.out.gb KD.out.db).1
     refine wp_region_x (S:=SX 11 (fun _=>True) (pu9 b g v5 pb po j ra (rightU g t).length rc p q)) (by kernel_rfl) ?_
     rw [<- hwd]
     clear hwd
     refine wXt (m:=11) (i:=0) (v:=?_) rfl (by kernel_rfl) (by kernel_rfl) (by decide) (by decide +kernel) (by decide +kernel) (fun _ _ _ h=>h) (by kernel_rfl) (Or.inl ⟨by rfl,?_⟩) (SX.both trivial hs.out) ?_
     rotate_left
     ·(intro w hSw;obtain ⟨_,z0,z1,z2,z3⟩:=hSw;go_simp;try (with_reducible rfl))
     (try simp only [Act.put,List.setIfInBounds_toArray,List.set_cons_zero,List.set_cons_succ])
     refine wXt (m:=11) (i:=1) (v:=?_) rfl (by kernel_rfl) (by kernel_rfl) (by decide) (by decide +kernel) (by decide +kernel) (fun _ _ _ h=>h) (by kernel_rfl) (Or.inl ⟨by rfl,?_⟩) (SX.both trivial hs.out) ?_
     rotate_left
     ·(intro w hSw;obtain ⟨_,z0,z1,z2,z3⟩:=hSw;go_simp;try (with_reducible rfl))
     (try simp only [Act.put,List.setIfInBounds_toArray,List.set_cons_zero,List.set_cons_succ])
     refine wXt (m:=11) (i:=2) (v:=?_) rfl (by kernel_rfl) (by kernel_rfl) (by decide) (by decide +kernel) (by decide +kernel) (fun _ _ _ h=>h) (by kernel_rfl) (Or.inl ⟨by rfl,?_⟩) (SX.both trivial hs.out) ?_
     rotate_left
     ·(intro w hSw;obtain ⟨_,z0,z1,z2,z3⟩:=hSw;go_simp;try (with_reducible rfl))
     (try simp only [Act.put,List.setIfInBounds_toArray,List.set_cons_zero,List.set_cons_succ])
     refine wXt (m:=11) (i:=3) (v:=?_) rfl (by kernel_rfl) (by kernel_rfl) (by decide) (by decide +kernel) (by decide +kernel) (fun _ _ _ h=>h) (by kernel_rfl) (Or.inl ⟨by rfl,?_⟩) (SX.both trivial hs.out) ?_
     rotate_left
     ·(intro w hSw;obtain ⟨_,z0,z1,z2,z3⟩:=hSw;go_simp;try (with_reducible rfl))
     (try simp only [Act.put,List.setIfInBounds_toArray,List.set_cons_zero,List.set_cons_succ])
     refine wXt (m:=11) (i:=4) (v:=?_) rfl (by kernel_rfl) (by kernel_rfl) (by decide) (by decide +kernel) (by decide +kernel) (fun _ _ _ h=>h) (by kernel_rfl) (Or.inl ⟨by rfl,?_⟩) (SX.both trivial hs.out) ?_
     rotate_left
     ·(intro w hSw;obtain ⟨_,z0,z1,z2,z3⟩:=hSw;go_simp;try (with_reducible rfl))
     (try simp only [Act.put,List.setIfInBounds_toArray,List.set_cons_zero,List.set_cons_succ])
     refine wXt (m:=11) (i:=5) (v:=?_) rfl (by kernel_rfl) (by kernel_rfl) (by decide) (by decide +kernel) (by decide +kernel) (fun _ _ _ h=>h) (by kernel_rfl) (Or.inl ⟨by rfl,?_⟩) (SX.both trivial hs.out) ?_
     rotate_left
     ·(intro w hSw;obtain ⟨_,z0,z1,z2,z3⟩:=hSw;go_simp;try (with_reducible rfl))
     (try simp only [Act.put,List.setIfInBounds_toArray,List.set_cons_zero,List.set_cons_succ])
     refine wXt (m:=11) (i:=6) (v:=?_) rfl (by kernel_rfl) (by kernel_rfl) (by decide) (by decide +kernel) (by decide +kernel) (fun _ _ _ h=>h) (by kernel_rfl) (Or.inl ⟨by rfl,?_⟩) (SX.both trivial hs.out) ?_
     rotate_left
     ·(intro w hSw;obtain ⟨_,z0,z1,z2,z3⟩:=hSw;go_simp;try (with_reducible rfl))
     (try simp only [Act.put,List.setIfInBounds_toArray,List.set_cons_zero,List.set_cons_succ])
     refine wXt (m:=11) (i:=7) (v:=?_) rfl (by kernel_rfl) (by kernel_rfl) (by decide) (by decide +kernel) (by decide +kernel) (fun _ _ _ h=>h) (by kernel_rfl) (Or.inl ⟨by rfl,?_⟩) (SX.both trivial hs.out) ?_
     rotate_left
     ·(intro w hSw;obtain ⟨_,z0,z1,z2,z3⟩:=hSw;go_simp;try (with_reducible rfl))
     (try simp only [Act.put,List.setIfInBounds_toArray,List.set_cons_zero,List.set_cons_succ])
     refine wXt (m:=11) (i:=8) (v:=?_) rfl (by kernel_rfl) (by kernel_rfl) (by decide) (by decide +kernel) (by decide +kernel) (fun _ _ _ h=>h) (by kernel_rfl) (Or.inl ⟨by rfl,?_⟩) (SX.both trivial hs.out) ?_
     rotate_left
     ·(intro w hSw;obtain ⟨_,z0,z1,z2,z3⟩:=hSw;go_simp;try (with_reducible rfl))
     (try simp only [Act.put,List.setIfInBounds_toArray,List.set_cons_zero,List.set_cons_succ])
     refine wXt (m:=11) (i:=9) (v:=?_) rfl (by kernel_rfl) (by kernel_rfl) (by decide) (by decide +kernel) (by decide +kernel) (fun _ _ _ h=>h) (by kernel_rfl) (Or.inl ⟨by rfl,?_⟩) (SX.both trivial hs.out) ?_
     rotate_left
     ·(intro w hSw;obtain ⟨_,z0,z1,z2,z3⟩:=hSw;go_simp;try (with_reducible rfl))
     (try simp only [Act.put,List.setIfInBounds_toArray,List.set_cons_zero,List.set_cons_succ])
     refine wX1 (j:=10) (by decide +kernel) rfl (fun K' hK=>?_)
     refine sCX rfl 106 #[v5,.slice ra (rightU g t).length rc] _ (run_W2 ent_push (v0:=v5) (v1:=.slice ra (rightU g t).length rc) (by rfl) (by rfl) (by rfl)) (pushRight_W w0.heap.size v5 (duP P') ra rc (rightU g t) _ KD.out.bel.size KD.out.row (fun W' hW=>HSR.out W' (KD.out.bel.trans hW)) HN9.out) ?_
     rintro e w9 ⟨v9,rfl,r9,b9,f9⟩
     obtain ⟨k9,d9⟩:=KD.out.fr b9 f9 r9
     have K9:Hid (KW w0 w g b 0 ((n:Int)+1) v9 (duP P'++(rightU g t).reverse) (w9.setCell ⟨b+3,0,none⟩ v9)):=k9
     have hs9:Hid (pu9 b g v5 pb po j ra (rightU g t).length rc p q w9):=(HS9.out w9 (KD.out.bel.trans b9) (GB9.out wd w9 KD.out f9) d9).1
     obtain ⟨v9a,v9n,v9c,rfl⟩:∃ a n c,v9=.slice a n c:=by
      rcases r9.2 with ⟨rfl,h0⟩ | ⟨gg,cap,cur,rfl,_⟩
      ·exact ⟨_,_,_,rfl⟩
      ·exact ⟨_,_,_,rfl⟩
     have z0:=hs9.out.1
     have zf:w9.frozen? ⟨b+3,0,none⟩=false:=by simp [World.frozen?,d9]
     clear hs k9 d9 r9 b9 f9
     refine ⟨_,rfl,hK.out _ _ (SX.both trivial hs9.out) ?_⟩
     clear hK K'
     (try simp only [Act.put,List.setIfInBounds_toArray,List.set_cons_zero,List.set_cons_succ])
     refine wX1 (j:=11) (by decide +kernel) rfl (fun K' hK=>?_)
     go_simp
     refine hK.out _ _ (SX.one trivial (by kernel_rfl)) ?_
     clear hK K'
     (try simp only [Act.put,List.setIfInBounds_toArray,List.set_cons_zero,List.set_cons_succ])
     refine wXd (by decide +kernel) ?_
     go_wp2
     go_ret
     exact ⟨true,rfl,K9.out.on,fun _=>HFIN.out _ _ (by rw [HDK.out];exact K9.out),fun q=>by cases q⟩
   ·have t2:(er != 0)=true:=by simpa using hez
    have HE:Hid (er≠0):=hez
    have e5:w5.cell? ⟨b+1,0,none⟩=some (.int .i64 er):=(cQa K5.out.eb).trans rfl
    clear hez
    go_wp2
    go_ret
    exact ⟨false,rfl,K5.out.on,(fun q=>by cases q),fun _=>HFA.out er w5 HER.out HE.out K5.out.bel K5.out.eb K5.out.pb⟩
 ·obtain ⟨er,her⟩:∃ er,alTU g t=er:=⟨_,rfl⟩
  rw [her] at CO hal
  have hex:erU g x=er:=by
   unfold erU
   rw [hxt,her,if_pos hal]
  have HE:Hid (er≠0):=hal
  have HX:Hid (erU g x=er):=hex
  obtain ⟨g0,g1,g2,g3,g4⟩:=gbx_cells K0.out.gb
  have e0:w.cell? ⟨b+1,0,none⟩=some (.int .i64 0):=(cQa K0.out.eb).trans rfl
  have t2:(er == 0)=false:=by simpa using hal
  have t3:(er != 0)=true:=by simpa using hal
  clear hex her hxt hxu HFI hal
  go_enter Tryz.func103,Tryz.ntmps103
  go_upto_region 2 with (go_at_call 104;refine (CO.out _ HBW.out).mono ?_;rintro e w1 ⟨rfl,b1⟩;have K1:Hid (KW w0 w g b 0 (n:Int) v (duP (x :: P')) w1):=K0.out.later b1;have e1:w1.cell? ⟨b+1,0,none⟩=some (.int .i64 0):=(cQa K1.out.eb).trans rfl;have f1:w1.frozen? ⟨b+1,0,none⟩=false:=(by simp [World.frozen?,K1.out.eb]);clear b1 g0 g1 g2 g3 g4 e0)
  refine wp_world (fun w'=>KW w0 w g b er (n:Int) v (duP (x :: P')) w') (K1.out.setE _) fun w5 k5=>?_
  have K5:Hid (KW w0 w g b er (n:Int) v (duP (x :: P')) w5):=k5
  clear k5 K1 K0 e1 f1
  have e5:w5.cell? ⟨b+1,0,none⟩=some (.int .i64 er):=(cQa K5.out.eb).trans rfl
  go_wp2
  go_ret
  exact ⟨false,rfl,K5.out.on,(fun q=>by cases q),fun _=>HFA.out er w5 HX.out HE.out K5.out.bel K5.out.eb K5.out.pb⟩
end Go.Proofs.YteciabdjkaackaaGreat
