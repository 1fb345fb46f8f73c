import Derived.Test.YtockbobpmiagiaaGreatDoorPTM4ToTM9
namespace Go.Proofs.YtockbobpmiagiaaGreatDoor
set_option linter.unusedVariables false
set_option maxRecDepth 100000
set_option maxHeartbeats 16000000
open Go.RowKit Go.Shelf
theorem run_al2 {o:Oper}{a:Act}{t0 t1:TypeId}{v0 v1:Value}{x0 x1:Operand}(hop:o.op=Op.call { callee:=Callee.value (Operand.func 38),args:=#[x0,x1],argTypes:=#[t0,t1] })(h0:a.eval x0=v0)(h1:a.eval x1=v1)(w:World):(execOp a.eval o).run Tryz.prog w=.ok (.enter 38 #[v0,v1]) w:=by
 have hf:a.eval (Operand.func 38)=.func (.func 38) #[] #[]:=rfl
 simp [execOp,hop,resolve,invoke,h0,h1,hf,Deferred.ofValue]
theorem run_clo2 {o:Oper}{a:Act}{t0 t1:TypeId}{v0 v1:Value}{x0 x1:Operand}(hop:o.op=Op.call { callee:=Callee.value (Operand.func 37),args:=#[x0,x1],argTypes:=#[t0,t1] })(h0:a.eval x0=v0)(h1:a.eval x1=v1)(w:World):(execOp a.eval o).run Tryz.prog w=.ok (.enter 37 #[v0,v1]) w:=by
 have hf:a.eval (Operand.func 37)=.func (.func 37) #[] #[]:=rfl
 simp [execOp,hop,resolve,invoke,h0,h1,hf,Deferred.ofValue]
theorem ed_same7 {E:List (Int×Int)}{n:Nat}{Ns:List Nat}(hN:RelB E n Ns)(hok:E.all (okE n)=true)(a b:Nat):EdB Ns n a b ↔ EdE E a b:=by
 constructor
 ·rintro ⟨h1,h2,h3⟩
  rw [hN.bit a b h1 h2] at h3
  unfold hasE at h3
  obtain ⟨p,hp,hq⟩:=List.any_eq_true.1 h3
  simp only [Bool.and_eq_true,decide_eq_true_iff] at hq
  obtain ⟨p1,p2⟩:=p
  simp only at hq
  rw [hq.1,hq.2] at hp
  exact hp
 ·intro h
  have hk:=List.all_eq_true.1 hok _ h
  unfold okE at hk
  simp only [Bool.and_eq_true,decide_eq_true_iff] at hk
  refine ⟨by omega,by omega,?_⟩
  rw [hN.bit a b (by omega) (by omega)]
  unfold hasE
  exact List.any_eq_true.2 ⟨_,h,by simp⟩
theorem tr_same7 {E:List (Int×Int)}{n:Nat}{Ns:List Nat}(hN:RelB E n Ns)(hok:E.all (okE n)=true)(a b:Nat):Relation.TransGen (EdB Ns n) a b ↔ TrE E a b:=by
 constructor
 ·intro h
  induction h with
  | single e=>exact .single ((ed_same7 hN hok _ _).1 e)
  | tail _ e ih=>exact ih.tail ((ed_same7 hN hok _ _).1 e)
 ·intro h
  induction h with
  | single e=>exact .single ((ed_same7 hN hok _ _).2 e)
  | tail _ e ih=>exact ih.tail ((ed_same7 hN hok _ _).2 e)
theorem ro_read7 {w:World}{v:Value}{l:List (Int×Int)}(h:PRo w v l):∃ a c,v=.slice a l.length c/\PrsB w a l:=by
 obtain ⟨a,c,rfl,_⟩:=h.len
 refine ⟨a,c,rfl,fun hne=>?_⟩
 have h0:0 < l.length:=List.length_pos_iff.2 hne
 obtain ⟨b,c',he,_,_⟩:=h.cell rkPr.len h0
 simp only [Value.slice.injEq,true_and] at he
 obtain ⟨rfl,rfl⟩:=he
 refine ⟨b,0,rfl,h.lt b rfl,fun i hi=>?_⟩
 obtain ⟨b',c2,he2,_,hc⟩:=h.cell rkPr.len hi
 simp only [Value.slice.injEq,true_and,Option.some.injEq,Addr.mk.injEq] at he2
 obtain ⟨⟨rfl,-⟩,-⟩:=he2
 have e:l.getD i (0,0)=l[i]:=by rw [List.getD_eq_getElem?_getD,List.getElem?_eq_getElem hi];rfl
 have h1:=hc 0 (by decide)
 have h2:=hc 1 (by decide)
 rw [Nat.add_zero] at h1
 rw [Nat.zero_add,h1,h2,e]
 exact ⟨rfl,rfl⟩
theorem closure_ok {n:Nat}(hn:n<=4096)(w:World)(ea:Option Addr)(ec:Nat)(E:List (Int×Int))(hE:PrsB w ea E)(hEl:E.length<=140737488355328)(hT:TabB w)(hok:E.all (okE n)=true) :
  Calls Tryz.prog 37 #[.int .i64 (n:Int),.slice ea E.length ec] w fun e w'=>∃ v Ms,e=.returned (.tuple #[v,.int .i64 0])/\(∀ x y,x < n->y < n->((Ms.getD x 0).testBit y=true ↔ TrE E x y))/\PlW w (prU Ms n n) v w':=by
 refine (closure_any (n:Int) w ea ec E hE hEl hT).mono fun e w' h=>?_
 obtain ⟨_,⟨h1,_⟩ | ⟨k,hk,_,⟨h2,_⟩ | ⟨_,v,Ns,Ms,he,hN,hM,hP⟩⟩⟩:=h
 ·simp at h1
  omega
 ·obtain rfl:n=k:=by omega
  rw [hok] at h2
  cases h2
 ·obtain rfl:n=k:=by omega
  refine ⟨v,Ms,he,fun x y hx hy=>?_,hP⟩
  rw [hM.bit x hx y,<- tr_same7 hN hok]
  constructor
  ·rintro ⟨z,hz,hb⟩
   have e:EdB Ns n z y:=⟨hz.lt hx,hy,hb⟩
   rcases hz with rfl | hz
   ·exact .single e
   ·exact hz.tail e
  ·intro h
   cases h with
   | single e=>exact ⟨x,.refl x,e.2.2⟩
   | tail h e=>exact ⟨_,.inr h,e.2.2⟩
theorem dig_take {L:List (Int×Int)}{k:Nat}(hk:k < L.length){x y:Int}(hp:L.getD k (0,0)=(x,y)):digU (L.take (k+1))=digU (L.take k)++if x=y then [x] else []:=by
 have e:L.take (k+1)=L.take k++[(x,y)]:=by
  rw [List.take_add_one,List.getElem?_eq_getElem hk]
  rw [List.getD_eq_getElem?_getD,List.getElem?_eq_getElem hk] at hp
  simp only [Option.getD_some] at hp
  rw [hp]
  rfl
 rw [e,digU_app]
 congr 1
 unfold digU
 by_cases h:x=y
 ·rw [if_pos h];simp [h]
 ·rw [if_neg h];simp [h]
theorem dig_len (L:List (Int×Int)):(digU L).length<=L.length:=by
 unfold digU
 rw [List.length_map]
 exact List.length_filter_le _ _
def boxS (g:GV)(w:World)(w':World):Prop:=w'.cell? ⟨w.heap.size,0,none⟩=some (.slice g.ta g.ts.length g.tc)/\w'.cell? ⟨w.heap.size,1,none⟩=some (.slice g.na g.ns.length g.nc)/\w'.cell? ⟨w.heap.size,2,none⟩=some (.int .i64 g.start)/\w'.cell? ⟨w.heap.size,3,none⟩=some (.slice g.pa g.ps.length g.pc)/\w'.cell? ⟨w.heap.size,4,none⟩=some (.slice g.la g.ls.length g.lc)
set_option linter.unusedSimpArgs false in
theorem circular_P (g:GV)(w:World)(h:GAt 140737488355328 w g)(hpc:g.ps.length<=g.pc)(at_:Int)(hE:cG_ g (cF_ g.ts g.ns)=(0,at_))(hcap:∀ p∈g.ps,p.right.length<=p.rc)(hT:TabB w) :
  Calls Tryz.prog 23 #[g.val] w fun e w'=>∃ v,e=.returned v/\∃ O,LBs w (offU true O g.ns.length) v w'/\∀ a,a < g.ns.length->(O.getD a false=true ↔ TrE (alU (nullU g.ps g.ns.length) g.ps) a a):=by
 have ok:OkC g:=OkC.of (by rw [hE])
 have X0:Hid ((w.alloc (gBox g)).heap[w.heap.size]?=some (gBox g)):=heap_alloc_new _ _
 have HFG:Hid (∀ w',Below w.heap.size w w'->FG w' g):=fun w' hb=>ok.fg (h.later hb)
 have NC:Hid (Calls Tryz.prog 36 #[g.val] (w.alloc (gBox g)) fun e w'=>∃ nb,e=.returned (.tuple #[.slice (some ⟨nb,0,none⟩) g.ns.length g.ns.length,.int .i64 0])/\BB w' nb (nullU g.ps g.ns.length)/\(w.alloc (gBox g)).heap.size<=nb/\Below (w.alloc (gBox g)).heap.size (w.alloc (gBox g)) w'):=nullable_ok g _ (h.later (bAl _ _)) hpc at_ hE
 have hfg:=ok.fg h
 have HNL:Hid ((nullU g.ps g.ns.length).length=g.ns.length):=by show _=_;unfold nullU;rw [List.length_map,htU_len]
 have HOK:Hid ((alU (nullU g.ps g.ns.length) g.ps).all (okE g.ns.length)=true):=by
  show _=_
  rw [List.all_eq_true]
  intro p hp
  have:=al_ok (n:=g.ns.length) (fun p hp=>hfg.left p hp) (fun p hp s hs e=>by rcases hfg.sym p hp s hs with z | z;omega;exact z.2) hp
  unfold okE
  simp only [Bool.and_eq_true,decide_eq_true_iff]
  omega
 have HAL:Hid ((alU (nullU g.ps g.ns.length) g.ps).length<=4096):=by
  have h1:=alU_len (nullU g.ps g.ns.length) g.ps fun p hp=>hfg.rl p hp
  have h2:=hfg.pl
  show _<=_
  omega
 have hnl:=hfg.nl.2
 have HT:Hid (TabB w):=hT
 have HCP:Hid (∀ p∈g.ps,p.right.length<=p.rc):=hcap
 obtain ⟨x0,x1,x2,x3,x4⟩:=gbc X0.out
 clear h hE ok hfg hT hcap
 go_enter Tryz.func23,Tryz.ntmps23
 go_wp2_with (go_at_call 36;refine NC.out.mono ?_;rintro e w2 ⟨nb,rfl,bb2,l2,b2⟩;have B2:Hid (BB w2 nb (nullU g.ps g.ns.length)/\Below w.heap.size w w2/\w2.heap[w.heap.size]?=some (gBox g)):=⟨bb2,(bAl w _).trans (b2.mono (bAl w _).size),(b2.block _ (lt_of_block X0.out)).trans X0.out⟩;clear bb2 l2 b2 x0 x1 x2 x3 x4)
 obtain ⟨wd,hwd⟩:∃ wd:World,wd=w2.drew:=⟨_,rfl⟩
 have bd:Below w2.heap.size w2 wd:=by rw [hwd];exact (Below.refl _ _).drew
 have BD:Hid (BB wd nb (nullU g.ps g.ns.length)/\Below w.heap.size w wd/\wd.heap[w.heap.size]?=some (gBox g)):=⟨B2.out.1.later bd,B2.out.2.1.trans (bd.mono B2.out.2.1.size),(bd.block _ (lt_of_block B2.out.2.2)).trans B2.out.2.2⟩
 have hs:Hid (boxS g w wd):=gbc BD.out.2.2
 have AL:Hid (Calls Tryz.prog 38 #[g.val,.slice (some ⟨nb,0,none⟩) g.ns.length g.ns.length] wd fun e w'=>∃ v,e=.returned v/\PlW wd (alU (nullU g.ps g.ns.length) g.ps) v w'):=by
  have:=alone_P g wd (HFG.out wd BD.out.2.1) HCP.out (some ⟨nb,0,none⟩) g.ns.length (nullU g.ps g.ns.length) BD.out.1.row HNL.out
  rwa [HNL.out] at this
 clear B2 NC bd
 refine wp_region_x (S:=SX 11 (boxS g w) (fun _=>True)) (by kernel_rfl) ?_
 rw [<- hwd]
 refine wtT (m:=11) (i:=0) (v:=?_) rfl (Or.inl ⟨by rfl,?_⟩) (SX.both hs.out trivial) ?_
 rotate_left
 ·(intro w hSw;obtain ⟨⟨z0,z1,z2,z3,z4⟩,_⟩:=hSw;go_simp;try (with_reducible rfl))
 (try simp only [Act.put,lsA,lsZ,lsN])
 refine wtT (m:=11) (i:=1) (v:=?_) rfl (Or.inl ⟨by rfl,?_⟩) (SX.both hs.out trivial) ?_
 rotate_left
 ·(intro w hSw;obtain ⟨⟨z0,z1,z2,z3,z4⟩,_⟩:=hSw;go_simp;try (with_reducible rfl))
 (try simp only [Act.put,lsA,lsZ,lsN])
 refine wtT (m:=11) (i:=2) (v:=?_) rfl (Or.inl ⟨by rfl,?_⟩) (SX.both hs.out trivial) ?_
 rotate_left
 ·(intro w hSw;obtain ⟨⟨z0,z1,z2,z3,z4⟩,_⟩:=hSw;go_simp;try (with_reducible rfl))
 (try simp only [Act.put,lsA,lsZ,lsN])
 refine wtT (m:=11) (i:=3) (v:=?_) rfl (Or.inl ⟨by rfl,?_⟩) (SX.both hs.out trivial) ?_
 rotate_left
 ·(intro w hSw;obtain ⟨⟨z0,z1,z2,z3,z4⟩,_⟩:=hSw;go_simp;try (with_reducible rfl))
 (try simp only [Act.put,lsA,lsZ,lsN])
 refine wtT (m:=11) (i:=4) (v:=?_) rfl (Or.inl ⟨by rfl,?_⟩) (SX.both hs.out trivial) ?_
 rotate_left
 ·(intro w hSw;obtain ⟨⟨z0,z1,z2,z3,z4⟩,_⟩:=hSw;go_simp;try (with_reducible rfl))
 (try simp only [Act.put,lsA,lsZ,lsN])
 refine wX1 (j:=5) (by decide +kernel) rfl (fun K' hK=>?_)
 refine sCX rfl 38 #[g.val,.slice (some ⟨nb,0,none⟩) g.ns.length g.ns.length] _ (run_al2 (v0:=g.val) (v1:=.slice (some ⟨nb,0,none⟩) g.ns.length g.ns.length) (by rfl) (by rfl) (by rfl) _) AL.out ?_
 rintro e w3 ⟨pv,rfl,p3⟩
 obtain ⟨pa3,pc3,rfl,row3⟩:=ro_read7 p3.ro
 have B3:Hid (Below w.heap.size w w3/\w3.heap[w.heap.size]?=some (gBox g)):=⟨BD.out.2.1.trans (p3.bel.mono BD.out.2.1.size),(p3.bel.block _ (lt_of_block BD.out.2.2)).trans BD.out.2.2⟩
 have CL:Hid (Calls Tryz.prog 37 #[.int .i64 (g.ns.length:Int),.slice pa3 (alU (nullU g.ps g.ns.length) g.ps).length pc3] w3 fun e w'=>∃ v Ms,e=.returned (.tuple #[v,.int .i64 0])/\(∀ x y,x < g.ns.length->y < g.ns.length->((Ms.getD x 0).testBit y=true ↔ TrE (alU (nullU g.ps g.ns.length) g.ps) x y))/\PlW w3 (prU Ms g.ns.length g.ns.length) v w'):=closure_ok (by omega) w3 pa3 pc3 _ row3 (by have:=HAL.out;omega) (HT.out.later B3.out.1) HOK.out
 have hs3:Hid (boxS g w w3):=gbc B3.out.2
 clear p3 row3 AL
 refine ⟨_,rfl,hK.out _ _ (SX.both hs3.out trivial) ?_⟩
 clear hK K'
 (try simp only [Act.put,lsA,lsZ,lsN])
 refine wX1 (j:=6) (by decide +kernel) rfl (fun K' hK=>?_)
 refine sCX rfl 37 #[.int .i64 (g.ns.length:Int),.slice pa3 (alU (nullU g.ps g.ns.length) g.ps).length pc3] _ (run_clo2 (v0:=.int .i64 (g.ns.length:Int)) (v1:=.slice pa3 (alU (nullU g.ps g.ns.length) g.ps).length pc3) (by rfl) (by rfl) (by rfl) _) CL.out ?_
 rintro e w4 ⟨cv,Ms,rfl,hM,p4⟩
 have B4:Hid (Below w.heap.size w w4/\w4.heap[w.heap.size]?=some (gBox g)):=⟨B3.out.1.trans (p4.bel.mono B3.out.1.size),(p4.bel.block _ (lt_of_block B3.out.2)).trans B3.out.2⟩
 have HM:Hid (∀ x y,x < g.ns.length->y < g.ns.length->((Ms.getD x 0).testBit y=true ↔ TrE (alU (nullU g.ps g.ns.length) g.ps) x y)):=hM
 have P4:Hid (PlW w3 (prU Ms g.ns.length g.ns.length) cv w4):=p4
 have hs4:Hid (boxS g w w4):=gbc B4.out.2
 clear hM p4 CL hs hs3
 refine ⟨_,rfl,hK.out _ _ (SX.both hs4.out trivial) ?_⟩
 clear hK K'
 (try simp only [Act.put,lsA,lsZ,lsN])
 refine wtT (m:=11) (i:=7) (v:=?_) rfl (Or.inl ⟨by rfl,?_⟩) (SX.both hs4.out trivial) ?_
 rotate_left
 ·(intro w hSw;obtain ⟨⟨z0,z1,z2,z3,z4⟩,_⟩:=hSw;go_simp;try (with_reducible rfl))
 (try simp only [Act.put,lsA,lsZ,lsN])
 refine wtT (m:=11) (i:=8) (v:=?_) rfl (Or.inl ⟨by rfl,?_⟩) (SX.both hs4.out trivial) ?_
 rotate_left
 ·(intro w hSw;obtain ⟨⟨z0,z1,z2,z3,z4⟩,_⟩:=hSw;go_simp;try (with_reducible rfl))
 (try simp only [Act.put,lsA,lsZ,lsN])
 refine wtT (m:=11) (i:=9) (v:=?_) rfl (Or.inl ⟨by rfl,?_⟩) (SX.both hs4.out trivial) ?_
 rotate_left
 ·(intro w hSw;obtain ⟨⟨z0,z1,z2,z3,z4⟩,_⟩:=hSw;go_simp;try (with_reducible rfl))
 (try simp only [Act.put,lsA,lsZ,lsN])
 refine wtT (m:=11) (i:=10) (v:=?_) rfl (Or.inl ⟨by rfl,?_⟩) (SX.both hs4.out trivial) ?_
 rotate_left
 ·(intro w hSw;obtain ⟨⟨z0,z1,z2,z3,z4⟩,_⟩:=hSw;go_simp;try (with_reducible rfl))
 (try simp only [Act.put,lsA,lsZ,lsN])
 refine wX1 (j:=11) (by decide +kernel) rfl (fun K' hK=>?_)
 go_simp
 refine hK.out _ _ (SX.both hs4.out trivial) ?_
 clear hK K'
 (try simp only [Act.put,lsA,lsZ,lsN])
 refine wXd (by decide +kernel) ?_
 obtain ⟨a4,c4,rfl,row4⟩:=ro_read7 P4.out.ro
 have HLL:Hid ((prU Ms g.ns.length g.ns.length).length<=300000):=by
  have:=prU_len Ms g.ns.length (by omega) g.ns.length
  show _<=_
  omega
 have HRW:Hid (PrsB w4 a4 (prU Ms g.ns.length g.ns.length)):=row4
 obtain ⟨O,hO⟩:∃ O:List Bool,O=(List.range g.ns.length).map fun x=>(Ms.getD x 0).testBit x:=⟨_,rfl⟩
 have hOb:∀ x,x < g.ns.length->O.getD x false=(Ms.getD x 0).testBit x:=fun x hx=>by
  rw [hO,List.getD_eq_getElem?_getD,List.getElem?_map,List.getElem?_range hx]
  rfl
 have HFI:Hid (digU (prU Ms g.ns.length g.ns.length)=offU true O g.ns.length):=dig_off g.ns.length (Nat.le_refl _) fun x hx=>by rw [hOb x hx]
 have HOO:Hid (∀ a,a < g.ns.length->(O.getD a false=true ↔ TrE (alU (nullU g.ps g.ns.length) g.ps) a a)):=fun a ha=>by
  rw [hOb a ha]
  exact HM.out a a ha ha
 clear row4 hO hOb HM P4 hs4 HOK HAL
 generalize prU Ms g.ns.length g.ns.length=L at *
 go_wp2
 go_loopw [7,27] (fun v i wr=>∃ k:Nat,k<=L.length/\i=.int .i64 k/\LBs w4 (digU (L.take k)) v wr) (fun _ i _=>L.length - (intOf i).toNat)
 case atStart=>exact ⟨0,Nat.zero_le _,rfl,IL.nil _,(fun j hj=>by simp [Value.ownBlock] at hj),Below.refl _ _⟩
 case round =>
  obtain ⟨k,hk,rfl,hL⟩:=hrel
  obtain ⟨va,vc,rfl⟩:=il_len hL.il
  have hll:=HLL.out
  by_cases hlt:k < L.length
  ·have klt:(k:Int) < (L.length:Int):=by omega
   obtain ⟨b,off,rfl,hbl,hc⟩:=(HRW.out.later hL.bel) (by intro e;rw [e] at hlt;simp at hlt)
   obtain ⟨c0,c1⟩:=hc k hlt
   have DT:Hid (∀ x y,L.getD k (0,0)=(x,y)->digU (L.take (k+1))=digU (L.take k)++if x=y then [x] else []):=fun x y q=>dig_take hlt q
   have hdl:(digU (L.take k)).length<=300000:=by
    have h1:=dig_len (L.take k)
    rw [List.length_take] at h1
    omega
   generalize hx:L.getD k (0,0)=x at *
   obtain ⟨y1,y2⟩:=x
   simp only at c0 c1
   have DT2:Hid (digU (L.take (k+1))=digU (L.take k)++if y1=y2 then [y1] else []):=DT.out y1 y2 rfl
   have HL:Hid (LBs w4 (digU (L.take k)) (.slice va (digU (L.take k)).length vc) wr):=hL
   generalize digU (L.take k)=R at *
   clear hc DT hx hL
   by_cases h2:y1=y2
   ·subst h2
    have E:Hid (digU (L.take (k+1))=R++[y1]):=by show _=_;rw [DT2.out,if_pos rfl]
    have HIA:Hid (IL ((wr.alloc (.cells #[.int .i64 y1,.int .i64 y1] 84)).alloc (.cells #[.int .i64 y1] 3)) (.slice va R.length vc) R):=(HL.out.il.later (bAl _ _)).later (bAl _ _)
    have HB:Hid (Below w4.heap.size w4 (wr.alloc (.cells #[.int .i64 y1,.int .i64 y1] 84))):=HL.out.bel.alloc HL.out.bel.size _
    have HLT:Hid (R.length<=2000000):=by show _<=_;omega
    clear DT2
    go_wp2_with (at_builtin;refine wpList_il_append rfl _ _ rfl (.slice va R.length vc) R rfl HIA.out _ 1 y1 rfl (by simp) HLT.out ?_;intro a5 n5 c5 w5 ho5 hg5)
    obtain ⟨q1,q2⟩:=gBi (HB.out.alloc HB.out.size _) HL.out.own hg5
    have R5:Hid (LBs w4 (digU (L.take (k+1))) (.slice a5 n5 c5) w5):=⟨by rw [E.out];exact ho5,q2,q1⟩
    clear q1 q2 ho5 hg5
    go_wp2
    go_roundw
    case rel=>exact ⟨k+1,by omega,by go_num,R5.out⟩
    case measure=>simp [intOf];omega
   ·have t2:(y1 == y2)=false:=by simp [h2]
    have R5:Hid (LBs w4 (digU (L.take (k+1))) (.slice va R.length vc) (wr.alloc (.cells #[.int .i64 y1,.int .i64 y2] 84))):=by
     show LBs _ _ _ _
     rw [DT2.out,if_neg h2,List.append_nil]
     exact HL.out.any (bAl _ _)
    clear DT2
    go_wp2
    go_roundw
    case rel=>exact ⟨k+1,by omega,by go_num,R5.out⟩
    case measure=>simp [intOf];omega
  ·have klt:¬ (k:Int) < (L.length:Int):=by omega
   have R5:Hid (LBs w (offU true O g.ns.length) (.slice va (digU (L.take k)).length vc) wr):=by
    have e:L.take k=L:=List.take_of_length_le (by omega)
    rw [e] at hL ⊢
    rw [HFI.out] at hL ⊢
    exact ⟨hL.il,fun j hj=>Nat.le_trans B4.out.1.size (hL.own j hj),B4.out.1.trans (hL.bel.mono B4.out.1.size)⟩
   clear hL
   go_wp2
   go_ret
   exact ⟨_,rfl,O,R5.out,HOO.out⟩
end Go.Proofs.YtockbobpmiagiaaGreatDoor
