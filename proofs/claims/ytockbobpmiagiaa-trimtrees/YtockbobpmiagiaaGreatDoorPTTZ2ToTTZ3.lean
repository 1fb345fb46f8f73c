import Derived.Test.YtockbobpmiagiaaGreatDoorPTTXToTTZ
import Derived.Deep.MidRow
import Derived.Deep.DeepCutAuto
namespace Go.Proofs.YtockbobpmiagiaaGreatDoor
set_option linter.unusedVariables false
open Go.RowKit Go.Shelf
theorem tro_one (w:World)(t:TV):TRo (w.alloc (tBox t)) (.slice (some ⟨w.heap.size,0,none⟩) 1 1) [t] :=
 ⟨rfl,.inr ⟨w.heap.size,1,#[.int .i64 t.prod,.int .i64 t.kind,.string t.tx,.slice t.ka t.kids.length t.kc],rfl,Nat.zero_le _,heap_alloc_new _ _,Nat.le_refl _,by unfold maxLen;omega,rfl,rfl⟩⟩
theorem sy_cellsT {w:World}{b:Nat}{x y:Int}(h:w.heap[b]?=some (.cells #[.int .i64 x,.int .i64 y] 49)):w.cell? ⟨b,0,none⟩=some (.int .i64 x)/\w.cell? ⟨b,1,none⟩=some (.int .i64 y):=⟨(cQa h).trans rfl,(cQa h).trans rfl⟩
theorem SB4 {w:World}{g:GV}{t:TV}{ba ca ua:Option Addr}{B C:List Int}{U:List (Int×Int)}{bc cc uc:Nat}{w7 w9 w10:World}{S:List TV}{v:Value}{xb:Nat}{o ob:Obj}(h7:TTw w g t ba B bc ca C cc ua U uc w7)(h9:SWx w7 S v w9)(hx:w9.heap[xb]?=some ob)(hb:Below w9.heap.size w9 w10):SWx w7 S v (w10.alloc o)/\(w10.alloc o).heap[xb]?=some ob/\(w10.alloc o).heap[w10.heap.size]?=some o/\(w10.alloc o).heap[w.heap.size]?=some (gBox g):=by
 have hb':Below w9.heap.size w9 (w10.alloc o):=hb.trans ((bAl w10 o).mono hb.size)
 have h9':=h9.any hb'
 exact ⟨h9',(hb'.block _ (lt_of_block hx)).trans hx,heap_alloc_new _ _,(h9'.bel.block _ (lt_of_block h7.bx.gb)).trans h7.bx.gb⟩
abbrev xBox (P:Int)(x:TV):Obj:=.cells #[.int .i64 P,.int .i64 x.kind,.string x.tx,.slice x.ka x.kids.length x.kc] 31
theorem xb_cells {P:Int}{t:TV}{b:Nat}{w':World}(h:w'.heap[b]?=some (xBox P t)):w'.cell? ⟨b,0,none⟩=some (.int .i64 P)/\w'.cell? ⟨b,1,none⟩=some (.int .i64 t.kind)/\w'.cell? ⟨b,2,none⟩=some (.string t.tx)/\w'.cell? ⟨b,3,none⟩=some (.slice t.ka t.kids.length t.kc) :=
 ⟨(cQa h).trans rfl,(cQa h).trans rfl,(cQa h).trans rfl,(cQa h).trans rfl⟩
abbrev setSy (w:World)(sb:Nat)(a b:Int):World:=(w.setCell ⟨sb,0,none⟩ (.int .i64 a)).setCell ⟨sb,1,none⟩ (.int .i64 b)
theorem sb_free {w:World}{sb:Nat}{a b:Int}(h:w.heap[sb]?=some (.cells #[.int .i64 a,.int .i64 b] 49))(x:Int):(w.cell? ⟨sb,0,none⟩=some (.int .i64 a)/\w.frozen? ⟨sb,0,none⟩=false)/\(w.setCell ⟨sb,0,none⟩ (.int .i64 x)).cell? ⟨sb,1,none⟩=some (.int .i64 b)/\(w.setCell ⟨sb,0,none⟩ (.int .i64 x)).frozen? ⟨sb,1,none⟩=false:=by
 have h2:=heap_setCell_same w sb 0 _ _ (.int .i64 x) h
 refine ⟨⟨(cQa h).trans rfl,by simp [World.frozen?,h]⟩,(cQa h2).trans rfl,by simp [World.frozen?,h2]⟩
theorem SB6 {w7 w10 w11:World}{S:List TV}{v:Value}{sb:Nat}{a b x y:Int}(h:SWx w7 S v w10)(hs:w10.heap[sb]?=some (.cells #[.int .i64 a,.int .i64 b] 49))(hb:Below w10.heap.size w10 w11)(hl:w7.heap.size<=sb)(hne:∀ j,v.ownBlock=some j->j≠sb):SWx w7 S v (setSy w11 sb x y)/\(setSy w11 sb x y).heap[sb]?=some (.cells #[.int .i64 x,.int .i64 y] 49)/\∀ (j:Nat) (o:Obj),j≠sb->w10.heap[j]?=some o->(setSy w11 sb x y).heap[j]?=some o:=by
 have h1:w11.heap[sb]?=some (.cells #[.int .i64 a,.int .i64 b] 49):=(hb.block _ (lt_of_block hs)).trans hs
 have h2:=heap_setCell_same w11 sb 0 _ _ (.int .i64 x) h1
 have h3:=heap_setCell_same (w11.setCell ⟨sb,0,none⟩ (.int .i64 x)) sb 1 _ _ (.int .i64 y) h2
 have ho:∀ (j:Nat),j≠sb->(setSy w11 sb x y).heap[j]?=w11.heap[j]?:=fun j hj=>by
  rw [Below.heap_setCell _ _ _ _ (show j≠sb from hj),Below.heap_setCell _ _ _ _ (show j≠sb from hj)]
 have h':=h.any hb
 refine ⟨⟨h'.s.kept (fun j hj=>ho j (hne j hj)),h.own,(h'.bel.setCell (p:=⟨sb,0,none⟩) hl _).setCell (p:=⟨sb,1,none⟩) hl _⟩,h3,fun j o hj q=>(ho j hj).trans ((hb.block _ (lt_of_block q)).trans q)⟩
theorem SB7 {w7 w10 w11:World}{S:List TV}{v:Value}{o1 o2:Obj}{xb gb:Nat}{k y:Int}(h:SWx w7 S v (w10.alloc (.cells #[.int .i64 1,.int .i64 k] 49))/\(w10.alloc (.cells #[.int .i64 1,.int .i64 k] 49)).heap[xb]?=some o1/\(w10.alloc (.cells #[.int .i64 1,.int .i64 k] 49)).heap[w10.heap.size]?=some (.cells #[.int .i64 1,.int .i64 k] 49)/\(w10.alloc (.cells #[.int .i64 1,.int .i64 k] 49)).heap[gb]?=some o2)(hn:w7.heap.size<=w10.heap.size/\∀ j,v.ownBlock=some j->j≠w10.heap.size)
  (hb:Below (w10.alloc (.cells #[.int .i64 1,.int .i64 k] 49)).heap.size (w10.alloc (.cells #[.int .i64 1,.int .i64 k] 49)) w11) (hx:xb < w10.heap.size:=by assumption) (hg:gb < w10.heap.size:=by assumption):SWx w7 S v (setSy w11 w10.heap.size 2 y)/\(setSy w11 w10.heap.size 2 y).heap[w10.heap.size]?=some (.cells #[.int .i64 2,.int .i64 y] 49)/\(setSy w11 w10.heap.size 2 y).heap[xb]?=some o1/\(setSy w11 w10.heap.size 2 y).heap[gb]?=some o2:=by
 obtain ⟨r1,r2,r3⟩:=SB6 (x:=2) (y:=y) h.1 h.2.2.1 hb hn.1 hn.2
 exact ⟨r1,r2,r3 _ _ (by omega) h.2.1,r3 _ _ (by omega) h.2.2.2⟩
theorem lt10 {w9 w10:World}{b:Nat}{o:Obj}(h:w9.heap[b]?=some o)(hb:Below w9.heap.size w9 w10):b < w10.heap.size:=Nat.lt_of_lt_of_le (lt_of_block h) hb.size
theorem gbL {w:World}{g:GV}{t:TV}{ba ca ua:Option Addr}{B C:List Int}{U:List (Int×Int)}{bc cc uc:Nat}{w7 w9:World}{S:List TV}{v:Value}(h7:TTw w g t ba B bc ca C cc ua U uc w7)(h9:SWx w7 S v w9):w9.heap[w.heap.size]?=some (gBox g):=(h9.bel.block _ (lt_of_block h7.bx.gb)).trans h7.bx.gb
theorem tb_there {w:World}{b:Nat}{Q:Int}{y:TV}(h:w.heap[b]?=some (xBox Q y)):w.there b 0 4:=fun j hj=>by
 refine ⟨?_,by simp [World.frozen?,h]⟩
 rw [cQa h]
 rcases (show j=0∨j=1∨j=2∨j=3 by omega) with rfl | rfl | rfl | rfl<;>rfl
theorem tb_store {w0 w:World}{b:Nat}{Q:Int}{y:TV}(hb:Below w0.heap.size w0 w)(hl:w0.heap.size<=b)(h:w.heap[b]?=some (xBox Q y))(P:Int)(z:TV) :
  ∃ w7,w.setCells b 0 #[Value.int .i64 P,.int .i64 z.kind,.string z.tx,.slice z.ka z.kids.length z.kc].toList=w7/\Below w0.heap.size w0 w7/\w7.heap[b]?=some (xBox P z):=by
 have h1:=heap_setCell_same w b 0 _ _ (.int .i64 P) h
 have h2:=heap_setCell_same _ b 1 _ _ (.int .i64 z.kind) h1
 have h3:=heap_setCell_same _ b 2 _ _ (.string z.tx) h2
 have h4:=heap_setCell_same _ b 3 _ _ (.slice z.ka z.kids.length z.kc) h3
 exact ⟨_,rfl,(((hb.setCell (p:=⟨b,0,none⟩) hl _).setCell (p:=⟨b,1,none⟩) hl _).setCell (p:=⟨b,2,none⟩) hl _).setCell (p:=⟨b,3,none⟩) hl _,h4⟩
theorem xb_range {w:World}{b:Nat}{Q:Int}{y:TV}(h:w.heap[b]?=some (xBox Q y)):w.rangeAt b 0 [.int .i64 Q,.int .i64 y.kind,.string y.tx,.slice y.ka y.kids.length y.kc]:=fun j v hv=>by
 rw [Nat.zero_add,cQa h,<- hv]
 simp
structure DWx (w0:World)(bx:Nat)(P:Int)(y:TV)(bk:Nat)(Q:Int)(z:TV)(wq:World):Prop where
 bel:Below w0.heap.size w0 wq
 xb:wq.heap[bx]?=some (xBox P y)
 zb:wq.heap[bk]?=some (xBox Q z)
theorem DWx.any {w0:World}{bx:Nat}{P:Int}{y:TV}{bk:Nat}{Q:Int}{z:TV}{wq w':World}(h:DWx w0 bx P y bk Q z wq)(hb:Below wq.heap.size wq w'):DWx w0 bx P y bk Q z w':=⟨h.bel.trans (hb.mono h.bel.size),tbox_on h.xb hb,tbox_on h.zb hb⟩
set_option linter.unusedSimpArgs false in
set_option maxRecDepth 100000 in
set_option maxHeartbeats 16000000 in
theorem trimTrees_yes (g:GV)(t:TV)(w:World)(h:GAt 140737488355328 w g)(hpc:g.ps.length<=g.pc)(hcap:∀ p∈g.ps,p.right.length<=p.rc)(ht:TAt w t)(hsz:szT t<=100000000)(hT:TabB w)(at_:Int)(hE:cG_ g (cF_ g.ts g.ns)=(0,at_))(hb:(runU g (ckT g (0,0) false t) 0).1=0)(jn m:Nat)(hjn:t.prod=(jn:Int))(hjl:jn < g.ps.length)(hm:(g.ps.getD jn .none).left=(m:Int))(hml:m < g.ns.length) :
  Calls Tryz.prog 3 #[g.val,t.val] w fun e w'=>e=.returned (.bool true)/\Below w.heap.size w w':=by
 have ok:OkC g:=OkC.of (by rw [hE])
 have hfg:=ok.fg h
 have HRT:Hid (RT g t):=RT.of t _ _ (runU_zero _ _ hb)
 have X0:Hid (TTb w g t ((w.alloc (gBox g)).alloc (tBox t))):=⟨(two_gtT w g t).1,(two_gtT w g t).2.1,(two_gtT w g t).2.2⟩
 have AL:Hid (∀ w',Below w.heap.size w w'->Calls Tryz.prog 4 #[] w' fun e w''=>e=.returned (.bool true)/\Below w'.heap.size w' w''):=fun w' hb=>alive_T w' (hT.later hb)
 have MC:Hid (∀ w',Below w.heap.size w w'->Calls Tryz.prog 6 #[g.val] w' fun e w''=>e=.returned (.int .i64 0)/\Below w'.heap.size w' w''):=fun w' hb=>by
  have:=refmay_G g w' (h.later hb)
  rwa [hE] at this
 have EJ:t.val=.agg #[.int .i64 (jn:Int),.int .i64 t.kind,.string t.tx,.slice t.ka t.kids.length t.kc]:=by
  show Value.agg #[.int .i64 t.prod,.int .i64 t.kind,.string t.tx,.slice t.ka t.kids.length t.kc]=_
  rw [hjn]
 have EB:∀ w':World,w'.heap[w.heap.size+1]?=some (tBox t)->w'.heap[w.heap.size+1]?=some (.cells #[.int .i64 (jn:Int),.int .i64 t.kind,.string t.tx,.slice t.ka t.kids.length t.kc] 31):=fun w' q=>by
  rw [q]
  show some (Obj.cells #[.int .i64 t.prod,.int .i64 t.kind,.string t.tx,.slice t.ka t.kids.length t.kc] _ _)=_
  rw [hjn]
 have TB:Hid (∀ w':World,w'.heap[w.heap.size+1]?=some (tBox t)->w'.cell? ⟨w.heap.size+1,0,none⟩=some (.int .i64 (jn:Int))/\w'.cell? ⟨w.heap.size+1,1,none⟩=some (.int .i64 t.kind)/\w'.cell? ⟨w.heap.size+1,2,none⟩=some (.string t.tx)/\w'.cell? ⟨w.heap.size+1,3,none⟩=some (.slice t.ka t.kids.length t.kc)):=fun w' q =>
  ⟨(cQa (EB w' q)).trans rfl,(cQa (EB w' q)).trans rfl,(cQa (EB w' q)).trans rfl,(cQa (EB w' q)).trans rfl⟩
 have CC:Hid (∀ w',Below w.heap.size w w'->Calls Tryz.prog 5 #[g.val,.agg #[.int .i64 (jn:Int),.int .i64 t.kind,.string t.tx,.slice t.ka t.kids.length t.kc]] w' fun e w''=>e=.returned (.tuple #[.int .i64 0,.int .i64 ((runU g (ckT g (0,0) false t) 0).2:Int)])/\Below w'.heap.size w' w''):=fun w' hb'=>by
  rw [<- EJ]
  have:=check_S g t w' (h.later hb') (ht.later hb') hsz
  rwa [hb] at this
 have YC:Hid (∀ w',Below w.heap.size w w'->Calls Tryz.prog 10 #[.agg #[.int .i64 (jn:Int),.int .i64 t.kind,.string t.tx,.slice t.ka t.kids.length t.kc]] w' fun e w''=>∃ a c,e=.returned (.slice a (leafs (plT 0 t)).length c)/\Below w'.heap.size w' w''):=fun w' hb=>by
  rw [<- EJ]
  exact (yield_S t w' (ht.later hb) hsz).mono fun e w'' ⟨a,c,q1,_,q3⟩=>⟨a,c,q1,q3⟩
 have YK:Hid (∀ (w':World) (k:TV),TAt w k->szT k<=100000000->Below w.heap.size w w'->Calls Tryz.prog 10 #[k.val] w' fun e w''=>∃ a c,e=.returned (.slice a (leafs (plT 0 k)).length c)/\Below w'.heap.size w' w''):=fun w' k hk hs hb=>(yield_S k w' (hk.later hb) hs).mono fun e w'' ⟨a,c,q1,_,q3⟩=>⟨a,c,q1,q3⟩
 have BC:Hid (∀ w',Below w.heap.size w w'->Calls Tryz.prog 7 #[g.val] w' fun e w''=>∃ a c l,e=.returned (.tuple #[.slice a l.length c,.int .i64 0])/\BrL g l/\IL w'' (.slice a l.length c) l/\Below w'.heap.size w' w''):=fun w' hb=>(Barren_P g w' (h.later hb) hpc 0 at_ hE).mono fun e w'' ⟨v,l,q1,q2,q3⟩=>by
  obtain ⟨a,c,rfl⟩:=il_len q3.il
  exact ⟨a,c,l,q1,q2.1 rfl,q3.il,q3.bel⟩
 have KC:Hid (∀ w',Below w.heap.size w w'->Calls Tryz.prog 8 #[g.val] w' fun e w''=>∃ a c l,e=.returned (.tuple #[.slice a l.length c,.int .i64 0])/\CiL g l/\IL w'' (.slice a l.length c) l/\Below w'.heap.size w' w''):=fun w' hb=>(Circular_P g w' (h.later hb) hpc 0 at_ hE hcap (hT.later hb)).mono fun e w'' ⟨v,l,q1,q2,q3⟩=>by
  obtain ⟨a,c,rfl⟩:=il_len q3.il
  exact ⟨a,c,l,q1,q2.1 rfl,q3.il,q3.bel⟩
 have UC:Hid (∀ w',Below w.heap.size w w'->Calls Tryz.prog 9 #[g.val] w' fun e w''=>∃ a c l,e=.returned (.tuple #[.slice a l.length c,.int .i64 0])/\UnL g l/\SY w'' (.slice a l.length c) l/\Below w'.heap.size w' w''):=fun w' hb=>(Unreached_P g w' (h.later hb) hpc 0 at_ hE).mono fun e w'' ⟨v,l,q1,q2,q3⟩=>by
  obtain ⟨a,c,rfl⟩:=sy_lenP q3.sy
  exact ⟨a,c,l,q1,q2.1 rfl,q3.sy,q3.bel⟩
 have HGA:Hid (∀ w',Below w.heap.size w w'->GAt 140737488355328 w' g):=fun w' hb=>h.later hb
 obtain ⟨pb,po,hpa,-⟩:=ps_cells h hjl
 have HPA:Hid (g.pa=some ⟨pb,po,none⟩):=hpa
 have HPC:Hid (∀ w' (j:Nat),Below w.heap.size w w'->j < g.ps.length->w'.cell? ⟨pb,po+j*3,none⟩=some (.int .i64 (g.ps.getD j .none).left)):=fun w' j hb hj=>by
  obtain ⟨pb',po',hpa',-,c0,-⟩:=ps_cells (h.later hb) hj
  rw [hpa] at hpa'
  simp only [Option.some.injEq,Addr.mk.injEq,and_true] at hpa'
  obtain ⟨rfl,rfl⟩:=hpa'
  exact c0
 have HTT:Hid (TAt w t):=ht
 have HSZ:Hid (szT t<=100000000):=hsz
 have HLF:Hid (∀ p∈g.ps,0<=p.left/\p.left < g.ns.length):=hfg.left
 have HNL:Hid (g.ns.length<=64/\g.ts.length<=64):=⟨ok.nl.2,ok.tl.2⟩
 have hpl:=h.pl
 have t1:((0:Int) != 0)=false:=by decide
 have jlt:(jn:Int) < (g.ps.length:Int):=by omega
 have HM:Hid ((g.ps.getD jn .none).left=(m:Int)/\t.prod=(jn:Int)/\jn < g.ps.length/\m < g.ns.length):=⟨hm,hjn,hjl,hml⟩
 clear h ht hsz hE hT ok hfg hpc hcap hb EJ EB hjn hjl hm hml hpa
 generalize ((runU g (ckT g (0,0) false t) 0).2:Int)=cnt at *
 generalize hle:(leafs (plT 0 t)).length=nl at *
 have HLE:Hid ((leafs (plT 0 t)).length=nl):=hle
 clear hle
 go_enter Tryz.func3,Tryz.ntmps3
 go_wp2_with (first
  | (go_at_call 4;refine (AL.out _ X0.out.bel).mono ?_;rintro e w1 ⟨rfl,b1⟩;have W1:Hid (TTb w g t w1):=X0.out.any b1;clear b1;obtain ⟨x0,x1,x2,x3,x4⟩:=gbc W1.out.gb;obtain ⟨y0,y1,y2,y3⟩:=TB.out _ W1.out.tb)
  | (go_at_call 5;refine (CC.out _ W1.out.bel).mono ?_;rintro e w2 ⟨rfl,b2⟩;have W2:Hid (TTb w g t w2):=W1.out.any b2;clear b2 x0 x1 x2 x3 x4 y0 y1 y2 y3;obtain ⟨x0,x1,x2,x3,x4⟩:=gbc W2.out.gb)
  | (go_at_call 6;refine (MC.out _ W2.out.bel).mono ?_;rintro e w3 ⟨rfl,b3⟩;have W3:Hid (TTb w g t w3):=W2.out.any b3;clear b3 x0 x1 x2 x3 x4;obtain ⟨x0,x1,x2,x3,x4⟩:=gbc W3.out.gb;obtain ⟨y0,y1,y2,y3⟩:=TB.out _ W3.out.tb)
  | (go_at_call 7;refine (BC.out _ W3.out.bel).mono ?_;rintro e w4 ⟨ba,bc,B,rfl,hB,l4,b4⟩;have HB:Hid (BrL g B):=hB;have W4:Hid (TTb w g t w4/\IL w4 (.slice ba B.length bc) B):=⟨W3.out.any b4,l4⟩;clear hB l4 b4 x0 x1 x2 x3 x4 y0 y1 y2 y3;obtain ⟨x0,x1,x2,x3,x4⟩:=gbc W4.out.1.gb)
  | (go_at_call 8;refine (KC.out _ W4.out.1.bel).mono ?_;rintro e w5 ⟨ca,cc,C,rfl,hC,l5,b5⟩;have HC:Hid (CiL g C):=hC;have W5:Hid (TTb w g t w5/\IL w5 (.slice ba B.length bc) B/\IL w5 (.slice ca C.length cc) C):=⟨W4.out.1.any b5,W4.out.2.later b5,l5⟩;clear hC l5 b5 x0 x1 x2 x3 x4;obtain ⟨x0,x1,x2,x3,x4⟩:=gbc W5.out.1.gb)
  | (go_at_call 9;refine (UC.out _ W5.out.1.bel).mono ?_;rintro e w6 ⟨ua,uc,U,rfl,hU,l6,b6⟩;have HU:Hid (UnL g U):=hU;have W6:Hid (TTw w g t ba B bc ca C cc ua U uc w6):=⟨W5.out.1.any b6,W5.out.2.1.later b6,W5.out.2.2.later b6,l6⟩;clear hU l6 b6 x0 x1 x2 x3 x4;obtain ⟨x0,x1,x2,x3,x4⟩:=gbc W6.out.bx.gb;rw [HPA.out] at x3;obtain ⟨y0,y1,y2,y3⟩:=TB.out _ W6.out.bx.tb;have pc0:=HPC.out _ jn W6.out.bx.bel HM.out.2.2.1;rw [HM.out.1] at pc0)
  | (go_at_call 10;refine (YC.out _ W6.out.bx.bel).mono ?_;rintro e w7 ⟨ya,yc,rfl,b7⟩;have W7:Hid (TTw w g t ba B bc ca C cc ua U uc w7):=W6.out.any b7;clear b7 x0 x1 x2 x3 x4 y0 y1 y2 y3 pc0;obtain ⟨y0,y1,y2,y3⟩:=TB.out _ W7.out.bx.tb))
 have S0:Hid (SWx w7 [t] (.slice (some ⟨w7.heap.size,0,none⟩) 1 1) (w7.alloc (.cells #[.int .i64 (jn:Int),.int .i64 t.kind,.string t.tx,.slice t.ka t.kids.length t.kc] 31))):=by
  have e:=HM.out.2.1
  rw [<- e]
  exact ⟨tro_one w7 t,fun j hj=>by simp [Value.ownBlock] at hj;omega,bAl _ _⟩
 clear AL MC CC YC BC KC UC X0 W1 W2 W3 W4 W5 W6 y0 y1 y2 y3
 generalize w7.alloc (.cells #[.int .i64 (jn:Int),.int .i64 t.kind,.string t.tx,.slice t.ka t.kids.length t.kc] 31)=w8 at *
 go_loopg [15] (szT t+1) (fun gk vs wr=>∃ S,SWx w7 S vs wr/\szL S < gk/\szL S<=100000000/\∀ x∈S,SpX g ((m:Int)=g.start) U x/\TAt w x)
 case atStart=>exact ⟨[t],S0.out,by simp [szL],by have:=HSZ.out;simp [szL];omega,fun x hx=>by
   simp only [List.mem_cons,List.not_mem_nil,or_false] at hx
   subst hx
   exact ⟨SpX.start HRT.out HU.out (by rw [HM.out.2.1];omega) (fun q=>by rw [HM.out.2.1,Int.toNat_natCast,HM.out.1];exact q),HTT.out⟩⟩
 case round =>
  clear S0
  obtain ⟨S,hS,hg,hz,hx⟩:=hrel
  by_cases hD:S=[]
  ·subst hD
   obtain ⟨sa,sc,rfl,_⟩:=RO.len hS.s
   obtain ⟨w0,rfl⟩:∃ w0,w0=wr:=⟨_,rfl⟩
   have W8:Hid (TTw w g t ba B bc ca C cc ua U uc w0):=W7.out.any hS.bel
   obtain ⟨y0,y1,y2,y3⟩:=TB.out _ W8.out.bx.tb
   have X8:Hid ((w0.alloc (xBox (jn:Int) t)).heap[w0.heap.size]?=some (xBox (jn:Int) t)/\Below w0.heap.size w0 (w0.alloc (xBox (jn:Int) t))):=⟨heap_alloc_new _ _,bAl _ _⟩
   clear hS hg hz hx W7
   simp only [List.length_nil] at *
   go_wp2
   clear y0 y1 y2 y3
   generalize w0.alloc (.cells #[.int .i64 (jn:Int),.int .i64 t.kind,.string t.tx,.slice t.ka t.kids.length t.kc] 31)=wz at *
   generalize hbz:w0.heap.size=bz at X8 ⊢
   have D0:Hid (DnX g m nl t):=⟨HRT.out,by rw [HM.out.2.1];omega,by rw [<- leafs_len];exact HLE.out,.inl (by rw [root_node (by rw [HM.out.2.1];omega) (by rw [HM.out.2.1];omega),HM.out.2.1,Int.toNat_natCast,HM.out.1];simp)⟩
   go_loopg [18,19] (szT t+2) (fun gk vx vm wq=>∃ (bx:Nat) (y:TV) (jy:Nat) (mo:Bool),vx=.pointer (some ⟨bx,0,none⟩)/\vm=.bool mo/\Below w0.heap.size w0 wq/\w0.heap.size<=bx/\wq.heap[bx]?=some (xBox (jy:Int) y)/\y.prod=(jy:Int)/\DnX g m nl y/\TAt w y/\szT y<=100000000/\(mo=true->szT y+1 < gk))
   case atStart=>exact ⟨bz,t,jn,true,rfl,rfl,by rw [<- hbz] at X8;exact X8.out.2,by omega,X8.out.1,HM.out.2.1,D0.out,HTT.out,HSZ.out,fun _=>by omega⟩
   case round =>
    clear D0 X8 hbz
    obtain ⟨bx,y,jy,mo,rfl,rfl,hB,hbx,hxb,hyp,hDn,hTy,hzy,hmo⟩:=hrel
    cases mo with
    | false =>
     have R:Hid (Below w.heap.size w wr):=W8.out.bx.bel.trans (hB.mono W8.out.bx.bel.size)
     clear hB hbx hxb hyp hDn hTy hzy hmo
     go_wp2
     go_ret
     exact ⟨rfl,R.out⟩
    | true =>
     have HMO:Hid (szT y+1 < gk):=hmo rfl
     have HY:Hid (y.prod=(jy:Int)/\DnX g m nl y/\TAt w y/\szT y<=100000000/\w0.heap.size<=bx):=⟨hyp,hDn,hTy,hzy,hbx⟩
     have HW:Hid (Below w0.heap.size w0 wr/\wr.heap[bx]?=some (xBox (jy:Int) y)):=⟨hB,hxb⟩
     have hyl:y.kids.length<=100000000:=by have:=szT_eq y;have:=szL_len y.kids;omega
     clear hB hbx hxb hyp hDn hTy hzy hmo
     go_wp2
     go_loopw [19,20] (fun vm z w2=>∃ k:Nat,k<=y.kids.length/\z=.int .i64 k/\vm=.bool false/\Below w0.heap.size w0 w2/\w2.heap[bx]?=some (xBox (jy:Int) y)) (fun _ z _=>y.kids.length - (intOf z).toNat)
     case atStart=>exact ⟨0,Nat.zero_le _,rfl,rfl,HW.out⟩
     case round =>
      clear HW
      obtain ⟨k,hk,rfl,rfl,hB,hxb⟩:=hrel
      by_cases hlt:k < y.kids.length
      ·obtain ⟨kb,ko,hka,hbl,hc⟩:=HY.out.2.2.1.row.later (W8.out.bx.bel.trans (hB.mono W8.out.bx.bel.size)) (by intro e;rw [e] at hlt;simp at hlt)
       obtain ⟨c0,c1,c2,c3⟩:=hc k hlt
       obtain ⟨d0,d1,d2,d3⟩:=xb_cells hxb
       rw [hka] at d3
       obtain ⟨z,hz⟩:∃ z,y.kids.getD k .none=z:=⟨_,rfl⟩
       have hz2:y.kids[k]=z:=by rw [<- hz];simp [List.getD,hlt]
       rw [hz] at c0 c1 c2 c3
       have hzm:z∈y.kids:=by rw [<- hz2];exact List.getElem_mem hlt
       have HZT:Hid (TAt w z/\szT z<=100000000/\szT z < szT y):=by
        have h1:=szL_mem hzm
        have h2:=szT_eq y
        have h3:=HY.out.2.2.2.1
        exact ⟨HY.out.2.2.1.kid z hzm,by omega,by omega⟩
       obtain ⟨PZ,hPZ⟩:∃ P,z.prod=P:=⟨_,rfl⟩
       rw [hPZ] at c0
       have V1:Hid (DWx w0 bx (jy:Int) y wr.heap.size PZ z (wr.alloc (xBox PZ z))):=⟨hB.trans ((bAl _ _).mono hB.size),tbox_on hxb (bAl _ _),heap_alloc_new _ _⟩
       have klt:(k:Int) < (y.kids.length:Int):=by omega
       have HPZ:Hid (z.prod=PZ):=hPZ
       have HDK:Hid (z.prod≠-1->(lv (plT 0 z)).length=nl->DnX g m nl z/\∀ NU,MLst g.ps g.ns.length false NU->TrE (alU NU g.ps) m (rootU g z).2.toNat):=fun h1 h2=>by
        have:=HY.out.2.1.kid (fun p hp=>(HLF.out p hp).1) hlt (by rw [hz2];exact h1) (by rw [hz2];exact h2)
        rwa [hz2] at this
       have HRZ:Hid (RT g z):=AllP.kid HY.out.2.1.rt z hzm
       have HKA:Hid (y.ka=some ⟨kb,ko,none⟩):=hka
       clear hc hB hxb hz hz2 hzm hPZ hka
       by_cases hp:PZ=-1
       ·have hn0:¬ ((0:Int)<=PZ):=by omega
        clear hp
        go_wp2
        go_roundw
        case rel=>exact ⟨k+1,by omega,by go_num,rfl,V1.out.bel,V1.out.xb⟩
        case measure=>simp [intOf];omega
       ·obtain ⟨jz,hjz,rfl⟩:∃ jz:Nat,jz < g.ps.length/\PZ=(jz:Int):=by
         have:=HRZ.out.prodT (by rw [HPZ.out];exact hp)
         rw [HPZ.out] at this
         exact ⟨PZ.toNat,by omega,by omega⟩
        obtain ⟨LZ,hLZ⟩:∃ L,(g.ps.getD jz .none).left=L:=⟨_,rfl⟩
        have HJZ:Hid (jz < g.ps.length/\(g.ps.getD jz .none).left=LZ/\z.prod=(jz:Int)):=⟨hjz,hLZ,HPZ.out⟩
        have jzl:(jz:Int) < (g.ps.length:Int):=by omega
        have HNZ:Hid (z.prod≠-1):=by show _≠_;rw [HPZ.out];exact hp
        clear hjz hLZ hp
        by_cases hn0:nl=0
        ·subst hn0
         go_wp2
         go_roundw
         case rel=>exact ⟨k+1,by omega,by go_num,rfl,V1.out.bel,V1.out.xb⟩
         case measure=>simp [intOf];omega
        ·have hn1:(0:Int) < (nl:Int):=by omega
         clear hn0
         obtain ⟨nz,hnz⟩:∃ n,(leafs (plT 0 z)).length=n:=⟨_,rfl⟩
         have YZ:Hid (∀ w',Below w.heap.size w w'->Calls Tryz.prog 10 #[.agg #[.int .i64 (jz:Int),.int .i64 z.kind,.string z.tx,.slice z.ka z.kids.length z.kc]] w' fun e w''=>∃ a c,e=.returned (.slice a nz c)/\Below w'.heap.size w' w''):=fun w' hb=>by
          have:=YK.out w' z HZT.out.1 HZT.out.2.1 hb
          unfold TV.val at this
          rwa [HPZ.out,hnz] at this
         have HNN:Hid ((leafs (plT 0 z)).length=nz):=hnz
         clear hnz
         by_cases hq:nz=nl
         ·subst hq
          have HDZ:Hid (DnX g m nz z/\∀ NU,MLst g.ps g.ns.length false NU->TrE (alU NU g.ps) m (rootU g z).2.toNat):=HDK.out HNZ.out (by rw [<- leafs_len];exact HNN.out)
          by_cases hl:LZ=(m:Int)
          ·have HIC:Hid (∀ wq,Below w0.heap.size w0 wq->Calls Tryz.prog 13 #[.slice ca C.length cc,.int .i64 (m:Int)] wq fun e w'=>e=.returned (.bool true)/\Below wq.heap.size wq w'):=fun wq hb=>by
            have hcl:C.length<=140737488355328:=by
             obtain ⟨M,NU,-,-,e⟩:=HC.out
             have h3:=offU_len true M g.ns.length
             have h4:=HNL.out
             rw [e]
             omega
            have h1:=hasInt_P ca cc C (m:Int) wq (IL.inrow (W8.out.lc.later hb)) hcl
            have h2:(m:Int)∈C:=DnX.circ HC.out HM.out.2.2.2 fun NU hN=>by
             have:=HDZ.out.2 NU hN
             have hr:=HRZ.out.prodT HNZ.out
             rw [root_node hr.1 hr.2,HPZ.out,Int.toNat_natCast,HJZ.out.2.1,hl] at this
             exact this
            rwa [decide_eq_true h2] at h1
           subst hl
           go_upto_region 31 with (first
            | (go_at_call 10;refine (YZ.out _ (W8.out.bx.bel.trans (V1.out.bel.mono W8.out.bx.bel.size))).mono ?_;rintro e w5 ⟨ya,yc,rfl,b5⟩;have V5:Hid (DWx w0 bx (jy:Int) y wr.heap.size (jz:Int) z w5):=V1.out.any b5;clear b5 c0 c1 c2 c3 d0 d1 d2 d3;obtain ⟨z0,z1,z2,z3⟩:=xb_cells V5.out.zb;obtain ⟨x0,x1,x2,x3,x4⟩:=gbc ((V5.out.bel.block _ (lt_of_block W8.out.bx.gb)).trans W8.out.bx.gb);rw [HPA.out] at x3;have pc0:=HPC.out _ jz (W8.out.bx.bel.trans (V5.out.bel.mono W8.out.bx.bel.size)) HJZ.out.1;rw [HJZ.out.2.1] at pc0)
            | (go_at_call 13;refine (HIC.out _ V5.out.bel).mono ?_;rintro e w6 ⟨rfl,b6⟩;have V6:Hid (DWx w0 bx (jy:Int) y wr.heap.size (jz:Int) z w6):=V5.out.any b6;clear b6 z0 z1 z2 z3 x0 x1 x2 x3 x4 pc0;obtain ⟨z0,z1,z2,z3⟩:=xb_cells V6.out.zb))
           refine wp_region_lit ?_
           refine wpList_load_mid rfl 31 (.tmp 21) rfl wr.heap.size 0 rfl [.int .i64 (jz:Int),.int .i64 z.kind,.string z.tx,.slice z.ka z.kids.length z.kc] _ (xb_range V6.out.zb) Tryz.underlying31 rfl (by kernel_rfl) ?_
           refine wpList_store_mid rfl 31 (.tmp 18) (.tmp 165) rfl bx 0 #[.int .i64 (jz:Int),.int .i64 z.kind,.string z.tx,.slice z.ka z.kids.length z.kc] rfl rfl (tb_there V6.out.xb) (by kernel_rfl) (by kernel_rfl) ?_
           obtain ⟨w9,hw9,bw9,xw9⟩:=tb_store V6.out.bel HY.out.2.2.2.2 V6.out.xb (jz:Int) z
           rw [hw9]
           have V9:Hid (Below w0.heap.size w0 w9/\w9.heap[bx]?=some (xBox (jz:Int) z)):=⟨bw9,xw9⟩
           clear hw9 bw9 xw9 z0 z1 z2 z3
           obtain ⟨e0,e1,e2,e3⟩:=xb_cells V9.out.2
           simp only [Act.put,List.setIfInBounds_toArray,List.set_cons_zero,List.set_cons_succ]
           go_wp2
           go_roundg (gk - 1)
           case measure=>have:=HMO.out;omega
           case rel=>exact ⟨_,z,jz,true,rfl,rfl,V9.out.1.trans ((bAl _ _).mono V9.out.1.size),V9.out.1.size,heap_alloc_new _ _,HJZ.out.2.2,HDZ.out.1,HZT.out.1,HZT.out.2.1,fun _=>by have:=HMO.out;have:=HZT.out.2.2;omega⟩
          ·have t3:(LZ == (m:Int))=false:=by simpa using hl
           clear hl
           go_upto_region 31 with (first
            | (go_at_call 10;refine (YZ.out _ (W8.out.bx.bel.trans (V1.out.bel.mono W8.out.bx.bel.size))).mono ?_;rintro e w5 ⟨ya,yc,rfl,b5⟩;have V5:Hid (DWx w0 bx (jy:Int) y wr.heap.size (jz:Int) z w5):=V1.out.any b5;clear b5 c0 c1 c2 c3 d0 d1 d2 d3;obtain ⟨z0,z1,z2,z3⟩:=xb_cells V5.out.zb;obtain ⟨x0,x1,x2,x3,x4⟩:=gbc ((V5.out.bel.block _ (lt_of_block W8.out.bx.gb)).trans W8.out.bx.gb);rw [HPA.out] at x3;have pc0:=HPC.out _ jz (W8.out.bx.bel.trans (V5.out.bel.mono W8.out.bx.bel.size)) HJZ.out.1;rw [HJZ.out.2.1] at pc0))
           refine wp_region_lit ?_
           refine wpList_load_mid rfl 31 (.tmp 21) rfl wr.heap.size 0 rfl [.int .i64 (jz:Int),.int .i64 z.kind,.string z.tx,.slice z.ka z.kids.length z.kc] _ (xb_range V5.out.zb) Tryz.underlying31 rfl (by kernel_rfl) ?_
           refine wpList_store_mid rfl 31 (.tmp 18) (.tmp 165) rfl bx 0 #[.int .i64 (jz:Int),.int .i64 z.kind,.string z.tx,.slice z.ka z.kids.length z.kc] rfl rfl (tb_there V5.out.xb) (by kernel_rfl) (by kernel_rfl) ?_
           obtain ⟨w9,hw9,bw9,xw9⟩:=tb_store V5.out.bel HY.out.2.2.2.2 V5.out.xb (jz:Int) z
           rw [hw9]
           have V9:Hid (Below w0.heap.size w0 w9/\w9.heap[bx]?=some (xBox (jz:Int) z)):=⟨bw9,xw9⟩
           clear hw9 bw9 xw9 z0 z1 z2 z3 x0 x1 x2 x3 x4 pc0
           obtain ⟨e0,e1,e2,e3⟩:=xb_cells V9.out.2
           simp only [Act.put,List.setIfInBounds_toArray,List.set_cons_zero,List.set_cons_succ]
           go_wp2
           go_roundg (gk - 1)
           case measure=>have:=HMO.out;omega
           case rel=>exact ⟨_,z,jz,true,rfl,rfl,V9.out.1.trans ((bAl _ _).mono V9.out.1.size),V9.out.1.size,heap_alloc_new _ _,HJZ.out.2.2,HDZ.out.1,HZT.out.1,HZT.out.2.1,fun _=>by have:=HMO.out;have:=HZT.out.2.2;omega⟩
         ·have t3:((nz:Int) == (nl:Int))=false:=by simp;omega
          clear hq
          go_wp2_with (go_at_call 10;refine (YZ.out _ (W8.out.bx.bel.trans (V1.out.bel.mono W8.out.bx.bel.size))).mono ?_;rintro e w5 ⟨ya,yc,rfl,b5⟩;have V5:Hid (DWx w0 bx (jy:Int) y wr.heap.size (jz:Int) z w5):=V1.out.any b5;clear b5 c0 c1 c2 c3 d0 d1 d2 d3)
          go_roundw
          case rel=>exact ⟨k+1,by omega,by go_num,rfl,V5.out.bel,V5.out.xb⟩
          case measure=>simp [intOf];omega
      ·obtain rfl:k=y.kids.length:=by omega
       obtain ⟨d0,d1,d2,d3⟩:=xb_cells hxb
       have E8:Hid (Below w0.heap.size w0 (wr.alloc (xBox (jy:Int) y))/\(wr.alloc (xBox (jy:Int) y)).heap[wr.heap.size]?=some (xBox (jy:Int) y)/\w0.heap.size<=wr.heap.size):=⟨hB.trans ((bAl _ _).mono hB.size),heap_alloc_new _ _,hB.size⟩
       clear hB hxb hlt
       go_wp2
       go_roundg (gk - 1)
       case measure=>have:=HMO.out;omega
       case rel=>exact ⟨wr.heap.size,y,jy,false,rfl,rfl,E8.out.1,E8.out.2.2,E8.out.2.1,HY.out.1,HY.out.2.1,HY.out.2.2.1,HY.out.2.2.2.1,fun e=>by cases e⟩
  ·obtain ⟨S',x,rfl⟩:∃ d x,S=d++[x]:=⟨S.dropLast,S.getLast hD,(List.dropLast_concat_getLast hD).symm⟩
   obtain ⟨b,c,rfl,hc,hcell,hP'⟩:=RO.pop (f:=trCells) (fun _=>rfl) hS.s
   have hxx:=hx x (by simp)
   rw [szL_app] at hg hz
   have hzx:szL [x]=szL x.kids+1:=by simp [szL];exact szT_eq x
   rw [hzx] at hg hz
   have c0:=hcell 0 (by omega)
   have c1:=hcell 1 (by omega)
   have c2:=hcell 2 (by omega)
   have c3:=hcell 3 (by omega)
   simp only [trCells,List.getElem?_cons_zero,List.getElem?_cons_succ,Nat.add_zero] at c0 c1 c2 c3
   have HP:Hid (SWx w7 S' (.slice (some ⟨b,0,none⟩) S'.length c) wr):=⟨hP',fun j hj=>hS.own j hj,hS.bel⟩
   have HX:Hid (SpX g ((m:Int)=g.start) U x/\TAt w x):=hxx
   have HR:Hid (∀ y∈S',SpX g ((m:Int)=g.start) U y/\TAt w y):=fun y hy=>hx y (List.mem_append_left _ hy)
   have HG:Hid (szL S'+(szL x.kids+1) < gk):=hg
   have HZ:Hid (szL S'+(szL x.kids+1)<=100000000):=hz
   have LEN:Hid (S'.length+x.kids.length<=1000000000):=by
    have h1:=szL_len S'
    have h2:=szL_len x.kids
    have h3:=HZ.out
    show _<=_
    omega
   have SRC:Hid (∀ w',Below w.heap.size w w'->x.kids≠[]->∃ b off,x.ka=some ⟨b,off,none⟩/\∀ j u,(x.kids.flatMap trCells)[j]?=some u->w'.cell? ⟨b,off+j,none⟩=some u):=fun w' hb hne=>(HX.out.2.row.later hb).src hne
   obtain ⟨PX,hPX⟩:∃ P,x.prod=P:=⟨_,rfl⟩
   have HPX:Hid (x.prod=PX):=hPX
   rw [hPX] at c0
   have XA:Hid ((wr.alloc (xBox PX x)).heap[wr.heap.size]?=some (xBox PX x)):=heap_alloc_new _ _
   have HPA2:Hid (SWx w7 S' (.slice (some ⟨b,0,none⟩) S'.length c) (wr.alloc (xBox PX x))):=HP.out.any (bAl _ _)
   have XB:Hid (some wr.heap.size≠(Value.slice (some ⟨b,0,none⟩) S'.length c).ownBlock/\wr.heap.size < (wr.alloc (xBox PX x)).heap.size):=⟨fun e=>by
    have:=HP.out.s.lt wr.heap.size e.symm
    omega,by simp⟩
   have hsl:S'.length<=100000000:=by have:=HZ.out;have:=szL_len S';omega
   have hkl:x.kids.length<=100000000:=by have:=HZ.out;have:=szL_len x.kids;omega
   have REL:Hid (∀ vs wq,SWx w7 (S'++x.kids) vs wq->∃ S,SWx w7 S vs wq/\szL S < gk - 1/\szL S<=100000000/\∀ y∈S,SpX g ((m:Int)=g.start) U y/\TAt w y):=fun vs wq hq=>by
    have h1:=HG.out
    have h2:=HZ.out
    refine ⟨_,hq,by rw [szL_app];omega,by rw [szL_app];omega,fun y hy=>?_⟩
    rcases List.mem_append.1 hy with hy | hy
    ·exact HR.out y hy
    ·exact ⟨HX.out.1.kid hy,HX.out.2.kid y hy⟩
   have HUB:Hid (U.length<=140737488355328/\B.length<=140737488355328):=by
    obtain ⟨T,N,-,e⟩:=HU.out
    obtain ⟨M,-,e2⟩:=HB.out
    have h1:=offY_len 1 T g.ts.length
    have h2:=offY_len 2 N g.ns.length
    have h3:=offU_len false M g.ns.length
    have h4:=HNL.out
    refine ⟨?_,?_⟩
    ·rw [e,List.length_append];omega
    ·rw [e2];omega
   clear hP' hS hx hxx hg hz hzx hcell hD hPX
   by_cases hp:PX=-1
   ·have hlt:¬ ((0:Int)<=PX):=by omega
    by_cases hst:(m:Int)=g.start
    ·have t2:((m:Int) == g.start)=true:=by simpa using hst
     have HSY:Hid (∀ wq,Below w7.heap.size w7 wq->Calls Tryz.prog 14 #[.slice ua U.length uc,.agg #[.int .i64 1,.int .i64 x.kind]] wq fun e w'=>e=.returned (.bool false)/\Below wq.heap.size wq w'):=fun wq hb=>hasSym_P ua uc U (1,x.kind) wq (W7.out.lu.later hb).row HUB.out.1 (HX.out.1.notLeaf hst (by rw [HPX.out];exact hp))
     clear hst hp
     go_wp2_with (first
      | (at_builtin;refine wpList_ro_cat rkTree rfl _ _ rfl (.slice (some ⟨b,0,none⟩) S'.length c) S' rfl HPA2.out.s x.ka x.kc x.kids rfl (SRC.out _ (W7.out.bx.bel.trans (HPA2.out.bel.mono W7.out.bx.bel.size))) LEN.out ?_;intro a4 n4 c4 w9 ho4 hg4;have W9:Hid (SWx w7 (S'++x.kids) (.slice a4 n4 c4) w9/\w9.heap[wr.heap.size]?=some (xBox PX x)):=⟨HPA2.out.grew hg4 ho4,(hg4.grown.block _ XB.out.2 XB.out.1).trans XA.out⟩;clear ho4 hg4 c0 c1 c2 c3;obtain ⟨z0,z1,z2,z3⟩:=xb_cells W9.out.2)
      | (go_at_call 11;refine (t7_R x.kind _).mono ?_;rintro e w10 ⟨rfl,b10⟩;have W10:Hid (SWx w7 (S'++x.kids) (.slice a4 n4 c4) (w10.alloc (.cells #[.int .i64 1,.int .i64 x.kind] 49))/\(w10.alloc (.cells #[.int .i64 1,.int .i64 x.kind] 49)).heap[wr.heap.size]?=some (xBox PX x)/\(w10.alloc (.cells #[.int .i64 1,.int .i64 x.kind] 49)).heap[w10.heap.size]?=some (.cells #[.int .i64 1,.int .i64 x.kind] 49)/\(w10.alloc (.cells #[.int .i64 1,.int .i64 x.kind] 49)).heap[w.heap.size]?=some (gBox g)):=SB4 W7.out W9.out.1 W9.out.2 b10;clear b10 z0 z1 z2 z3;obtain ⟨z0,z1,z2,z3⟩:=xb_cells W10.out.2.1;obtain ⟨s0,s1⟩:=sy_cellsT W10.out.2.2.1;obtain ⟨x0,x1,x2,x3,x4⟩:=gbc W10.out.2.2.2)
      | (go_at_call 14;refine (HSY.out _ W10.out.1.bel).mono ?_;rintro e w12 ⟨rfl,b12⟩;have W12:Hid (SWx w7 (S'++x.kids) (.slice a4 n4 c4) w12):=W10.out.1.any b12;clear b12))
     go_roundg (gk - 1)
     case measure=>have:=HG.out;omega
     case rel=>exact REL.out _ _ W12.out
    ·have t2:((m:Int) == g.start)=false:=by simpa using hst
     clear hst hp
     go_wp2_with (first
      | (at_builtin;refine wpList_ro_cat rkTree rfl _ _ rfl (.slice (some ⟨b,0,none⟩) S'.length c) S' rfl HPA2.out.s x.ka x.kc x.kids rfl (SRC.out _ (W7.out.bx.bel.trans (HPA2.out.bel.mono W7.out.bx.bel.size))) LEN.out ?_;intro a4 n4 c4 w9 ho4 hg4;have W9:Hid (SWx w7 (S'++x.kids) (.slice a4 n4 c4) w9/\w9.heap[wr.heap.size]?=some (xBox PX x)):=⟨HPA2.out.grew hg4 ho4,(hg4.grown.block _ XB.out.2 XB.out.1).trans XA.out⟩;clear ho4 hg4 c0 c1 c2 c3;obtain ⟨z0,z1,z2,z3⟩:=xb_cells W9.out.2)
      | (go_at_call 11;refine (t7_R x.kind _).mono ?_;rintro e w10 ⟨rfl,b10⟩;have W10:Hid (SWx w7 (S'++x.kids) (.slice a4 n4 c4) (w10.alloc (.cells #[.int .i64 1,.int .i64 x.kind] 49))/\(w10.alloc (.cells #[.int .i64 1,.int .i64 x.kind] 49)).heap[wr.heap.size]?=some (xBox PX x)/\(w10.alloc (.cells #[.int .i64 1,.int .i64 x.kind] 49)).heap[w10.heap.size]?=some (.cells #[.int .i64 1,.int .i64 x.kind] 49)/\(w10.alloc (.cells #[.int .i64 1,.int .i64 x.kind] 49)).heap[w.heap.size]?=some (gBox g)):=SB4 W7.out W9.out.1 W9.out.2 b10;clear b10 z0 z1 z2 z3;obtain ⟨z0,z1,z2,z3⟩:=xb_cells W10.out.2.1;obtain ⟨s0,s1⟩:=sy_cellsT W10.out.2.2.1;obtain ⟨x0,x1,x2,x3,x4⟩:=gbc W10.out.2.2.2))
     go_roundg (gk - 1)
     case measure=>have:=HG.out;omega
     case rel=>exact REL.out _ _ W10.out.1
   ·obtain ⟨jx,hjx,rfl⟩:∃ jx:Nat,jx < g.ps.length/\PX=(jx:Int):=by
     have:=HX.out.1.rt.prodT (by rw [HPX.out];exact hp)
     rw [HPX.out] at this
     exact ⟨PX.toNat,by omega,by omega⟩
    obtain ⟨LX,hLX⟩:∃ L,(g.ps.getD jx .none).left=L:=⟨_,rfl⟩
    have HJX:Hid (jx < g.ps.length/\(g.ps.getD jx .none).left=LX):=⟨hjx,hLX⟩
    have jxl:(jx:Int) < (g.ps.length:Int):=by omega
    have HNX:Hid (x.prod≠-1):=by show _≠_;rw [HPX.out];exact hp
    have HIB:Hid (∀ wq,Below w7.heap.size w7 wq->Calls Tryz.prog 13 #[.slice ba B.length bc,.int .i64 LX] wq fun e w'=>e=.returned (.bool false)/\Below wq.heap.size wq w'):=fun wq hb=>by
     have h1:=hasInt_P ba bc B LX wq (IL.inrow (W7.out.lb.later hb)) HUB.out.2
     have h2:=RT.notBar HB.out HX.out.1.rt HNX.out
     rw [HPX.out,Int.toNat_natCast,HJX.out.2] at h2
     rwa [decide_eq_false h2] at h1
    have SNE:Hid (∀ (w9 w10:World),Below w9.heap.size w9 w10->∀ {T:List TV} {v:Value},SWx w7 T v w9->w7.heap.size<=w10.heap.size/\∀ j,v.ownBlock=some j->j≠w10.heap.size):=fun w9 w10 hb T v h9=>⟨Nat.le_trans h9.bel.size hb.size,fun j hj=>by
     have:=h9.s.lt j hj
     have:=hb.size
     omega⟩
    clear hjx hLX hp
    by_cases hst:(m:Int)=g.start
    ·have t2:((m:Int) == g.start)=true:=by simpa using hst
     have HSY:Hid (∀ wq,Below w7.heap.size w7 wq->Calls Tryz.prog 14 #[.slice ua U.length uc,.agg #[.int .i64 2,.int .i64 LX]] wq fun e w'=>e=.returned (.bool false)/\Below wq.heap.size wq w'):=fun wq hb=>hasSym_P ua uc U (2,LX) wq (W7.out.lu.later hb).row HUB.out.1 (by
      have:=HX.out.1.notNode hst HNX.out
      rwa [HPX.out,Int.toNat_natCast,HJX.out.2] at this)
     clear hst
     go_wp2_with (first
      | (at_builtin;refine wpList_ro_cat rkTree rfl _ _ rfl (.slice (some ⟨b,0,none⟩) S'.length c) S' rfl HPA2.out.s x.ka x.kc x.kids rfl (SRC.out _ (W7.out.bx.bel.trans (HPA2.out.bel.mono W7.out.bx.bel.size))) LEN.out ?_;intro a4 n4 c4 w9 ho4 hg4;have W9:Hid (SWx w7 (S'++x.kids) (.slice a4 n4 c4) w9/\w9.heap[wr.heap.size]?=some (xBox (jx:Int) x)):=⟨HPA2.out.grew hg4 ho4,(hg4.grown.block _ XB.out.2 XB.out.1).trans XA.out⟩;clear ho4 hg4 c0 c1 c2 c3;obtain ⟨z0,z1,z2,z3⟩:=xb_cells W9.out.2)
      | (go_at_call 11;refine (t7_R x.kind _).mono ?_;rintro e w10 ⟨rfl,b10⟩;have B910:Hid (Below w9.heap.size w9 w10):=b10;have W10:Hid (SWx w7 (S'++x.kids) (.slice a4 n4 c4) (w10.alloc (.cells #[.int .i64 1,.int .i64 x.kind] 49))/\(w10.alloc (.cells #[.int .i64 1,.int .i64 x.kind] 49)).heap[wr.heap.size]?=some (xBox (jx:Int) x)/\(w10.alloc (.cells #[.int .i64 1,.int .i64 x.kind] 49)).heap[w10.heap.size]?=some (.cells #[.int .i64 1,.int .i64 x.kind] 49)/\(w10.alloc (.cells #[.int .i64 1,.int .i64 x.kind] 49)).heap[w.heap.size]?=some (gBox g)):=SB4 W7.out W9.out.1 W9.out.2 b10;clear b10 z0 z1 z2 z3;obtain ⟨z0,z1,z2,z3⟩:=xb_cells W10.out.2.1;obtain ⟨s0,s1⟩:=sy_cellsT W10.out.2.2.1;obtain ⟨x0,x1,x2,x3,x4⟩:=gbc W10.out.2.2.2;rw [HPA.out] at x3;have pc0:=HPC.out _ jx (W7.out.bx.bel.trans (W10.out.1.bel.mono W7.out.bx.bel.size)) HJX.out.1;rw [HJX.out.2] at pc0)
      | (go_at_call 12;refine (n7_R _ _).mono ?_;rintro e w11 ⟨rfl,b11⟩;have F11:Hid ((w11.cell? ⟨w10.heap.size,0,none⟩=some (.int .i64 1)/\w11.frozen? ⟨w10.heap.size,0,none⟩=false)/\(w11.setCell ⟨w10.heap.size,0,none⟩ (.int .i64 2)).cell? ⟨w10.heap.size,1,none⟩=some (.int .i64 x.kind)/\(w11.setCell ⟨w10.heap.size,0,none⟩ (.int .i64 2)).frozen? ⟨w10.heap.size,1,none⟩=false):=sb_free ((b11.block _ (lt_of_block W10.out.2.2.1)).trans W10.out.2.2.1) 2;have W11:Hid (SWx w7 (S'++x.kids) (.slice a4 n4 c4) (setSy w11 w10.heap.size 2 LX)/\(setSy w11 w10.heap.size 2 LX).heap[w10.heap.size]?=some (.cells #[.int .i64 2,.int .i64 LX] 49)/\(setSy w11 w10.heap.size 2 LX).heap[wr.heap.size]?=some (xBox (jx:Int) x)/\(setSy w11 w10.heap.size 2 LX).heap[w.heap.size]?=some (gBox g)):=SB7 W10.out (SNE.out w9 w10 B910.out W9.out.1) b11 (lt10 W9.out.2 B910.out) (lt10 (gbL W7.out W9.out.1) B910.out);clear b11 z0 z1 z2 z3 s0 s1 x0 x1 x2 x3 x4 pc0;obtain ⟨⟨s0,s1⟩,s2,s3⟩:=F11.out;obtain ⟨z0,-,-,-⟩:=xb_cells W11.out.2.2.1;obtain ⟨s4,s5⟩:=sy_cellsT W11.out.2.1;obtain ⟨-,-,x2,-,-⟩:=gbc W11.out.2.2.2)
      | (go_at_call 13;refine (HIB.out _ W11.out.1.bel).mono ?_;rintro e w12 ⟨rfl,b12⟩;have W12:Hid (SWx w7 (S'++x.kids) (.slice a4 n4 c4) w12/\w12.heap[w10.heap.size]?=some (.cells #[.int .i64 2,.int .i64 LX] 49)/\w12.heap[w.heap.size]?=some (gBox g)):=⟨W11.out.1.any b12,tbox_on W11.out.2.1 b12,tbox_on W11.out.2.2.2 b12⟩;clear b12 z0 s0 s1 s2 s3 s4 s5 x2;obtain ⟨s4,s5⟩:=sy_cellsT W12.out.2.1;obtain ⟨-,-,x2,-,-⟩:=gbc W12.out.2.2)
      | (go_at_call 14;refine (HSY.out _ W12.out.1.bel).mono ?_;rintro e w13 ⟨rfl,b13⟩;have W13:Hid (SWx w7 (S'++x.kids) (.slice a4 n4 c4) w13):=W12.out.1.any b13;clear b13))
     go_roundg (gk - 1)
     case measure=>have:=HG.out;omega
     case rel=>exact REL.out _ _ W13.out
    ·have t2:((m:Int) == g.start)=false:=by simpa using hst
     clear hst
     go_wp2_with (first
      | (at_builtin;refine wpList_ro_cat rkTree rfl _ _ rfl (.slice (some ⟨b,0,none⟩) S'.length c) S' rfl HPA2.out.s x.ka x.kc x.kids rfl (SRC.out _ (W7.out.bx.bel.trans (HPA2.out.bel.mono W7.out.bx.bel.size))) LEN.out ?_;intro a4 n4 c4 w9 ho4 hg4;have W9:Hid (SWx w7 (S'++x.kids) (.slice a4 n4 c4) w9/\w9.heap[wr.heap.size]?=some (xBox (jx:Int) x)):=⟨HPA2.out.grew hg4 ho4,(hg4.grown.block _ XB.out.2 XB.out.1).trans XA.out⟩;clear ho4 hg4 c0 c1 c2 c3;obtain ⟨z0,z1,z2,z3⟩:=xb_cells W9.out.2)
      | (go_at_call 11;refine (t7_R x.kind _).mono ?_;rintro e w10 ⟨rfl,b10⟩;have B910:Hid (Below w9.heap.size w9 w10):=b10;have W10:Hid (SWx w7 (S'++x.kids) (.slice a4 n4 c4) (w10.alloc (.cells #[.int .i64 1,.int .i64 x.kind] 49))/\(w10.alloc (.cells #[.int .i64 1,.int .i64 x.kind] 49)).heap[wr.heap.size]?=some (xBox (jx:Int) x)/\(w10.alloc (.cells #[.int .i64 1,.int .i64 x.kind] 49)).heap[w10.heap.size]?=some (.cells #[.int .i64 1,.int .i64 x.kind] 49)/\(w10.alloc (.cells #[.int .i64 1,.int .i64 x.kind] 49)).heap[w.heap.size]?=some (gBox g)):=SB4 W7.out W9.out.1 W9.out.2 b10;clear b10 z0 z1 z2 z3;obtain ⟨z0,z1,z2,z3⟩:=xb_cells W10.out.2.1;obtain ⟨s0,s1⟩:=sy_cellsT W10.out.2.2.1;obtain ⟨x0,x1,x2,x3,x4⟩:=gbc W10.out.2.2.2;rw [HPA.out] at x3;have pc0:=HPC.out _ jx (W7.out.bx.bel.trans (W10.out.1.bel.mono W7.out.bx.bel.size)) HJX.out.1;rw [HJX.out.2] at pc0)
      | (go_at_call 12;refine (n7_R _ _).mono ?_;rintro e w11 ⟨rfl,b11⟩;have F11:Hid ((w11.cell? ⟨w10.heap.size,0,none⟩=some (.int .i64 1)/\w11.frozen? ⟨w10.heap.size,0,none⟩=false)/\(w11.setCell ⟨w10.heap.size,0,none⟩ (.int .i64 2)).cell? ⟨w10.heap.size,1,none⟩=some (.int .i64 x.kind)/\(w11.setCell ⟨w10.heap.size,0,none⟩ (.int .i64 2)).frozen? ⟨w10.heap.size,1,none⟩=false):=sb_free ((b11.block _ (lt_of_block W10.out.2.2.1)).trans W10.out.2.2.1) 2;have W11:Hid (SWx w7 (S'++x.kids) (.slice a4 n4 c4) (setSy w11 w10.heap.size 2 LX)/\(setSy w11 w10.heap.size 2 LX).heap[w10.heap.size]?=some (.cells #[.int .i64 2,.int .i64 LX] 49)/\(setSy w11 w10.heap.size 2 LX).heap[wr.heap.size]?=some (xBox (jx:Int) x)/\(setSy w11 w10.heap.size 2 LX).heap[w.heap.size]?=some (gBox g)):=SB7 W10.out (SNE.out w9 w10 B910.out W9.out.1) b11 (lt10 W9.out.2 B910.out) (lt10 (gbL W7.out W9.out.1) B910.out);clear b11 z0 z1 z2 z3 s0 s1 x0 x1 x2 x3 x4 pc0;obtain ⟨⟨s0,s1⟩,s2,s3⟩:=F11.out;obtain ⟨z0,-,-,-⟩:=xb_cells W11.out.2.2.1;obtain ⟨s4,s5⟩:=sy_cellsT W11.out.2.1;obtain ⟨-,-,x2,-,-⟩:=gbc W11.out.2.2.2)
      | (go_at_call 13;refine (HIB.out _ W11.out.1.bel).mono ?_;rintro e w12 ⟨rfl,b12⟩;have W12:Hid (SWx w7 (S'++x.kids) (.slice a4 n4 c4) w12/\w12.heap[w10.heap.size]?=some (.cells #[.int .i64 2,.int .i64 LX] 49)/\w12.heap[w.heap.size]?=some (gBox g)):=⟨W11.out.1.any b12,tbox_on W11.out.2.1 b12,tbox_on W11.out.2.2.2 b12⟩;clear b12 z0 s0 s1 s2 s3 s4 s5 x2;obtain ⟨s4,s5⟩:=sy_cellsT W12.out.2.1;obtain ⟨-,-,x2,-,-⟩:=gbc W12.out.2.2))
     go_roundg (gk - 1)
     case measure=>have:=HG.out;omega
     case rel=>exact REL.out _ _ W12.out.1
theorem trimTrees_walk (g:GV)(t:TV)(w:World)(h0:GAt 1048576 w g)(hpc:g.ps.length<=g.pc)(hcap:∀ p∈g.ps,p.right.length<=p.rc)(ht:TAt w t)(hsz:∀ e,(plT e t).length<=100000000)(hT:TabB w) :
  Calls Tryz.prog 3 #[g.val,t.val] w fun e w'=>e=.returned (.bool true)/\Below w.heap.size w w':=by
 have h:GAt 140737488355328 w g:=h0.mono (by omega)
 obtain ⟨er,at_,hE⟩:∃ er at_,cG_ g (cF_ g.ts g.ns)=(er,at_):=⟨_,_,rfl⟩
 by_cases hno:er≠0∨(runU g (ckT g (0,0) false t) 0).1≠0∨t.prod < 0
 ·exact trimTrees_no g t w h ht (hsz 0) hT er at_ hE hno
 ·simp only [not_or,Decidable.not_not] at hno
  obtain ⟨e1,e2,e3⟩:=hno
  subst e1
  have ok:OkC g:=OkC.of (by rw [hE])
  have hrt:RT g t:=RT.of t _ _ (runU_zero _ _ e2)
  have hp:=hrt.prodT (by omega)
  have hl:=(ok.fg h).left _ (prod_mem hp.1 hp.2)
  exact trimTrees_yes g t w h hpc hcap ht (hsz 0) hT at_ hE e2 t.prod.toNat (g.ps.getD t.prod.toNat .none).left.toNat (by omega) (by omega) (by omega) (by omega)
end Go.Proofs.YtockbobpmiagiaaGreatDoor
