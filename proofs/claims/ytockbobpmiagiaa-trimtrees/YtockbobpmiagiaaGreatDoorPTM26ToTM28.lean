import Derived.Test.YtockbobpmiagiaaGreatDoorPTM23ToTM25
namespace Go.Proofs.YtockbobpmiagiaaGreatDoor
set_option linter.unusedVariables false
set_option maxRecDepth 100000
set_option maxHeartbeats 16000000
open Go.RowKit Go.Shelf
noncomputable def decC (P:Nat->Prop)(n:Nat):List Bool:=(List.range n).map fun i=>@decide (P i) (Classical.propDecidable _)
theorem decC_at {P:Nat->Prop}{n i:Nat}:(decC P n).getD i false=true ↔ i < n/\P i:=by
 unfold decC
 rw [List.getD_eq_getElem?_getD,List.getElem?_map]
 by_cases h:i < n
 ·rw [List.getElem?_range h]
  simp [h]
 ·rw [List.getElem?_eq_none (by simpa using h)]
  simp [h]
theorem decC_len {P:Nat->Prop}{n:Nat}:(decC P n).length=n:=by unfold decC;simp
theorem UnL.ex {g:GV}{w:World}(hfg:FG w g)(hst:0<=g.start/\g.start < g.ns.length):∃ Y,UnL g Y:=by
 refine ⟨_,decC (fun i=>∀ Ct Cn,ClR g Ct Cn->Ct i) g.ts.length,decC (fun i=>∀ Ct Cn,ClR g Ct Cn->Cn i) g.ns.length,⟨decC_len,decC_len,?_,?_,?_⟩,rfl⟩
 ·exact decC_at.2 ⟨by omega,fun Ct Cn hC=>hC.1⟩
 ·intro p hp hl s hs
  have h1:=(decC_at.1 hl).2
  rcases hfg.sym p hp s hs with z | z
  ·exact ⟨fun _=>decC_at.2 ⟨by omega,fun Ct Cn hC=>(hC.2 p hp (h1 Ct Cn hC) s hs).1 z.1⟩,fun e=>by omega⟩
  ·exact ⟨fun e=>by omega,fun _=>decC_at.2 ⟨by omega,fun Ct Cn hC=>(hC.2 p hp (h1 Ct Cn hC) s hs).2 z.1⟩⟩
 ·intro Ct Cn hC
  exact ⟨fun i hi=>(decC_at.1 hi).2 Ct Cn hC,fun i hi=>(decC_at.1 hi).2 Ct Cn hC⟩
theorem CiL.ex {g:GV}{w:World}(ok:OkC g)(h:GAt 140737488355328 w g):∃ O,CiL g O :=
 ⟨_,circ_L ok h (O:=decC (fun a=>TrE (alU (nullU g.ps g.ns.length) g.ps) a a) g.ns.length) fun a ha=>by rw [decC_at];exact ⟨fun q=>q.2,fun q=>⟨ha,q⟩⟩⟩
theorem Well_P2 (g:GV)(w:World)(h:GAt 140737488355328 w g)(hpc:g.ps.length<=g.pc)(er at_:Int)(hE:cG_ g (cF_ g.ts g.ns)=(er,at_))(hcap:∀ p∈g.ps,p.right.length<=p.rc)(hT:TabB w) :
  Calls Tryz.prog 16 #[g.val] w fun e w'=>∃ k s,e=.returned (.tuple #[.int .i64 k,.agg #[.int .i64 s.1,.int .i64 s.2]])/\WeE g er k s/\Below w.heap.size w w':=by
 refine Well_P g w h hpc er at_ hE hcap hT ?_ ?_
 ·by_cases h0:er=0
  ·subst h0
   have ok:OkC g:=OkC.of (by rw [hE])
   obtain ⟨Y,hY⟩:=UnL.ex (ok.fg h) ok.st
   exact ⟨Y,.inl hY⟩
  ·exact ⟨[],.inr h0⟩
 ·by_cases h0:er=0
  ·subst h0
   have ok:OkC g:=OkC.of (by rw [hE])
   obtain ⟨Y,hY⟩:=CiL.ex ok h
   exact ⟨Y,.inl hY⟩
  ·exact ⟨[],.inr h0⟩
theorem num07_P (x:Int)(w:World):Calls Tryz.prog 17 #[.int .i64 x] w fun e w'=>e=.returned (.int .i64 x)/\w=w':=by
 go_enter Tryz.func17,Tryz.ntmps17
 go_wp2
 go_ret
 exact ⟨rfl,rfl⟩
def thG (n:Nat):GV:=⟨(some ⟨n+1+1+1,0,none⟩),1,[⟨#[120]⟩],(some ⟨n+1+1+1+1,0,none⟩),2,[⟨#[83]⟩,⟨#[85]⟩],0,(some ⟨n+1+1+1+1+1+1+1+1,0,none⟩),3,[⟨0,(some ⟨n+1+1+1+1+1,0,none⟩),1,[(1,0)],-1⟩,⟨1,(some ⟨n+1+1+1+1+1+1,0,none⟩),2,[(2,1),(1,0)],-1⟩,⟨0,(some ⟨n+1+1+1+1+1+1+1,0,none⟩),1,[(2,0)],-1⟩],none,0,[]⟩
theorem thG_check (n:Nat):cG_ (thG n) (cF_ (thG n).ts (thG n).ns)=(0,0):=by kernel_rfl
theorem n7_E (n:Int)(w:World):Calls Tryz.prog 12 #[.int .i64 n] w fun e w'=>e=.returned (.agg #[.int .i64 2,.int .i64 n])/\w'=w.alloc (.cells #[.int .i64 2,.int .i64 n] 49):=by
 go_enter Tryz.func12,Tryz.ntmps12
 go_wp2
 refine bodyPost_ret (v:=.agg #[.int .i64 2,.int .i64 n]) (by simp [results,Tryz.results12,go_sem]) rfl ?_
 exact ⟨rfl,rfl⟩
theorem t7_E (n:Int)(w:World):Calls Tryz.prog 11 #[.int .i64 n] w fun e w'=>e=.returned (.agg #[.int .i64 1,.int .i64 n])/\w'=w.alloc (.cells #[.int .i64 1,.int .i64 n] 49):=by
 go_enter Tryz.func11,Tryz.ntmps11
 go_wp2
 refine bodyPost_ret (v:=.agg #[.int .i64 1,.int .i64 n]) (by simp [results,Tryz.results11,go_sem]) rfl ?_
 exact ⟨rfl,rfl⟩
theorem bel_al7 {w w':World}{o:Obj}(h:Below w.heap.size w w'):Below w.heap.size w (w'.alloc o):=h.trans ((bAl _ _).mono h.size)
theorem three_P (w:World):Calls Tryz.prog 15 #[] w fun e w'=>∃ n,e=.returned (thG n).val/\GAt 140737488355328 w' (thG n)/\Below w.heap.size w w':=by
 have T0:Hid True:=trivial
 go_enter Tryz.func15,Tryz.ntmps15
 go_wp2_with (first
  | (go_at_call 12;have T1:Hid True:=T0;clear T0;refine (n7_E 0 _).mono ?_;rintro e w1 ⟨rfl,rfl⟩)
  | (go_at_call 12;have T2:Hid True:=T1;clear T1;refine (n7_E 1 _).mono ?_;rintro e w2 ⟨rfl,rfl⟩)
  | (go_at_call 11;refine (t7_E 0 _).mono ?_;rintro e w3 ⟨rfl,rfl⟩))
 refine bodyPost_ret (v:=.agg #[.slice (some ⟨w.heap.size+1+1+1+1+1+1+1,0,none⟩) 1 1,.slice (some ⟨w.heap.size+1+1+1+1+1+1+1+1,0,none⟩) 2 2,.int .i64 0,.slice (some ⟨w.heap.size+1+1+1+1+1+1+1+1+1+1+1+1,0,none⟩) 3 3,.slice none 0 0]) (by simp [results,Tryz.results15,go_sem]) rfl ?_
 refine ⟨w.heap.size+1+1+1+1,rfl,GAt.mono (n:=8) ⟨?_,?_,⟨?_,?_⟩,⟨?_,?_⟩,?_,?_,by simp [thG],by simp [thG],by simp [thG],by simp [thG],?_,?_⟩ (by decide),?_⟩
 ·intro _
  refine ⟨w.heap.size+1+1+1+1+1+1+1,0,rfl,by simp,fun i hi=>?_⟩
  have hi:i < 1:=hi
  obtain rfl:i=0:=by omega
  simp [go_sem,thG]
 ·intro _
  refine ⟨w.heap.size+1+1+1+1+1+1+1+1,0,rfl,by simp,fun i hi=>?_⟩
  have hi:i < 2:=hi
  rcases (show i=0∨i=1 by omega) with rfl | rfl<;>simp [go_sem,thG]
 ·intro _
  refine ⟨w.heap.size+1+1+1+1+1+1+1+1+1+1+1+1,0,rfl,by simp,fun i hi=>?_⟩
  have hi:i < 3:=hi
  rcases (show i=0∨i=1∨i=2 by omega) with rfl | rfl | rfl<;>simp [go_sem,thG]
 ·intro p hp hn
  simp only [thG,List.mem_cons,List.not_mem_nil,or_false] at hp
  rcases hp with rfl | rfl | rfl
  ·refine ⟨w.heap.size+1+1+1+1+1+1+1+1+1,0,rfl,by simp,fun i hi=>?_⟩
   have hi:i < 1:=hi
   obtain rfl:i=0:=by omega
   simp [go_sem]
  ·refine ⟨w.heap.size+1+1+1+1+1+1+1+1+1+1,0,rfl,by simp,fun i hi=>?_⟩
   have hi:i < 2:=hi
   rcases (show i=0∨i=1 by omega) with rfl | rfl<;>simp [go_sem]
  ·refine ⟨w.heap.size+1+1+1+1+1+1+1+1+1+1+1,0,rfl,by simp,fun i hi=>?_⟩
   have hi:i < 1:=hi
   obtain rfl:i=0:=by omega
   simp [go_sem]
 ·intro hn
  exact absurd rfl hn
 ·intro p hp hn
  simp [thG] at hp
 ·intro s hs;simp only [thG,List.mem_cons,List.not_mem_nil,or_false] at hs;rcases hs with rfl<;>first | decide | simp
 ·intro s hs;simp only [thG,List.mem_cons,List.not_mem_nil,or_false] at hs;rcases hs with rfl | rfl<;>first | decide | simp
 ·intro p hp;simp only [thG,List.mem_cons,List.not_mem_nil,or_false] at hp;rcases hp with rfl | rfl | rfl<;>first | decide | simp
 ·intro p hp;simp [thG] at hp
 ·repeat (first | exact Below.refl _ _ | refine bel_al7 ?_)
theorem two_no {i:Nat}:[false,false].getD i false=false:=by
 rcases i with _ | _ | i<;>rfl
theorem two_yes {i:Nat}(h:[true,false].getD i false=true):i=0:=by
 rcases i with _ | _ | i
 ·rfl
 ·cases h
 ·cases h
theorem one_yes {i:Nat}(h:[true].getD i false=true):i=0:=by
 rcases i with _ | i
 ·rfl
 ·cases h
theorem thG_barren (n:Nat):BrL (thG n) [1]:=by
 refine ⟨[true,false],⟨rfl,fun p hp=>?_,fun C hC i hi=>?_⟩,rfl⟩
 ·simp only [thG,List.mem_cons,List.not_mem_nil,or_false] at hp
  rcases hp with rfl | rfl | rfl
  ·intro _;rfl
  ·intro h;dsimp only at h;exact absurd h (by decide)
  ·intro _;rfl
 ·obtain rfl:=two_yes hi
  exact hC ⟨0,(some ⟨n+1+1+1+1+1,0,none⟩),1,[(1,0)],-1⟩ (by simp [thG]) (fun s hs=>by
   simp only [List.mem_cons,List.not_mem_nil,or_false] at hs
   subst hs
   exact ⟨fun h=>by simp at h,fun _=>rfl⟩)
theorem thG_unreached (n:Nat):UnL (thG n) [(2,1)]:=by
 refine ⟨[true],[true,false],⟨rfl,rfl,rfl,fun p hp=>?_,fun Ct Cn hC=>⟨fun i hi=>?_,fun i hi=>?_⟩⟩,rfl⟩
 ·simp only [thG,List.mem_cons,List.not_mem_nil,or_false] at hp
  rcases hp with rfl | rfl | rfl
  ·intro _ s hs
   simp only [List.mem_cons,List.not_mem_nil,or_false] at hs
   subst hs
   exact ⟨fun _=>rfl,fun h=>by simp at h⟩
  ·intro h;dsimp only at h;exact absurd h (by decide)
  ·intro _ s hs
   simp only [List.mem_cons,List.not_mem_nil,or_false] at hs
   subst hs
   exact ⟨fun h=>by simp at h,fun _=>rfl⟩
 ·obtain rfl:=two_yes hi
  exact hC.1
 ·obtain rfl:=one_yes hi
  exact (hC.2 ⟨0,(some ⟨n+1+1+1+1+1,0,none⟩),1,[(1,0)],-1⟩ (by simp [thG]) hC.1 (1,0) (by simp)).1 rfl
theorem no_one {y:Nat}(h:TrE [(0,0)] 1 y):False:=by
 induction h with
 | single h=>simp [EdE] at h
 | tail _ _ ih=>exact ih
theorem thG_circular (n:Nat):CiL (thG n) [0]:=by
 have e:alU [false,false] (thG n).ps=[(0,0)]:=rfl
 refine ⟨[true,false],[false,false],⟨rfl,fun p hp=>?_,fun C hC i hi=>?_⟩,fun a ha=>?_,rfl⟩
 ·simp only [thG,List.mem_cons,List.not_mem_nil,or_false] at hp
  rcases hp with rfl | rfl | rfl<;>(intro h;dsimp only at h;exact absurd h (by decide))
 ·rw [two_no] at hi;cases hi
 ·rw [e]
  have ha:a < 2:=ha
  rcases (show a=0∨a=1 by omega) with rfl | rfl
  ·exact ⟨fun _=>Relation.TransGen.single (by simp [EdE]),fun _=>rfl⟩
  ·exact ⟨(fun h=>by cases h),fun h=>(no_one h).elim⟩
theorem thG_pc (n:Nat):(thG n).ps.length<=(thG n).pc:=Nat.le_refl _
theorem thG_cap (n:Nat):∀ p∈(thG n).ps,p.right.length<=p.rc:=fun p hp=>by
 simp only [thG,List.mem_cons,List.not_mem_nil,or_false] at hp
 rcases hp with rfl | rfl | rfl<;>simp
def OneI (w:World)(x:Int)(e:Ending)(w':World):Prop:=∃ b off c,e=.returned (.tuple #[.slice (some ⟨b,off,none⟩) 1 c,.int .i64 0])/\w'.cell? ⟨b,off,none⟩=some (.int .i64 x)/\Below w.heap.size w w'
theorem one_I {w w':World}{v:Value}{x:Int}(h:LBs w [x] v w'):OneI w x (.returned (.tuple #[v,.int .i64 0])) w':=by
 obtain ⟨a,c,rfl⟩:=il_len h.il
 obtain ⟨b,off,rfl,_,hc⟩:=(IL.inrow h.il) (by simp)
 exact ⟨b,off,c,rfl,hc 0 (by simp),h.bel⟩
theorem al_barren (n:Nat)(w:World)(h:GAt 140737488355328 w (thG n)):Calls Tryz.prog 7 #[(thG n).val] w fun e w'=>OneI w 1 e w' :=
 (Barren_P (thG n) w h (thG_pc n) 0 0 (thG_check n)).mono fun e w' ⟨v,l,h1,h2,h3⟩=>by
  rw [(h2.1 rfl).one (thG_barren n)] at h3
  rw [h1]
  exact one_I h3
theorem al_circular (n:Nat)(w:World)(h:GAt 140737488355328 w (thG n))(hT:TabB w):Calls Tryz.prog 8 #[(thG n).val] w fun e w'=>OneI w 0 e w' :=
 (Circular_P (thG n) w h (thG_pc n) 0 0 (thG_check n) (thG_cap n) hT).mono fun e w' ⟨v,l,h1,h2,h3⟩=>by
  rw [(h2.1 rfl).one (thG_circular n)] at h3
  rw [h1]
  exact one_I h3
def OneY (w:World)(x y:Int)(e:Ending)(w':World):Prop:=∃ b off c,e=.returned (.tuple #[.slice (some ⟨b,off,none⟩) 1 c,.int .i64 0])/\w'.cell? ⟨b,off,none⟩=some (.int .i64 x)/\w'.cell? ⟨b,off+1,none⟩=some (.int .i64 y)/\Below w.heap.size w w'
theorem al_unreached (n:Nat)(w:World)(h:GAt 140737488355328 w (thG n)):Calls Tryz.prog 9 #[(thG n).val] w fun e w'=>OneY w 2 1 e w' :=
 (Unreached_P (thG n) w h (thG_pc n) 0 0 (thG_check n)).mono fun e w' ⟨v,l,h1,h2,h3⟩=>by
  rw [(h2.1 rfl).one (thG_unreached n)] at h3
  obtain ⟨a,c,rfl⟩:=sy_lenP h3.sy
  obtain ⟨b,off,rfl,_,hc⟩:=h3.sy.row (by simp)
  exact ⟨b,off,c,h1,by simpa using (hc 0 (by simp)).1,by simpa using (hc 0 (by simp)).2,h3.bel⟩
theorem al_well (n:Nat)(w:World)(h:GAt 140737488355328 w (thG n))(hT:TabB w):Calls Tryz.prog 16 #[(thG n).val] w fun e w'=>e=.returned (.tuple #[.int .i64 71,.agg #[.int .i64 2,.int .i64 1]])/\Below w.heap.size w w' :=
 (Well_P2 (thG n) w h (thG_pc n) 0 0 (thG_check n) (thG_cap n) hT).mono fun e w' ⟨k,s,h1,h2,h3⟩=>by
  have hw:WeE (thG n) 0 71 (2,1):=⟨fun _=>⟨_,_,_,thG_barren n,thG_unreached n,thG_circular n,rfl⟩,fun q=>absurd rfl q⟩
  obtain ⟨rfl,rfl⟩:=h2.one hw
  exact ⟨h1,h3⟩
set_option linter.unusedSimpArgs false in
theorem alive_T (w:World)(hT:TabB w):Calls Tryz.prog 4 #[] w fun e w'=>e=.returned (.bool true)/\Below w.heap.size w w':=by
 have HT:Hid (TabB w):=hT
 have T0:Hid True:=trivial
 clear hT
 go_enter Tryz.func4,Tryz.ntmps4
 go_wp2_with (first
  | (go_at_call 15;have T1:Hid True:=T0;clear T0;refine (three_P _).mono ?_;rintro e w1 ⟨n1,rfl,g1,b1⟩;have A1:Hid (GAt 140737488355328 w1 (thG n1)/\Below w.heap.size w w1):=⟨g1,b1⟩;clear g1 b1)
  | (go_at_call 7;refine (al_barren n1 w1 A1.out.1).mono ?_;rintro e w2 ⟨bb,bo,bc,rfl,c2,b2⟩;have A2:Hid (w2.cell? ⟨bb,bo,none⟩=some (.int .i64 1)/\Below w.heap.size w w2):=⟨c2,A1.out.2.trans (b2.mono A1.out.2.size)⟩;clear c2 b2)
  | (go_at_call 15;have T2:Hid True:=T1;clear T1;refine (three_P _).mono ?_;rintro e w3 ⟨n3,rfl,g3,b3⟩;have A3:Hid (GAt 140737488355328 w3 (thG n3)/\w3.cell? ⟨bb,bo,none⟩=some (.int .i64 1)/\Below w.heap.size w w3):=⟨g3,cellT A2.out.1 b3,A2.out.2.trans (b3.mono A2.out.2.size)⟩;clear g3 b3)
  | (go_at_call 9;refine (al_unreached n3 w3 A3.out.1).mono ?_;rintro e w4 ⟨ub,uo,uc,rfl,c4,d4,b4⟩;have A4:Hid (w4.cell? ⟨bb,bo,none⟩=some (.int .i64 1)/\w4.cell? ⟨ub,uo,none⟩=some (.int .i64 2)/\w4.cell? ⟨ub,uo+1,none⟩=some (.int .i64 1)/\Below w.heap.size w w4):=⟨cellT A3.out.2.1 b4,c4,d4,A3.out.2.2.trans (b4.mono A3.out.2.2.size)⟩;clear c4 d4 b4)
  | (go_at_call 15;have T3:Hid True:=T2;clear T2;refine (three_P _).mono ?_;rintro e w5 ⟨n5,rfl,g5,b5⟩;have A5:Hid (GAt 140737488355328 w5 (thG n5)/\w5.cell? ⟨bb,bo,none⟩=some (.int .i64 1)/\w5.cell? ⟨ub,uo,none⟩=some (.int .i64 2)/\w5.cell? ⟨ub,uo+1,none⟩=some (.int .i64 1)/\Below w.heap.size w w5):=⟨g5,cellT A4.out.1 b5,cellT A4.out.2.1 b5,cellT A4.out.2.2.1 b5,A4.out.2.2.2.trans (b5.mono A4.out.2.2.2.size)⟩;clear g5 b5)
  | (go_at_call 8;refine (al_circular n5 w5 A5.out.1 (HT.out.later A5.out.2.2.2.2)).mono ?_;rintro e w6 ⟨cb,co,cc,rfl,c6,b6⟩;have A6:Hid (w6.cell? ⟨bb,bo,none⟩=some (.int .i64 1)/\w6.cell? ⟨ub,uo,none⟩=some (.int .i64 2)/\w6.cell? ⟨ub,uo+1,none⟩=some (.int .i64 1)/\w6.cell? ⟨cb,co,none⟩=some (.int .i64 0)/\Below w.heap.size w w6):=⟨cellT A5.out.2.1 b6,cellT A5.out.2.2.1 b6,cellT A5.out.2.2.2.1 b6,c6,A5.out.2.2.2.2.trans (b6.mono A5.out.2.2.2.2.size)⟩;clear c6 b6)
  | (go_at_call 15;have T4:Hid True:=T3;clear T3;refine (three_P _).mono ?_;rintro e w7 ⟨n7,rfl,g7,b7⟩;have A7:Hid (GAt 140737488355328 w7 (thG n7)/\w7.cell? ⟨bb,bo,none⟩=some (.int .i64 1)/\w7.cell? ⟨ub,uo,none⟩=some (.int .i64 2)/\w7.cell? ⟨ub,uo+1,none⟩=some (.int .i64 1)/\w7.cell? ⟨cb,co,none⟩=some (.int .i64 0)/\Below w.heap.size w w7):=⟨g7,cellT A6.out.1 b7,cellT A6.out.2.1 b7,cellT A6.out.2.2.1 b7,cellT A6.out.2.2.2.1 b7,A6.out.2.2.2.2.trans (b7.mono A6.out.2.2.2.2.size)⟩;clear g7 b7)
  | (go_at_call 16;refine (al_well n7 w7 A7.out.1 (HT.out.later A7.out.2.2.2.2.2)).mono ?_;rintro e w8 ⟨rfl,b8⟩;have A8:Hid (w8.cell? ⟨bb,bo,none⟩=some (.int .i64 1)/\w8.cell? ⟨ub,uo,none⟩=some (.int .i64 2)/\w8.cell? ⟨ub,uo+1,none⟩=some (.int .i64 1)/\w8.cell? ⟨cb,co,none⟩=some (.int .i64 0)/\Below w.heap.size w w8):=⟨cellT A7.out.2.1 b8,cellT A7.out.2.2.1 b8,cellT A7.out.2.2.2.1 b8,cellT A7.out.2.2.2.2.1 b8,A7.out.2.2.2.2.2.trans (b8.mono A7.out.2.2.2.2.2.size)⟩;clear b8))
 obtain ⟨wr,hwr⟩:∃ wr:World,wr=w8.alloc (.cells #[.int .i64 2,.int .i64 1] 49):=⟨_,rfl⟩
 rw [<- hwr]
 have ba:Below w8.heap.size w8 wr:=by rw [hwr];exact bAl _ _
 have hbx:wr.heap[w8.heap.size]?=some (.cells #[.int .i64 2,.int .i64 1] 49):=by rw [hwr];exact heap_alloc_new _ _
 have BW:Hid (Below w.heap.size w wr):=A8.out.2.2.2.2.trans (ba.mono A8.out.2.2.2.2.size)
 have FX:Hid (∀ wq,Below wr.heap.size wr wq->wq.cell? ⟨bb,bo,none⟩=some (.int .i64 1)/\wq.cell? ⟨ub,uo,none⟩=some (.int .i64 2)/\wq.cell? ⟨ub,uo+1,none⟩=some (.int .i64 1)/\wq.cell? ⟨cb,co,none⟩=some (.int .i64 0)/\wq.cell? ⟨w8.heap.size,0,none⟩=some (.int .i64 2)/\wq.cell? ⟨w8.heap.size,1,none⟩=some (.int .i64 1)):=fun wq hq =>
  have e:=(hq.block _ (lt_of_block hbx)).trans hbx
  ⟨cellT (cellT A8.out.1 ba) hq,cellT (cellT A8.out.2.1 ba) hq,cellT (cellT A8.out.2.2.1 ba) hq,cellT (cellT A8.out.2.2.2.1 ba) hq,(cQa e).trans rfl,(cQa e).trans rfl⟩
 have BR:Hid (Below wr.heap.size wr wr.drew):=(Below.refl _ _).drew
 have C0:Hid (∀ wq,Below wr.heap.size wr wq->Calls Tryz.prog 17 #[.int .i64 0] wq fun e w'=>e=.returned (.int .i64 0)/\Below wr.heap.size wr w'):=fun wq hq=>(num07_P 0 wq).mono fun e w' ⟨q1,q2⟩=>⟨q1,by rw [<- q2];exact hq⟩
 have C71:Hid (∀ wq,Below wr.heap.size wr wq->Calls Tryz.prog 17 #[.int .i64 71] wq fun e w'=>e=.returned (.int .i64 71)/\Below wr.heap.size wr w'):=fun wq hq=>(num07_P 71 wq).mono fun e w' ⟨q1,q2⟩=>⟨q1,by rw [<- q2];exact hq⟩
 have CN:Hid (∀ wq,Below wr.heap.size wr wq->Calls Tryz.prog 12 #[.int .i64 1] wq fun e w'=>e=.returned (.agg #[.int .i64 2,.int .i64 1])/\Below wr.heap.size wr w'):=fun wq hq=>(n7_R 1 wq).mono fun e w' ⟨q1,q2⟩=>⟨q1,hq.trans (q2.mono hq.size)⟩
 clear ba hbx A8 hwr
 refine wp_region_q (C:=fun wq=>Below wr.heap.size wr wq) (by kernel_rfl) (by kernel_rfl) BR.out ?_
 iterate 1 (refine qt_yes (v:=?_) (by rfl) ?_ ?_;rotate_left;(· (intro wq hSw;obtain ⟨f0,f1,f2,f3,f4,f5⟩:=FX.out wq hSw;clear hSw;go_simp;with_reducible rfl));(try simp only [Act.put,lsA,lsZ,lsN]))
 refine qt_call (v:=.int .i64 0) 17 #[.int .i64 0] (by rfl) ?_ (fun wq hq=>C0.out wq hq) ?_
 ·intro wq hSw
  clear hSw
  go_simp
  try with_reducible rfl
 (try simp only [Act.put,lsA,lsZ,lsN])
 iterate 3 (refine qt_yes (v:=?_) (by rfl) ?_ ?_;rotate_left;(· (intro wq hSw;obtain ⟨f0,f1,f2,f3,f4,f5⟩:=FX.out wq hSw;clear hSw;go_simp;with_reducible rfl));(try simp only [Act.put,lsA,lsZ,lsN]))
 refine qt_call (v:=.int .i64 0) 17 #[.int .i64 0] (by rfl) ?_ (fun wq hq=>C0.out wq hq) ?_
 ·intro wq hSw
  clear hSw
  go_simp
  try with_reducible rfl
 (try simp only [Act.put,lsA,lsZ,lsN])
 iterate 4 (refine qt_yes (v:=?_) (by rfl) ?_ ?_;rotate_left;(· (intro wq hSw;obtain ⟨f0,f1,f2,f3,f4,f5⟩:=FX.out wq hSw;clear hSw;go_simp;with_reducible rfl));(try simp only [Act.put,lsA,lsZ,lsN]))
 refine qt_call (v:=.int .i64 0) 17 #[.int .i64 0] (by rfl) ?_ (fun wq hq=>C0.out wq hq) ?_
 ·intro wq hSw
  clear hSw
  go_simp
  try with_reducible rfl
 (try simp only [Act.put,lsA,lsZ,lsN])
 iterate 22 (refine qt_yes (v:=?_) (by rfl) ?_ ?_;rotate_left;(· (intro wq hSw;obtain ⟨f0,f1,f2,f3,f4,f5⟩:=FX.out wq hSw;clear hSw;go_simp;with_reducible rfl));(try simp only [Act.put,lsA,lsZ,lsN]))
 refine qt_call (v:=.agg #[.int .i64 2,.int .i64 1]) 12 #[.int .i64 1] (by rfl) ?_ (fun wq hq=>CN.out wq hq) ?_
 ·intro wq hSw
  clear hSw
  go_simp
  try with_reducible rfl
 (try simp only [Act.put,lsA,lsZ,lsN])
 iterate 15 (refine qt_yes (v:=?_) (by rfl) ?_ ?_;rotate_left;(· (intro wq hSw;obtain ⟨f0,f1,f2,f3,f4,f5⟩:=FX.out wq hSw;clear hSw;go_simp;with_reducible rfl));(try simp only [Act.put,lsA,lsZ,lsN]))
 refine qt_call (v:=.int .i64 71) 17 #[.int .i64 71] (by rfl) ?_ (fun wq hq=>C71.out wq hq) ?_
 ·intro wq hSw
  clear hSw
  go_simp
  try with_reducible rfl
 (try simp only [Act.put,lsA,lsZ,lsN])
 iterate 4 (refine qt_yes (v:=?_) (by rfl) ?_ ?_;rotate_left;(· (intro wq hSw;obtain ⟨f0,f1,f2,f3,f4,f5⟩:=FX.out wq hSw;clear hSw;go_simp;with_reducible rfl));(try simp only [Act.put,lsA,lsZ,lsN]))
 refine qt_call (v:=.agg #[.int .i64 2,.int .i64 1]) 12 #[.int .i64 1] (by rfl) ?_ (fun wq hq=>CN.out wq hq) ?_
 ·intro wq hSw
  clear hSw
  go_simp
  try with_reducible rfl
 (try simp only [Act.put,lsA,lsZ,lsN])
 iterate 3 (refine qt_yes (v:=?_) (by rfl) ?_ ?_;rotate_left;(· (intro wq hSw;obtain ⟨f0,f1,f2,f3,f4,f5⟩:=FX.out wq hSw;clear hSw;go_simp;with_reducible rfl));(try simp only [Act.put,lsA,lsZ,lsN]))
 refine qt_nil ?_
 intro wq hSw
 have R:Hid (Below w.heap.size w wq):=BW.out.trans (hSw.mono BW.out.size)
 clear hSw
 go_wp2
 go_ret
 exact ⟨rfl,R.out⟩
end Go.Proofs.YtockbobpmiagiaaGreatDoor
