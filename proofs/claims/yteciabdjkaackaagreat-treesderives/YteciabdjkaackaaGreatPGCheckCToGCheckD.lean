import Derived.Test.YteciabdjkaackaaGreatPGLevRToGLevC
import Derived.Test.YteciabdjkaackaaGreatPSCheckN1ToSCheckR
namespace Go.Proofs.YteciabdjkaackaaGreat
set_option linter.unusedVariables false
open Go.RowKit Go.Maps
def countsF (g:GV):Int×Int:=if g.ts.length=0∨64 < g.ts.length then (31,0) else if g.ns.length=0∨64 < g.ns.length then (32,0) else (0,0)
def startF (g:GV):Int×Int:=if inN g g.start=false then (36,0) else (0,0)
def prodsF (g:GV):Int×Int:=if g.ps.length=0∨256 < g.ps.length then (33,0) else firstU (prodU g) g.ps.length 0
def levelsF (g:GV):Int×Int:=if 32 < g.ls.length then (37,0) else firstU (lU_ g) g.ls.length 0
abbrev cBox (g:GV):Obj:=.cells #[.slice g.ta g.ts.length g.tc,.slice g.na g.ns.length g.nc,.int .i64 g.start,.slice g.pa g.ps.length g.pc,.slice g.la g.ls.length g.lc] 166
set_option maxRecDepth 100000 in
set_option maxHeartbeats 2000000 in
theorem counts_G (g:GV)(w:World)(er at_:Int)(hE:countsF g=(er,at_))(htl:g.ts.length<=140737488355328)(hnl:g.ns.length<=140737488355328) :
  Calls Tryz.prog 98 #[g.val] w fun e w'=>e=.returned (.tuple #[.int .i64 er,.int .i64 at_])/\Below w.heap.size w w':=by
 have HB0:Hid (Below w.heap.size w (w.alloc (cBox g))):=bAl w _
 unfold countsF at hE
 by_cases a1:g.ts.length=0
 ·have t1:((g.ts.length:Int) == 0)=true:=by rw [eq0_bL];simpa using a1
  rw [if_pos (.inl a1)] at hE
  simp only [Prod.mk.injEq] at hE
  obtain ⟨rfl,rfl⟩:=hE
  clear a1
  go_enter Tryz.func98,Tryz.ntmps98
  go_wp2
  go_returns
  exact ⟨rfl,HB0.out⟩
 ·have t1:((g.ts.length:Int) == 0)=false:=by rw [eq0_bL];simpa using a1
  by_cases a2:64 < g.ts.length
  ·have t2:decide ((g.ts.length:Int) > 64)=true:=by simp;omega
   rw [if_pos (.inr a2)] at hE
   simp only [Prod.mk.injEq] at hE
   obtain ⟨rfl,rfl⟩:=hE
   clear a1 a2
   go_enter Tryz.func98,Tryz.ntmps98
   go_wp2
   go_returns
   exact ⟨rfl,HB0.out⟩
  ·have t2:decide ((g.ts.length:Int) > 64)=false:=by simp;omega
   rw [if_neg (by omega)] at hE
   by_cases a3:g.ns.length=0
   ·have t3:((g.ns.length:Int) == 0)=true:=by rw [eq0_bL];simpa using a3
    rw [if_pos (.inl a3)] at hE
    simp only [Prod.mk.injEq] at hE
    obtain ⟨rfl,rfl⟩:=hE
    clear a1 a2 a3
    go_enter Tryz.func98,Tryz.ntmps98
    go_wp2
    go_returns
    exact ⟨rfl,HB0.out⟩
   ·have t3:((g.ns.length:Int) == 0)=false:=by rw [eq0_bL];simpa using a3
    by_cases a4:64 < g.ns.length
    ·have t4:decide ((g.ns.length:Int) > 64)=true:=by simp;omega
     rw [if_pos (.inr a4)] at hE
     simp only [Prod.mk.injEq] at hE
     obtain ⟨rfl,rfl⟩:=hE
     clear a1 a2 a3 a4
     go_enter Tryz.func98,Tryz.ntmps98
     go_wp2
     go_returns
     exact ⟨rfl,HB0.out⟩
    ·have t4:decide ((g.ns.length:Int) > 64)=false:=by simp;omega
     rw [if_neg (by omega)] at hE
     simp only [Prod.mk.injEq] at hE
     obtain ⟨rfl,rfl⟩:=hE
     clear a1 a2 a3 a4
     go_enter Tryz.func98,Tryz.ntmps98
     go_wp2
     go_returns
     exact ⟨rfl,HB0.out⟩
theorem names_G (g:GV)(w:World)(er at_:Int)(hE:cF_ g.ts g.ns=(er,at_))(h:GAt 140737488355328 w g) :
  Calls Tryz.prog 99 #[g.val] w fun e w'=>e=.returned (.tuple #[.int .i64 er,.int .i64 at_])/\Below w.heap.size w w':=by
 have hbx:=BoxG.new (g:=g) (w:=w) (t:=166)
 have c0:=hbx.g0
 have c1:=hbx.g1
 have HB0:Hid (Below w.heap.size w (w.alloc (cBox g))):=bAl w _
 have CN:Hid (Calls Tryz.prog 120 #[.slice g.ta g.ts.length g.tc,.slice g.na g.ns.length g.nc] (w.alloc (cBox g)) fun e w'=>e=.returned (.tuple #[.int .i64 er,.int .i64 at_])/\Below (w.alloc (cBox g)).heap.size (w.alloc (cBox g)) w') :=
  (checknames_any g.ta g.na g.tc g.nc _ _ g.ts g.ns (w.alloc (cBox g)) rfl rfl h.tz h.nz (h.later (bAl w _)).t (h.later (bAl w _)).n_).mono fun e w' ⟨_,_,h,h1,h2,hb⟩=>⟨by rw [h,h1,h2,hE],hb⟩
 clear hbx h hE
 go_enter Tryz.func99,Tryz.ntmps99
 go_wp2_with (go_at_call 120;refine CN.out.mono ?_;rintro e w1 ⟨rfl,hb1⟩)
 go_returns
 exact ⟨rfl,HB0.out.trans (hb1.mono HB0.out.size)⟩
theorem start_G (g:GV)(w:World)(er at_:Int)(hE:startF g=(er,at_))(hnl:g.ns.length<=140737488355328) :
  Calls Tryz.prog 100 #[g.val] w fun e w'=>e=.returned (.tuple #[.int .i64 er,.int .i64 at_])/\Below w.heap.size w w':=by
 have hbx:=BoxG.new (g:=g) (w:=w) (t:=166)
 have c0:=hbx.g0
 have c1:=hbx.g1
 have c2:=hbx.g2
 have c3:=hbx.g3
 have c4:=hbx.g4
 have HB0:Hid (Below w.heap.size w (w.alloc (cBox g))):=bAl w _
 have CN:Hid (∀ z,Calls Tryz.prog 121 #[g.val,.int .i64 g.start] z fun e w'=>e=.returned (.bool (inN g g.start))/\Below z.heap.size z w'):=fun z=>isnon_any g g.start z hnl
 clear hbx
 unfold startF at hE
 cases hA:inN g g.start with
 | false =>
  rw [hA] at CN hE
  simp only [if_true,Prod.mk.injEq] at hE
  obtain ⟨rfl,rfl⟩:=hE
  clear hA
  go_enter Tryz.func100,Tryz.ntmps100
  go_wp2_with (go_at_call 121;refine (CN.out _).mono ?_;rintro e w1 ⟨rfl,hb1⟩)
  go_returns
  exact ⟨rfl,HB0.out.trans (hb1.mono HB0.out.size)⟩
 | true =>
  rw [hA] at CN hE
  simp only [Bool.true_eq_false,if_false,Prod.mk.injEq] at hE
  obtain ⟨rfl,rfl⟩:=hE
  clear hA
  go_enter Tryz.func100,Tryz.ntmps100
  go_wp2_with (go_at_call 121;refine (CN.out _).mono ?_;rintro e w1 ⟨rfl,hb1⟩)
  go_returns
  exact ⟨rfl,HB0.out.trans (hb1.mono HB0.out.size)⟩
set_option maxRecDepth 100000 in
set_option maxHeartbeats 2000000 in
theorem prods_G (g:GV)(w:World)(er at_:Int)(hE:prodsF g=(er,at_))(h:GAt 140737488355328 w g)(hpc:g.ps.length<=g.pc) :
  Calls Tryz.prog 101 #[g.val] w fun e w'=>e=.returned (.tuple #[.int .i64 er,.int .i64 at_])/\Below w.heap.size w w':=by
 have HB0:Hid (Below w.heap.size w (w.alloc (cBox g))):=bAl w _
 have HG:Hid (∀ wr,Below (w.alloc (cBox g)).heap.size (w.alloc (cBox g)) wr->BoxG g w.heap.size wr/\GAt 140737488355328 wr g):=fun wr hb=>⟨BoxG.new.later hb,(h.later (bAl w _)).later hb⟩
 have HF:Hid (∀ wr,Below (w.alloc (cBox g)).heap.size (w.alloc (cBox g)) wr->Below w.heap.size w wr):=fun wr hb=>HB0.out.trans (hb.mono HB0.out.size)
 have CP:Hid (∀ wr (i:Nat),Below (w.alloc (cBox g)).heap.size (w.alloc (cBox g)) wr->i < g.ps.length->Calls Tryz.prog 122 #[g.val,.int .i64 i] wr fun e w'=>e=.returned (.int .i64 (prodU g i))/\Below wr.heap.size wr w'):=fun wr i hb hi=>checkprod_any g i wr (HG.out wr hb).2 hi hpc
 have hpl:=h.pl
 clear h hpc
 unfold prodsF at hE
 by_cases a6:g.ps.length=0
 ·have t8:((g.ps.length:Int) == 0)=true:=by rw [eq0_bL];simpa using a6
  rw [if_pos (.inl a6)] at hE
  simp only [Prod.mk.injEq] at hE
  obtain ⟨rfl,rfl⟩:=hE
  clear a6
  go_enter Tryz.func101,Tryz.ntmps101
  go_wp2
  go_returns
  exact ⟨rfl,HB0.out⟩
 ·have t8:((g.ps.length:Int) == 0)=false:=by rw [eq0_bL];simpa using a6
  by_cases a7:256 < g.ps.length
  ·have t9:decide ((g.ps.length:Int) > 256)=true:=by simp;omega
   rw [if_pos (.inr a7)] at hE
   simp only [Prod.mk.injEq] at hE
   obtain ⟨rfl,rfl⟩:=hE
   clear a6 a7
   go_enter Tryz.func101,Tryz.ntmps101
   go_wp2
   go_returns
   exact ⟨rfl,HB0.out⟩
  ·have t9:decide ((g.ps.length:Int) > 256)=false:=by simp;omega
   rw [if_neg (by omega)] at hE
   have HEE:Hid (firstU (prodU g) g.ps.length 0=(er,at_)):=hE
   clear a6 a7 hE
   go_enter Tryz.func101,Tryz.ntmps101
   go_wp2
   generalize w.alloc (cBox g)=W at *
   go_loopw [19] (fun z wr=>∃ k:Nat,k<=g.ps.length/\z=.int .i64 k/\Below W.heap.size W wr/\Hid (∀ j,j < k->prodU g j=0)) (fun z _=>g.ps.length - (intOf z).toNat)
   case atStart=>exact ⟨0,Nat.zero_le _,rfl,Below.refl _ _,fun j hj=>by omega⟩
   case round =>
    obtain ⟨k,hk,rfl,hb,HA⟩:=hrel
    have HW:Hid (BoxG g w.heap.size wr):=(HG.out wr hb).1
    have q0:=HW.out.g0
    have q1:=HW.out.g1
    have q2:=HW.out.g2
    have q3:=HW.out.g3
    have q4:=HW.out.g4
    by_cases hlt:k < g.ps.length
    ·have klt:(k:Int) < (g.ps.length:Int):=by omega
     have HIT:Hid (prodU g k≠0->(prodU g k,(k:Int))=(er,at_)):=fun e=>by
      have h1:=firstU_hit hlt HA.out e
      have h2:=HEE.out
      rw [h1] at h2
      exact h2
     have HST:Hid (prodU g k=0->∀ j,j < k+1->prodU g j=0):=fun e j hj=>by
      rcases Nat.lt_succ_iff_lt_or_eq.1 hj with r | rfl
      ·exact HA.out j r
      ·exact e
     have CPk:Hid (Calls Tryz.prog 122 #[g.val,.int .i64 k] wr fun e w'=>e=.returned (.int .i64 (prodU g k))/\Below wr.heap.size wr w'):=CP.out wr k hb hlt
     clear HA
     generalize prodU g k=x at *
     by_cases hx:x=0
     ·have HS1:Hid _:=HST.out hx
      subst hx
      clear HIT HST
      go_wp2_with (go_at_call 122;refine CPk.out.mono ?_;rintro e w2 ⟨rfl,hb2⟩)
      go_roundw
      case rel=>exact ⟨k+1,by omega,by go_num,hb.trans (hb2.mono hb.size),HS1.out⟩
      case measure=>simp [intOf];omega
     ·have HS1:Hid _:=HIT.out hx
      have t10:(x != 0)=true:=by simpa using hx
      clear HIT HST hx
      go_wp2_with (go_at_call 122;refine CPk.out.mono ?_;rintro e w2 ⟨rfl,hb2⟩)
      go_returns
      have:=HS1.out
      simp only [Prod.mk.injEq] at this
      obtain ⟨rfl,rfl⟩:=this
      exact ⟨rfl,HF.out _ (hb.trans (hb2.mono hb.size))⟩
    ·have HL3:=HEE.out
     rw [firstU_none fun j hj=>HA.out j (by omega)] at HL3
     simp only [Prod.mk.injEq] at HL3
     obtain ⟨rfl,rfl⟩:=HL3
     clear HA HEE
     go_wp2
     go_returns
     exact ⟨rfl,HF.out _ hb⟩
theorem ownsMapI_tight {w:World}{b n:Nat}{D:DataW Unit}(h:w.ownsMap Tryz.prog 3 unitElem b n D):w.ownsMap Tryz.prog 3 unitElem b (Maps.size D) D:=by
 obtain ⟨es,clock,hb,F,hs,rfl⟩:=h
 exact ⟨es,clock,hb,F,by simp [Maps.size,length_sorted],rfl⟩
theorem namedU_succ {ls:List LV}{k:Nat}(hk:k < ls.length):nU_ ls (k+1)=nU_ ls k++(ls.getD k .none).terms:=by
 unfold nU_
 rw [List.take_succ_eq_append_getElem hk,List.flatMap_append]
 simp [List.getD,hk]
theorem size_put_le {D:DataW Unit}(h:Tidy D)(k:Lit)(d:DataW Unit):Maps.size (D.put k d)<=Maps.size D+1:=by
 rw [size_put h]
 split<;>omega
structure LM (L:List Int)(b:Nat)(D:DataW Unit)(w:World)(n:Nat):Prop where
 own:w.ownsMap Tryz.prog 3 unitElem b (Maps.size D) D
 set_:ISet D L
 sz:Maps.size D<=n
theorem LM.later {L:List Int}{b:Nat}{D:DataW Unit}{w w':World}{n:Nat}(h:LM L b D w n)(hb:Below w.heap.size w w'):LM L b D w' n:=⟨ownsMapI_kept h.own (hb.block _ h.own.lt),h.set_,h.sz⟩
theorem LM.put {L:List Int}{b:Nat}{D:DataW Unit}{w w':World}{n m:Nat}{x:Int}(h:LM L b D w n)(ho:w'.ownsMap Tryz.prog 3 unitElem b m (D.put (.int .i64 x) (.agg []))):LM (L++[x]) b (D.put (.int .i64 x) (.agg [])) w' (n+1) :=
 ⟨ownsMapI_tight ho,h.set_.put x,Nat.le_trans (size_put_le h.set_.tidy _ _) (by have:=h.sz;omega)⟩
theorem BoxG.kept {g:GV}{b:Nat}{w w':World}(h:BoxG g b w)(hb:w'.heap[b]?=w.heap[b]?)(hs:w.heap.size<=w'.heap.size):BoxG g b w':=by
 have e0:∀ j,w'.cell? ⟨b,j,none⟩=w.cell? ⟨b,j,none⟩:=fun j=>World.cell?_of_block (a:=⟨b,j,none⟩) hb
 exact ⟨(e0 0).trans h.g0,(e0 1).trans h.g1,(e0 2).trans h.g2,(e0 3).trans h.g3,(e0 4).trans h.g4,Nat.lt_of_lt_of_le h.lt hs⟩
theorem level0_in {g:GV}{i:Nat}{l:LV}(h:levelQ g i l=0):∀ n∈l.terms,inT g n=true:=by
 unfold levelQ at h
 split at h
 ·cases h
 ·split at h
  ·cases h
  ·rename_i hn
   intro n hn2
   cases e:inT g n with
   | true=>rfl
   | false =>
    exfalso
    apply hn
    rw [List.any_eq_true]
    exact ⟨n,hn2,by simp [e]⟩
structure LI (g:GV)(w:World)(L:List Int)(D:DataW Unit)(n:Nat)(wr:World):Prop where
 bel:Below w.heap.size w wr
 box:BoxG g w.heap.size wr
 lm:LM L (w.heap.size+1) D wr n
theorem LI.later {g:GV}{w:World}{L:List Int}{D:DataW Unit}{n:Nat}{wr w':World}(h:LI g w L D n wr)(hb:Below wr.heap.size wr w'):LI g w L D n w':=⟨h.bel.trans (hb.mono h.bel.size),h.box.later hb,h.lm.later hb⟩
theorem LI.put {g:GV}{w:World}{L:List Int}{D:DataW Unit}{n m:Nat}{wr w':World}{x:Int}(h:LI g w L D n wr)(ho:w'.ownsMap Tryz.prog 3 unitElem (w.heap.size+1) m (D.put (.int .i64 x) (.agg [])))(ht:wr.mapTurned w' (w.heap.size+1)):LI g w (L++[x]) (D.put (.int .i64 x) (.agg [])) (n+1) w':=by
 have hg:=ht.grown
 exact ⟨h.bel.grown hg h.bel.size (fun k e=>by have:=Option.some.inj e;omega),h.box.kept (hg.block _ h.box.lt (fun e=>by have:=Option.some.inj e;omega)) hg.size,h.lm.put ho⟩
set_option maxRecDepth 100000 in
set_option maxHeartbeats 4000000 in
theorem levels_G (g:GV)(w:World)(er at_:Int)(hE:levelsF g=(er,at_))(h:GAt 140737488355328 w g) :
  Calls Tryz.prog 102 #[g.val] w fun e w'=>e=.returned (.tuple #[.int .i64 er,.int .i64 at_])/\Below w.heap.size w w':=by
 have HB0:Hid (Below w.heap.size w (w.alloc (cBox g))):=bAl w _
 have hll:=h.ll
 have htl:=h.tl
 unfold levelsF at hE
 by_cases a6:32 < g.ls.length
 ·have t10:decide ((g.ls.length:Int) > 32)=true:=by simp;omega
  rw [if_pos a6] at hE
  simp only [Prod.mk.injEq] at hE
  obtain ⟨rfl,rfl⟩:=hE
  clear a6 h
  go_enter Tryz.func102,Tryz.ntmps102
  go_wp2
  go_returns
  exact ⟨rfl,HB0.out⟩
 ·have t10:decide ((g.ls.length:Int) > 32)=false:=by simp;omega
  rw [if_neg a6] at hE
  have HEE:Hid (firstU (lU_ g) g.ls.length 0=(er,at_)):=hE
  clear hE
  have hl32:g.ls.length<=32:=by omega
  clear a6
  have HM0:Hid (LM (nU_ g.ls 0) (w.heap.size+1) (.map []) ((w.alloc (cBox g)).alloc (.map #[] 0)) 0):=by
   have:=World.ownsMap_made (w.alloc (cBox g)) Tryz.prog 3 (unitElem (H:=Unit))
   rw [alloc_size] at this
   exact ⟨this,ISet.empty,Nat.le_refl _⟩
  have HG:Hid (∀ wr,Below w.heap.size w wr->GAt 140737488355328 wr g):=fun wr hb=>h.later hb
  have hbb:Below w.heap.size w ((w.alloc (cBox g)).alloc (.map #[] 0)):=HB0.out.alloc HB0.out.size _
  have BX0:BoxG g w.heap.size ((w.alloc (cBox g)).alloc (.map #[] 0)):=BoxG.new.later (bAl _ _)
  have HBB:Hid (Below w.heap.size w ((w.alloc (cBox g)).alloc (.map #[] 0))/\BoxG g w.heap.size ((w.alloc (cBox g)).alloc (.map #[] 0))):=⟨hbb,BX0⟩
  clear h hbb BX0
  have hmm:=@run_makeMap Tryz.prog
  go_enter Tryz.func102,Tryz.ntmps102
  go_wp2
  have LI0:Hid (LI g w (nU_ g.ls 0) (.map []) (0*140737488355328) ((w.alloc (cBox g)).alloc (.map #[] 0))):=⟨HBB.out.1,HBB.out.2,⟨HM0.out.own,HM0.out.set_,HM0.out.sz⟩⟩
  clear HBB HM0 HB0
  go_loopw [18] (fun z wr=>∃ (k:Nat) (D:DataW Unit),k<=g.ls.length/\z=.int .i64 k/\LI g w (nU_ g.ls k) D (k*140737488355328) wr/\Hid (∀ j,j < k->lU_ g j=0)) (fun z _=>g.ls.length - (intOf z).toNat)
  case atStart=>exact ⟨0,_,Nat.zero_le _,rfl,LI0.out,fun j hj=>by omega⟩
  case round =>
   clear LI0
   obtain ⟨k,D,hk,rfl,hI',HA⟩:=hrel
   have hI:Hid (LI g w (nU_ g.ls k) D (k*140737488355328) wr):=hI'
   clear hI'
   by_cases hlt:k < g.ls.length
   ·have klt:(k:Int) < (g.ls.length:Int):=by omega
    obtain ⟨b,off,hla,hbl,hc⟩:=(HG.out wr hI.out.bel).l.cells (by intro e;rw [e] at hlt;simp at hlt)
    obtain ⟨c0,c1⟩:=hc k hlt
    have hm:g.ls.getD k .none∈g.ls:=by simp [List.getD,hlt]
    have HROW:Hid (∀ wr,Below w.heap.size w wr->InRow wr (g.ls.getD k .none).ta (g.ls.getD k .none).terms):=fun wr hb=>(HG.out wr hb).l.rows _ hm
    have hrl:=(HG.out wr hI.out.bel).vl _ hm
    have HNX:Hid (nU_ g.ls (k+1)=nU_ g.ls k++(g.ls.getD k .none).terms):=namedU_succ hlt
    have HIT:Hid (lU_ g k≠0->(lU_ g k,(k:Int))=(er,at_)):=fun e=>by
     have h1:=firstU_hit hlt HA.out e
     have h2:=HEE.out
     rw [h1] at h2
     exact h2
    have HST:Hid (lU_ g k=0->∀ j,j < k+1->lU_ g j=0):=fun e j hj=>by
     rcases Nat.lt_succ_iff_lt_or_eq.1 hj with r | rfl
     ·exact HA.out j r
     ·exact e
    rw [levelQ_is] at HIT HST
    clear hc hm HA
    generalize g.ls.getD k .none=P at *
    obtain ⟨assoc,ta,tc,terms⟩:=P
    simp only at c0 c1 hrl
    have hv:g.val=.agg #[.slice g.ta g.ts.length g.tc,.slice g.na g.ns.length g.nc,.int .i64 g.start,.slice g.pa g.ps.length g.pc,.slice (some ⟨b,off,none⟩) g.ls.length g.lc]:=by unfold GV.val;rw [hla]
    have hI1:Hid (LI g w (nU_ g.ls k) D (k*140737488355328) (wr.alloc (.cells #[.int .i64 assoc,.slice ta terms.length tc] 120))):=hI.out.later (bAl wr _)
    have e2:=heap_alloc_new wr (.cells #[.int .i64 assoc,.slice ta terms.length tc] 120)
    have z0:(wr.alloc (.cells #[.int .i64 assoc,.slice ta terms.length tc] 120)).cell? ⟨wr.heap.size,0,none⟩=some (.int .i64 assoc):=by rw [cQa e2];rfl
    have z1:(wr.alloc (.cells #[.int .i64 assoc,.slice ta terms.length tc] 120)).cell? ⟨wr.heap.size,1,none⟩=some (.slice ta terms.length tc):=by rw [cQa e2];rfl
    have LTX:Hid (wr.heap.size < (wr.alloc (.cells #[.int .i64 assoc,.slice ta terms.length tc] 120)).heap.size):=lt_of_block e2
    have CL:Hid (Calls Tryz.prog 123 #[.agg #[.slice g.ta g.ts.length g.tc,.slice g.na g.ns.length g.nc,.int .i64 g.start,.slice g.pa g.ps.length g.pc,.slice (some ⟨b,off,none⟩) g.ls.length g.lc],.agg #[.int .i64 assoc,.slice ta terms.length tc],.map (some (w.heap.size+1))] (wr.alloc (.cells #[.int .i64 assoc,.slice ta terms.length tc] 120)) fun e w'=>e=.returned (.int .i64 (levelQ g k ⟨assoc,ta,tc,terms⟩))/\Below (wr.alloc (.cells #[.int .i64 assoc,.slice ta terms.length tc] 120)).heap.size (wr.alloc (.cells #[.int .i64 assoc,.slice ta terms.length tc] 120)) w'):=by
     show Calls _ _ _ _ _
     rw [<- hv]
     exact checklevel_any g k assoc ta tc terms (w.heap.size+1) D _ htl hrl (HROW.out _ hI1.out.bel) hI1.out.lm.own hI1.out.lm.set_
    have x0:=hI1.out.box.g0
    have x1:=hI1.out.box.g1
    have x2:=hI1.out.box.g2
    have x3:=hI1.out.box.g3
    have x4:=hI1.out.box.g4
    rw [hla] at x4
    have HL0:Hid (levelQ g k ⟨assoc,ta,tc,terms⟩=0->∀ n∈terms,0<=n/\n<=140737488355328):=fun e n hn=>by
     have:=level0_in e n hn
     unfold inT at this
     simp at this
     omega
    clear e2 hv
    rw [hla]
    generalize levelQ g k ⟨assoc,ta,tc,terms⟩=x at *
    by_cases hx:x=0
    ·have HS1:Hid _:=HST.out hx
     have HIN:Hid _:=HL0.out hx
     subst hx
     clear HIT HST HL0
     go_wp2_with (go_at_call 123;refine CL.out.mono ?_;rintro e w2 ⟨rfl,hb2⟩;have hI2:Hid (LI g w (nU_ g.ls k) D (k*140737488355328) w2):=hI1.out.later hb2;have z2:=(hb2.cell (p:=⟨wr.heap.size,1,none⟩) LTX.out).trans z1)
     clear CL x0 x1 x2 x3 x4 z0 z1 c0 c1 hI1 hI
     obtain ⟨wo,rfl⟩:∃ wo:World,wo=wr:=⟨_,rfl⟩
     go_loopw [34] (fun z wr=>∃ (m:Nat) (D':DataW Unit),m<=terms.length/\z=.int .i64 m/\LI g w (nU_ g.ls k++terms.take m) D' (k*140737488355328+m) wr) (fun z _=>terms.length - (intOf z).toNat)
     case atStart=>exact ⟨0,D,Nat.zero_le _,rfl,by simpa using hI2.out⟩
     case round =>
      clear hI2 z2 hb2
      obtain ⟨m,D',hm,rfl,hI'⟩:=hrel
      have hI:Hid (LI g w (nU_ g.ls k++terms.take m) D' (k*140737488355328+m) wr):=hI'
      clear hI'
      by_cases hlm:m < terms.length
      ·have mlt:(m:Int) < (terms.length:Int):=by omega
       obtain ⟨tb,to,hta,_,htc⟩:=(HROW.out wr hI.out.bel) (by intro e;subst e;simp at hlm)
       have y0:=htc m hlm
       have hmem:terms.getD m 0∈terms:=getD_memI hlm
       have HBD:Hid (0<=terms.getD m 0/\terms.getD m 0<=140737488355328):=HIN.out _ hmem
       have HTK:Hid (nU_ g.ls k++terms.take (m+1)=nU_ g.ls k++terms.take m++[terms.getD m 0]):=by
        show _=_
        rw [List.take_succ_eq_append_getElem hlm,List.append_assoc]
        simp [List.getD,hlm]
       have HML:Hid (Maps.size D' < maxLen):=by
        have h1:=hI.out.lm.sz
        show _ < _
        unfold maxLen
        omega
       clear htc hmem
       rw [hta]
       generalize terms.getD m 0=n at *
       go_wp2_with (at_mapUpdate;refine wpList_mapUpdate_in _ rfl _ _ _ 184 rfl 3 186 lawI Tryz.underlying184 unitElem (w.heap.size+1) _ D' rfl hI.out.lm.own HML.out _ _ (.int .i64 n) rfl rfl (keyOf_num HBD.out.1 HBD.out.2) (.agg []) [] unitElem_mk ?_;intro w3 hown3 hturn3)
       go_roundw
       case rel=>exact ⟨m+1,_,by omega,by go_num,by rw [HTK.out,<- Nat.add_assoc];exact hI.out.put hown3 hturn3⟩
       case measure=>simp [intOf];omega
      ·obtain rfl:m=terms.length:=by omega
       have hI3:Hid (LI g w (nU_ g.ls (k+1)) D' ((k+1)*140737488355328) wr):=by
        have h1:=hI.out
        rw [List.take_length] at h1
        refine ⟨h1.bel,h1.box,⟨h1.lm.own,?_,?_⟩⟩
        ·rw [HNX.out];exact h1.lm.set_
        ·have:=h1.lm.sz
         rw [Nat.succ_mul]
         omega
       go_wp2
       go_roundw
       case rel=>exact ⟨k+1,D',by omega,by go_num,hI3.out,HS1.out⟩
       case measure=>simp [intOf];omega
    ·have HS1:Hid _:=HIT.out hx
     have t11:(x != 0)=true:=by simpa using hx
     clear HIT HST hx HL0
     go_wp2_with (go_at_call 123;refine CL.out.mono ?_;rintro e w2 ⟨rfl,hb2⟩)
     go_returns
     have:=HS1.out
     simp only [Prod.mk.injEq] at this
     obtain ⟨rfl,rfl⟩:=this
     exact ⟨rfl,hI1.out.bel.trans (hb2.mono hI1.out.bel.size)⟩
   ·have HL3:=HEE.out
    rw [firstU_none fun j hj=>HA.out j (by omega)] at HL3
    simp only [Prod.mk.injEq] at HL3
    obtain ⟨rfl,rfl⟩:=HL3
    clear HA HEE
    go_wp2
    go_returns
    exact ⟨rfl,hI.out.bel⟩
theorem checkG_parts (g:GV):cG_ g (cF_ g.ts g.ns)=if (countsF g).1≠0 then countsF g else if (cF_ g.ts g.ns).1≠0 then cF_ g.ts g.ns else if (startF g).1≠0 then startF g else if (prodsF g).1≠0 then prodsF g else levelsF g:=by
 by_cases a1:g.ts.length=0∨64 < g.ts.length
 ·have ec:countsF g=(31,0):=by unfold countsF;rw [if_pos a1]
  rw [ec,if_pos (show ((31:Int),(0:Int)).1≠0 by decide)]
  unfold cG_
  rw [if_pos a1]
 ·by_cases a2:g.ns.length=0∨64 < g.ns.length
  ·have ec:countsF g=(32,0):=by unfold countsF;rw [if_neg a1,if_pos a2]
   rw [ec,if_pos (show ((32:Int),(0:Int)).1≠0 by decide)]
   unfold cG_
   rw [if_neg a1,if_pos a2]
  ·have ec:countsF g=(0,0):=by unfold countsF;rw [if_neg a1,if_neg a2]
   rw [ec,if_neg (show ¬ ((0:Int),(0:Int)).1≠0 by decide)]
   by_cases a3:(cF_ g.ts g.ns).1≠0
   ·rw [if_pos a3]
    unfold cG_
    rw [if_neg a1,if_neg a2,if_pos a3]
   ·rw [if_neg a3]
    by_cases a4:inN g g.start=false
    ·have es:startF g=(36,0):=by unfold startF;rw [if_pos a4]
     rw [es,if_pos (show ((36:Int),(0:Int)).1≠0 by decide)]
     unfold cG_
     rw [if_neg a1,if_neg a2,if_neg a3,if_pos a4]
    ·have es:startF g=(0,0):=by unfold startF;rw [if_neg a4]
     rw [es,if_neg (show ¬ ((0:Int),(0:Int)).1≠0 by decide)]
     by_cases a5:g.ps.length=0∨256 < g.ps.length
     ·have e:prodsF g=(33,0):=by unfold prodsF;rw [if_pos a5]
      rw [e,if_pos (show ((33:Int),(0:Int)).1≠0 by decide)]
      unfold cG_
      rw [if_neg a1,if_neg a2,if_neg a3,if_neg a4,if_pos a5]
     ·have e:prodsF g=firstU (prodU g) g.ps.length 0:=by unfold prodsF;rw [if_neg a5]
      rw [e]
      unfold cG_ levelsF
      rw [if_neg a1,if_neg a2,if_neg a3,if_neg a4,if_neg a5]
def Zs (k:Nat)(c1 c2 c3 c4 c5:Int):Prop:=(1<=k->c1=0)/\(2<=k->c2=0)/\(3<=k->c3=0)/\(4<=k->c4=0)/\(5<=k->c5=0)
theorem firstU_zero (f:Nat->Int):∀ (n i:Nat) (p:Int),firstU f n i=(0,p)->p=0
 | 0,i,p,h=>by simp [firstU] at h;exact h.symm
 | n+1,i,p,h=>by
  unfold firstU at h
  split at h
  ·rename_i hn
   simp only [Prod.mk.injEq] at h
   exact absurd h.1 hn
  ·exact firstU_zero f n (i+1) p h
theorem levelsF_zero {g:GV}{p:Int}(h:levelsF g=(0,p)):p=0:=by
 unfold levelsF at h
 split at h
 ·simp at h
 ·exact firstU_zero _ _ _ _ h
set_option maxRecDepth 100000 in
set_option maxHeartbeats 4000000 in
theorem check_G (g:GV)(w:World)(h:GAt 140737488355328 w g)(hpc:g.ps.length<=g.pc)(er at_:Int)(hE:cG_ g (cF_ g.ts g.ns)=(er,at_)) :
  Calls Tryz.prog 79 #[g.val] w fun e w'=>e=.returned (.tuple #[.int .i64 er,.int .i64 at_])/\Below w.heap.size w w':=by
 rw [checkG_parts] at hE
 obtain ⟨c1,p1,H1⟩:∃ c1 p1,Hid (countsF g=(c1,p1)):=⟨_,_,rfl⟩
 obtain ⟨c2,p2,H2⟩:∃ c2 p2,Hid (cF_ g.ts g.ns=(c2,p2)):=⟨_,_,rfl⟩
 obtain ⟨c3,p3,H3⟩:∃ c3 p3,Hid (startF g=(c3,p3)):=⟨_,_,rfl⟩
 obtain ⟨c4,p4,H4⟩:∃ c4 p4,Hid (prodsF g=(c4,p4)):=⟨_,_,rfl⟩
 obtain ⟨c5,p5,H5⟩:∃ c5 p5,Hid (levelsF g=(c5,p5)):=⟨_,_,rfl⟩
 rw [H1.out,H2.out,H3.out,H4.out,H5.out] at hE
 simp only at hE
 have K1:Hid (∀ z,Below w.heap.size w z->Calls Tryz.prog 98 #[g.val] z fun e w'=>e=.returned (.tuple #[.int .i64 c1,.int .i64 p1])/\Below z.heap.size z w'):=fun z _=>counts_G g z c1 p1 H1.out h.tl h.nl
 have K2:Hid (∀ z,Below w.heap.size w z->Calls Tryz.prog 99 #[g.val] z fun e w'=>e=.returned (.tuple #[.int .i64 c2,.int .i64 p2])/\Below z.heap.size z w'):=fun z hb=>names_G g z c2 p2 H2.out (h.later hb)
 have K3:Hid (∀ z,Below w.heap.size w z->Calls Tryz.prog 100 #[g.val] z fun e w'=>e=.returned (.tuple #[.int .i64 c3,.int .i64 p3])/\Below z.heap.size z w'):=fun z _=>start_G g z c3 p3 H3.out h.nl
 have K4:Hid (∀ z,Below w.heap.size w z->Calls Tryz.prog 101 #[g.val] z fun e w'=>e=.returned (.tuple #[.int .i64 c4,.int .i64 p4])/\Below z.heap.size z w'):=fun z hb=>prods_G g z c4 p4 H4.out (h.later hb) hpc
 have K5:Hid (∀ z,Below w.heap.size w z->Calls Tryz.prog 102 #[g.val] z fun e w'=>e=.returned (.tuple #[.int .i64 c5,.int .i64 p5])/\Below z.heap.size z w'):=fun z hb=>levels_G g z c5 p5 H5.out (h.later hb)
 have HE:Hid ((if c1≠0 then (c1,p1) else if c2≠0 then (c2,p2) else if c3≠0 then (c3,p3) else if c4≠0 then (c4,p4) else (c5,p5))=(er,at_)):=hE
 have H5Z:c5=0->p5=0:=fun e=>levelsF_zero (by rw [H5.out,e])
 clear hE H1 H2 H3 H4 H5 h hpc
 have HZ:Hid (c5=0->p5=0):=H5Z
 have HW0:Hid (∀ wr,Below ((w.alloc (.cells #[.slice g.ta g.ts.length g.tc,.slice g.na g.ns.length g.nc,.int .i64 g.start,.slice g.pa g.ps.length g.pc,.slice g.la g.ls.length g.lc] 63)).alloc (.cells #[.func (.func 98) #[] #[],.func (.func 99) #[] #[],.func (.func 100) #[] #[],.func (.func 101) #[] #[],.func (.func 102) #[] #[]] 165)).heap.size ((w.alloc (.cells #[.slice g.ta g.ts.length g.tc,.slice g.na g.ns.length g.nc,.int .i64 g.start,.slice g.pa g.ps.length g.pc,.slice g.la g.ls.length g.lc] 63)).alloc (.cells #[.func (.func 98) #[] #[],.func (.func 99) #[] #[],.func (.func 100) #[] #[],.func (.func 101) #[] #[],.func (.func 102) #[] #[]] 165)) wr->BoxG g w.heap.size wr/\True/\wr.cell? ⟨w.heap.size+1,0,none⟩=some (.func (.func 98) #[] #[])/\wr.cell? ⟨w.heap.size+1,1,none⟩=some (.func (.func 99) #[] #[])/\wr.cell? ⟨w.heap.size+1,2,none⟩=some (.func (.func 100) #[] #[])/\wr.cell? ⟨w.heap.size+1,3,none⟩=some (.func (.func 101) #[] #[])/\wr.cell? ⟨w.heap.size+1,4,none⟩=some (.func (.func 102) #[] #[])):=fun wr hb=>by
  have e2:=heap_alloc_new (w.alloc (.cells #[.slice g.ta g.ts.length g.tc,.slice g.na g.ns.length g.nc,.int .i64 g.start,.slice g.pa g.ps.length g.pc,.slice g.la g.ls.length g.lc] 63)) (.cells #[.func (.func 98) #[] #[],.func (.func 99) #[] #[],.func (.func 100) #[] #[],.func (.func 101) #[] #[],.func (.func 102) #[] #[]] 165)
  have lt2:=lt_of_block e2
  rw [alloc_size] at e2 lt2
  have e0:∀ j,wr.cell? ⟨w.heap.size+1,j,none⟩=((w.alloc (.cells #[.slice g.ta g.ts.length g.tc,.slice g.na g.ns.length g.nc,.int .i64 g.start,.slice g.pa g.ps.length g.pc,.slice g.la g.ls.length g.lc] 63)).alloc (.cells #[.func (.func 98) #[] #[],.func (.func 99) #[] #[],.func (.func 100) #[] #[],.func (.func 101) #[] #[],.func (.func 102) #[] #[]] 165)).cell? ⟨w.heap.size+1,j,none⟩:=fun j=>hb.cell (p:=⟨w.heap.size+1,j,none⟩) lt2
  refine ⟨(BoxG.new.later (bAl _ _)).later hb,trivial,?_,?_,?_,?_,?_⟩
  ·rw [e0,cQa e2];rfl
  ·rw [e0,cQa e2];rfl
  ·rw [e0,cQa e2];rfl
  ·rw [e0,cQa e2];rfl
  ·rw [e0,cQa e2];rfl
 have HF:Hid (∀ wr,Below ((w.alloc (.cells #[.slice g.ta g.ts.length g.tc,.slice g.na g.ns.length g.nc,.int .i64 g.start,.slice g.pa g.ps.length g.pc,.slice g.la g.ls.length g.lc] 63)).alloc (.cells #[.func (.func 98) #[] #[],.func (.func 99) #[] #[],.func (.func 100) #[] #[],.func (.func 101) #[] #[],.func (.func 102) #[] #[]] 165)).heap.size ((w.alloc (.cells #[.slice g.ta g.ts.length g.tc,.slice g.na g.ns.length g.nc,.int .i64 g.start,.slice g.pa g.ps.length g.pc,.slice g.la g.ls.length g.lc] 63)).alloc (.cells #[.func (.func 98) #[] #[],.func (.func 99) #[] #[],.func (.func 100) #[] #[],.func (.func 101) #[] #[],.func (.func 102) #[] #[]] 165)) wr->Below w.heap.size w wr):=fun wr hb=>((bAl w _).trans ((bAl _ _).mono (bAl w _).size)).trans (hb.mono (Nat.le_trans (bAl w _).size (bAl _ _).size))
 go_enter Tryz.func79,Tryz.ntmps79
 go_wp2
 generalize ((w.alloc (.cells #[.slice g.ta g.ts.length g.tc,.slice g.na g.ns.length g.nc,.int .i64 g.start,.slice g.pa g.ps.length g.pc,.slice g.la g.ls.length g.lc] 63)).alloc (.cells #[.func (.func 98) #[] #[],.func (.func 99) #[] #[],.func (.func 100) #[] #[],.func (.func 101) #[] #[],.func (.func 102) #[] #[]] 165))=W at *
 go_loopw [12] (fun z wr=>∃ k:Nat,k<=5/\z=.int .i64 k/\Below W.heap.size W wr/\Zs k c1 c2 c3 c4 c5) (fun z _=>5 - (intOf z).toNat)
 case atStart=>exact ⟨0,by omega,rfl,Below.refl _ _,⟨fun h=>by omega,fun h=>by omega,fun h=>by omega,fun h=>by omega,fun h=>by omega⟩⟩
 case round =>
  obtain ⟨k,hk,rfl,hb,HA⟩:=hrel
  have HW:Hid _:=HW0.out wr hb
  have q0:=HW.out.1.g0
  have q1:=HW.out.1.g1
  have q2:=HW.out.1.g2
  have q3:=HW.out.1.g3
  have q4:=HW.out.1.g4
  by_cases hlt:k < 5
  ·have hk5:k=0∨k=1∨k=2∨k=3∨k=4:=by omega
   clear hlt hk
   rcases hk5 with rfl | rfl | rfl | rfl | rfl
   ·have cf:=HW.out.2.2.1
    by_cases hx:c1=0
    ·have HN:Zs 1 c1 c2 c3 c4 c5:=⟨fun _=>hx,fun h=>absurd h (by omega),fun h=>absurd h (by omega),fun h=>absurd h (by omega),fun h=>absurd h (by omega)⟩
     have t11:(c1 != 0)=false:=by simp [hx]
     clear hx HA
     go_wp2_with (go_at_call 98;refine (K1.out wr (HF.out wr hb)).mono ?_;rintro e w2 ⟨rfl,hb2⟩)
     go_roundw
     case rel=>exact ⟨1,by omega,by go_num,hb.trans (hb2.mono hb.size),HN⟩
     case measure=>simp [intOf]
    ·have HS1:Hid ((c1,p1)=(er,at_)):=by
      have h1:=HA
      have h2:=HE.out
      rw [if_pos hx] at h2
      exact h2
     have t11:(c1 != 0)=true:=by simpa using hx
     clear hx
     go_wp2_with (go_at_call 98;refine (K1.out wr (HF.out wr hb)).mono ?_;rintro e w2 ⟨rfl,hb2⟩)
     go_returns
     have:=HS1.out
     simp only [Prod.mk.injEq] at this
     obtain ⟨rfl,rfl⟩:=this
     exact ⟨rfl,HF.out _ (hb.trans (hb2.mono hb.size))⟩
   ·have cf:=HW.out.2.2.2.1
    by_cases hx:c2=0
    ·have HN:Zs 2 c1 c2 c3 c4 c5:=⟨fun _=>HA.1 (by omega),fun _=>hx,fun h=>absurd h (by omega),fun h=>absurd h (by omega),fun h=>absurd h (by omega)⟩
     have t11:(c2 != 0)=false:=by simp [hx]
     clear hx HA
     go_wp2_with (go_at_call 99;refine (K2.out wr (HF.out wr hb)).mono ?_;rintro e w2 ⟨rfl,hb2⟩)
     go_roundw
     case rel=>exact ⟨2,by omega,by go_num,hb.trans (hb2.mono hb.size),HN⟩
     case measure=>simp [intOf]
    ·have HS1:Hid ((c2,p2)=(er,at_)):=by
      have h1:=HA
      have h2:=HE.out
      rw [if_neg (show ¬ c1≠0 by have:=h1.1 (by omega);omega)] at h2
      rw [if_pos hx] at h2
      exact h2
     have t11:(c2 != 0)=true:=by simpa using hx
     clear hx
     go_wp2_with (go_at_call 99;refine (K2.out wr (HF.out wr hb)).mono ?_;rintro e w2 ⟨rfl,hb2⟩)
     go_returns
     have:=HS1.out
     simp only [Prod.mk.injEq] at this
     obtain ⟨rfl,rfl⟩:=this
     exact ⟨rfl,HF.out _ (hb.trans (hb2.mono hb.size))⟩
   ·have cf:=HW.out.2.2.2.2.1
    by_cases hx:c3=0
    ·have HN:Zs 3 c1 c2 c3 c4 c5:=⟨fun _=>HA.1 (by omega),fun _=>HA.2.1 (by omega),fun _=>hx,fun h=>absurd h (by omega),fun h=>absurd h (by omega)⟩
     have t11:(c3 != 0)=false:=by simp [hx]
     clear hx HA
     go_wp2_with (go_at_call 100;refine (K3.out wr (HF.out wr hb)).mono ?_;rintro e w2 ⟨rfl,hb2⟩)
     go_roundw
     case rel=>exact ⟨3,by omega,by go_num,hb.trans (hb2.mono hb.size),HN⟩
     case measure=>simp [intOf]
    ·have HS1:Hid ((c3,p3)=(er,at_)):=by
      have h1:=HA
      have h2:=HE.out
      rw [if_neg (show ¬ c1≠0 by have:=h1.1 (by omega);omega)] at h2
      rw [if_neg (show ¬ c2≠0 by have:=h1.2.1 (by omega);omega)] at h2
      rw [if_pos hx] at h2
      exact h2
     have t11:(c3 != 0)=true:=by simpa using hx
     clear hx
     go_wp2_with (go_at_call 100;refine (K3.out wr (HF.out wr hb)).mono ?_;rintro e w2 ⟨rfl,hb2⟩)
     go_returns
     have:=HS1.out
     simp only [Prod.mk.injEq] at this
     obtain ⟨rfl,rfl⟩:=this
     exact ⟨rfl,HF.out _ (hb.trans (hb2.mono hb.size))⟩
   ·have cf:=HW.out.2.2.2.2.2.1
    by_cases hx:c4=0
    ·have HN:Zs 4 c1 c2 c3 c4 c5:=⟨fun _=>HA.1 (by omega),fun _=>HA.2.1 (by omega),fun _=>HA.2.2.1 (by omega),fun _=>hx,fun h=>absurd h (by omega)⟩
     have t11:(c4 != 0)=false:=by simp [hx]
     clear hx HA
     go_wp2_with (go_at_call 101;refine (K4.out wr (HF.out wr hb)).mono ?_;rintro e w2 ⟨rfl,hb2⟩)
     go_roundw
     case rel=>exact ⟨4,by omega,by go_num,hb.trans (hb2.mono hb.size),HN⟩
     case measure=>simp [intOf]
    ·have HS1:Hid ((c4,p4)=(er,at_)):=by
      have h1:=HA
      have h2:=HE.out
      rw [if_neg (show ¬ c1≠0 by have:=h1.1 (by omega);omega)] at h2
      rw [if_neg (show ¬ c2≠0 by have:=h1.2.1 (by omega);omega)] at h2
      rw [if_neg (show ¬ c3≠0 by have:=h1.2.2.1 (by omega);omega)] at h2
      rw [if_pos hx] at h2
      exact h2
     have t11:(c4 != 0)=true:=by simpa using hx
     clear hx
     go_wp2_with (go_at_call 101;refine (K4.out wr (HF.out wr hb)).mono ?_;rintro e w2 ⟨rfl,hb2⟩)
     go_returns
     have:=HS1.out
     simp only [Prod.mk.injEq] at this
     obtain ⟨rfl,rfl⟩:=this
     exact ⟨rfl,HF.out _ (hb.trans (hb2.mono hb.size))⟩
   ·have cf:=HW.out.2.2.2.2.2.2
    by_cases hx:c5=0
    ·have HN:Zs 5 c1 c2 c3 c4 c5:=⟨fun _=>HA.1 (by omega),fun _=>HA.2.1 (by omega),fun _=>HA.2.2.1 (by omega),fun _=>HA.2.2.2.1 (by omega),fun _=>hx⟩
     have t11:(c5 != 0)=false:=by simp [hx]
     clear hx HA
     go_wp2_with (go_at_call 102;refine (K5.out wr (HF.out wr hb)).mono ?_;rintro e w2 ⟨rfl,hb2⟩)
     go_roundw
     case rel=>exact ⟨5,by omega,by go_num,hb.trans (hb2.mono hb.size),HN⟩
     case measure=>simp [intOf]
    ·have HS1:Hid ((c5,p5)=(er,at_)):=by
      have h1:=HA
      have h2:=HE.out
      rw [if_neg (show ¬ c1≠0 by have:=h1.1 (by omega);omega)] at h2
      rw [if_neg (show ¬ c2≠0 by have:=h1.2.1 (by omega);omega)] at h2
      rw [if_neg (show ¬ c3≠0 by have:=h1.2.2.1 (by omega);omega)] at h2
      rw [if_neg (show ¬ c4≠0 by have:=h1.2.2.2.1 (by omega);omega)] at h2
      exact h2
     have t11:(c5 != 0)=true:=by simpa using hx
     clear hx
     go_wp2_with (go_at_call 102;refine (K5.out wr (HF.out wr hb)).mono ?_;rintro e w2 ⟨rfl,hb2⟩)
     go_returns
     have:=HS1.out
     simp only [Prod.mk.injEq] at this
     obtain ⟨rfl,rfl⟩:=this
     exact ⟨rfl,HF.out _ (hb.trans (hb2.mono hb.size))⟩
  ·obtain rfl:k=5:=by omega
   have HS1:Hid ((er,at_)=((0:Int),(0:Int))):=by
    obtain ⟨h1,h2,h3,h4,h5⟩:=HA
    have e:=HE.out
    rw [if_neg (by have:=h1 (by omega);omega),if_neg (by have:=h2 (by omega);omega),if_neg (by have:=h3 (by omega);omega),if_neg (by have:=h4 (by omega);omega),h5 (by omega),HZ.out (h5 (by omega))] at e
    exact e.symm
   clear HA HE
   go_wp2
   go_returns
   have:=HS1.out
   simp only [Prod.mk.injEq] at this
   obtain ⟨rfl,rfl⟩:=this
   exact ⟨rfl,HF.out _ hb⟩
end Go.Proofs.YteciabdjkaackaaGreat
