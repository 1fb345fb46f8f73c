import Derived.Test.YteciabdjkaackaaGreatPGCheckPToGSame2
namespace Go.Proofs.YteciabdjkaackaaGreat
set_option linter.unusedVariables false
open Go.RowKit
structure BoxG (g:GV)(b:Nat)(w:World):Prop where
 g0:w.cell? ⟨b,0,none⟩=some (.slice g.ta g.ts.length g.tc)
 g1:w.cell? ⟨b,1,none⟩=some (.slice g.na g.ns.length g.nc)
 g2:w.cell? ⟨b,2,none⟩=some (.int .i64 g.start)
 g3:w.cell? ⟨b,3,none⟩=some (.slice g.pa g.ps.length g.pc)
 g4:w.cell? ⟨b,4,none⟩=some (.slice g.la g.ls.length g.lc)
 lt:b < w.heap.size
theorem BoxG.later {g:GV}{b:Nat}{w w':World}(h:BoxG g b w)(hb:Below w.heap.size w w'):BoxG g b w':=by
 have e0:∀ j,w'.cell? ⟨b,j,none⟩=w.cell? ⟨b,j,none⟩:=fun j=>hb.cell (p:=⟨b,j,none⟩) h.lt
 exact ⟨(e0 0).trans h.g0,(e0 1).trans h.g1,(e0 2).trans h.g2,(e0 3).trans h.g3,(e0 4).trans h.g4,Nat.lt_of_lt_of_le h.lt hb.size⟩
theorem BoxG.new {g:GV}{w:World}{t:TypeId}:BoxG g w.heap.size (w.alloc (.cells #[.slice g.ta g.ts.length g.tc,.slice g.na g.ns.length g.nc,.int .i64 g.start,.slice g.pa g.ps.length g.pc,.slice g.la g.ls.length g.lc] t)):=by
 have e1:=heap_alloc_new w (.cells #[.slice g.ta g.ts.length g.tc,.slice g.na g.ns.length g.nc,.int .i64 g.start,.slice g.pa g.ps.length g.pc,.slice g.la g.ls.length g.lc] t)
 refine ⟨?_,?_,?_,?_,?_,lt_of_block e1⟩
 ·rw [cQa e1];rfl
 ·rw [cQa e1];rfl
 ·rw [cQa e1];rfl
 ·rw [cQa e1];rfl
 ·rw [cQa e1];rfl
set_option maxHeartbeats 1000000 in
theorem strange_c (g:GV)(gb:Nat)(s1 s2:Int)(w:World)(h1:g.ts.length<=140737488355328)(h2:g.ns.length<=140737488355328)(hB:BoxG g gb w) :
  Calls Tryz.prog 140 #[.agg #[.int .i64 s1,.int .i64 s2],.pointer (some ⟨gb,0,none⟩)] w fun e w'=>e=.returned (.bool (!inG g s1 s2))/\Below w.heap.size w w':=by
 have HB:=hB.later (bAl w (.cells #[.int .i64 s1,.int .i64 s2] 82))
 have c0:=HB.g0
 have c1:=HB.g1
 have c2:=HB.g2
 have c3:=HB.g3
 have c4:=HB.g4
 have cs0:(w.alloc (.cells #[.int .i64 s1,.int .i64 s2] 82)).cell? ⟨w.heap.size,0,none⟩=some (.int .i64 s1):=by rw [cQa (heap_alloc_new w _)];rfl
 have cs1:(w.alloc (.cells #[.int .i64 s1,.int .i64 s2] 82)).cell? ⟨w.heap.size,1,none⟩=some (.int .i64 s2):=by rw [cQa (heap_alloc_new w _)];rfl
 have HBA:Hid (Below w.heap.size w (w.alloc (.cells #[.int .i64 s1,.int .i64 s2] 82))):=bAl w _
 have CI:Hid (∀ z,Calls Tryz.prog 141 #[g.val,.agg #[.int .i64 s1,.int .i64 s2]] z fun e w'=>e=.returned (.bool (inG g s1 s2))/\Below z.heap.size z w'):=fun z=>in_g g s1 s2 z h1 h2
 clear HB hB
 generalize inG g s1 s2=x at *
 go_enter Tryz.func140,Tryz.ntmps140
 go_wp2_with (go_at_call 141;refine (CI.out _).mono ?_;rintro e w1 ⟨rfl,hb1⟩)
 go_ret
 exact ⟨rfl,HBA.out.trans (hb1.mono HBA.out.size)⟩
set_option maxRecDepth 100000 in
set_option maxHeartbeats 2000000 in
theorem idx_strange (g:GV)(gb:Nat)(ao:Option Addr)(N cap:Nat)(l:List (Int×Int))(w:World)(hN:N=l.length)(hl:l.length<=140737488355328)(h1:g.ts.length<=140737488355328)(h2:g.ns.length<=140737488355328)(hr:SymRow w ao l)(hB:BoxG g gb w) :
  Calls Tryz.prog 158 #[.slice ao N cap,.func (.func 140) #[] #[.pointer (some ⟨gb,0,none⟩)]] w fun e w'=>∃ v,e=.returned (.int .i64 v)/\((l.any fun s=>!inG g s.1 s.2)=decide (0<=v))/\Below w.heap.size w w':=by
 subst hN
 go_enter Tryz.func158,Tryz.ntmps158
 go_wp2
 go_loopw [8] (fun z wr=>∃ k:Nat,k<=l.length/\z=.int .i64 k/\Below w.heap.size w wr/\Hid (∀ j,j < k->inG g (l.getD j (0,0)).1 (l.getD j (0,0)).2=true)) (fun z _=>l.length - (intOf z).toNat)
 case atStart=>exact ⟨0,Nat.zero_le _,rfl,Below.refl _ _,fun j hj=>by omega⟩
 case round =>
  obtain ⟨k,hk,rfl,hb,HA⟩:=hrel
  by_cases hlt:k < l.length
  ·obtain ⟨rb,ro,rfl,hrb,hrc⟩:=(hr.later (Nat.le_refl _) hb) (by intro e;subst e;simp at hlt)
   obtain ⟨r0,r1⟩:=hrc k hlt
   have HIT:Hid (inG g (l.getD k (0,0)).1 (l.getD k (0,0)).2=false->(l.any fun s=>!inG g s.1 s.2)=true):=fun e=>any_hit (d:=(0,0)) hlt (by show (!inG g _ _)=true;rw [e];rfl)
   have HST:Hid (inG g (l.getD k (0,0)).1 (l.getD k (0,0)).2=true->∀ j,j < k+1->inG g (l.getD j (0,0)).1 (l.getD j (0,0)).2=true):=fun e j hj=>by
    rcases Nat.lt_succ_iff_lt_or_eq.1 hj with r | rfl
    ·exact HA.out j r
    ·exact e
   have CS:Hid (∀ s1 s2,Calls Tryz.prog 140 #[.agg #[.int .i64 s1,.int .i64 s2],.pointer (some ⟨gb,0,none⟩)] wr fun e w'=>e=.returned (.bool (!inG g s1 s2))/\Below wr.heap.size wr w'):=fun s1 s2=>strange_c g gb s1 s2 wr h1 h2 (hB.later hb)
   have klt:(k:Int) < (l.length:Int):=by omega
   clear hrc hr
   generalize l.getD k (0,0)=s at *
   obtain ⟨s1,s2⟩:=s
   simp only at r0 r1 HIT HST
   have CS1:=CS.out s1 s2
   have CS2:Hid (Calls Tryz.prog 140 #[.agg #[.int .i64 s1,.int .i64 s2],.pointer (some ⟨gb,0,none⟩)] wr fun e w'=>e=.returned (.bool (!inG g s1 s2))/\Below wr.heap.size wr w'):=CS1
   clear CS CS1
   cases hin:inG g s1 s2 with
   | false =>
    have HX:Hid _:=HIT.out hin
    rw [hin] at CS2
    clear HIT HST hin HA
    go_wp2_with (go_at_call 140;refine CS2.out.mono ?_;rintro e w1 ⟨rfl,hb1⟩)
    go_ret
    exact ⟨_,rfl,by rw [HX.out];simp,hb.trans (hb1.mono hb.size)⟩
   | true =>
    have HX:Hid _:=HST.out hin
    rw [hin] at CS2
    clear HIT HST hin HA
    go_wp2_with (go_at_call 140;refine CS2.out.mono ?_;rintro e w1 ⟨rfl,hb1⟩)
    go_roundw
    case rel=>exact ⟨k+1,by omega,by go_num,hb.trans (hb1.mono hb.size),HX.out⟩
    case measure=>simp [intOf];omega
  ·have HX:Hid ((l.any fun s=>!inG g s.1 s.2)=false):=any_none (0,0) fun j hj=>by show (!inG g _ _)=false;rw [HA.out j (by omega)];rfl
   clear HA
   go_wp2
   go_ret
   exact ⟨-1,rfl,by rw [HX.out];rfl,hb⟩
structure BoxP (p:PV)(b:Nat)(w:World):Prop where
 p0:w.cell? ⟨b,0,none⟩=some (.int .i64 p.left)
 p1:w.cell? ⟨b,1,none⟩=some (.slice p.ra p.right.length p.rc)
 p2:w.cell? ⟨b,2,none⟩=some (.int .i64 p.prec)
 row:SymRow w p.ra p.right
 lt:b < w.heap.size
theorem BoxP.later {p:PV}{b:Nat}{w w':World}(h:BoxP p b w)(hb:Below w.heap.size w w'):BoxP p b w':=by
 have e0:∀ j,w'.cell? ⟨b,j,none⟩=w.cell? ⟨b,j,none⟩:=fun j=>hb.cell (p:=⟨b,j,none⟩) h.lt
 exact ⟨(e0 0).trans h.p0,(e0 1).trans h.p1,(e0 2).trans h.p2,h.row.later (Nat.le_refl _) hb,Nat.lt_of_lt_of_le h.lt hb.size⟩
theorem BoxP.new {p:PV}{w:World}(hr:SymRow w p.ra p.right):BoxP p w.heap.size (w.alloc (pBox p)):=by
 have e1:=heap_alloc_new w (pBox p)
 refine ⟨?_,?_,?_,hr.later (Nat.le_refl _) (bAl w _),lt_of_block e1⟩
 ·rw [cQa e1];rfl
 ·rw [cQa e1];rfl
 ·rw [cQa e1];rfl
set_option maxRecDepth 100000 in
set_option maxHeartbeats 2000000 in
theorem same_c (p q:PV)(pb:Nat)(w:World)(x:Bool)(hx:(q.left == p.left && q.right == p.right)=x)(hl1:p.right.length<=140737488355328)(hl2:q.right.length<=140737488355328)(hB:BoxP p pb w)(hq:SymRow w q.ra q.right) :
  Calls Tryz.prog 142 #[.agg #[.int .i64 q.left,.slice q.ra q.right.length q.rc,.int .i64 q.prec],.pointer (some ⟨pb,0,none⟩)] w fun e w'=>e=.returned (.bool x)/\Below w.heap.size w w':=by
 have hQ:BoxP q w.heap.size (w.alloc (pBox q)):=BoxP.new hq
 have hP:=hB.later (bAl w (pBox q))
 have HBA:Hid (Below w.heap.size w (w.alloc (pBox q))):=bAl w _
 clear hB hq
 obtain ⟨ql,qa,qc,qr,qp⟩:=q
 obtain ⟨pl,pa,pc,pr,pp⟩:=p
 simp only at hx hl1 hl2
 have a0:=hQ.p0
 have a1:=hQ.p1
 have b0:=hP.p0
 have b1:=hP.p1
 simp only at a0 a1 b0 b1
 have HR:Hid (SymRow (w.alloc (pBox ⟨ql,qa,qc,qr,qp⟩)) qa qr/\SymRow (w.alloc (pBox ⟨ql,qa,qc,qr,qp⟩)) pa pr):=⟨hQ.row,hP.row⟩
 clear hQ hP
 by_cases h1:ql=pl
 ·subst h1
  have t1:(ql == ql)=true:=by simp
  have HE:Hid ((qr == pr)=x):=by show _=_;rw [<- hx];simp
  clear hx
  go_enter Tryz.func142,Tryz.ntmps142
  go_wp2_with (go_at_call 143;refine (equalsyms_b qa pa qc pc qr pr _ x HE.out (by omega) (by omega) HR.out.1 HR.out.2).mono ?_;rintro e w1 ⟨rfl,d,rfl⟩)
  go_ret
  exact ⟨rfl,bDn HBA.out _⟩
 ·have t1:(ql == pl)=false:=by simpa using h1
  obtain rfl:x=false:=by rw [<- hx];simp [h1]
  clear hx h1
  go_enter Tryz.func142,Tryz.ntmps142
  go_wp2
  go_ret
  exact ⟨rfl,HBA.out⟩
set_option maxRecDepth 100000 in
set_option maxHeartbeats 2000000 in
theorem idx_same (p:PV)(pb:Nat)(ao:Option Addr)(N cap:Nat)(l:List PV)(w:World)(hN:N=l.length)(hl:l.length<=140737488355328)(hl1:p.right.length<=140737488355328)(hl2:∀ q∈l,q.right.length<=140737488355328)(hr:PrRow w ao l)(hB:BoxP p pb w) :
  Calls Tryz.prog 159 #[.slice ao N cap,.func (.func 142) #[] #[.pointer (some ⟨pb,0,none⟩)]] w fun e w'=>∃ v,e=.returned (.int .i64 v)/\((l.any fun q=>q.left == p.left && q.right == p.right)=decide (0<=v))/\Below w.heap.size w w':=by
 subst hN
 have HRB:Hid (PrRow w ao l/\BoxP p pb w/\∀ q∈l,q.right.length<=140737488355328):=⟨hr,hB,hl2⟩
 clear hr hB hl2
 go_enter Tryz.func159,Tryz.ntmps159
 go_wp2
 go_loopw [8] (fun z wr=>∃ k:Nat,k<=l.length/\z=.int .i64 k/\Below w.heap.size w wr/\Hid (∀ j,j < k->((l.getD j .none).left == p.left && (l.getD j .none).right == p.right)=false)) (fun z _=>l.length - (intOf z).toNat)
 case atStart=>exact ⟨0,Nat.zero_le _,rfl,Below.refl _ _,fun j hj=>by omega⟩
 case round =>
  obtain ⟨k,hk,rfl,hb,HA⟩:=hrel
  by_cases hlt:k < l.length
  ·obtain ⟨rb,ro,rfl,hrb,hrc⟩:=(HRB.out.1.later hb).cells (by intro e;subst e;simp at hlt)
   obtain ⟨r0,r1,r2⟩:=hrc k hlt
   have hm:l.getD k .none∈l:=by simp [List.getD,hlt]
   have hrow:=(HRB.out.1.later hb).rows _ hm
   have hql:=HRB.out.2.2 _ hm
   have HIT:Hid (((l.getD k .none).left == p.left && (l.getD k .none).right == p.right)=true->(l.any fun q=>q.left == p.left && q.right == p.right)=true):=fun e=>any_hit (d:=.none) hlt e
   have HST:Hid (((l.getD k .none).left == p.left && (l.getD k .none).right == p.right)=false->∀ j,j < k+1->((l.getD j .none).left == p.left && (l.getD j .none).right == p.right)=false):=fun e j hj=>by
    rcases Nat.lt_succ_iff_lt_or_eq.1 hj with r | rfl
    ·exact HA.out j r
    ·exact e
   have CS:Hid (∀ x,((l.getD k .none).left == p.left && (l.getD k .none).right == p.right)=x->Calls Tryz.prog 142 #[.agg #[.int .i64 (l.getD k .none).left,.slice (l.getD k .none).ra (l.getD k .none).right.length (l.getD k .none).rc,.int .i64 (l.getD k .none).prec],.pointer (some ⟨pb,0,none⟩)] wr fun e w'=>e=.returned (.bool x)/\Below wr.heap.size wr w'):=fun x hx=>same_c p _ pb wr x hx hl1 hql (HRB.out.2.1.later hb) hrow
   have klt:(k:Int) < (l.length:Int):=by omega
   clear hrc hm hrow hql HA
   generalize l.getD k .none=q at *
   obtain ⟨ql,qa,qc,qr,qp⟩:=q
   simp only at r0 r1 r2 HIT HST CS
   cases hin:(ql == p.left && qr == p.right) with
   | true =>
    have HX:Hid _:=HIT.out hin
    have CS2:Hid (Calls Tryz.prog 142 #[.agg #[.int .i64 ql,.slice qa qr.length qc,.int .i64 qp],.pointer (some ⟨pb,0,none⟩)] wr fun e w'=>e=.returned (.bool true)/\Below wr.heap.size wr w'):=CS.out true hin
    clear HIT HST hin CS
    go_wp2_with (go_at_call 142;refine CS2.out.mono ?_;rintro e w1 ⟨rfl,hb1⟩)
    go_ret
    exact ⟨_,rfl,by rw [HX.out];simp,hb.trans (hb1.mono hb.size)⟩
   | false =>
    have HX:Hid _:=HST.out hin
    have CS2:Hid (Calls Tryz.prog 142 #[.agg #[.int .i64 ql,.slice qa qr.length qc,.int .i64 qp],.pointer (some ⟨pb,0,none⟩)] wr fun e w'=>e=.returned (.bool false)/\Below wr.heap.size wr w'):=CS.out false hin
    clear HIT HST hin CS
    go_wp2_with (go_at_call 142;refine CS2.out.mono ?_;rintro e w1 ⟨rfl,hb1⟩)
    go_roundw
    case rel=>exact ⟨k+1,by omega,by go_num,hb.trans (hb1.mono hb.size),HX.out⟩
    case measure=>simp [intOf];omega
  ·have HX:Hid ((l.any fun q=>q.left == p.left && q.right == p.right)=false):=any_none .none fun j hj=>HA.out j (by omega)
   clear HA
   go_wp2
   go_ret
   exact ⟨-1,rfl,by rw [HX.out];rfl,hb⟩
set_option maxRecDepth 100000 in
set_option maxHeartbeats 400000 in
theorem cSt (g:GV)(gb:Nat)(ao:Option Addr)(cap:Nat)(l:List (Int×Int))(w:World)(x:Bool)(hx:(l.any fun s=>!inG g s.1 s.2)=x)(hl:l.length<=140737488355328)(h1:g.ts.length<=140737488355328)(h2:g.ns.length<=140737488355328)(hr:SymRow w ao l)(hB:BoxG g gb w) :
  Calls Tryz.prog 144 #[.slice ao l.length cap,.func (.func 140) #[] #[.pointer (some ⟨gb,0,none⟩)]] w fun e w'=>e=.returned (.bool x)/\Below w.heap.size w w':=by
 have HC:Hid (SymRow w ao l/\BoxG g gb w):=⟨hr,hB⟩
 have HX:Hid ((l.any fun s=>!inG g s.1 s.2)=x):=hx
 clear hx hr hB
 go_enter Tryz.func144,Tryz.ntmps144
 go_wp2_with (go_at_call 158;refine (idx_strange g gb ao l.length cap l w rfl hl h1 h2 HC.out.1 HC.out.2).mono ?_;rintro e w1 ⟨v,rfl,hv',hb1⟩;have hv:Hid _:=hv';clear hv')
 go_ret
 exact ⟨by have h1:=hv.out;have h2:=HX.out;rw [h2] at h1;rw [h1];rfl,hb1⟩
set_option maxRecDepth 100000 in
set_option maxHeartbeats 400000 in
theorem contains_same (p:PV)(pb:Nat)(ao:Option Addr)(cap:Nat)(l:List PV)(w:World)(x:Bool)(hx:(l.any fun q=>q.left == p.left && q.right == p.right)=x)(hl:l.length<=140737488355328)(hl1:p.right.length<=140737488355328)(hl2:∀ q∈l,q.right.length<=140737488355328)(hr:PrRow w ao l)(hB:BoxP p pb w) :
  Calls Tryz.prog 145 #[.slice ao l.length cap,.func (.func 142) #[] #[.pointer (some ⟨pb,0,none⟩)]] w fun e w'=>e=.returned (.bool x)/\Below w.heap.size w w':=by
 have HC:Hid (PrRow w ao l/\BoxP p pb w/\∀ q∈l,q.right.length<=140737488355328):=⟨hr,hB,hl2⟩
 have HX:Hid ((l.any fun q=>q.left == p.left && q.right == p.right)=x):=hx
 clear hx hr hB hl2
 go_enter Tryz.func145,Tryz.ntmps145
 go_wp2_with (go_at_call 159;refine (idx_same p pb ao l.length cap l w rfl hl hl1 HC.out.2.2 HC.out.1 HC.out.2.1).mono ?_;rintro e w1 ⟨v,rfl,hv',hb1⟩;have hv:Hid _:=hv';clear hv')
 go_ret
 exact ⟨by have h1:=hv.out;have h2:=HX.out;rw [h2] at h1;rw [h1];rfl,hb1⟩
theorem PrRow.take {w:World}{ao:Option Addr}{l:List PV}(h:PrRow w ao l)(i:Nat):PrRow w ao (l.take i):=by
 refine ⟨fun hne=>?_,fun p hp=>h.rows p (List.mem_of_mem_take hp)⟩
 obtain ⟨b,off,e,hl,hc⟩:=h.cells (by intro e;rw [e] at hne;simp at hne)
 refine ⟨b,off,e,hl,fun j hj=>?_⟩
 rw [List.length_take] at hj
 have e2:(l.take i).getD j .none=l.getD j .none:=by simp only [List.getD,List.getElem?_take_of_lt (show j < i by omega)]
 rw [e2]
 exact hc j (by omega)
structure CB (g:GV)(p:PV)(gb pb:Nat)(w W:World):Prop where
 at_:GAt 140737488355328 W g
 bg:BoxG g gb W
 bp:BoxP p pb W
 bel:Below w.heap.size w W
theorem CB.later {g:GV}{p:PV}{gb pb:Nat}{w W W':World}(h:CB g p gb pb w W)(hb:Below W.heap.size W W'):CB g p gb pb w W':=⟨h.at_.later hb,h.bg.later hb,h.bp.later hb,h.bel.trans (hb.mono h.bel.size)⟩
theorem CB.one {g:GV}{p:PV}{w:World}(o:Obj){t:TypeId}(h:GAt 140737488355328 w g)(hr:SymRow w p.ra p.right):CB g p (w.heap.size+1) (w.heap.size+1+1) w (((w.alloc o).alloc (.cells #[.slice g.ta g.ts.length g.tc,.slice g.na g.ns.length g.nc,.int .i64 g.start,.slice g.pa g.ps.length g.pc,.slice g.la g.ls.length g.lc] t)).alloc (pBox p)).drew:=by
 have b1:=bAl w o
 have n2:=BoxG.new (g:=g) (w:=w.alloc o) (t:=t)
 have b2:=bAl (w.alloc o) (.cells #[.slice g.ta g.ts.length g.tc,.slice g.na g.ns.length g.nc,.int .i64 g.start,.slice g.pa g.ps.length g.pc,.slice g.la g.ls.length g.lc] t)
 have r2:=hr.later (Nat.le_refl _) (b1.trans (b2.mono b1.size))
 have n3:=BoxP.new (p:=p) r2
 have b3:=bAl ((w.alloc o).alloc (.cells #[.slice g.ta g.ts.length g.tc,.slice g.na g.ns.length g.nc,.int .i64 g.start,.slice g.pa g.ps.length g.pc,.slice g.la g.ls.length g.lc] t)) (pBox p)
 have b4:=(b1.trans (b2.mono b1.size)).trans (b3.mono (Nat.le_trans b1.size b2.size))
 rw [alloc_size] at n2 n3
 rw [alloc_size] at n3
 exact ⟨h.later b4.drew,(n2.later b3).later (Below.refl _ _).drew,n3.later (Below.refl _ _).drew,b4.drew⟩
theorem CB.two {g:GV}{p:PV}{w:World}(o:Obj){t:TypeId}(h:GAt 140737488355328 w g)(hr:SymRow w p.ra p.right):CB g p (w.heap.size+1+1) (w.heap.size+1) w (((w.alloc o).alloc (pBox p)).alloc (.cells #[.slice g.ta g.ts.length g.tc,.slice g.na g.ns.length g.nc,.int .i64 g.start,.slice g.pa g.ps.length g.pc,.slice g.la g.ls.length g.lc] t)).drew:=by
 have b1:=bAl w o
 have n2:=BoxP.new (p:=p) (hr.later (Nat.le_refl _) b1)
 have b2:=bAl (w.alloc o) (pBox p)
 have n3:=BoxG.new (g:=g) (w:=(w.alloc o).alloc (pBox p)) (t:=t)
 have b3:=bAl ((w.alloc o).alloc (pBox p)) (.cells #[.slice g.ta g.ts.length g.tc,.slice g.na g.ns.length g.nc,.int .i64 g.start,.slice g.pa g.ps.length g.pc,.slice g.la g.ls.length g.lc] t)
 have b4:=(b1.trans (b2.mono b1.size)).trans (b3.mono (Nat.le_trans b1.size b2.size))
 rw [alloc_size] at n2 n3
 rw [alloc_size] at n3
 exact ⟨h.later b4.drew,n3.later (Below.refl _ _).drew,(n2.later b3).later (Below.refl _ _).drew,b4.drew⟩
set_option maxRecDepth 100000 in
set_option maxHeartbeats 4000000 in
theorem checkprod_any (g:GV)(i:Nat)(w:World)(h:GAt 140737488355328 w g)(hi:i < g.ps.length)(hpc:g.ps.length<=g.pc) :
  Calls Tryz.prog 122 #[g.val,.int .i64 i] w fun e w'=>e=.returned (.int .i64 (prodU g i))/\Below w.heap.size w w':=by
 obtain ⟨b,off,hpa,hbl,hc⟩:=h.p.cells (by intro e;rw [e] at hi;simp at hi)
 obtain ⟨c0,c1,c2⟩:=hc i hi
 have hm:g.ps.getD i .none∈g.ps:=by simp [List.getD,hi]
 have hrow:=h.p.rows _ hm
 have hrl:=h.rl _ hm
 have hnl:=h.nl
 have htl:=h.tl
 have hpl:=h.pl
 rw [prodQ_is]
 have hv:g.val=.agg #[.slice g.ta g.ts.length g.tc,.slice g.na g.ns.length g.nc,.int .i64 g.start,.slice (some ⟨b,off,none⟩) g.ps.length g.pc,.slice g.la g.ls.length g.lc]:=by unfold GV.val;rw [hpa]
 clear hc hm
 generalize g.ps.getD i .none=p at *
 obtain ⟨pl,ra,rc,right,prec⟩:=p
 simp only at c0 c1 c2 hrl
 rw [hv]
 have a1:∀ (o1:Obj) (j:Nat),(w.alloc o1).cell? ⟨b,j,none⟩=w.cell? ⟨b,j,none⟩:=fun o1 j=>(bAl w o1).cell (p:=⟨b,j,none⟩) hbl
 have a2:∀ (o1 o2:Obj) (j:Nat),((w.alloc o1).alloc o2).cell? ⟨b,j,none⟩=w.cell? ⟨b,j,none⟩:=fun o1 o2 j=>((bAl (w.alloc o1) o2).cell (p:=⟨b,j,none⟩) (Nat.lt_of_lt_of_le hbl (bAl w o1).size)).trans (a1 o1 j)
 have a3:∀ (o1 o2 o3:Obj) (j:Nat),(((w.alloc o1).alloc o2).alloc o3).cell? ⟨b,j,none⟩=w.cell? ⟨b,j,none⟩:=fun o1 o2 o3 j=>((bAl ((w.alloc o1).alloc o2) o3).cell (p:=⟨b,j,none⟩) (Nat.lt_of_lt_of_le hbl (Nat.le_trans (bAl w o1).size (bAl _ o2).size))).trans (a2 o1 o2 j)
 have HRW:Hid (SymRow w ra right):=hrow
 have CN:Hid (∀ z,Calls Tryz.prog 121 #[.agg #[.slice g.ta g.ts.length g.tc,.slice g.na g.ns.length g.nc,.int .i64 g.start,.slice (some ⟨b,off,none⟩) g.ps.length g.pc,.slice g.la g.ls.length g.lc],.int .i64 pl] z fun e w'=>e=.returned (.bool (inN g pl))/\Below z.heap.size z w'):=fun z=>by rw [<- hv];exact isnon_any g pl z hnl
 have CT:Hid (∀ z,Calls Tryz.prog 146 #[.agg #[.slice g.ta g.ts.length g.tc,.slice g.na g.ns.length g.nc,.int .i64 g.start,.slice (some ⟨b,off,none⟩) g.ps.length g.pc,.slice g.la g.ls.length g.lc],.int .i64 prec] z fun e w'=>e=.returned (.bool (inT g prec))/\Below z.heap.size z w'):=fun z=>by rw [<- hv];exact isterm_any g prec z htl
 have HH:Hid (GAt 140737488355328 w g):=h
 have C1:=CB.one (g:=g) (p:=⟨pl,ra,rc,right,prec⟩) (w:=w) (t:=63) (.cells #[.slice g.ta g.ts.length g.tc,.slice g.na g.ns.length g.nc,.int .i64 g.start,.slice (some ⟨b,off,none⟩) g.ps.length g.pc,.slice g.la g.ls.length g.lc] 166) h hrow
 have C2:=CB.two (g:=g) (p:=⟨pl,ra,rc,right,prec⟩) (w:=w) (t:=63) (.cells #[.slice g.ta g.ts.length g.tc,.slice g.na g.ns.length g.nc,.int .i64 g.start,.slice (some ⟨b,off,none⟩) g.ps.length g.pc,.slice g.la g.ls.length g.lc] 166) h hrow
 rw [hpa] at C1 C2
 have D1:Hid _:=C1
 have D2:Hid _:=C2
 clear h hrow hv C1 C2
 go_enter Tryz.func122,Tryz.ntmps122
 go_wp2
 go_region
 ·have C1:=D1.out
  clear D1 D2 a1 a2 a3 c0 c1 c2
  generalize (((w.alloc (.cells #[.slice g.ta g.ts.length g.tc,.slice g.na g.ns.length g.nc,.int .i64 g.start,.slice (some ⟨b,off,none⟩) g.ps.length g.pc,.slice g.la g.ls.length g.lc] 166)).alloc (.cells #[.slice g.ta g.ts.length g.tc,.slice g.na g.ns.length g.nc,.int .i64 g.start,.slice (some ⟨b,off,none⟩) g.ps.length g.pc,.slice g.la g.ls.length g.lc] 63)).alloc (pBox ⟨pl,ra,rc,right,prec⟩)).drew=W at *
  generalize w.heap.size+1+1=pb at *
  generalize w.heap.size+1=gb at *
  have HC:Hid (CB g ⟨pl,ra,rc,right,prec⟩ gb pb w W):=C1
  clear C1
  have k0:=HC.out.bg.g0
  have k1:=HC.out.bg.g1
  have k2:=HC.out.bg.g2
  have k3:=HC.out.bg.g3
  have k4:=HC.out.bg.g4
  rw [hpa] at k3
  have j0:=HC.out.bp.p0
  have j1:=HC.out.bp.p1
  have j2:=HC.out.bp.p2
  simp only at j0 j1 j2
  cases hA:inN g pl with
  | false =>
   have HU:Hid (prodQ g i ⟨pl,ra,rc,right,prec⟩=35):=by show _=_;unfold prodQ;simp [hA]
   rw [hA] at CN
   clear hA
   go_wp2_with (go_at_call 121;refine (CN.out W).mono ?_;rintro e w1 ⟨rfl,hb1⟩)
   go_ret
   exact ⟨by rw [HU.out];rfl,HC.out.bel.trans (hb1.mono HC.out.bel.size)⟩
  | true =>
   rw [hA] at CN
   by_cases hB:16 < right.length
   ·have HU:Hid (prodQ g i ⟨pl,ra,rc,right,prec⟩=34):=by show _=_;unfold prodQ;simp [hA,hB]
    have d3:decide ((right.length:Int) > 16)=true:=by simp;omega
    clear hA hB
    go_wp2_with (first
     | (go_at_call 121;refine (CN.out W).mono ?_;rintro e w1 ⟨rfl,hb1⟩;have X1:Hid (CB g ⟨pl,ra,rc,right,prec⟩ gb pb w w1):=HC.out.later hb1;have x0:=X1.out.bg.g0;have x1:=X1.out.bg.g1;have x2:=X1.out.bg.g2;have x3:=X1.out.bg.g3;have x4:=X1.out.bg.g4;have y0:=X1.out.bp.p0;have y1:=X1.out.bp.p1;have y2:=X1.out.bp.p2;rw [hpa] at x3;simp only at y0 y1 y2))
    go_ret
    exact ⟨by rw [HU.out];rfl,X1.out.bel⟩
   ·have d3:decide ((right.length:Int) > 16)=false:=by simp;omega
    have HU:Hid (prodQ g i ⟨pl,ra,rc,right,prec⟩=if (right.any fun s=>!inG g s.1 s.2)=true then 35 else if ((g.ps.take i).any fun q=>q.left == pl && q.right == right)=true then 6 else if prec≠-1/\inT g prec=false then 38 else 0):=by show _=_;unfold prodQ;simp [hA,hB]
    clear hA hB
    cases hC':(right.any fun s=>!inG g s.1 s.2) with
    | true =>
     have hC:Hid ((right.any fun s=>!inG g s.1 s.2)=true):=hC'
     have HU2:Hid (prodQ g i ⟨pl,ra,rc,right,prec⟩=35):=by show _=_;rw [HU.out,if_pos hC']
     clear hC' HU
     go_wp2_with (first
     | (go_at_call 121;refine (CN.out W).mono ?_;rintro e w1 ⟨rfl,hb1⟩;have X1:Hid (CB g ⟨pl,ra,rc,right,prec⟩ gb pb w w1):=HC.out.later hb1;have x0:=X1.out.bg.g0;have x1:=X1.out.bg.g1;have x2:=X1.out.bg.g2;have x3:=X1.out.bg.g3;have x4:=X1.out.bg.g4;have y0:=X1.out.bp.p0;have y1:=X1.out.bp.p1;have y2:=X1.out.bp.p2;rw [hpa] at x3;simp only at y0 y1 y2)
     | (go_at_call 144;refine (cSt g gb ra rc right w1 true hC.out hrl htl hnl X1.out.bp.row X1.out.bg).mono ?_;rintro e w2 ⟨rfl,hb2⟩;have X2:Hid (CB g ⟨pl,ra,rc,right,prec⟩ gb pb w w2):=X1.out.later hb2;have u0:=X2.out.bg.g0;have u1:=X2.out.bg.g1;have u2:=X2.out.bg.g2;have u3:=X2.out.bg.g3;have u4:=X2.out.bg.g4;have v0:=X2.out.bp.p0;have v1:=X2.out.bp.p1;have v2:=X2.out.bp.p2;rw [hpa] at u3;simp only at v0 v1 v2))
     go_ret
     exact ⟨by rw [HU2.out];rfl,X2.out.bel⟩
    | false =>
     have hC:Hid ((right.any fun s=>!inG g s.1 s.2)=false):=hC'
     have HU2:Hid (prodQ g i ⟨pl,ra,rc,right,prec⟩=if ((g.ps.take i).any fun q=>q.left == pl && q.right == right)=true then 6 else if prec≠-1/\inT g prec=false then 38 else 0):=by show _=_;rw [HU.out,hC'];rfl
     clear hC' HU
     have hipc:i<=g.pc:=by omega
     have CS:Hid (∀ z x,CB g ⟨pl,ra,rc,right,prec⟩ gb pb w z->((g.ps.take i).any fun q=>q.left == pl && q.right == right)=x->Calls Tryz.prog 145 #[.slice (some ⟨b,off,none⟩) i g.pc,.func (.func 142) #[] #[.pointer (some ⟨pb,0,none⟩)]] z fun e w'=>e=.returned (.bool x)/\Below z.heap.size z w'):=fun z x hz hx=>by
      have hti:(g.ps.take i).length=i:=by rw [List.length_take];omega
      have hrw:=hz.at_.p.take i
      rw [hpa] at hrw
      have:=contains_same ⟨pl,ra,rc,right,prec⟩ pb (some ⟨b,off,none⟩) g.pc (g.ps.take i) z x hx (by omega) hrl (fun q hq=>hz.at_.rl q (List.mem_of_mem_take hq)) hrw hz.bp
      rw [hti] at this
      exact this
     cases hD':((g.ps.take i).any fun q=>q.left == pl && q.right == right) with
     | true =>
      have hD:Hid (((g.ps.take i).any fun q=>q.left == pl && q.right == right)=true):=hD'
      have HU3:Hid (prodQ g i ⟨pl,ra,rc,right,prec⟩=6):=by show _=_;rw [HU2.out,if_pos hD']
      clear hD' HU2
      go_wp2_with (first
     | (go_at_call 121;refine (CN.out W).mono ?_;rintro e w1 ⟨rfl,hb1⟩;have X1:Hid (CB g ⟨pl,ra,rc,right,prec⟩ gb pb w w1):=HC.out.later hb1;have x0:=X1.out.bg.g0;have x1:=X1.out.bg.g1;have x2:=X1.out.bg.g2;have x3:=X1.out.bg.g3;have x4:=X1.out.bg.g4;have y0:=X1.out.bp.p0;have y1:=X1.out.bp.p1;have y2:=X1.out.bp.p2;rw [hpa] at x3;simp only at y0 y1 y2)
     | (go_at_call 144;refine (cSt g gb ra rc right w1 false hC.out hrl htl hnl X1.out.bp.row X1.out.bg).mono ?_;rintro e w2 ⟨rfl,hb2⟩;have X2:Hid (CB g ⟨pl,ra,rc,right,prec⟩ gb pb w w2):=X1.out.later hb2;have u0:=X2.out.bg.g0;have u1:=X2.out.bg.g1;have u2:=X2.out.bg.g2;have u3:=X2.out.bg.g3;have u4:=X2.out.bg.g4;have v0:=X2.out.bp.p0;have v1:=X2.out.bp.p1;have v2:=X2.out.bp.p2;rw [hpa] at u3;simp only at v0 v1 v2)
     | (go_at_call 145;refine (CS.out w2 true X2.out hD.out).mono ?_;rintro e w3 ⟨rfl,hb3⟩;have X3:Hid (CB g ⟨pl,ra,rc,right,prec⟩ gb pb w w3):=X2.out.later hb3;have r0:=X3.out.bg.g0;have r1:=X3.out.bg.g1;have r2:=X3.out.bg.g2;have r3:=X3.out.bg.g3;have r4:=X3.out.bg.g4;have s0:=X3.out.bp.p0;have s1:=X3.out.bp.p1;have s2:=X3.out.bp.p2;rw [hpa] at r3;simp only at s0 s1 s2))
      go_ret
      exact ⟨by rw [HU3.out];rfl,X3.out.bel⟩
     | false =>
      have hD:Hid (((g.ps.take i).any fun q=>q.left == pl && q.right == right)=false):=hD'
      have HU3:Hid (prodQ g i ⟨pl,ra,rc,right,prec⟩=if prec≠-1/\inT g prec=false then 38 else 0):=by show _=_;rw [HU2.out,hD'];rfl
      clear hD' HU2
      by_cases hp:prec=-1
      ·have HU4:Hid (prodQ g i ⟨pl,ra,rc,right,prec⟩=0):=by show _=_;rw [HU3.out,if_neg (fun h=>h.1 hp)]
       have t1:(prec != -1)=false:=by simp [hp]
       clear HU3 hp
       go_wp2_with (first
     | (go_at_call 121;refine (CN.out W).mono ?_;rintro e w1 ⟨rfl,hb1⟩;have X1:Hid (CB g ⟨pl,ra,rc,right,prec⟩ gb pb w w1):=HC.out.later hb1;have x0:=X1.out.bg.g0;have x1:=X1.out.bg.g1;have x2:=X1.out.bg.g2;have x3:=X1.out.bg.g3;have x4:=X1.out.bg.g4;have y0:=X1.out.bp.p0;have y1:=X1.out.bp.p1;have y2:=X1.out.bp.p2;rw [hpa] at x3;simp only at y0 y1 y2)
     | (go_at_call 144;refine (cSt g gb ra rc right w1 false hC.out hrl htl hnl X1.out.bp.row X1.out.bg).mono ?_;rintro e w2 ⟨rfl,hb2⟩;have X2:Hid (CB g ⟨pl,ra,rc,right,prec⟩ gb pb w w2):=X1.out.later hb2;have u0:=X2.out.bg.g0;have u1:=X2.out.bg.g1;have u2:=X2.out.bg.g2;have u3:=X2.out.bg.g3;have u4:=X2.out.bg.g4;have v0:=X2.out.bp.p0;have v1:=X2.out.bp.p1;have v2:=X2.out.bp.p2;rw [hpa] at u3;simp only at v0 v1 v2)
     | (go_at_call 145;refine (CS.out w2 false X2.out hD.out).mono ?_;rintro e w3 ⟨rfl,hb3⟩;have X3:Hid (CB g ⟨pl,ra,rc,right,prec⟩ gb pb w w3):=X2.out.later hb3;have r0:=X3.out.bg.g0;have r1:=X3.out.bg.g1;have r2:=X3.out.bg.g2;have r3:=X3.out.bg.g3;have r4:=X3.out.bg.g4;have s0:=X3.out.bp.p0;have s1:=X3.out.bp.p1;have s2:=X3.out.bp.p2;rw [hpa] at r3;simp only at s0 s1 s2))
       go_ret
       exact ⟨by rw [HU4.out];rfl,X3.out.bel⟩
      ·have t1:(prec != -1)=true:=by simpa using hp
       cases hT:inT g prec with
       | true =>
        have HU4:Hid (prodQ g i ⟨pl,ra,rc,right,prec⟩=0):=by show _=_;rw [HU3.out,if_neg (fun h=>by rw [hT] at h;cases h.2)]
        rw [hT] at CT
        clear HU3 hp hT
        go_wp2_with (first
     | (go_at_call 121;refine (CN.out W).mono ?_;rintro e w1 ⟨rfl,hb1⟩;have X1:Hid (CB g ⟨pl,ra,rc,right,prec⟩ gb pb w w1):=HC.out.later hb1;have x0:=X1.out.bg.g0;have x1:=X1.out.bg.g1;have x2:=X1.out.bg.g2;have x3:=X1.out.bg.g3;have x4:=X1.out.bg.g4;have y0:=X1.out.bp.p0;have y1:=X1.out.bp.p1;have y2:=X1.out.bp.p2;rw [hpa] at x3;simp only at y0 y1 y2)
     | (go_at_call 144;refine (cSt g gb ra rc right w1 false hC.out hrl htl hnl X1.out.bp.row X1.out.bg).mono ?_;rintro e w2 ⟨rfl,hb2⟩;have X2:Hid (CB g ⟨pl,ra,rc,right,prec⟩ gb pb w w2):=X1.out.later hb2;have u0:=X2.out.bg.g0;have u1:=X2.out.bg.g1;have u2:=X2.out.bg.g2;have u3:=X2.out.bg.g3;have u4:=X2.out.bg.g4;have v0:=X2.out.bp.p0;have v1:=X2.out.bp.p1;have v2:=X2.out.bp.p2;rw [hpa] at u3;simp only at v0 v1 v2)
     | (go_at_call 145;refine (CS.out w2 false X2.out hD.out).mono ?_;rintro e w3 ⟨rfl,hb3⟩;have X3:Hid (CB g ⟨pl,ra,rc,right,prec⟩ gb pb w w3):=X2.out.later hb3;have r0:=X3.out.bg.g0;have r1:=X3.out.bg.g1;have r2:=X3.out.bg.g2;have r3:=X3.out.bg.g3;have r4:=X3.out.bg.g4;have s0:=X3.out.bp.p0;have s1:=X3.out.bp.p1;have s2:=X3.out.bp.p2;rw [hpa] at r3;simp only at s0 s1 s2)
     | (go_at_call 146;refine (CT.out w3).mono ?_;rintro e w4 ⟨rfl,hb4⟩;have X4:Hid (CB g ⟨pl,ra,rc,right,prec⟩ gb pb w w4):=X3.out.later hb4))
        go_ret
        exact ⟨by rw [HU4.out];rfl,X4.out.bel⟩
       | false =>
        have HU4:Hid (prodQ g i ⟨pl,ra,rc,right,prec⟩=38):=by show _=_;rw [HU3.out,if_pos ⟨hp,hT⟩]
        rw [hT] at CT
        clear HU3 hp hT
        go_wp2_with (first
     | (go_at_call 121;refine (CN.out W).mono ?_;rintro e w1 ⟨rfl,hb1⟩;have X1:Hid (CB g ⟨pl,ra,rc,right,prec⟩ gb pb w w1):=HC.out.later hb1;have x0:=X1.out.bg.g0;have x1:=X1.out.bg.g1;have x2:=X1.out.bg.g2;have x3:=X1.out.bg.g3;have x4:=X1.out.bg.g4;have y0:=X1.out.bp.p0;have y1:=X1.out.bp.p1;have y2:=X1.out.bp.p2;rw [hpa] at x3;simp only at y0 y1 y2)
     | (go_at_call 144;refine (cSt g gb ra rc right w1 false hC.out hrl htl hnl X1.out.bp.row X1.out.bg).mono ?_;rintro e w2 ⟨rfl,hb2⟩;have X2:Hid (CB g ⟨pl,ra,rc,right,prec⟩ gb pb w w2):=X1.out.later hb2;have u0:=X2.out.bg.g0;have u1:=X2.out.bg.g1;have u2:=X2.out.bg.g2;have u3:=X2.out.bg.g3;have u4:=X2.out.bg.g4;have v0:=X2.out.bp.p0;have v1:=X2.out.bp.p1;have v2:=X2.out.bp.p2;rw [hpa] at u3;simp only at v0 v1 v2)
     | (go_at_call 145;refine (CS.out w2 false X2.out hD.out).mono ?_;rintro e w3 ⟨rfl,hb3⟩;have X3:Hid (CB g ⟨pl,ra,rc,right,prec⟩ gb pb w w3):=X2.out.later hb3;have r0:=X3.out.bg.g0;have r1:=X3.out.bg.g1;have r2:=X3.out.bg.g2;have r3:=X3.out.bg.g3;have r4:=X3.out.bg.g4;have s0:=X3.out.bp.p0;have s1:=X3.out.bp.p1;have s2:=X3.out.bp.p2;rw [hpa] at r3;simp only at s0 s1 s2)
     | (go_at_call 146;refine (CT.out w3).mono ?_;rintro e w4 ⟨rfl,hb4⟩;have X4:Hid (CB g ⟨pl,ra,rc,right,prec⟩ gb pb w w4):=X3.out.later hb4))
        go_ret
        exact ⟨by rw [HU4.out];rfl,X4.out.bel⟩
 ·have C1:=D2.out
  clear D1 D2 a1 a2 a3 c0 c1 c2
  generalize (((w.alloc (.cells #[.slice g.ta g.ts.length g.tc,.slice g.na g.ns.length g.nc,.int .i64 g.start,.slice (some ⟨b,off,none⟩) g.ps.length g.pc,.slice g.la g.ls.length g.lc] 166)).alloc (pBox ⟨pl,ra,rc,right,prec⟩)).alloc (.cells #[.slice g.ta g.ts.length g.tc,.slice g.na g.ns.length g.nc,.int .i64 g.start,.slice (some ⟨b,off,none⟩) g.ps.length g.pc,.slice g.la g.ls.length g.lc] 63)).drew=W at *
  generalize w.heap.size+1+1=gb at *
  generalize w.heap.size+1=pb at *
  have HC:Hid (CB g ⟨pl,ra,rc,right,prec⟩ gb pb w W):=C1
  clear C1
  have k0:=HC.out.bg.g0
  have k1:=HC.out.bg.g1
  have k2:=HC.out.bg.g2
  have k3:=HC.out.bg.g3
  have k4:=HC.out.bg.g4
  rw [hpa] at k3
  have j0:=HC.out.bp.p0
  have j1:=HC.out.bp.p1
  have j2:=HC.out.bp.p2
  simp only at j0 j1 j2
  cases hA:inN g pl with
  | false =>
   have HU:Hid (prodQ g i ⟨pl,ra,rc,right,prec⟩=35):=by show _=_;unfold prodQ;simp [hA]
   rw [hA] at CN
   clear hA
   go_wp2_with (go_at_call 121;refine (CN.out W).mono ?_;rintro e w1 ⟨rfl,hb1⟩)
   go_ret
   exact ⟨by rw [HU.out];rfl,HC.out.bel.trans (hb1.mono HC.out.bel.size)⟩
  | true =>
   rw [hA] at CN
   by_cases hB:16 < right.length
   ·have HU:Hid (prodQ g i ⟨pl,ra,rc,right,prec⟩=34):=by show _=_;unfold prodQ;simp [hA,hB]
    have d3:decide ((right.length:Int) > 16)=true:=by simp;omega
    clear hA hB
    go_wp2_with (first
     | (go_at_call 121;refine (CN.out W).mono ?_;rintro e w1 ⟨rfl,hb1⟩;have X1:Hid (CB g ⟨pl,ra,rc,right,prec⟩ gb pb w w1):=HC.out.later hb1;have x0:=X1.out.bg.g0;have x1:=X1.out.bg.g1;have x2:=X1.out.bg.g2;have x3:=X1.out.bg.g3;have x4:=X1.out.bg.g4;have y0:=X1.out.bp.p0;have y1:=X1.out.bp.p1;have y2:=X1.out.bp.p2;rw [hpa] at x3;simp only at y0 y1 y2))
    go_ret
    exact ⟨by rw [HU.out];rfl,X1.out.bel⟩
   ·have d3:decide ((right.length:Int) > 16)=false:=by simp;omega
    have HU:Hid (prodQ g i ⟨pl,ra,rc,right,prec⟩=if (right.any fun s=>!inG g s.1 s.2)=true then 35 else if ((g.ps.take i).any fun q=>q.left == pl && q.right == right)=true then 6 else if prec≠-1/\inT g prec=false then 38 else 0):=by show _=_;unfold prodQ;simp [hA,hB]
    clear hA hB
    cases hC':(right.any fun s=>!inG g s.1 s.2) with
    | true =>
     have hC:Hid ((right.any fun s=>!inG g s.1 s.2)=true):=hC'
     have HU2:Hid (prodQ g i ⟨pl,ra,rc,right,prec⟩=35):=by show _=_;rw [HU.out,if_pos hC']
     clear hC' HU
     go_wp2_with (first
     | (go_at_call 121;refine (CN.out W).mono ?_;rintro e w1 ⟨rfl,hb1⟩;have X1:Hid (CB g ⟨pl,ra,rc,right,prec⟩ gb pb w w1):=HC.out.later hb1;have x0:=X1.out.bg.g0;have x1:=X1.out.bg.g1;have x2:=X1.out.bg.g2;have x3:=X1.out.bg.g3;have x4:=X1.out.bg.g4;have y0:=X1.out.bp.p0;have y1:=X1.out.bp.p1;have y2:=X1.out.bp.p2;rw [hpa] at x3;simp only at y0 y1 y2)
     | (go_at_call 144;refine (cSt g gb ra rc right w1 true hC.out hrl htl hnl X1.out.bp.row X1.out.bg).mono ?_;rintro e w2 ⟨rfl,hb2⟩;have X2:Hid (CB g ⟨pl,ra,rc,right,prec⟩ gb pb w w2):=X1.out.later hb2;have u0:=X2.out.bg.g0;have u1:=X2.out.bg.g1;have u2:=X2.out.bg.g2;have u3:=X2.out.bg.g3;have u4:=X2.out.bg.g4;have v0:=X2.out.bp.p0;have v1:=X2.out.bp.p1;have v2:=X2.out.bp.p2;rw [hpa] at u3;simp only at v0 v1 v2))
     go_ret
     exact ⟨by rw [HU2.out];rfl,X2.out.bel⟩
    | false =>
     have hC:Hid ((right.any fun s=>!inG g s.1 s.2)=false):=hC'
     have HU2:Hid (prodQ g i ⟨pl,ra,rc,right,prec⟩=if ((g.ps.take i).any fun q=>q.left == pl && q.right == right)=true then 6 else if prec≠-1/\inT g prec=false then 38 else 0):=by show _=_;rw [HU.out,hC'];rfl
     clear hC' HU
     have hipc:i<=g.pc:=by omega
     have CS:Hid (∀ z x,CB g ⟨pl,ra,rc,right,prec⟩ gb pb w z->((g.ps.take i).any fun q=>q.left == pl && q.right == right)=x->Calls Tryz.prog 145 #[.slice (some ⟨b,off,none⟩) i g.pc,.func (.func 142) #[] #[.pointer (some ⟨pb,0,none⟩)]] z fun e w'=>e=.returned (.bool x)/\Below z.heap.size z w'):=fun z x hz hx=>by
      have hti:(g.ps.take i).length=i:=by rw [List.length_take];omega
      have hrw:=hz.at_.p.take i
      rw [hpa] at hrw
      have:=contains_same ⟨pl,ra,rc,right,prec⟩ pb (some ⟨b,off,none⟩) g.pc (g.ps.take i) z x hx (by omega) hrl (fun q hq=>hz.at_.rl q (List.mem_of_mem_take hq)) hrw hz.bp
      rw [hti] at this
      exact this
     cases hD':((g.ps.take i).any fun q=>q.left == pl && q.right == right) with
     | true =>
      have hD:Hid (((g.ps.take i).any fun q=>q.left == pl && q.right == right)=true):=hD'
      have HU3:Hid (prodQ g i ⟨pl,ra,rc,right,prec⟩=6):=by show _=_;rw [HU2.out,if_pos hD']
      clear hD' HU2
      go_wp2_with (first
     | (go_at_call 121;refine (CN.out W).mono ?_;rintro e w1 ⟨rfl,hb1⟩;have X1:Hid (CB g ⟨pl,ra,rc,right,prec⟩ gb pb w w1):=HC.out.later hb1;have x0:=X1.out.bg.g0;have x1:=X1.out.bg.g1;have x2:=X1.out.bg.g2;have x3:=X1.out.bg.g3;have x4:=X1.out.bg.g4;have y0:=X1.out.bp.p0;have y1:=X1.out.bp.p1;have y2:=X1.out.bp.p2;rw [hpa] at x3;simp only at y0 y1 y2)
     | (go_at_call 144;refine (cSt g gb ra rc right w1 false hC.out hrl htl hnl X1.out.bp.row X1.out.bg).mono ?_;rintro e w2 ⟨rfl,hb2⟩;have X2:Hid (CB g ⟨pl,ra,rc,right,prec⟩ gb pb w w2):=X1.out.later hb2;have u0:=X2.out.bg.g0;have u1:=X2.out.bg.g1;have u2:=X2.out.bg.g2;have u3:=X2.out.bg.g3;have u4:=X2.out.bg.g4;have v0:=X2.out.bp.p0;have v1:=X2.out.bp.p1;have v2:=X2.out.bp.p2;rw [hpa] at u3;simp only at v0 v1 v2)
     | (go_at_call 145;refine (CS.out w2 true X2.out hD.out).mono ?_;rintro e w3 ⟨rfl,hb3⟩;have X3:Hid (CB g ⟨pl,ra,rc,right,prec⟩ gb pb w w3):=X2.out.later hb3;have r0:=X3.out.bg.g0;have r1:=X3.out.bg.g1;have r2:=X3.out.bg.g2;have r3:=X3.out.bg.g3;have r4:=X3.out.bg.g4;have s0:=X3.out.bp.p0;have s1:=X3.out.bp.p1;have s2:=X3.out.bp.p2;rw [hpa] at r3;simp only at s0 s1 s2))
      go_ret
      exact ⟨by rw [HU3.out];rfl,X3.out.bel⟩
     | false =>
      have hD:Hid (((g.ps.take i).any fun q=>q.left == pl && q.right == right)=false):=hD'
      have HU3:Hid (prodQ g i ⟨pl,ra,rc,right,prec⟩=if prec≠-1/\inT g prec=false then 38 else 0):=by show _=_;rw [HU2.out,hD'];rfl
      clear hD' HU2
      by_cases hp:prec=-1
      ·have HU4:Hid (prodQ g i ⟨pl,ra,rc,right,prec⟩=0):=by show _=_;rw [HU3.out,if_neg (fun h=>h.1 hp)]
       have t1:(prec != -1)=false:=by simp [hp]
       clear HU3 hp
       go_wp2_with (first
     | (go_at_call 121;refine (CN.out W).mono ?_;rintro e w1 ⟨rfl,hb1⟩;have X1:Hid (CB g ⟨pl,ra,rc,right,prec⟩ gb pb w w1):=HC.out.later hb1;have x0:=X1.out.bg.g0;have x1:=X1.out.bg.g1;have x2:=X1.out.bg.g2;have x3:=X1.out.bg.g3;have x4:=X1.out.bg.g4;have y0:=X1.out.bp.p0;have y1:=X1.out.bp.p1;have y2:=X1.out.bp.p2;rw [hpa] at x3;simp only at y0 y1 y2)
     | (go_at_call 144;refine (cSt g gb ra rc right w1 false hC.out hrl htl hnl X1.out.bp.row X1.out.bg).mono ?_;rintro e w2 ⟨rfl,hb2⟩;have X2:Hid (CB g ⟨pl,ra,rc,right,prec⟩ gb pb w w2):=X1.out.later hb2;have u0:=X2.out.bg.g0;have u1:=X2.out.bg.g1;have u2:=X2.out.bg.g2;have u3:=X2.out.bg.g3;have u4:=X2.out.bg.g4;have v0:=X2.out.bp.p0;have v1:=X2.out.bp.p1;have v2:=X2.out.bp.p2;rw [hpa] at u3;simp only at v0 v1 v2)
     | (go_at_call 145;refine (CS.out w2 false X2.out hD.out).mono ?_;rintro e w3 ⟨rfl,hb3⟩;have X3:Hid (CB g ⟨pl,ra,rc,right,prec⟩ gb pb w w3):=X2.out.later hb3;have r0:=X3.out.bg.g0;have r1:=X3.out.bg.g1;have r2:=X3.out.bg.g2;have r3:=X3.out.bg.g3;have r4:=X3.out.bg.g4;have s0:=X3.out.bp.p0;have s1:=X3.out.bp.p1;have s2:=X3.out.bp.p2;rw [hpa] at r3;simp only at s0 s1 s2))
       go_ret
       exact ⟨by rw [HU4.out];rfl,X3.out.bel⟩
      ·have t1:(prec != -1)=true:=by simpa using hp
       cases hT:inT g prec with
       | true =>
        have HU4:Hid (prodQ g i ⟨pl,ra,rc,right,prec⟩=0):=by show _=_;rw [HU3.out,if_neg (fun h=>by rw [hT] at h;cases h.2)]
        rw [hT] at CT
        clear HU3 hp hT
        go_wp2_with (first
     | (go_at_call 121;refine (CN.out W).mono ?_;rintro e w1 ⟨rfl,hb1⟩;have X1:Hid (CB g ⟨pl,ra,rc,right,prec⟩ gb pb w w1):=HC.out.later hb1;have x0:=X1.out.bg.g0;have x1:=X1.out.bg.g1;have x2:=X1.out.bg.g2;have x3:=X1.out.bg.g3;have x4:=X1.out.bg.g4;have y0:=X1.out.bp.p0;have y1:=X1.out.bp.p1;have y2:=X1.out.bp.p2;rw [hpa] at x3;simp only at y0 y1 y2)
     | (go_at_call 144;refine (cSt g gb ra rc right w1 false hC.out hrl htl hnl X1.out.bp.row X1.out.bg).mono ?_;rintro e w2 ⟨rfl,hb2⟩;have X2:Hid (CB g ⟨pl,ra,rc,right,prec⟩ gb pb w w2):=X1.out.later hb2;have u0:=X2.out.bg.g0;have u1:=X2.out.bg.g1;have u2:=X2.out.bg.g2;have u3:=X2.out.bg.g3;have u4:=X2.out.bg.g4;have v0:=X2.out.bp.p0;have v1:=X2.out.bp.p1;have v2:=X2.out.bp.p2;rw [hpa] at u3;simp only at v0 v1 v2)
     | (go_at_call 145;refine (CS.out w2 false X2.out hD.out).mono ?_;rintro e w3 ⟨rfl,hb3⟩;have X3:Hid (CB g ⟨pl,ra,rc,right,prec⟩ gb pb w w3):=X2.out.later hb3;have r0:=X3.out.bg.g0;have r1:=X3.out.bg.g1;have r2:=X3.out.bg.g2;have r3:=X3.out.bg.g3;have r4:=X3.out.bg.g4;have s0:=X3.out.bp.p0;have s1:=X3.out.bp.p1;have s2:=X3.out.bp.p2;rw [hpa] at r3;simp only at s0 s1 s2)
     | (go_at_call 146;refine (CT.out w3).mono ?_;rintro e w4 ⟨rfl,hb4⟩;have X4:Hid (CB g ⟨pl,ra,rc,right,prec⟩ gb pb w w4):=X3.out.later hb4))
        go_ret
        exact ⟨by rw [HU4.out];rfl,X4.out.bel⟩
       | false =>
        have HU4:Hid (prodQ g i ⟨pl,ra,rc,right,prec⟩=38):=by show _=_;rw [HU3.out,if_pos ⟨hp,hT⟩]
        rw [hT] at CT
        clear HU3 hp hT
        go_wp2_with (first
     | (go_at_call 121;refine (CN.out W).mono ?_;rintro e w1 ⟨rfl,hb1⟩;have X1:Hid (CB g ⟨pl,ra,rc,right,prec⟩ gb pb w w1):=HC.out.later hb1;have x0:=X1.out.bg.g0;have x1:=X1.out.bg.g1;have x2:=X1.out.bg.g2;have x3:=X1.out.bg.g3;have x4:=X1.out.bg.g4;have y0:=X1.out.bp.p0;have y1:=X1.out.bp.p1;have y2:=X1.out.bp.p2;rw [hpa] at x3;simp only at y0 y1 y2)
     | (go_at_call 144;refine (cSt g gb ra rc right w1 false hC.out hrl htl hnl X1.out.bp.row X1.out.bg).mono ?_;rintro e w2 ⟨rfl,hb2⟩;have X2:Hid (CB g ⟨pl,ra,rc,right,prec⟩ gb pb w w2):=X1.out.later hb2;have u0:=X2.out.bg.g0;have u1:=X2.out.bg.g1;have u2:=X2.out.bg.g2;have u3:=X2.out.bg.g3;have u4:=X2.out.bg.g4;have v0:=X2.out.bp.p0;have v1:=X2.out.bp.p1;have v2:=X2.out.bp.p2;rw [hpa] at u3;simp only at v0 v1 v2)
     | (go_at_call 145;refine (CS.out w2 false X2.out hD.out).mono ?_;rintro e w3 ⟨rfl,hb3⟩;have X3:Hid (CB g ⟨pl,ra,rc,right,prec⟩ gb pb w w3):=X2.out.later hb3;have r0:=X3.out.bg.g0;have r1:=X3.out.bg.g1;have r2:=X3.out.bg.g2;have r3:=X3.out.bg.g3;have r4:=X3.out.bg.g4;have s0:=X3.out.bp.p0;have s1:=X3.out.bp.p1;have s2:=X3.out.bp.p2;rw [hpa] at r3;simp only at s0 s1 s2)
     | (go_at_call 146;refine (CT.out w3).mono ?_;rintro e w4 ⟨rfl,hb4⟩;have X4:Hid (CB g ⟨pl,ra,rc,right,prec⟩ gb pb w w4):=X3.out.later hb4))
        go_ret
        exact ⟨by rw [HU4.out];rfl,X4.out.bel⟩
end Go.Proofs.YteciabdjkaackaaGreat
