import Derived.Test.YteciabdjkaackaaGreatPBBaseToFSet
namespace Go.Proofs.YteciabdjkaackaaGreat
set_option linter.unusedVariables false
open Go.RowKit
def prodU (g:GV)(i:Nat):Int :=
 if inN g (g.ps.getD i .none).left=false then 35
 else if 16 < (g.ps.getD i .none).right.length then 34
 else if ((g.ps.getD i .none).right.any fun s=>!inG g s.1 s.2)=true then 35
 else if ((g.ps.take i).any fun q=>q.left == (g.ps.getD i .none).left && q.right == (g.ps.getD i .none).right)=true then 6
 else if (g.ps.getD i .none).prec≠-1/\inT g (g.ps.getD i .none).prec=false then 38
 else 0
def risesU (l:List Int):Bool:=(List.range (l.length - 1)).all fun i=>decide (l.getD i 0 < l.getD (i+1) 0)
def nU_ (ls:List LV)(i:Nat):List Int:=(ls.take i).flatMap LV.terms
def lU_ (g:GV)(i:Nat):Int :=
 if (g.ls.getD i .none).assoc < 1∨3 < (g.ls.getD i .none).assoc∨(g.ls.getD i .none).terms.length=0 then 37
 else if ((g.ls.getD i .none).terms.any fun n=>!inT g n)=true then 4
 else if risesU (g.ls.getD i .none).terms=false then 7
 else if ((g.ls.getD i .none).terms.any fun n=>(nU_ g.ls i).contains n)=true then 6
 else 0
def firstU (f:Nat->Int):Nat->Nat->Int×Int
 | 0,_=>(0,0)
 | c+1,i=>if f i≠0 then (f i,i) else firstU f c (i+1)
theorem firstU_from (f:Nat->Int):∀ (c i k:Nat),k<=c->(∀ j,j < k->f (i+j)=0)->firstU f c i=firstU f (c - k) (i+k)
 | c,i,0,_,_=>rfl
 | 0,i,k+1,h,_=>absurd h (by omega)
 | c+1,i,k+1,h,hz=>by
  have h0:f i=0:=by have:=hz 0 (by omega);simpa using this
  have:=firstU_from f c (i+1) k (by omega) (fun j hj=>by have:=hz (j+1) (by omega);rwa [show i+(j+1)=i+1+j by omega] at this)
  have e:firstU f (c+1) i=if f i≠0 then (f i,(i:Int)) else firstU f c (i+1):=rfl
  rw [e,if_neg (by simpa using h0),this,show c+1 - (k+1)=c - k by omega,show i+(k+1)=i+1+k by omega]
theorem firstU_hit {f:Nat->Int}{n i:Nat}(hi:i < n)(hz:∀ j,j < i->f j=0)(h:f i≠0):firstU f n 0=(f i,(i:Int)):=by
 rw [firstU_from f n 0 i (by omega) (fun j hj=>by simpa using hz j hj),show n - i=(n - i - 1)+1 by omega]
 simp [firstU,h]
theorem firstU_none {f:Nat->Int}{n:Nat}(hz:∀ j,j < n->f j=0):firstU f n 0=(0,0):=by
 rw [firstU_from f n 0 n (Nat.le_refl _) (fun j hj=>by simpa using hz j hj),Nat.sub_self]
 rfl
def cG_ (g:GV)(names:Int×Int):Int×Int :=
 if g.ts.length=0∨64 < g.ts.length then (31,0)
 else if g.ns.length=0∨64 < g.ns.length then (32,0)
 else if names.1≠0 then names
 else if inN g g.start=false then (36,0)
 else if g.ps.length=0∨256 < g.ps.length then (33,0)
 else if (firstU (prodU g) g.ps.length 0).1≠0 then firstU (prodU g) g.ps.length 0
 else if 32 < g.ls.length then (37,0)
 else firstU (lU_ g) g.ls.length 0
theorem any_hit {α:Type}{p:α->Bool}{l:List α}{d:α}{k:Nat}(hk:k < l.length)(h:p (l.getD k d)=true):l.any p=true:=by
 rw [List.any_eq_true]
 exact ⟨l.getD k d,by simp [List.getD,hk],h⟩
theorem any_none {α:Type}{p:α->Bool}{l:List α}(d:α)(h:∀ j,j < l.length->p (l.getD j d)=false):l.any p=false:=by
 rw [List.any_eq_false]
 intro x hx
 obtain ⟨j,hj,rfl⟩:=List.getElem_of_mem hx
 have:=h j hj
 simp [List.getD,hj] at this
 simp [this]
theorem take_stepY {xs ys:List (Int×Int)}{k:Nat}(h:xs.take k=ys.take k)(hx:k < xs.length)(hy:k < ys.length)(e:xs.getD k (0,0)=ys.getD k (0,0)):xs.take (k+1)=ys.take (k+1):=by
 rw [List.take_succ_eq_append_getElem hx,List.take_succ_eq_append_getElem hy,h]
 simp [List.getD,hx,hy] at e
 rw [e]
set_option maxHeartbeats 2000000 in
theorem samesyms_g (ao bo:Option Addr)(n m ca cb:Nat)(l1 l2:List (Int×Int))(w:World)(hn:n=l1.length)(hm:m=l2.length)(hl:l1.length<=140737488355328)(hl2:l2.length<=140737488355328)(hr:SymRow w ao l1)(hs:SymRow w bo l2) :
  Calls Tryz.prog 55 #[.slice ao n ca,.slice bo m cb] w fun e w'=>e=.returned (.bool (l1 == l2))/\∃ d,w'=w.drewN d:=by
 subst hn hm
 by_cases hne:l1.length=l2.length
 ·have hb:((l1.length:Int) != l2.length)=false:=by simp [hne]
  have HN:Hid (l1.length=l2.length):=hne
  have hle:∀ k,k < l1.length->k < l2.length:=fun k hk=>by omega
  clear hne
  go_enter Tryz.func55,Tryz.ntmps55
  go_wp2
  go_loopw [5] (fun i wr=>∃ k d:Nat,k<=l1.length/\i=.int .i64 k/\wr=w.drewN d/\Hid (l1.take k=l2.take k)) (fun i _=>l1.length - (intOf i).toNat)
  case atStart=>exact ⟨0,0,Nat.zero_le _,rfl,rfl,rfl⟩
  case round =>
   obtain ⟨k,d,hk,rfl,rfl,HT⟩:=hrel
   by_cases hlt:k < l1.length
   ·have hlt2:=hle k hlt
    obtain ⟨b,off,rfl,_,hc⟩:=hr (by intro h;subst h;simp at hlt)
    obtain ⟨b2,off2,rfl,_,hc2⟩:=hs (by intro h;subst h;simp at hlt2)
    obtain ⟨h1,h2⟩:=hc k hlt
    obtain ⟨h3,h4⟩:=hc2 k hlt2
    have HS:Hid (l1.getD k (0,0)=l2.getD k (0,0)->l1.take (k+1)=l2.take (k+1)):=fun e=>take_stepY HT.out hlt hlt2 e
    have HF:Hid (l1.getD k (0,0)≠l2.getD k (0,0)->¬ l1=l2):=fun e e2=>e (by rw [e2])
    clear hc hc2 hr hs
    generalize l1.getD k (0,0)=q at *
    generalize l2.getD k (0,0)=p at *
    obtain ⟨q1,q2⟩:=q
    obtain ⟨p1,p2⟩:=p
    simp only at h1 h2 h3 h4
    by_cases e1:q1=p1
    ·by_cases e2:q2=p2
     ·subst e1 e2
      have HS1:Hid (l1.take (k+1)=l2.take (k+1)):=HS.out rfl
      clear HS HF
      have e1:(q1 == q1)=true:=by simp
      have e2:(q2 == q2)=true:=by simp
      go_wp2
      go_quiet (fail)
      go_wp2
      go_roundw
      case rel=>exact ⟨k+1,_,by omega,by go_num,rfl,HS1.out⟩
      case measure=>simp [intOf];omega
     ·subst e1
      have HX:Hid (¬ l1=l2):=HF.out (by simp [e2])
      have e3:(q2 == p2)=false:=by simpa using e2
      have e4:(q1 == q1)=true:=by simp
      clear HF HS
      go_wp2
      go_quiet (fail)
      go_wp2
      go_ret
      exact ⟨by have:=HX.out;simp [this],_,World.drewN_drewN _ _ _⟩
    ·have HX:Hid (¬ l1=l2):=HF.out (by simp [e1])
     have e3:(q1 == p1)=false:=by simpa using e1
     clear HF HS
     go_wp2
     go_quiet (fail)
     go_wp2
     go_ret
     exact ⟨by have:=HX.out;simp [this],_,World.drewN_drewN _ _ _⟩
   ·have HX:Hid (l1=l2):=by
     have h1:=HT.out
     have h2:=HN.out
     rw [List.take_of_length_le (by omega),List.take_of_length_le (by omega)] at h1
     exact h1
    go_wp2
    go_ret
    exact ⟨by have:=HX.out;simp [this],_,rfl⟩
 ·have hb:((l1.length:Int) != l2.length)=true:=by simp;omega
  have HX:Hid (¬ l1=l2):=fun e=>hne (by rw [e])
  go_enter Tryz.func55,Tryz.ntmps55
  go_wp2
  go_ret
  exact ⟨by have:=HX.out;simp [this],0,rfl⟩
set_option maxHeartbeats 2000000 in
theorem equalsyms_g (ao bo:Option Addr)(n m ca cb:Nat)(l1 l2:List (Int×Int))(w:World)(hn:n=l1.length)(hm:m=l2.length)(hl:l1.length<=140737488355328)(hl2:l2.length<=140737488355328)(hr:SymRow w ao l1)(hs:SymRow w bo l2) :
  Calls Tryz.prog 143 #[.slice ao n ca,.slice bo m cb] w fun e w'=>e=.returned (.bool (l1 == l2))/\∃ d,w'=w.drewN d:=by
 subst hn hm
 by_cases hne:l1.length=l2.length
 ·have hb:((l1.length:Int) != l2.length)=false:=by simp [hne]
  have HN:Hid (l1.length=l2.length):=hne
  have hle:∀ k,k < l1.length->k < l2.length:=fun k hk=>by omega
  clear hne
  go_enter Tryz.func143,Tryz.ntmps143
  go_wp2
  go_loopw [13] (fun i wr=>∃ k d:Nat,k<=l1.length/\i=.int .i64 k/\wr=w.drewN d/\Hid (l1.take k=l2.take k)) (fun i _=>l1.length - (intOf i).toNat)
  case atStart=>exact ⟨0,0,Nat.zero_le _,rfl,rfl,rfl⟩
  case round =>
   obtain ⟨k,d,hk,rfl,rfl,HT⟩:=hrel
   by_cases hlt:k < l1.length
   ·have hlt2:=hle k hlt
    obtain ⟨b,off,rfl,_,hc⟩:=hr (by intro h;subst h;simp at hlt)
    obtain ⟨b2,off2,rfl,_,hc2⟩:=hs (by intro h;subst h;simp at hlt2)
    obtain ⟨h1,h2⟩:=hc k hlt
    obtain ⟨h3,h4⟩:=hc2 k hlt2
    have HS:Hid (l1.getD k (0,0)=l2.getD k (0,0)->l1.take (k+1)=l2.take (k+1)):=fun e=>take_stepY HT.out hlt hlt2 e
    have HF:Hid (l1.getD k (0,0)≠l2.getD k (0,0)->¬ l1=l2):=fun e e2=>e (by rw [e2])
    clear hc hc2 hr hs
    generalize l1.getD k (0,0)=q at *
    generalize l2.getD k (0,0)=p at *
    obtain ⟨q1,q2⟩:=q
    obtain ⟨p1,p2⟩:=p
    simp only at h1 h2 h3 h4
    by_cases e1:q1=p1
    ·by_cases e2:q2=p2
     ·subst e1 e2
      have HS1:Hid (l1.take (k+1)=l2.take (k+1)):=HS.out rfl
      clear HS HF
      have e1:(q1 == q1)=true:=by simp
      have e2:(q2 == q2)=true:=by simp
      go_wp2
      go_quiet (fail)
      go_wp2
      go_roundw
      case rel=>exact ⟨k+1,_,by omega,by go_num,rfl,HS1.out⟩
      case measure=>simp [intOf];omega
     ·subst e1
      have HX:Hid (¬ l1=l2):=HF.out (by simp [e2])
      have e3:(q2 == p2)=false:=by simpa using e2
      have e4:(q1 == q1)=true:=by simp
      clear HF HS
      go_wp2
      go_quiet (fail)
      go_wp2
      go_ret
      exact ⟨by have:=HX.out;simp [this],_,World.drewN_drewN _ _ _⟩
    ·have HX:Hid (¬ l1=l2):=HF.out (by simp [e1])
     have e3:(q1 == p1)=false:=by simpa using e1
     clear HF HS
     go_wp2
     go_quiet (fail)
     go_wp2
     go_ret
     exact ⟨by have:=HX.out;simp [this],_,World.drewN_drewN _ _ _⟩
   ·have HX:Hid (l1=l2):=by
     have h1:=HT.out
     have h2:=HN.out
     rw [List.take_of_length_le (by omega),List.take_of_length_le (by omega)] at h1
     exact h1
    go_wp2
    go_ret
    exact ⟨by have:=HX.out;simp [this],_,rfl⟩
 ·have hb:((l1.length:Int) != l2.length)=true:=by simp;omega
  have HX:Hid (¬ l1=l2):=fun e=>hne (by rw [e])
  go_enter Tryz.func143,Tryz.ntmps143
  go_wp2
  go_ret
  exact ⟨by have:=HX.out;simp [this],0,rfl⟩
theorem samesyms_b (ao bo:Option Addr)(ca cb:Nat)(l1 l2:List (Int×Int))(w:World)(b:Bool)(he:(l1 == l2)=b)(hl:l1.length<=140737488355328)(hl2:l2.length<=140737488355328)(hr:SymRow w ao l1)(hs:SymRow w bo l2) :
  Calls Tryz.prog 55 #[.slice ao l1.length ca,.slice bo l2.length cb] w fun e w'=>e=.returned (.bool b)/\∃ d,w'=w.drewN d :=
 (samesyms_g ao bo _ _ ca cb l1 l2 w rfl rfl hl hl2 hr hs).mono fun e w' ⟨h1,h2⟩=>⟨by rw [h1,he],h2⟩
theorem equalsyms_b (ao bo:Option Addr)(ca cb:Nat)(l1 l2:List (Int×Int))(w:World)(b:Bool)(he:(l1 == l2)=b)(hl:l1.length<=140737488355328)(hl2:l2.length<=140737488355328)(hr:SymRow w ao l1)(hs:SymRow w bo l2) :
  Calls Tryz.prog 143 #[.slice ao l1.length ca,.slice bo l2.length cb] w fun e w'=>e=.returned (.bool b)/\∃ d,w'=w.drewN d :=
 (equalsyms_g ao bo _ _ ca cb l1 l2 w rfl rfl hl hl2 hr hs).mono fun e w' ⟨h1,h2⟩=>⟨by rw [h1,he],h2⟩
def prodQ (g:GV)(i:Nat)(p:PV):Int :=
 if inN g p.left=false then 35
 else if 16 < p.right.length then 34
 else if (p.right.any fun s=>!inG g s.1 s.2)=true then 35
 else if ((g.ps.take i).any fun q=>q.left == p.left && q.right == p.right)=true then 6
 else if p.prec≠-1/\inT g p.prec=false then 38
 else 0
theorem prodQ_is (g:GV)(i:Nat):prodU g i=prodQ g i (g.ps.getD i .none):=rfl
abbrev pBox (p:PV):Obj:=.cells #[.int .i64 p.left,.slice p.ra p.right.length p.rc,.int .i64 p.prec] 116
structure PB (g:GV)(p:PV)(w wr:World):Prop where
 at_:GAt 140737488355328 wr g
 row:SymRow wr p.ra p.right
 g0:wr.cell? ⟨w.heap.size,0,none⟩=some (.slice g.ta g.ts.length g.tc)
 g1:wr.cell? ⟨w.heap.size,1,none⟩=some (.slice g.na g.ns.length g.nc)
 g2:wr.cell? ⟨w.heap.size,2,none⟩=some (.int .i64 g.start)
 g3:wr.cell? ⟨w.heap.size,3,none⟩=some (.slice g.pa g.ps.length g.pc)
 g4:wr.cell? ⟨w.heap.size,4,none⟩=some (.slice g.la g.ls.length g.lc)
 p0:wr.cell? ⟨w.heap.size+1,0,none⟩=some (.int .i64 p.left)
 p1:wr.cell? ⟨w.heap.size+1,1,none⟩=some (.slice p.ra p.right.length p.rc)
 p2:wr.cell? ⟨w.heap.size+1,2,none⟩=some (.int .i64 p.prec)
 lt0:w.heap.size < wr.heap.size
 lt1:w.heap.size+1 < wr.heap.size
theorem alloc_size (w:World)(o:Obj):(w.alloc o).heap.size=w.heap.size+1:=by simp
theorem PB.new {g:GV}{p:PV}{w:World}(h:GAt 140737488355328 w g)(hr:SymRow w p.ra p.right):PB g p w ((w.alloc (gBox g)).alloc (pBox p)):=by
 have b1:=bAl w (gBox g)
 have b2:=bAl (w.alloc (gBox g)) (pBox p)
 have b3:Below w.heap.size w ((w.alloc (gBox g)).alloc (pBox p)):=b1.trans (b2.mono b1.size)
 have e1:((w.alloc (gBox g)).alloc (pBox p)).heap[w.heap.size]?=some (gBox g):=(b2.block _ (by rw [alloc_size];omega)).trans (heap_alloc_new w _)
 have e2:((w.alloc (gBox g)).alloc (pBox p)).heap[w.heap.size+1]?=some (pBox p):=by have:=heap_alloc_new (w.alloc (gBox g)) (pBox p);rwa [alloc_size] at this
 refine ⟨h.later b3,hr.later (Nat.le_refl _) b3,?_,?_,?_,?_,?_,?_,?_,?_,lt_of_block e1,lt_of_block e2⟩
 ·rw [cQa e1];rfl
 ·rw [cQa e1];rfl
 ·rw [cQa e1];rfl
 ·rw [cQa e1];rfl
 ·rw [cQa e1];rfl
 ·rw [cQa e2];rfl
 ·rw [cQa e2];rfl
 ·rw [cQa e2];rfl
theorem PB.later {g:GV}{p:PV}{w wr w':World}(h:PB g p w wr)(hb:Below wr.heap.size wr w'):PB g p w w':=by
 have e0:∀ j,w'.cell? ⟨w.heap.size,j,none⟩=wr.cell? ⟨w.heap.size,j,none⟩:=fun j=>hb.cell (p:=⟨w.heap.size,j,none⟩) h.lt0
 have e1:∀ j,w'.cell? ⟨w.heap.size+1,j,none⟩=wr.cell? ⟨w.heap.size+1,j,none⟩:=fun j=>hb.cell (p:=⟨w.heap.size+1,j,none⟩) h.lt1
 exact ⟨h.at_.later hb,h.row.later (Nat.le_refl _) hb,(e0 0).trans h.g0,(e0 1).trans h.g1,(e0 2).trans h.g2,(e0 3).trans h.g3,(e0 4).trans h.g4,(e1 0).trans h.p0,(e1 1).trans h.p1,(e1 2).trans h.p2,Nat.lt_of_lt_of_le h.lt0 hb.size,Nat.lt_of_lt_of_le h.lt1 hb.size⟩
theorem PB.ahead {g:GV}{p:PV}{w wr:World}(h:PB g p w wr){k:Nat}(hk:k < g.ps.length):∃ b off,g.pa=some ⟨b,off,none⟩/\b < wr.heap.size/\wr.cell? ⟨b,off+k*3,none⟩=some (.int .i64 (g.ps.getD k .none).left)/\wr.cell? ⟨b,off+k*3+1,none⟩=some (.slice (g.ps.getD k .none).ra (g.ps.getD k .none).right.length (g.ps.getD k .none).rc)/\SymRow wr (g.ps.getD k .none).ra (g.ps.getD k .none).right/\(g.ps.getD k .none).right.length<=140737488355328:=by
 obtain ⟨b,off,e,hl,hc⟩:=h.at_.p.cells (by intro e;rw [e] at hk;simp at hk)
 obtain ⟨c0,c1,_⟩:=hc k hk
 have hm:g.ps.getD k .none∈g.ps:=by simp [List.getD,hk]
 exact ⟨b,off,e,hl,c0,c1,h.at_.p.rows _ hm,h.at_.rl _ hm⟩
set_option maxRecDepth 100000 in
set_option maxHeartbeats 4000000 in
theorem refprod_any (g:GV)(i:Nat)(w:World)(h:GAt 140737488355328 w g)(hi:i < g.ps.length) :
  Calls Tryz.prog 95 #[g.val,.int .i64 i] w fun e w'=>e=.returned (.int .i64 (prodU g i))/\Below w.heap.size w w':=by
 obtain ⟨b,off,hpa,hbl,hc⟩:=h.p.cells (by intro e;rw [e] at hi;simp at hi)
 obtain ⟨c0,c1,c2⟩:=hc i hi
 have hm:g.ps.getD i .none∈g.ps:=by simp [List.getD,hi]
 have hrow:=h.p.rows _ hm
 have hrl:=h.rl _ hm
 have hnl:=h.nl
 have htl:=h.tl
 have hpl:=h.pl
 rw [prodQ_is]
 have hv:g.val=.agg #[.slice g.ta g.ts.length g.tc,.slice g.na g.ns.length g.nc,.int .i64 g.start,.slice (some ⟨b,off,none⟩) g.ps.length g.pc,.slice g.la g.ls.length g.lc]:=by unfold GV.val;rw [hpa]
 have hgb:gBox g=.cells #[.slice g.ta g.ts.length g.tc,.slice g.na g.ns.length g.nc,.int .i64 g.start,.slice (some ⟨b,off,none⟩) g.ps.length g.pc,.slice g.la g.ls.length g.lc] 63:=by unfold gBox;rw [hpa]
 clear hc hm
 generalize g.ps.getD i .none=p at *
 have HP:Hid (PB g p w ((w.alloc (gBox g)).alloc (pBox p))):=PB.new h hrow
 have HB0:Hid (Below w.heap.size w ((w.alloc (gBox g)).alloc (pBox p))):=(bAl w _).trans ((bAl _ _).mono (bAl w _).size)
 clear h hrow
 rw [hgb] at HP HB0
 have CI:Hid (∀ q1 q2 z,Calls Tryz.prog 119 #[.agg #[.slice g.ta g.ts.length g.tc,.slice g.na g.ns.length g.nc,.int .i64 g.start,.slice (some ⟨b,off,none⟩) g.ps.length g.pc,.slice g.la g.ls.length g.lc],.agg #[.int .i64 q1,.int .i64 q2]] z fun e w'=>e=.returned (.bool (inG g q1 q2))/\Below z.heap.size z w'):=fun q1 q2 z=>by rw [<- hv];exact refin_g g q1 q2 z htl hnl
 have HPA:Hid (g.pa=some ⟨b,off,none⟩):=hpa
 rw [hv]
 clear hv hgb hpa
 obtain ⟨pl,ra,rc,right,prec⟩:=p
 simp only at c0 c1 c2 hrl
 by_cases hA:inN g pl=false
 ·have HU:Hid (prodQ g i ⟨pl,ra,rc,right,prec⟩=35):=by show _=_;unfold prodQ;simp [hA]
  have hA':pl < 0∨¬ pl < 0/\pl ≥ g.ns.length:=by unfold inN at hA;simp at hA;omega
  clear hA
  rcases hA' with hA | ⟨hA,hA2⟩
  ·have d1:decide (pl < 0)=true:=by simpa using hA
   clear hA
   go_enter Tryz.func95,Tryz.ntmps95
   go_wp2
   go_ret
   exact ⟨by rw [HU.out];rfl,HB0.out⟩
  ·have d1:decide (pl < 0)=false:=by simpa using hA
   have d2:decide (pl ≥ (g.ns.length:Int))=true:=by simpa using hA2
   clear hA hA2
   go_enter Tryz.func95,Tryz.ntmps95
   go_wp2
   go_ret
   exact ⟨by rw [HU.out];rfl,HB0.out⟩
 ·have hA1:inN g pl=true:=by simpa using hA
  have hA2:¬ pl < 0/\¬ pl ≥ (g.ns.length:Int):=by unfold inN at hA1;simp at hA1;omega
  have d1:decide (pl < 0)=false:=by simpa using hA2.1
  have d2:decide (pl ≥ (g.ns.length:Int))=false:=by simpa using hA2.2
  clear hA hA2
  by_cases hB:16 < right.length
  ·have HU:Hid (prodQ g i ⟨pl,ra,rc,right,prec⟩=34):=by show _=_;unfold prodQ;simp [hA1,hB]
   have d3:decide ((right.length:Int) > 16)=true:=by simp;omega
   clear hA1
   go_enter Tryz.func95,Tryz.ntmps95
   go_wp2
   go_ret
   exact ⟨by rw [HU.out];rfl,HB0.out⟩
  ·have d3:decide ((right.length:Int) > 16)=false:=by simp;omega
   have HU:Hid (prodQ g i ⟨pl,ra,rc,right,prec⟩=if (right.any fun s=>!inG g s.1 s.2)=true then 35 else if ((g.ps.take i).any fun q=>q.left == pl && q.right == right)=true then 6 else if prec≠-1/\inT g prec=false then 38 else 0):=by show _=_;unfold prodQ;simp [hA1,hB]
   clear hA1 hB
   go_enter Tryz.func95,Tryz.ntmps95
   go_wp2
   generalize ((w.alloc (.cells #[.slice g.ta g.ts.length g.tc,.slice g.na g.ns.length g.nc,.int .i64 g.start,.slice (some ⟨b,off,none⟩) g.ps.length g.pc,.slice g.la g.ls.length g.lc] 63)).alloc (pBox ⟨pl,ra,rc,right,prec⟩))=W at *
   go_loopw [6] (fun i wr=>∃ k:Nat,k<=right.length/\i=.int .i64 k/\Below W.heap.size W wr/\Hid (∀ j,j < k->inG g (right.getD j (0,0)).1 (right.getD j (0,0)).2=true)) (fun i _=>right.length - (intOf i).toNat)
   case atStart=>exact ⟨0,Nat.zero_le _,rfl,Below.refl _ _,fun j hj=>by omega⟩
   case round =>
    obtain ⟨k,hk,rfl,hb,HA⟩:=hrel
    have HW:Hid (PB g ⟨pl,ra,rc,right,prec⟩ w wr):=HP.out.later hb
    have g3':wr.cell? ⟨w.heap.size,3,none⟩=some (.slice (some ⟨b,off,none⟩) g.ps.length g.pc):=by rw [HW.out.g3,HPA.out]
    have q1':=HW.out.p1
    by_cases hlt:k < right.length
    ·obtain ⟨rb,ro,rfl,hrb,hrc⟩:=HW.out.row (by intro e;subst e;simp at hlt)
     obtain ⟨r0,r1⟩:=hrc k hlt
     simp only at r0 r1
     have HIT:Hid (inG g (right.getD k (0,0)).1 (right.getD k (0,0)).2=false->(right.any fun s=>!inG g s.1 s.2)=true):=fun e=>any_hit (d:=(0,0)) hlt (by show (!inG g _ _)=true;rw [e];rfl)
     have HST:Hid (inG g (right.getD k (0,0)).1 (right.getD k (0,0)).2=true->∀ j,j < k+1->inG g (right.getD j (0,0)).1 (right.getD j (0,0)).2=true):=fun e j hj=>by
      rcases Nat.lt_succ_iff_lt_or_eq.1 hj with r | rfl
      ·exact HA.out j r
      ·exact e
     generalize right.getD k (0,0)=s at *
     obtain ⟨s1,s2⟩:=s
     simp only at r0 r1 HIT HST
     have lts:=HW.out.lt0
     have x0:=fun y:Ext wr=>(y.cell (a:=⟨w.heap.size,0,none⟩) lts).trans HW.out.g0
     have x1:=fun y:Ext wr=>(y.cell (a:=⟨w.heap.size,1,none⟩) lts).trans HW.out.g1
     have x2:=fun y:Ext wr=>(y.cell (a:=⟨w.heap.size,2,none⟩) lts).trans HW.out.g2
     have x3:=fun y:Ext wr=>(y.cell (a:=⟨w.heap.size,3,none⟩) lts).trans g3'
     have x4:=fun y:Ext wr=>(y.cell (a:=⟨w.heap.size,4,none⟩) lts).trans HW.out.g4
     have x5:=fun y:Ext wr=>(y.cell (a:=⟨w.heap.size+1,1,none⟩) HW.out.lt1).trans q1'
     have x6:=fun y:Ext wr=>(y.cell (a:=⟨rb,ro+k*2,none⟩) hrb).trans r0
     have x7:=fun y:Ext wr=>(y.cell (a:=⟨rb,ro+k*2+1,none⟩) hrb).trans r1
     go_wp2
     refine wp_region_ext (by kernel_rfl) (by kernel_rfl) fun neX=>?_
     repeat (quiet_step (first | (go_at_call 119;exact Calls.ext_of (CI.out _ _ _))))
     refine wpQuiet_nil ?_
     rintro _ ⟨y,rfl⟩
     have hby:Below W.heap.size W y.w:=hb.trans (y.h.mono hb.size)
     cases hin:inG g s1 s2 with
     | false =>
      have HU2:Hid (prodQ g i ⟨pl,some ⟨rb,ro,none⟩,rc,right,prec⟩=35):=by show _=_;rw [HU.out,if_pos (HIT.out hin)]
      have HY:Hid (Below W.heap.size W y.w):=hby
      clear hin HIT HST x0 x1 x2 x3 x4 x5 x6 x7 HU
      go_wp2
      go_ret
      exact ⟨by rw [HU2.out];rfl,HB0.out.trans (HY.out.mono HB0.out.size)⟩
     | true =>
      have HS1:Hid _:=HST.out hin
      clear hin HIT HST x0 x1 x2 x3 x4 x5 x6 x7
      go_wp2
      go_roundw
      case rel=>exact ⟨k+1,by omega,by go_num,hby,HS1.out⟩
      case measure=>simp [intOf];omega
    ·have HNA:Hid ((right.any fun s=>!inG g s.1 s.2)=false):=any_none (0,0) fun j hj=>by show (!inG g _ _)=false;rw [HA.out j (by omega)];rfl
     have HU1:Hid (prodQ g i ⟨pl,ra,rc,right,prec⟩=if ((g.ps.take i).any fun q=>q.left == pl && q.right == right)=true then 6 else if prec≠-1/\inT g prec=false then 38 else 0):=by
      show _=_
      rw [HU.out,HNA.out]
      rfl
     clear HU HNA HA
     go_wp2
     obtain ⟨wo,rfl⟩:∃ wo:World,wo=wr:=⟨_,rfl⟩
     go_loopw [7] (fun z wr=>∃ m:Nat,m<=i/\z=.int .i64 m/\Below W.heap.size W wr/\Hid (∀ j,j < m->((g.ps.getD j .none).left == pl && (g.ps.getD j .none).right == right)=false)) (fun z _=>i - (intOf z).toNat)
     case atStart=>exact ⟨0,Nat.zero_le _,rfl,hb,fun j hj=>by omega⟩
     case round =>
      clear HW g3' q1' hb
      obtain ⟨m,hm,rfl,hb,HA⟩:=hrel
      have HW:Hid (PB g ⟨pl,ra,rc,right,prec⟩ w wr):=HP.out.later hb
      have g3':wr.cell? ⟨w.heap.size,3,none⟩=some (.slice (some ⟨b,off,none⟩) g.ps.length g.pc):=by rw [HW.out.g3,HPA.out]
      have q0':=HW.out.p0
      have q1':=HW.out.p1
      have q2':=HW.out.p2
      simp only at q0' q1' q2'
      by_cases hlm:m < i
      ·have hmp:m < g.ps.length:=by omega
       obtain ⟨b2,off2,e2,_,a0,a1,arow,alen⟩:=HW.out.ahead hmp
       rw [HPA.out] at e2
       simp only [Option.some.injEq,Addr.mk.injEq] at e2
       obtain ⟨rfl,rfl,_⟩:=e2
       have HIT:Hid (((g.ps.getD m .none).left == pl && (g.ps.getD m .none).right == right)=true->((g.ps.take i).any fun q=>q.left == pl && q.right == right)=true):=fun e=>by
        rw [List.any_eq_true]
        refine ⟨g.ps.getD m .none,?_,e⟩
        rw [List.mem_take_iff_getElem]
        exact ⟨m,by omega,by simp [List.getD,hmp]⟩
       have HST:Hid (((g.ps.getD m .none).left == pl && (g.ps.getD m .none).right == right)=false->∀ j,j < m+1->((g.ps.getD j .none).left == pl && (g.ps.getD j .none).right == right)=false):=fun e j hj=>by
        rcases Nat.lt_succ_iff_lt_or_eq.1 hj with r | rfl
        ·exact HA.out j r
        ·exact e
       generalize g.ps.getD m .none=P at *
       obtain ⟨xl,xa,xc,xr,xp⟩:=P
       simp only at a0 a1 arow alen HIT HST
       have HR:Hid (∀ d,SymRow (wr.drewN d) xa xr/\SymRow (wr.drewN d) ra right):=fun d=>⟨arow.later (Nat.le_refl _) (bDn (Below.refl _ _) d),HW.out.row.later (Nat.le_refl _) (bDn (Below.refl _ _) d)⟩
       have HLs:Hid (xr.length<=140737488355328/\right.length<=140737488355328):=⟨by omega,by omega⟩
       clear arow
       by_cases hxl:xl=pl
       ·subst hxl
        have t1:(xl == xl)=true:=by simp
        by_cases hxr:xr=right
        ·have HU2:Hid (prodQ g i ⟨xl,ra,rc,right,prec⟩=6):=by
          show _=_
          rw [HU1.out,if_pos (HIT.out (by simp [hxr]))]
         have HE:Hid ((xr == right)=true):=by show _=_;simp [hxr]
         clear HIT HST HU1 hxr
         go_wp2
         go_quiet ((go_at_call 55;(exact Calls.quiet_of (samesyms_b xa ra xc rc xr right (wr.drewN _) true HE.out HLs.out.1 HLs.out.2 (HR.out _).1 (HR.out _).2))))
         go_wp2
         go_ret
         exact ⟨by rw [HU2.out];rfl,HB0.out.trans ((bDn hb _).mono HB0.out.size)⟩
        ·have HS1:Hid _:=HST.out (by simp [hxr])
         have HE:Hid ((xr == right)=false):=by show _=_;simp [hxr]
         clear HIT HST hxr
         go_wp2
         go_quiet ((go_at_call 55;(exact Calls.quiet_of (samesyms_b xa ra xc rc xr right (wr.drewN _) false HE.out HLs.out.1 HLs.out.2 (HR.out _).1 (HR.out _).2))))
         go_wp2
         go_roundw
         case rel=>exact ⟨m+1,by omega,by go_num,bDn hb _,HS1.out⟩
         case measure=>simp [intOf];omega
       ·have t1:(xl == pl)=false:=by simpa using hxl
        have HS1:Hid _:=HST.out (by simp [hxl])
        clear HIT HST hxl
        go_wp2
        go_quiet (fail)
        go_wp2
        go_roundw
        case rel=>exact ⟨m+1,by omega,by go_num,bDn hb _,HS1.out⟩
        case measure=>simp [intOf];omega
      ·have HNA:Hid (((g.ps.take i).any fun q=>q.left == pl && q.right == right)=false):=by
        show _=_
        rw [List.any_eq_false]
        intro x hx
        rw [List.mem_take_iff_getElem] at hx
        obtain ⟨j,hj,rfl⟩:=hx
        have:=HA.out j (by omega)
        have hj2:j < g.ps.length:=by omega
        simp only [List.getD,List.getElem?_eq_getElem hj2,Option.getD_some] at this
        rw [this]
        decide
       have HU2:Hid (prodQ g i ⟨pl,ra,rc,right,prec⟩=if prec≠-1/\inT g prec=false then 38 else 0):=by
        show _=_
        rw [HU1.out,HNA.out]
        rfl
       have g0':=HW.out.g0
       clear HU1 HNA HA
       by_cases hp:prec < -1∨prec ≥ g.ts.length
       ·have HU3:Hid (prodQ g i ⟨pl,ra,rc,right,prec⟩=38):=by
         show _=_
         rw [HU2.out,if_pos]
         refine ⟨by omega,?_⟩
         unfold inT
         simp
         omega
        clear HU2
        by_cases hp1:prec < -1
        ·have t1:decide (prec < -1)=true:=by simpa using hp1
         clear hp hp1
         go_wp2
         go_ret
         exact ⟨by rw [HU3.out];rfl,HB0.out.trans (hb.mono HB0.out.size)⟩
        ·have t1:decide (prec < -1)=false:=by simpa using hp1
         have t2:decide (prec ≥ (g.ts.length:Int))=true:=by simp;omega
         clear hp hp1
         go_wp2
         go_ret
         exact ⟨by rw [HU3.out];rfl,HB0.out.trans (hb.mono HB0.out.size)⟩
       ·have HU3:Hid (prodQ g i ⟨pl,ra,rc,right,prec⟩=0):=by
         show _=_
         rw [HU2.out,if_neg]
         rintro ⟨h1,h2⟩
         unfold inT at h2
         simp at h2
         omega
        have t1:decide (prec < -1)=false:=by simp;omega
        have t2:decide (prec ≥ (g.ts.length:Int))=false:=by simp;omega
        clear hp HU2
        go_wp2
        go_ret
        exact ⟨by rw [HU3.out];rfl,HB0.out.trans (hb.mono HB0.out.size)⟩
set_option maxHeartbeats 1000000 in
theorem sameints_g (ao bo:Option Addr)(n m ca cb:Nat)(ss:List Int)(w:World)(hn:n=ss.length)(hm:m=ss.length)(hl:ss.length<=140737488355328)(hr:InRow w ao ss)(hs:InRow w bo ss) :
  Calls Tryz.prog 17 #[.slice ao n ca,.slice bo m cb] w fun e w'=>e=.returned (.bool true)/\∃ d,w'=w.drewN d:=by
 subst hn hm
 have hb:((ss.length:Int) != ss.length)=false:=by simp
 go_enter Tryz.func17,Tryz.ntmps17
 go_wp2
 go_loopw [5] (fun i wr=>∃ k d:Nat,k<=ss.length/\i=.int .i64 k/\wr=w.drewN d) (fun i _=>ss.length - (intOf i).toNat)
 case atStart=>exact ⟨0,0,Nat.zero_le _,rfl,rfl⟩
 case round =>
  obtain ⟨k,d,hk,rfl,rfl⟩:=hrel
  by_cases hlt:k < ss.length
  ·obtain ⟨b,off,rfl,_,hc⟩:=hr (by intro h;subst h;simp at hlt)
   obtain ⟨b2,off2,rfl,_,hc2⟩:=hs (by intro h;subst h;simp at hlt)
   have h1:=hc k hlt
   have h2:=hc2 k hlt
   clear hc hc2 hr hs
   generalize ss.getD k 0=x at *
   have het:(x != x)=false:=by simp
   go_wp2
   go_quiet (fail)
   go_wp2
   go_roundw
   case rel=>exact ⟨k+1,_,by omega,by go_num,rfl⟩
   case measure=>simp [intOf];omega
  ·go_wp2
   go_ret
   exact ⟨rfl,_,rfl⟩
end Go.Proofs.YteciabdjkaackaaGreat
