import Derived.Test.YthaamdognbncnaaGreatDoorPGSame3ToGSame6
import Derived.Test.YthaamdognbncnaaGreatDoorPKCore2ToKApart
import Derived.Test.YthaamdognbncnaaGreatDoorPGOk2ToGT13
namespace Go.Proofs.YthaamdognbncnaaGreatDoor
set_option linter.unusedVariables false
set_option maxRecDepth 100000
set_option maxHeartbeats 16000000
open Go.RowKit
structure Small (g:GV):Prop where
 ts:g.ts=[⟨#[120]⟩]
 ns:g.ns=[⟨#[83]⟩]
 st:g.start=0
 ps:g.ps.map PV.core=[(0,[(1,0)],-1)]
 ls:g.ls=[]
def smallV:GV:=⟨none,0,[⟨#[120]⟩],none,0,[⟨#[83]⟩],0,none,0,[⟨0,none,0,[(1,0)],-1⟩],none,0,[]⟩
theorem Small.same {g:GV}(h:Small g):SameG smallV g:=⟨h.ts,h.ns,h.st,h.ps,by rw [h.ls];rfl⟩
theorem small_checkV:cG_ smallV (cF_ smallV.ts smallV.ns)=(0,0):=by decide +kernel
theorem Small.check {g:GV}(h:Small g):cG_ g (cF_ g.ts g.ns)=(0,0):=(same_check h.same).trans small_checkV
theorem Small.one {g:GV}(h:Small g):∃ a c,g.ps=[⟨0,a,c,[(1,0)],-1⟩]:=by
 have hp:=h.ps
 match hq:g.ps with
 | []=>rw [hq] at hp;simp at hp
 | ⟨l,a,c,r,q⟩ :: x :: y=>rw [hq] at hp;simp at hp
 | [⟨l,a,c,r,q⟩] =>
  rw [hq] at hp
  simp [PV.core] at hp
  obtain ⟨rfl,rfl,rfl⟩:=hp
  exact ⟨a,c,rfl⟩
def gVoid:GV:=⟨none,0,[],none,0,[],0,none,0,[],none,0,[]⟩
theorem Small.frame {g:GV}(h:Small g):(C.frame 1 (encG g)).length<=140737488355328:=by
 obtain ⟨a,c,hp⟩:=h.one
 have e:encG g=encG smallV:=by
  unfold encG
  rw [h.ts,h.ns,h.st,hp,h.ls]
  rfl
 rw [e]
 decide +kernel
theorem BoxG.of {g:GV}{b:Nat}{w:World}{t:TypeId}{fz:Nat×Nat}(h:w.heap[b]?=some (.cells #[.slice g.ta g.ts.length g.tc,.slice g.na g.ns.length g.nc,.int .i64 g.start,.slice g.pa g.ps.length g.pc,.slice g.la g.ls.length g.lc] t fz)):BoxG g b w :=
 ⟨(cQa h).trans rfl,(cQa h).trans rfl,(cQa h).trans rfl,(cQa h).trans rfl,(cQa h).trans rfl,lt_of_block h⟩
abbrev bxG (g:GV):Obj:=.cells #[.slice g.ta g.ts.length g.tc,.slice g.na g.ns.length g.nc,.int .i64 g.start,.slice g.pa g.ps.length g.pc,.slice g.la g.ls.length g.lc] 26
structure BG (g:GV)(b:Nat)(w:World):Prop where
 box:w.heap[b]?=some (bxG g)
 at_:GAt 140737488355328 w g
 cap:g.ps.length<=g.pc
theorem BG.later {g:GV}{b:Nat}{w w':World}(h:BG g b w)(hb:Below w.heap.size w w'):BG g b w':=⟨(hb.block _ (lt_of_block h.box)).trans h.box,h.at_.later hb,h.cap⟩
theorem BG.new {g:GV}{w:World}(h:GAt 140737488355328 w g)(hc:g.ps.length<=g.pc):BG g w.heap.size (w.alloc (bxG g)):=⟨heap_alloc_new _ _,h.later (bAl _ _),hc⟩
theorem BG.cells {g:GV}{b:Nat}{w:World}(h:BG g b w):w.cell? ⟨b,0,none⟩=some (.slice g.ta g.ts.length g.tc)/\w.cell? ⟨b,1,none⟩=some (.slice g.na g.ns.length g.nc)/\w.cell? ⟨b,2,none⟩=some (.int .i64 g.start)/\w.cell? ⟨b,3,none⟩=some (.slice g.pa g.ps.length g.pc)/\w.cell? ⟨b,4,none⟩=some (.slice g.la g.ls.length g.lc) :=
 ⟨(cQa h.box).trans rfl,(cQa h.box).trans rfl,(cQa h.box).trans rfl,(cQa h.box).trans rfl,(cQa h.box).trans rfl⟩
open Go.RowKit Go.Maps
def Put (w:World)(lo hi:Nat)(t:TypeId)(sz:Nat)(a:Option Addr)(n c:Nat)(X:List Value):Prop :=
 n≠0->w.ownsRow 0 t sz (.slice a n c) n X/\a=some ⟨ablk a,0,none⟩/\lo<=ablk a/\ablk a < hi
theorem kG_pl (i:Nat):kG.te i≠45/\∀ j,kG.te i≠kG.tl j:=⟨(kG_ok.qe i).symm,kG_ok.el i⟩
theorem Put.keep {w w':World}{lo hi:Nat}{t:TypeId}{sz:Nat}{a:Option Addr}{n c:Nat}{X:List Value}(h:Put w lo hi t sz a n c X)(hq:KQ kG w w')(i:Nat)(ht:kG.te i=t):Put w' lo hi t sz a n c X:=fun hn=>by
 subst ht
 exact ⟨hq.row (kG_pl i).1 (kG_pl i).2 (h hn).1,(h hn).2⟩
theorem Put.hi {w:World}{lo hi hi':Nat}{t:TypeId}{sz:Nat}{a:Option Addr}{n c:Nat}{X:List Value}(h:Put w lo hi t sz a n c X)(hh:hi<=hi'):Put w lo hi' t sz a n c X:=fun hn=>⟨(h hn).1,(h hn).2.1,(h hn).2.2.1,Nat.lt_of_lt_of_le (h hn).2.2.2 hh⟩
theorem Put.of_own {w:World}{lo:Nat}{t:TypeId}{sz:Nat}{a:Option Addr}{n c:Nat}{X:List Value}(h:w.ownsRow 0 t sz (.slice a n c) n X)(hl:∀ j,(Value.slice a n c).ownBlock=some j->lo<=j):Put w lo w.heap.size t sz a n c X:=fun hn=>by
 refine ⟨h,?_⟩
 rcases h.2 with ⟨_,e⟩ | ⟨g,cap,cur,e,_,hb,_⟩
 ·exact absurd e hn
 ·simp only [Value.slice.injEq] at e
  obtain ⟨rfl,_⟩:=e
  exact ⟨rfl,hl g rfl,lt_of_block hb⟩
theorem Put.of_rb {w:World}{lo b c sz n:Nat}{t:TypeId}{X:List Value}(h:RB w b t X c sz)(hl:X.length=n*sz)(hz:0 < sz)(hlo:lo<=b):Put w lo w.heap.size t sz (some ⟨b,0,none⟩) n c X:=fun _=>by
 have hn:n<=c:=by
  obtain ⟨cur,_,h2,_,h4,_⟩:=h
  rw [hl,h4] at h2
  exact Nat.le_of_mul_le_mul_right h2 hz
 exact ⟨h.own hl hn,rfl,hlo,h.lt⟩
theorem Put.nil {w:World}{lo hi:Nat}{t:TypeId}{sz:Nat}{a:Option Addr}{c:Nat}{X:List Value}:Put w lo hi t sz a 0 c X:=fun h=>absurd rfl h
structure OG (lo hi:Nat)(w:World)(g:GV):Prop where
 t:Put w lo hi 9 1 g.ta g.ts.length g.tc (g.ts.map .string)
 n_:Put w lo hi 9 1 g.na g.ns.length g.nc (g.ns.map .string)
 tn:g.ts.length≠0->g.ns.length≠0->ablk g.ta≠ablk g.na
 p:Put w lo hi 68 3 g.pa g.ps.length g.pc (pCl g.ps)
 r:∀ i,i < g.ps.length->Put w lo hi 62 2 (g.ps.getD i .none).ra (g.ps.getD i .none).right.length (g.ps.getD i .none).rc (sCl (g.ps.getD i .none).right)
 rr:∀ i j,i < j->j < g.ps.length->(g.ps.getD i .none).right.length≠0->(g.ps.getD j .none).right.length≠0->ablk (g.ps.getD i .none).ra≠ablk (g.ps.getD j .none).ra
 l:Put w lo hi 90 2 g.la g.ls.length g.lc (levCells g.ls)
 v:∀ i,i < g.ls.length->Put w lo hi 3 1 (g.ls.getD i .none).ta (g.ls.getD i .none).terms.length (g.ls.getD i .none).tc ((g.ls.getD i .none).terms.map (.int .i64 ·))
 vv:∀ i j,i < j->j < g.ls.length->(g.ls.getD i .none).terms.length≠0->(g.ls.getD j .none).terms.length≠0->ablk (g.ls.getD i .none).ta≠ablk (g.ls.getD j .none).ta
 sz:g.ts.length<=900/\g.ns.length<=900/\g.ps.length<=900/\g.ls.length<=900
 rl:∀ i,i < g.ps.length->(g.ps.getD i .none).right.length<=900
 vl:∀ i,i < g.ls.length->(g.ls.getD i .none).terms.length<=900
theorem OG.keep {lo hi:Nat}{w w':World}{g:GV}(h:OG lo hi w g)(hq:KQ kG w w'):OG lo hi w' g :=
 ⟨h.t.keep hq 2 rfl,h.n_.keep hq 2 rfl,h.tn,h.p.keep hq 10 rfl,fun i hi=>(h.r i hi).keep hq 4 rfl,h.rr,h.l.keep hq 11 rfl,fun i hi=>(h.v i hi).keep hq 1 rfl,h.vv,h.sz,h.rl,h.vl⟩
theorem OG.later {lo hi:Nat}{w w':World}{g:GV}(h:OG lo hi w g)(hb:Below w.heap.size w w'):OG lo hi w' g:=h.keep (KQ.of hb)
theorem Put.mono {w:World}{lo lo' hi hi':Nat}{t:TypeId}{sz:Nat}{a:Option Addr}{n c:Nat}{X:List Value}(h:Put w lo hi t sz a n c X)(hl:lo'<=lo)(hh:hi<=hi'):Put w lo' hi' t sz a n c X:=fun hn=>⟨(h hn).1,(h hn).2.1,Nat.le_trans hl (h hn).2.2.1,Nat.lt_of_lt_of_le (h hn).2.2.2 hh⟩
theorem OG.mono {lo lo' hi hi':Nat}{w:World}{g:GV}(h:OG lo hi w g)(hl:lo'<=lo)(hh:hi<=hi'):OG lo' hi' w g :=
 ⟨h.t.mono hl hh,h.n_.mono hl hh,h.tn,h.p.mono hl hh,fun i hi=>(h.r i hi).mono hl hh,h.rr,h.l.mono hl hh,fun i hi=>(h.v i hi).mono hl hh,h.vv,h.sz,h.rl,h.vl⟩
theorem OG.void (lo hi:Nat)(w:World):OG lo hi w gVoid :=
 ⟨Put.nil,Put.nil,fun h=>absurd rfl h,Put.nil,fun i hi=>absurd hi (Nat.not_lt_zero i),fun i j _ hj=>absurd hj (Nat.not_lt_zero j),Put.nil,fun i hi=>absurd hi (Nat.not_lt_zero i),fun i j _ hj=>absurd hj (Nat.not_lt_zero j),⟨Nat.zero_le _,Nat.zero_le _,Nat.zero_le _,Nat.zero_le _⟩,fun i hi=>absurd hi (Nat.not_lt_zero i),fun i hi=>absurd hi (Nat.not_lt_zero i)⟩
theorem len_pos {α:Type}{l:List α}(h:l.length≠0):l≠[]:=fun e=>h (by rw [e];rfl)
theorem OkC.rl {g:GV}(ok:OkC g):∀ i,i < g.ps.length->(g.ps.getD i .none).right.length<=900:=fun i hi=>Nat.le_trans (prodOk_of ok i hi).2.1 (by omega)
theorem OkC.vl {g:GV}(ok:OkC g):∀ i,i < g.ls.length->(g.ls.getD i .none).terms.length<=900:=fun i hi=>Nat.le_trans (levOk_of ok i hi).2.1 (by omega)
theorem OkC.szs {g:GV}(ok:OkC g):g.ts.length<=900/\g.ns.length<=900/\g.ps.length<=900/\g.ls.length<=900:=by
 have:=ok.tl.2;have:=ok.nl.2;have:=ok.pl.2;have:=ok.ll
 omega
theorem MG.og {B:Nat}{w:World}{g:GV}{A H E pb lb tb nb:Nat}(h:MG B w g A H E pb lb tb nb)(ok:OkC g):OG B w.heap.size w g:=by
 have ho:=h.ord
 refine ⟨?_,?_,?_,?_,fun i hi=>?_,fun i j hij hj hi0 hj0=>?_,?_,fun i hi=>?_,fun i j hij hj hi0 hj0=>?_,ok.szs,ok.rl,ok.vl⟩
 ·rw [h.t.1];exact Put.of_rb h.t.2.1 (by simp) (by omega) h.t.2.2.2
 ·rw [h.n_.1];exact Put.of_rb h.n_.2.1 (by simp) (by omega) h.n_.2.2.2
 ·intro _ _;rw [h.t.1,h.n_.1];exact h.tn
 ·rw [h.pa];exact Put.of_rb h.p.row (proCells_len _) (by omega) (Nat.le_trans ho.1 h.p.lo.1)
 ·intro hn
  obtain ⟨e1,e2,_,e4⟩:=h.p.each i hi (len_pos hn)
  have hP:=Put.of_rb (lo:=B) e4 (n:=(g.ps.getD i .none).right.length) (symCells_len _) (by omega) (Nat.le_trans ho.1 e2.1) hn
  rw [<- e1] at hP
  exact hP
 ·exact h.p.two i j (by omega) hj (by omega) (len_pos hi0) (len_pos hj0)
 ·by_cases hl:g.ls=[]
  ·rw [hl];exact Put.nil
  ·obtain ⟨e1,hL⟩:=h.l hl
   rw [e1];exact Put.of_rb hL.row (levCells_len _) (by omega) (Nat.le_trans (Nat.le_trans ho.1 ho.2.1) hL.lo.1)
 ·intro hn
  have hl:g.ls≠[]:=by intro e;rw [e] at hi;exact absurd hi (Nat.not_lt_zero i)
  obtain ⟨e1,e2,_,e4⟩:=(h.l hl).2.each i hi (len_pos hn)
  have hP:=Put.of_rb (lo:=B) e4 (n:=(g.ls.getD i .none).terms.length) (by simp) (by omega) (Nat.le_trans (Nat.le_trans ho.1 ho.2.1) e2.1) hn
  rw [<- e1] at hP
  exact hP
 ·have hl:g.ls≠[]:=by intro e;rw [e] at hj;exact absurd hj (Nat.not_lt_zero j)
  exact (h.l hl).2.two i j (by omega) hj (by omega) (len_pos hi0) (len_pos hj0)
theorem getD_of {α:Type}{l:List α}{d:α}{i:Nat}(h:i < l.length):l.getD i d=l[i]:=by simp [List.getD,h]
theorem DG.og {B:Nat}{w:World}{g:GV}(h:DG B w g)(ok:OkC g):OG B w.heap.size w g:=by
 have hb:∀ {a:Option Addr} {n c:Nat},a=some ⟨ablk a,0,none⟩->(Value.slice a n c).ownBlock=some (ablk a):=fun {a n c} e=>by rw [e];rfl
 have pr:∀ i,i < g.ps.length->Put w B w.heap.size 62 2 (g.ps.getD i .none).ra (g.ps.getD i .none).right.length (g.ps.getD i .none).rc (sCl (g.ps.getD i .none).right):=fun i hi=>by
  have hm:g.ps.getD i .none∈g.ps:=by rw [getD_of hi];exact List.getElem_mem hi
  exact Put.of_own (h.p.each _ hm) (fun j hj=>(h.p.apart _ hm j hj).1)
 have lv:∀ i,i < g.ls.length->Put w B w.heap.size 3 1 (g.ls.getD i .none).ta (g.ls.getD i .none).terms.length (g.ls.getD i .none).tc ((g.ls.getD i .none).terms.map (.int .i64 ·)):=fun i hi=>by
  have hm:g.ls.getD i .none∈g.ls:=by rw [getD_of hi];exact List.getElem_mem hi
  exact Put.of_own (h.l.each _ hm) (fun j hj=>(h.l.apart _ hm j hj).1)
 have ht:Put w B w.heap.size 9 1 g.ta g.ts.length g.tc (g.ts.map .string):=Put.of_own h.t.1 h.t.2
 have hn:Put w B w.heap.size 9 1 g.na g.ns.length g.nc (g.ns.map .string):=Put.of_own h.n_.1 h.n_.2
 refine ⟨ht,hn,fun h1 h2 e=>?_,Put.of_own h.p.row h.p.lo,pr,fun i j hij hj hi0 hj0 e=>?_,Put.of_own h.l.row h.l.lo,lv,fun i j hij hj hi0 hj0 e=>?_,ok.szs,ok.rl,ok.vl⟩
 ·exact h.tn _ (hb (ht h1).2.1) (by rw [e];exact hb (hn h2).2.1)
 ·have e1:=(pr i (by omega) hi0).2.1
  have e2:=(pr j hj hj0).2.1
  rw [getD_of (show i < g.ps.length by omega)] at e e1
  rw [getD_of hj] at e e2
  exact List.pairwise_iff_getElem.1 h.p.two i j (by omega) hj hij _ (hb e1) (by rw [e];exact hb e2)
 ·have e1:=(lv i (by omega) hi0).2.1
  have e2:=(lv j hj hj0).2.1
  rw [getD_of (show i < g.ls.length by omega)] at e e1
  rw [getD_of hj] at e e2
  exact List.pairwise_iff_getElem.1 h.l.two i j (by omega) hj hij _ (hb e1) (by rw [e];exact hb e2)
structure KS (B:Nat)(w:World)(q:Nat)(V:Nat->Value)(E:Nat->List LE)(m c:Nat):Prop where
 ki:KI kG B w q V E
 no:∀ i,i ∉ [0,1,2,4,5,10,11]->E i=[]
 few:(E 0).length<=c/\(E 2).length<=c
 len:∀ i,(E i).length<=1000*c
 num:∀ i,∀ e∈E i,e.n<=100000000
 lt:∀ i,∀ e∈E i,e.g < m
 cb:c<=900
theorem KS.later {B:Nat}{w w':World}{q:Nat}{V:Nat->Value}{E:Nat->List LE}{m c:Nat}(h:KS B w q V E m c)(hb:Below w.heap.size w w'):KS B w' q V E m c:=⟨h.ki.later hb,h.no,h.few,h.len,h.num,h.lt,h.cb⟩
theorem KS.up {B:Nat}{w:World}{q:Nat}{V:Nat->Value}{E:Nat->List LE}{m m' c:Nat}(h:KS B w q V E m c)(hm:m<=m'):KS B w q V E m' c:=⟨h.ki,h.no,h.few,h.len,h.num,fun i e he=>Nat.lt_of_lt_of_le (h.lt i e he) hm,h.cb⟩
theorem KS.nines {B:Nat}{w:World}{q:Nat}{V:Nat->Value}{E:Nat->List LE}{m c:Nat}(h:KS B w q V E m c)(i:Nat):(E i).length<=100000000:=by have:=h.len i;have:=h.cb;omega
theorem KS.one {B:Nat}{w w':World}{q:Nat}{V V':Nat->Value}{E E':Nat->List LE}{m hi c n c' i:Nat}{a:Option Addr}(h:KS B w q V E m c)(h1:KI kG B w' q V' E')(h2:∀ j,j≠i->E' j=E j)(h3:E' i=E i∨∃ g,a=some ⟨g,0,none⟩/\n≠0/\E' i=E i++[⟨g,n,c'⟩])(hi':i∈[0,1,2,4,5,10,11])(hn:n<=100000000)(hp:n≠0->ablk a < hi)(hm:m<=hi)(hc:c < 900):KS B w' q V' E' hi (c+1):=by
 have hl:∀ j,(E' j).length<=(E j).length+1:=fun j=>by
  by_cases e:j=i
  ·subst e
   rcases h3 with e3 | ⟨g,_,_,e3⟩<;>rw [e3]<;>simp
  ·rw [h2 j e];omega
 have hx:∀ j,∀ e∈E' j,e.n<=100000000/\e.g < hi:=fun j e he=>by
  by_cases ej:j=i
  ·subst ej
   rcases h3 with e3 | ⟨g,ea,hn0,e3⟩
   ·rw [e3] at he;exact ⟨h.num j e he,Nat.lt_of_lt_of_le (h.lt j e he) hm⟩
   ·rw [e3] at he
    rcases List.mem_append.1 he with he | he
    ·exact ⟨h.num j e he,Nat.lt_of_lt_of_le (h.lt j e he) hm⟩
    ·obtain rfl:=List.mem_singleton.1 he
     have:=hp hn0
     rw [ea] at this
     exact ⟨hn,this⟩
  ·rw [h2 j ej] at he;exact ⟨h.num j e he,Nat.lt_of_lt_of_le (h.lt j e he) hm⟩
 refine ⟨h1,fun j hj=>?_,?_,fun j=>?_,fun j e he=>(hx j e he).1,fun j e he=>(hx j e he).2,by omega⟩
 ·rw [h2 j (fun e=>hj (e ▸ hi'))];exact h.no j hj
 ·have:=hl 0;have:=hl 2;have:=h.few;omega
 ·have:=hl j;have:=h.len j;omega
theorem KS.many {B:Nat}{w w':World}{q:Nat}{V V':Nat->Value}{E E':Nat->List LE}{m hi c i:Nat}(h:KS B w q V E m c)(h1:KI kG B w' q V' E')(h2:∀ j,j≠i->E' j=E j)(h3:(E' i).length<=(E i).length+1000)(h4:∀ e∈E' i,e∈E i∨(e.n<=100000000/\e.g < hi))(hi':i∈[1,4])(hm:m<=hi)(hc:c < 900):KS B w' q V' E' hi (c+1):=by
 have hii:i∈[0,1,2,4,5,10,11]:=by simp at hi';rcases hi' with rfl | rfl<;>decide
 have h02:i≠0/\i≠2:=by simp at hi';omega
 have hx:∀ j,∀ e∈E' j,e.n<=100000000/\e.g < hi:=fun j e he=>by
  by_cases ej:j=i
  ·subst ej
   rcases h4 e he with h4 | h4
   ·exact ⟨h.num j e h4,Nat.lt_of_lt_of_le (h.lt j e h4) hm⟩
   ·exact h4
  ·rw [h2 j ej] at he;exact ⟨h.num j e he,Nat.lt_of_lt_of_le (h.lt j e he) hm⟩
 refine ⟨h1,fun j hj=>?_,?_,fun j=>?_,fun j e he=>(hx j e he).1,fun j e he=>(hx j e he).2,by omega⟩
 ·rw [h2 j (fun e=>hj (e ▸ hii))];exact h.no j hj
 ·rw [h2 0 (Ne.symm h02.1),h2 2 (Ne.symm h02.2)];have:=h.few;omega
 ·by_cases ej:j=i
  ·subst ej;have:=h.len j;omega
  ·rw [h2 j ej];have:=h.len j;omega
theorem pro_cell {w:World}{a:Option Addr}{n c:Nat}{l:List PV}(h:w.ownsRow 0 68 3 (.slice a n c) n (pCl l))(ha:a=some ⟨ablk a,0,none⟩){i:Nat}(hi:i < l.length):w.cell? ⟨ablk a,i*3+1,none⟩=some (.slice (l.getD i .none).ra (l.getD i .none).right.length (l.getD i .none).rc):=by
 rw [ha] at h
 exact (RB.of_own h).1.cell (proCells_get l i hi).2.1
theorem lev_cell {w:World}{a:Option Addr}{n c:Nat}{l:List LV}(h:w.ownsRow 0 90 2 (.slice a n c) n (levCells l))(ha:a=some ⟨ablk a,0,none⟩){i:Nat}(hi:i < l.length):w.cell? ⟨ablk a,i*2+1,none⟩=some (.slice (l.getD i .none).ta (l.getD i .none).terms.length (l.getD i .none).tc):=by
 rw [ha] at h
 exact (RB.of_own h).1.cell (levCells_get l i hi).2
theorem Put.lo {w:World}{B lo hi:Nat}{t:TypeId}{sz:Nat}{a:Option Addr}{n c:Nat}{X:List Value}(h:Put w lo hi t sz a n c X)(hB:B<=lo)(l:List LE)(hl:n≠0->∀ x∈l,x.g≠ablk a):n≠0->∀ k,(Value.slice a n c).ownBlock=some k->B<=k/\∀ x∈l,x.g≠k:=fun h0 k hk=>by
 have h1:=(h h0).2
 have e1:k=ablk a:=by rw [h1.1] at hk;simpa [Value.ownBlock] using hk.symm
 subst e1
 exact ⟨Nat.le_trans hB h1.2.1,hl h0⟩
theorem Put.new {w:World}{lo hi:Nat}{t:TypeId}{sz:Nat}{a:Option Addr}{n c:Nat}{X:List Value}(h:Put w lo hi t sz a n c X){l:List LE}(hl:∀ x∈l,x.g < lo):n≠0->∀ x∈l,x.g≠ablk a:=fun h0 x hx e=>by
 have h1:=(h h0).2.2.1
 have h2:=hl x hx
 omega
theorem kG_gr:26≠45/\∀ i,26≠kG.tl i:=⟨by decide,fun i=>by unfold kG;dsimp only;split<;>decide⟩
theorem box_keep {w w':World}{b:Nat}{g:GV}(h:w.heap[b]?=some (bxG g))(hq:KQ kG w w'):w'.heap[b]?=some (bxG g):=(hq.2 b _ _ h kG_gr.1 kG_gr.2).trans h
theorem box_cells {g:GV}{b:Nat}{w':World}(h:w'.heap[b]?=some (bxG g)):w'.cell? ⟨b,0,none⟩=some (.slice g.ta g.ts.length g.tc)/\w'.cell? ⟨b,1,none⟩=some (.slice g.na g.ns.length g.nc)/\w'.cell? ⟨b,2,none⟩=some (.int .i64 g.start)/\w'.cell? ⟨b,3,none⟩=some (.slice g.pa g.ps.length g.pc)/\w'.cell? ⟨b,4,none⟩=some (.slice g.la g.ls.length g.lc) :=
 ⟨(cQa h).trans rfl,(cQa h).trans rfl,(cQa h).trans rfl,(cQa h).trans rfl,(cQa h).trans rfl⟩
theorem book_Prods (B q:Nat)(V:Nat->Value)(E:Nat->List LE)(w:World)(m hi c:Nat)(hS:KS B w q V E hi c)(hlt:∀ i,i=4∨i=10->∀ e∈E i,e.g < m)(hB:B<=m)(g:GV)(hg:OG m hi w g)(hc:c < 890) :
  Calls Tryz.prog 34 #[.pointer (some ⟨q,0,none⟩),.slice g.pa g.ps.length g.pc] w fun e w'=>e=.returned (.tuple #[])/\∃ V' E',KS B w' q V' E' hi (c+2)/\(∀ j,j≠4->j≠10->E' j=E j)/\Below B w w'/\KQ kG w w':=by
 have HS:Hid (KS B w q V E hi c):=hS
 have HLT:Hid (∀ i,i=4∨i=10->∀ e∈E i,e.g < m):=hlt
 have HG:Hid (OG m hi w g):=hg
 have HB:Hid (B<=m/\c < 890):=⟨hB,hc⟩
 have hpl:=hg.sz.2.2.1
 clear hS hg hB hc hlt
 go_enter Tryz.func34,Tryz.ntmps34
 go_wp2
 go_loopw [4] (fun z wr=>∃ (k:Nat) (V':Nat->Value) (E':Nat->List LE),k<=g.ps.length/\z=.int .i64 k/\KI kG B wr q V' E'/\(∀ j,j≠4->E' j=E j)/\(E' 4).length<=(E 4).length+k/\(∀ x∈E' 4,x∈E 4∨∃ j,j < k/\(g.ps.getD j .none).right.length≠0/\x.g=ablk (g.ps.getD j .none).ra/\x.n=(g.ps.getD j .none).right.length)/\Below B w wr/\KQ kG w wr) (fun z _=>g.ps.length - (intOf z).toNat)
 case atStart=>exact ⟨0,V,E,Nat.zero_le _,rfl,HS.out.ki,fun _ _=>rfl,Nat.le_refl _,fun x hx=>.inl hx,Below.refl _ _,KQ.refl _ _⟩
 case round =>
  obtain ⟨k,V',E',hk,rfl,hK,hE,hl,hx,hb,hq⟩:=hrel
  by_cases hlt:k < g.ps.length
  ·have hp:=HG.out.p.keep hq 10 rfl (by omega)
   have c0:=pro_cell hp.1 hp.2.1 hlt
   have klt:(k:Int) < (g.ps.length:Int):=by omega
   have hr:=(HG.out.r k hlt).keep hq 4 rfl
   have HC:Hid (KI kG B wr q V' E'/\(∀ j,j≠4->E' j=E j)/\(E' 4).length<=(E 4).length+k/\(∀ x∈E' 4,x∈E 4∨∃ j,j < k/\(g.ps.getD j .none).right.length≠0/\x.g=ablk (g.ps.getD j .none).ra/\x.n=(g.ps.getD j .none).right.length)/\Below B w wr/\KQ kG w wr):=⟨hK,hE,hl,hx,hb,hq⟩
   have CALL:Hid (Calls Tryz.prog 12 #[.pointer (some ⟨q,0,none⟩),.slice (g.ps.getD k .none).ra (g.ps.getD k .none).right.length (g.ps.getD k .none).rc] wr fun e w'=>e=.returned (.tuple #[])/\∃ V1 E1,KI kG B w' q V1 E1/\(∀ i,i≠4->E1 i=E' i)/\(E1 4=E' 4∨∃ b,(g.ps.getD k .none).ra=some ⟨b,0,none⟩/\(g.ps.getD k .none).right.length≠0/\E1 4=E' 4++[⟨b,(g.ps.getD k .none).right.length,(g.ps.getD k .none).rc⟩])/\Below B wr w'/\KQ kG wr w'):=by
    refine book_symsW kG kG_ok B q V' E' wr _ _ _ (sCl (g.ps.getD k .none).right) hK ⟨rfl,rfl,rfl⟩ (fun h0=>(hr h0).1) (fun h0 j hj=>?_) ?_
    ·have h1:=(hr h0).2
     have e1:j=ablk (g.ps.getD k .none).ra:=by rw [h1.1] at hj;simpa [Value.ownBlock] using hj.symm
     subst e1
     refine ⟨Nat.le_trans HB.out.1 h1.2.1,fun x hx' e2=>?_⟩
     rcases hx x hx' with h3 | ⟨j,hj1,hj2,hj3,_⟩
     ·have:=HLT.out 4 (.inl rfl) x h3;omega
     ·exact HG.out.rr j k hj1 hlt hj2 h0 (hj3.symm.trans e2)
    ·have:=HS.out.len 4;have:=HB.out.2;omega
   obtain ⟨pa,hpa⟩:∃ pa,g.pa=some ⟨pa,0,none⟩:=⟨_,hp.2.1⟩
   rw [hpa] at c0
   rw [hpa]
   simp only [ablk] at c0
   generalize hY:g.ps.getD k .none=y at *
   have HY:Hid (g.ps.getD k .none=y):=hY
   clear hK hE hl hx hb hq hp hr hY hpa
   go_wp2_with (go_at_call 12;refine CALL.out.mono ?_;rintro e w2 ⟨rfl,V1,E1,k1,i1,d1,b1,q1⟩)
   go_roundw
   case rel =>
    obtain ⟨hK,hE,hl,hx,hb,hq⟩:=HC.out
    refine ⟨k+1,V1,E1,by omega,by go_num,k1,fun j hj=>(i1 j hj).trans (hE j hj),?_,fun x hx'=>?_,hb.trans b1,hq.trans q1⟩
    ·rcases d1 with e | ⟨b,_,_,e⟩<;>rw [e]
     ·omega
     ·rw [List.length_append,List.length_singleton];omega
    ·have old:x∈E' 4->x∈E 4∨∃ j,j < k+1/\(g.ps.getD j .none).right.length≠0/\x.g=ablk (g.ps.getD j .none).ra/\x.n=(g.ps.getD j .none).right.length:=fun h=>by
      rcases hx x h with h | ⟨j,h1,h2⟩
      ·exact .inl h
      ·exact .inr ⟨j,by omega,h2⟩
     rcases d1 with e | ⟨b,e0,e1,e⟩
     ·exact old (e ▸ hx')
     ·rw [e] at hx'
      rcases List.mem_append.1 hx' with h | h
      ·exact old h
      ·obtain rfl:=List.mem_singleton.1 h
       refine .inr ⟨k,by omega,?_⟩
       rw [HY.out]
       exact ⟨e1,by rw [e0];rfl,rfl⟩
   case measure=>simp [intOf];omega
  ·obtain rfl:k=g.ps.length:=by omega
   have H1:Hid (KS B wr q V' E' hi (c+1)):=HS.out.many (i:=4) hK hE (by omega) (fun x hx'=>by
    rcases hx x hx' with h | ⟨j,h1,h2,h3,h4⟩
    ·exact .inl h
    ·exact .inr ⟨by rw [h4];have:=HG.out.rl j h1;omega,by rw [h3];exact (HG.out.r j h1 h2).2.2.2⟩) (by decide) (Nat.le_refl _) (by have:=HB.out;omega)
   have HQ:Hid (Below B w wr/\KQ kG w wr/\(∀ j,j≠4->E' j=E j)):=⟨hb,hq,hE⟩
   have hp:=HG.out.p.keep hq 10 rfl
   have CALL:Hid (Calls Tryz.prog 73 #[.pointer (some ⟨q,0,none⟩),.slice g.pa g.ps.length g.pc] wr fun e w'=>e=.returned (.tuple #[])/\∃ V1 E1,KI kG B w' q V1 E1/\(∀ i,i≠10->E1 i=E' i)/\(E1 10=E' 10∨∃ b,g.pa=some ⟨b,0,none⟩/\g.ps.length≠0/\E1 10=E' 10++[⟨b,g.ps.length,g.pc⟩])/\Below B wr w'/\KQ kG wr w'):=by
    refine book_prods kG kG_ok B q V' E' wr _ _ _ (pCl g.ps) hK ⟨rfl,rfl,rfl⟩ (fun h0=>(hp h0).1) (fun h0 j hj=>?_) ?_
    ·have h1:=(hp h0).2
     have e1:j=ablk g.pa:=by rw [h1.1] at hj;simpa [Value.ownBlock] using hj.symm
     subst e1
     refine ⟨Nat.le_trans HB.out.1 h1.2.1,fun x hx' e2=>?_⟩
     rw [hE 10 (by decide)] at hx'
     have:=HLT.out 10 (.inr rfl) x hx'
     omega
    ·exact H1.out.nines 10
   clear hK hE hl hx hb hq hp
   go_wp2_with (go_at_call 73;refine CALL.out.mono ?_;rintro e w2 ⟨rfl,V1,E1,k1,i1,d1,b1,q1⟩)
   go_end0
   refine ⟨rfl,V1,E1,H1.out.one (i:=10) k1 i1 d1 (by decide) (by have:=HG.out.sz;omega) (fun h=>(HG.out.p h).2.2.2) (Nat.le_refl _) (by have:=HB.out;omega),fun j h4 h10=>(i1 j h10).trans (HQ.out.2.2 j h4),HQ.out.1.trans b1,HQ.out.2.1.trans q1⟩
theorem book_Grammar (B q:Nat)(V:Nat->Value)(E:Nat->List LE)(w:World)(m hi c:Nat)(hS:KS B w q V E m c)(hB:B<=m)(hm:m<=hi)(g:GV)(hg:OG m hi w g)(hc:c < 880) :
  Calls Tryz.prog 13 #[.pointer (some ⟨q,0,none⟩),g.val] w fun e w'=>e=.returned (.tuple #[])/\∃ V' E',KS B w' q V' E' hi (c+6)/\Below B w w'/\KQ kG w w':=by
 have HLT:Hid (∀ i,∀ e∈E i,e.g < m):=hS.lt
 have S0:Hid (KS B (w.alloc (bxG g)) q V E m c):=hS.later (bAl _ _)
 have G0:Hid (OG m hi (w.alloc (bxG g)) g):=hg.later (bAl _ _)
 have X0:Hid ((w.alloc (bxG g)).heap[w.heap.size]?=some (bxG g)):=heap_alloc_new _ _
 have F0:Hid (Below B w (w.alloc (bxG g))/\KQ kG w (w.alloc (bxG g))):=⟨(bAl w _).mono hS.ki.size,KQ.of (bAl _ _)⟩
 have HB:Hid (B<=m/\m<=hi/\c < 880):=⟨hB,hm,hc⟩
 have GZ:Hid (g.ts.length<=900/\g.ns.length<=900/\g.ps.length<=900/\g.ls.length<=900):=hg.sz
 have hll:=hg.sz.2.2.2
 obtain ⟨x0,x1,x2,x3,x4⟩:=box_cells X0.out
 clear hS hg hB hm hc
 go_enter Tryz.func13,Tryz.ntmps13
 go_wp2_with (first
  | (go_at_call 33;refine (book_strsG kG kG_ok B q V1 E1 w1 g.na g.ns.length g.nc (g.ns.map .string) K1.out.ki ⟨rfl,rfl,rfl⟩ (fun h0=>(G1.out.n_ h0).1) (G1.out.n_.lo HB.out.1 _ (fun h0 x hx e=>(by rcases I1.out.2 with e1 | ⟨b,ea,hn0,e1⟩;(rw [e1] at hx;have:=HLT.out 2 x hx;have:=(G1.out.n_ h0).2.2.1;omega);(rw [e1] at hx;rcases List.mem_append.1 hx with hx | hx;(have:=HLT.out 2 x hx;have:=(G1.out.n_ h0).2.2.1;omega);(obtain rfl:=List.mem_singleton.1 hx;exact G1.out.tn hn0 h0 (by rw [ea];exact e)))))) (K1.out.nines 2)).mono ?_;rintro e w2 ⟨rfl,V2,E2,k2,i2,d2,b2,q2⟩;have K2:Hid (KS B w2 q V2 E2 hi (c+2)):=K1.out.one (i:=2) k2 i2 d2 (by decide) (by have:=GZ.out;omega) (fun h=>(G1.out.n_ h).2.2.2) (Nat.le_refl _) (by have:=HB.out;omega);have I2:Hid (∀ j,j≠2->E2 j=E j):=(fun j hj=>(i2 j hj).trans (I1.out.1 j hj));have F2:Hid (Below B w w2/\KQ kG w w2):=⟨F1.out.1.trans b2,F1.out.2.trans q2⟩;have G2:Hid (OG m hi w2 g):=G1.out.keep q2;have X2:Hid (w2.heap[w.heap.size]?=some (bxG g)):=box_keep X1.out q2;clear x0 x1 x2 x3 x4;obtain ⟨x0,x1,x2,x3,x4⟩:=box_cells X2.out;clear k2 i2 d2 b2 q2)
  | (go_at_call 33;refine (book_strsG kG kG_ok B q V E _ g.ta g.ts.length g.tc (g.ts.map .string) S0.out.ki ⟨rfl,rfl,rfl⟩ (fun h0=>(G0.out.t h0).1) (G0.out.t.lo HB.out.1 _ (G0.out.t.new (HLT.out 2))) (S0.out.nines 2)).mono ?_;rintro e w1 ⟨rfl,V1,E1,k1,i1,d1,b1,q1⟩;have K1:Hid (KS B w1 q V1 E1 hi (c+1)):=S0.out.one (i:=2) k1 i1 d1 (by decide) (by have:=GZ.out;omega) (fun h=>(G0.out.t h).2.2.2) HB.out.2.1 (by have:=HB.out;omega);have I1:Hid ((∀ j,j≠2->E1 j=E j)/\(E1 2=E 2∨∃ b,g.ta=some ⟨b,0,none⟩/\g.ts.length≠0/\E1 2=E 2++[⟨b,g.ts.length,g.tc⟩])):=⟨i1,d1⟩;have F1:Hid (Below B w w1/\KQ kG w w1):=⟨F0.out.1.trans b1,F0.out.2.trans q1⟩;have G1:Hid (OG m hi w1 g):=G0.out.keep q1;have X1:Hid (w1.heap[w.heap.size]?=some (bxG g)):=box_keep X0.out q1;clear x0 x1 x2 x3 x4;obtain ⟨x0,x1,x2,x3,x4⟩:=box_cells X1.out;clear k1 i1 d1 b1 q1)
  | (go_at_call 34;refine (book_Prods B q V2 E2 w2 m hi (c+2) K2.out (fun i hi=>(by rcases hi with rfl | rfl;(rw [I2.out 4 (by decide)];exact HLT.out 4);(rw [I2.out 10 (by decide)];exact HLT.out 10))) HB.out.1 g G2.out (by have:=HB.out;omega)).mono ?_;rintro e w3 ⟨rfl,V3,E3,k3,i3,b3,q3⟩;have K3:Hid (KS B w3 q V3 E3 hi (c+4)):=k3;have I3:Hid (E3 1=E 1/\E3 11=E 11):=⟨(i3 1 (by decide) (by decide)).trans (I2.out 1 (by decide)),(i3 11 (by decide) (by decide)).trans (I2.out 11 (by decide))⟩;have F3:Hid (Below B w w3/\KQ kG w w3):=⟨F2.out.1.trans b3,F2.out.2.trans q3⟩;have G3:Hid (OG m hi w3 g):=G2.out.keep q3;have X3:Hid (w3.heap[w.heap.size]?=some (bxG g)):=box_keep X2.out q3;clear x0 x1 x2 x3 x4;clear k3 i3 b3 q3))
 go_loopw [4] (fun z wr=>∃ (k:Nat) (V':Nat->Value) (E':Nat->List LE),k<=g.ls.length/\z=.int .i64 k/\KI kG B wr q V' E'/\(∀ j,j≠1->E' j=E3 j)/\(E' 1).length<=(E3 1).length+k/\(∀ x∈E' 1,x∈E3 1∨∃ j,j < k/\(g.ls.getD j .none).terms.length≠0/\x.g=ablk (g.ls.getD j .none).ta/\x.n=(g.ls.getD j .none).terms.length)/\Below B w3 wr/\KQ kG w3 wr) (fun z _=>g.ls.length - (intOf z).toNat)
 case atStart=>exact ⟨0,V3,E3,Nat.zero_le _,rfl,K3.out.ki,fun _ _=>rfl,Nat.le_refl _,fun x hx=>.inl hx,Below.refl _ _,KQ.refl _ _⟩
 case round =>
  obtain ⟨k,V',E',hk,rfl,hK,hE,hl,hx,hb,hq⟩:=hrel
  obtain ⟨x0,x1,x2,x3,x4⟩:=box_cells (box_keep X3.out hq)
  by_cases hlt:k < g.ls.length
  ·have hp:=G3.out.l.keep hq 11 rfl (by omega)
   have c0:=lev_cell hp.1 hp.2.1 hlt
   have klt:(k:Int) < (g.ls.length:Int):=by omega
   have hr:=(G3.out.v k hlt).keep hq 1 rfl
   have HC:Hid (KI kG B wr q V' E'/\(∀ j,j≠1->E' j=E3 j)/\(E' 1).length<=(E3 1).length+k/\(∀ x∈E' 1,x∈E3 1∨∃ j,j < k/\(g.ls.getD j .none).terms.length≠0/\x.g=ablk (g.ls.getD j .none).ta/\x.n=(g.ls.getD j .none).terms.length)/\Below B w3 wr/\KQ kG w3 wr):=⟨hK,hE,hl,hx,hb,hq⟩
   have CALL:Hid (Calls Tryz.prog 11 #[.pointer (some ⟨q,0,none⟩),.slice (g.ls.getD k .none).ta (g.ls.getD k .none).terms.length (g.ls.getD k .none).tc] wr fun e w'=>e=.returned (.tuple #[])/\∃ V1 E1,KI kG B w' q V1 E1/\(∀ i,i≠1->E1 i=E' i)/\(E1 1=E' 1∨∃ b,(g.ls.getD k .none).ta=some ⟨b,0,none⟩/\(g.ls.getD k .none).terms.length≠0/\E1 1=E' 1++[⟨b,(g.ls.getD k .none).terms.length,(g.ls.getD k .none).tc⟩])/\Below B wr w'/\KQ kG wr w'):=by
    refine book_ints kG kG_ok B q V' E' wr _ _ _ ((g.ls.getD k .none).terms.map (.int .i64 ·)) hK ⟨rfl,rfl,rfl⟩ (fun h0=>(hr h0).1) (hr.lo HB.out.1 _ fun h0 x hx' e2=>?_) ?_
    ·rcases hx x hx' with h3 | ⟨j,hj1,hj2,hj3,_⟩
     ·rw [I3.out.1] at h3
      have:=HLT.out 1 x h3
      have:=(hr h0).2.2.1
      omega
     ·exact G3.out.vv j k hj1 hlt hj2 h0 (hj3.symm.trans e2)
    ·have:=K3.out.len 1;have:=HB.out;omega
   obtain ⟨la,hla⟩:∃ la,g.la=some ⟨la,0,none⟩:=⟨_,hp.2.1⟩
   rw [hla] at c0 x4
   simp only [ablk] at c0
   generalize hY:g.ls.getD k .none=y at *
   have HY:Hid (g.ls.getD k .none=y):=hY
   clear hK hE hl hx hb hq hp hr hY hla
   go_wp2_with (go_at_call 11;refine CALL.out.mono ?_;rintro e w4 ⟨rfl,V4,E4,k4,i4,d4,b4,q4⟩)
   go_roundw
   case rel =>
    obtain ⟨hK,hE,hl,hx,hb,hq⟩:=HC.out
    refine ⟨k+1,V4,E4,by omega,by go_num,k4,fun j hj=>(i4 j hj).trans (hE j hj),?_,fun x hx'=>?_,hb.trans b4,hq.trans q4⟩
    ·rcases d4 with e | ⟨b,_,_,e⟩<;>rw [e]
     ·omega
     ·rw [List.length_append,List.length_singleton];omega
    ·have old:x∈E' 1->x∈E3 1∨∃ j,j < k+1/\(g.ls.getD j .none).terms.length≠0/\x.g=ablk (g.ls.getD j .none).ta/\x.n=(g.ls.getD j .none).terms.length:=fun h=>by
      rcases hx x h with h | ⟨j,h1,h2⟩
      ·exact .inl h
      ·exact .inr ⟨j,by omega,h2⟩
     rcases d4 with e | ⟨b,e0,e1,e⟩
     ·exact old (e ▸ hx')
     ·rw [e] at hx'
      rcases List.mem_append.1 hx' with h | h
      ·exact old h
      ·obtain rfl:=List.mem_singleton.1 h
       refine .inr ⟨k,by omega,?_⟩
       rw [HY.out]
       exact ⟨e1,by rw [e0];rfl,rfl⟩
   case measure=>simp [intOf];omega
  ·obtain rfl:k=g.ls.length:=by omega
   have H1:Hid (KS B wr q V' E' hi (c+5)):=K3.out.many (i:=1) hK hE (by omega) (fun x hx'=>by
    rcases hx x hx' with h | ⟨j,h1,h2,h3,h4⟩
    ·exact .inl h
    ·exact .inr ⟨by rw [h4];have:=G3.out.vl j h1;omega,by rw [h3];exact (G3.out.v j h1 h2).2.2.2⟩) (by decide) (Nat.le_refl _) (by have:=HB.out;omega)
   have HQ:Hid (Below B w wr/\KQ kG w wr):=⟨F3.out.1.trans hb,F3.out.2.trans hq⟩
   have hp:=G3.out.l.keep hq 11 rfl
   have CALL:Hid (Calls Tryz.prog 35 #[.pointer (some ⟨q,0,none⟩),.slice g.la g.ls.length g.lc] wr fun e w'=>e=.returned (.tuple #[])/\∃ V1 E1,KI kG B w' q V1 E1/\(∀ i,i≠11->E1 i=E' i)/\(E1 11=E' 11∨∃ b,g.la=some ⟨b,0,none⟩/\g.ls.length≠0/\E1 11=E' 11++[⟨b,g.ls.length,g.lc⟩])/\Below B wr w'/\KQ kG wr w'):=by
    refine book_levels kG kG_ok B q V' E' wr _ _ _ (levCells g.ls) hK ⟨rfl,rfl,rfl⟩ (fun h0=>(hp h0).1) (hp.lo HB.out.1 _ (hp.new fun x hx'=>?_)) (H1.out.nines 11)
    rw [hE 11 (by decide),I3.out.2] at hx'
    exact HLT.out 11 x hx'
   clear hK hE hl hx hb hq hp
   go_wp2_with (go_at_call 35;refine CALL.out.mono ?_;rintro e w4 ⟨rfl,V4,E4,k4,i4,d4,b4,q4⟩)
   go_end0
   exact ⟨rfl,V4,E4,H1.out.one (i:=11) k4 i4 d4 (by decide) (by have:=GZ.out;omega) (fun h=>(G3.out.l h).2.2.2) (Nat.le_refl _) (by have:=HB.out;omega),HQ.out.1.trans b4,HQ.out.2.trans q4⟩
end Go.Proofs.YthaamdognbncnaaGreatDoor
