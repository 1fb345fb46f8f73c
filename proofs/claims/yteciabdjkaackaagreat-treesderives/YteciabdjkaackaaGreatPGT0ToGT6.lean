import Derived.Test.YteciabdjkaackaaGreatPTT2ToRegX
import Derived.Shelf.SlicesQ.Reverse
import Derived.Test.YteciabdjkaackaaGreatPGOkToGCheckR
namespace Go.Proofs.YteciabdjkaackaaGreat
set_option linter.unusedVariables false
open Go.RowKit
def PV.rev (p:PV):PV:={ p with right:=p.right.reverse }
def GV.rev (g:GV):GV:={ g with ps:=g.ps.map PV.rev }
def RB (w:World)(b:Nat)(t:TypeId)(xs:List Value)(c s:Nat):Prop:=∃ cur,w.heap[b]?=some (.cells cur t (0,0))/\xs.length<=cur.size/\cur.toList.take xs.length=xs/\cur.size=c*s/\c<=maxLen
theorem RB.lt {w:World}{b:Nat}{t:TypeId}{xs:List Value}{c s:Nat}(h:RB w b t xs c s):b < w.heap.size:=by
 obtain ⟨cur,h1,_⟩:=h
 exact lt_of_block h1
theorem RB.kept {w w':World}{b:Nat}{t:TypeId}{xs:List Value}{c s:Nat}(h:RB w b t xs c s)(hb:w'.heap[b]?=w.heap[b]?):RB w' b t xs c s:=by
 obtain ⟨cur,h1,h2⟩:=h
 exact ⟨cur,hb.trans h1,h2⟩
theorem RB.later {w w':World}{b:Nat}{t:TypeId}{xs:List Value}{c s:Nat}(h:RB w b t xs c s)(hb:Below w.heap.size w w'):RB w' b t xs c s:=h.kept (hb.block b h.lt)
theorem RB.cell {w:World}{b:Nat}{t:TypeId}{xs:List Value}{c s:Nat}(h:RB w b t xs c s){i:Nat}{u:Value}(hi:xs[i]?=some u):w.cell? ⟨b,i,none⟩=some u:=by
 obtain ⟨cur,h1,h2,h3,_⟩:=h
 rw [cQa h1]
 have hlt:i < xs.length:=(List.getElem?_eq_some_iff.1 hi).1
 rw [<- h3,List.getElem?_take] at hi
 rw [if_pos hlt] at hi
 simpa using hi
theorem RB.free {w:World}{b:Nat}{t:TypeId}{xs:List Value}{c s:Nat}(h:RB w b t xs c s)(i:Nat):w.frozen? ⟨b,i,none⟩=false:=by
 obtain ⟨cur,h1,_⟩:=h
 simp [World.frozen?,h1]
theorem RB.set {w:World}{b:Nat}{t:TypeId}{xs:List Value}{c s:Nat}(h:RB w b t xs c s)(i:Nat)(u:Value):RB (w.setCell ⟨b,i,none⟩ u) b t (xs.set i u) c s:=by
 obtain ⟨cur,h1,h2,h3,h4,h5⟩:=h
 refine ⟨_,hSt h1 i u,by simpa using h2,?_,by simpa using h4,h5⟩
 rw [Array.toList_setIfInBounds,List.length_set,List.take_set,h3]
theorem RB.other {w:World}{b b':Nat}{t:TypeId}{xs:List Value}{c s:Nat}(h:RB w b t xs c s)(hne:b≠b')(i:Nat)(u:Value):RB (w.setCell ⟨b',i,none⟩ u) b t xs c s:=h.kept (Below.heap_setCell _ _ _ _ hne)
theorem RB.of_own {w:World}{base:Nat}{t:TypeId}{sz g n c:Nat}{xs:List Value}(h:w.ownsRow base t sz (.slice (some ⟨g,0,none⟩) n c) n xs):RB w g t xs c sz/\base<=g/\n<=c:=by
 obtain ⟨hl,h | ⟨g',cap,cur,e,h1,h2,h3,h4,h5,h6⟩⟩:=h
 ·exact absurd h.1 (by simp)
 ·simp only [Value.slice.injEq,Option.some.injEq,Addr.mk.injEq,true_and,and_true] at e
  obtain ⟨rfl,rfl⟩:=e
  exact ⟨⟨cur,h2,by rw [h5,hl];exact Nat.mul_le_mul_right _ h3,by rw [hl];exact h6,h5,h4⟩,h1,h3⟩
set_option maxRecDepth 100000 in
set_option maxHeartbeats 1000000 in
theorem clone_str (ao:Option Addr)(n c:Nat)(news:List Value)(w:World)(hl:news.length=n*1)(hn:n<=1048576)(hc:news≠[]->∃ b off,ao=some ⟨b,off,none⟩/\b < w.heap.size/\∀ j u,news[j]?=some u->w.cell? ⟨b,off+j,none⟩=some u)(h1:∀ u∈news,u.oneCell'=true) :
  Calls Tryz.prog 132 #[.slice ao n c] w fun e w'=>∃ a' c',e=.returned (.slice a' n c')/\(n≠0->∃ b,a'=some ⟨b,0,none⟩/\w.heap.size<=b/\RB w' b 9 news c' 1)/\n<=c'/\Below w.heap.size w w':=by
 have hne:=fun wx a n c=>Lib.run_eql_slice_nil (P:=Tryz.prog) (w:=wx) 59 9 a n c 0 0 Tryz.underlying59
 have HH:Hid (∀ u∈news,u.oneCell'=true):=h1
 cases ao with
 | none =>
  have h0:n=0:=by
   by_cases e:news=[]
   ·subst e;simp at hl;omega
   ·obtain ⟨b,off,e',_⟩:=hc e
    cases e'
  subst h0
  clear hc h1
  go_enter Tryz.func132,Tryz.ntmps132
  go_wp2
  go_ret
  exact ⟨none,0,rfl,fun e=>absurd rfl e,Nat.le_refl _,Below.refl _ _⟩
 | some ad =>
  have hcc:Hid (∀ j u,news[j]?=some u->(w.alloc (.cells #[] 9)).cell? (ad.add j)=some u):=fun j u hu=>by
   obtain ⟨b,off,e,hb,hcell⟩:=hc (fun e=>by subst e;simp at hu)
   cases e
   rw [aNn]
   exact ((bAl w _).cell (p:=⟨b,off+j,none⟩) hb).trans (hcell j u hu)
  obtain ⟨i0,hi,hz0,hz1,hz2⟩:=infoStr_parts
  clear hc h1
  go_enter Tryz.func132,Tryz.ntmps132
  go_wp2_with (at_builtin;refine wpList_append_own_at _ rfl _ _ 59 rfl w.heap.size 9 i0 _ 1 16 Tryz.underlying59 hi hz0 hz1 hz2 rfl (by decide) _ 0 [] rfl (World.ownsRow_made w #[] 0 (Nat.le_refl _) (Nat.zero_le _) rfl) ad n c news rfl hl hcc.out HH.out (by unfold maxLen;omega) (by omega) (by simp) ?_)
  intro v' w1 hown hgrow hnil _
  go_wp2
  go_ret
  obtain ⟨g,cap,rfl⟩:∃ g cap,v'=.slice (some ⟨g,0,none⟩) n cap:=by
   rcases hown.2 with ⟨e,_⟩ | ⟨g,cap,cur,e,_⟩
   ·exact absurd e hnil
   ·exact ⟨g,cap,by simpa using e⟩
  have hown':w1.ownsRow w.heap.size 9 1 (.slice (some ⟨g,0,none⟩) n cap) n news:=by simpa using hown
  obtain ⟨hr,hb,hcap⟩:=RB.of_own hown'
  exact ⟨_,cap,rfl,fun _=>⟨g,rfl,hb,hr⟩,hcap,(bAl w _).grown hgrow (by simp) (fun k e=>by simp [Value.ownBlock] at e;omega)⟩
set_option maxRecDepth 100000 in
set_option maxHeartbeats 1000000 in
theorem clone_prod (ao:Option Addr)(n c:Nat)(news:List Value)(w:World)(hl:news.length=n*3)(hn:n<=1048576)(hc:news≠[]->∃ b off,ao=some ⟨b,off,none⟩/\b < w.heap.size/\∀ j u,news[j]?=some u->w.cell? ⟨b,off+j,none⟩=some u)(h1:∀ u∈news,u.oneCell'=true) :
  Calls Tryz.prog 133 #[.slice ao n c] w fun e w'=>∃ a' c',e=.returned (.slice a' n c')/\(n≠0->∃ b,a'=some ⟨b,0,none⟩/\w.heap.size<=b/\RB w' b 116 news c' 3)/\n<=c'/\Below w.heap.size w w':=by
 have hne:=fun wx a n c=>Lib.run_eql_slice_nil (P:=Tryz.prog) (w:=wx) 60 116 a n c 0 0 Tryz.underlying60
 have HH:Hid (∀ u∈news,u.oneCell'=true):=h1
 cases ao with
 | none =>
  have h0:n=0:=by
   by_cases e:news=[]
   ·subst e;simp at hl;omega
   ·obtain ⟨b,off,e',_⟩:=hc e
    cases e'
  subst h0
  clear hc h1
  go_enter Tryz.func133,Tryz.ntmps133
  go_wp2
  go_ret
  exact ⟨none,0,rfl,fun e=>absurd rfl e,Nat.le_refl _,Below.refl _ _⟩
 | some ad =>
  have hcc:Hid (∀ j u,news[j]?=some u->(w.alloc (.cells #[] 116)).cell? (ad.add j)=some u):=fun j u hu=>by
   obtain ⟨b,off,e,hb,hcell⟩:=hc (fun e=>by subst e;simp at hu)
   cases e
   rw [aNn]
   exact ((bAl w _).cell (p:=⟨b,off+j,none⟩) hb).trans (hcell j u hu)
  obtain ⟨i0,hi,hz0,hz1,hz2⟩:=infoPro_parts
  clear hc h1
  go_enter Tryz.func133,Tryz.ntmps133
  go_wp2_with (at_builtin;refine wpList_append_own_at _ rfl _ _ 60 rfl w.heap.size 116 i0 _ 3 40 Tryz.underlying60 hi hz0 hz1 hz2 rfl (by decide) _ 0 [] rfl (World.ownsRow_made w #[] 0 (Nat.le_refl _) (Nat.zero_le _) rfl) ad n c news rfl hl hcc.out HH.out (by unfold maxLen;omega) (by omega) (by simp) ?_)
  intro v' w1 hown hgrow hnil _
  go_wp2
  go_ret
  obtain ⟨g,cap,rfl⟩:∃ g cap,v'=.slice (some ⟨g,0,none⟩) n cap:=by
   rcases hown.2 with ⟨e,_⟩ | ⟨g,cap,cur,e,_⟩
   ·exact absurd e hnil
   ·exact ⟨g,cap,by simpa using e⟩
  have hown':w1.ownsRow w.heap.size 116 3 (.slice (some ⟨g,0,none⟩) n cap) n news:=by simpa using hown
  obtain ⟨hr,hb,hcap⟩:=RB.of_own hown'
  exact ⟨_,cap,rfl,fun _=>⟨g,rfl,hb,hr⟩,hcap,(bAl w _).grown hgrow (by simp) (fun k e=>by simp [Value.ownBlock] at e;omega)⟩
set_option maxRecDepth 100000 in
set_option maxHeartbeats 1000000 in
theorem clone_sym (ao:Option Addr)(n c:Nat)(news:List Value)(w:World)(hl:news.length=n*2)(hn:n<=1048576)(hc:news≠[]->∃ b off,ao=some ⟨b,off,none⟩/\b < w.heap.size/\∀ j u,news[j]?=some u->w.cell? ⟨b,off+j,none⟩=some u)(h1:∀ u∈news,u.oneCell'=true) :
  Calls Tryz.prog 134 #[.slice ao n c] w fun e w'=>∃ a' c',e=.returned (.slice a' n c')/\(n≠0->∃ b,a'=some ⟨b,0,none⟩/\w.heap.size<=b/\RB w' b 82 news c' 2)/\n<=c'/\Below w.heap.size w w':=by
 have hne:=fun wx a n c=>Lib.run_eql_slice_nil (P:=Tryz.prog) (w:=wx) 100 82 a n c 0 0 Tryz.underlying100
 have HH:Hid (∀ u∈news,u.oneCell'=true):=h1
 cases ao with
 | none =>
  have h0:n=0:=by
   by_cases e:news=[]
   ·subst e;simp at hl;omega
   ·obtain ⟨b,off,e',_⟩:=hc e
    cases e'
  subst h0
  clear hc h1
  go_enter Tryz.func134,Tryz.ntmps134
  go_wp2
  go_ret
  exact ⟨none,0,rfl,fun e=>absurd rfl e,Nat.le_refl _,Below.refl _ _⟩
 | some ad =>
  have hcc:Hid (∀ j u,news[j]?=some u->(w.alloc (.cells #[] 82)).cell? (ad.add j)=some u):=fun j u hu=>by
   obtain ⟨b,off,e,hb,hcell⟩:=hc (fun e=>by subst e;simp at hu)
   cases e
   rw [aNn]
   exact ((bAl w _).cell (p:=⟨b,off+j,none⟩) hb).trans (hcell j u hu)
  obtain ⟨i0,hi,hz0,hz1,hz2⟩:=infoSym_parts
  clear hc h1
  go_enter Tryz.func134,Tryz.ntmps134
  go_wp2_with (at_builtin;refine wpList_append_own_at _ rfl _ _ 100 rfl w.heap.size 82 i0 _ 2 16 Tryz.underlying100 hi hz0 hz1 hz2 rfl (by decide) _ 0 [] rfl (World.ownsRow_made w #[] 0 (Nat.le_refl _) (Nat.zero_le _) rfl) ad n c news rfl hl hcc.out HH.out (by unfold maxLen;omega) (by omega) (by simp) ?_)
  intro v' w1 hown hgrow hnil _
  go_wp2
  go_ret
  obtain ⟨g,cap,rfl⟩:∃ g cap,v'=.slice (some ⟨g,0,none⟩) n cap:=by
   rcases hown.2 with ⟨e,_⟩ | ⟨g,cap,cur,e,_⟩
   ·exact absurd e hnil
   ·exact ⟨g,cap,by simpa using e⟩
  have hown':w1.ownsRow w.heap.size 82 2 (.slice (some ⟨g,0,none⟩) n cap) n news:=by simpa using hown
  obtain ⟨hr,hb,hcap⟩:=RB.of_own hown'
  exact ⟨_,cap,rfl,fun _=>⟨g,rfl,hb,hr⟩,hcap,(bAl w _).grown hgrow (by simp) (fun k e=>by simp [Value.ownBlock] at e;omega)⟩
set_option maxRecDepth 100000 in
set_option maxHeartbeats 1000000 in
theorem clone_lev (ao:Option Addr)(n c:Nat)(news:List Value)(w:World)(hl:news.length=n*2)(hn:n<=1048576)(hc:news≠[]->∃ b off,ao=some ⟨b,off,none⟩/\b < w.heap.size/\∀ j u,news[j]?=some u->w.cell? ⟨b,off+j,none⟩=some u)(h1:∀ u∈news,u.oneCell'=true) :
  Calls Tryz.prog 135 #[.slice ao n c] w fun e w'=>∃ a' c',e=.returned (.slice a' n c')/\(n≠0->∃ b,a'=some ⟨b,0,none⟩/\w.heap.size<=b/\RB w' b 120 news c' 2)/\n<=c'/\Below w.heap.size w w':=by
 have hne:=fun wx a n c=>Lib.run_eql_slice_nil (P:=Tryz.prog) (w:=wx) 61 120 a n c 0 0 Tryz.underlying61
 have HH:Hid (∀ u∈news,u.oneCell'=true):=h1
 cases ao with
 | none =>
  have h0:n=0:=by
   by_cases e:news=[]
   ·subst e;simp at hl;omega
   ·obtain ⟨b,off,e',_⟩:=hc e
    cases e'
  subst h0
  clear hc h1
  go_enter Tryz.func135,Tryz.ntmps135
  go_wp2
  go_ret
  exact ⟨none,0,rfl,fun e=>absurd rfl e,Nat.le_refl _,Below.refl _ _⟩
 | some ad =>
  have hcc:Hid (∀ j u,news[j]?=some u->(w.alloc (.cells #[] 120)).cell? (ad.add j)=some u):=fun j u hu=>by
   obtain ⟨b,off,e,hb,hcell⟩:=hc (fun e=>by subst e;simp at hu)
   cases e
   rw [aNn]
   exact ((bAl w _).cell (p:=⟨b,off+j,none⟩) hb).trans (hcell j u hu)
  obtain ⟨i0,hi,hz0,hz1,hz2⟩:=infoLev_parts
  clear hc h1
  go_enter Tryz.func135,Tryz.ntmps135
  go_wp2_with (at_builtin;refine wpList_append_own_at _ rfl _ _ 61 rfl w.heap.size 120 i0 _ 2 32 Tryz.underlying61 hi hz0 hz1 hz2 rfl (by decide) _ 0 [] rfl (World.ownsRow_made w #[] 0 (Nat.le_refl _) (Nat.zero_le _) rfl) ad n c news rfl hl hcc.out HH.out (by unfold maxLen;omega) (by omega) (by simp) ?_)
  intro v' w1 hown hgrow hnil _
  go_wp2
  go_ret
  obtain ⟨g,cap,rfl⟩:∃ g cap,v'=.slice (some ⟨g,0,none⟩) n cap:=by
   rcases hown.2 with ⟨e,_⟩ | ⟨g,cap,cur,e,_⟩
   ·exact absurd e hnil
   ·exact ⟨g,cap,by simpa using e⟩
  have hown':w1.ownsRow w.heap.size 120 2 (.slice (some ⟨g,0,none⟩) n cap) n news:=by simpa using hown
  obtain ⟨hr,hb,hcap⟩:=RB.of_own hown'
  exact ⟨_,cap,rfl,fun _=>⟨g,rfl,hb,hr⟩,hcap,(bAl w _).grown hgrow (by simp) (fun k e=>by simp [Value.ownBlock] at e;omega)⟩
set_option maxRecDepth 100000 in
set_option maxHeartbeats 1000000 in
theorem clone_int (ao:Option Addr)(n c:Nat)(news:List Value)(w:World)(hl:news.length=n*1)(hn:n<=1048576)(hc:news≠[]->∃ b off,ao=some ⟨b,off,none⟩/\b < w.heap.size/\∀ j u,news[j]?=some u->w.cell? ⟨b,off+j,none⟩=some u)(h1:∀ u∈news,u.oneCell'=true) :
  Calls Tryz.prog 112 #[.slice ao n c] w fun e w'=>∃ a' c',e=.returned (.slice a' n c')/\(n≠0->∃ b,a'=some ⟨b,0,none⟩/\w.heap.size<=b/\RB w' b 3 news c' 1)/\n<=c'/\Below w.heap.size w w':=by
 have hne:=fun wx a n c=>Lib.run_eql_slice_nil (P:=Tryz.prog) (w:=wx) 55 3 a n c 0 0 Tryz.underlying55
 have HH:Hid (∀ u∈news,u.oneCell'=true):=h1
 cases ao with
 | none =>
  have h0:n=0:=by
   by_cases e:news=[]
   ·subst e;simp at hl;omega
   ·obtain ⟨b,off,e',_⟩:=hc e
    cases e'
  subst h0
  clear hc h1
  go_enter Tryz.func112,Tryz.ntmps112
  go_wp2
  go_ret
  exact ⟨none,0,rfl,fun e=>absurd rfl e,Nat.le_refl _,Below.refl _ _⟩
 | some ad =>
  have hcc:Hid (∀ j u,news[j]?=some u->(w.alloc (.cells #[] 3)).cell? (ad.add j)=some u):=fun j u hu=>by
   obtain ⟨b,off,e,hb,hcell⟩:=hc (fun e=>by subst e;simp at hu)
   cases e
   rw [aNn]
   exact ((bAl w _).cell (p:=⟨b,off+j,none⟩) hb).trans (hcell j u hu)
  obtain ⟨i0,hi,hz0,hz1,hz2⟩:=infoInt_parts
  clear hc h1
  go_enter Tryz.func112,Tryz.ntmps112
  go_wp2_with (at_builtin;refine wpList_append_own_at _ rfl _ _ 55 rfl w.heap.size 3 i0 _ 1 8 Tryz.underlying55 hi hz0 hz1 hz2 rfl (by decide) _ 0 [] rfl (World.ownsRow_made w #[] 0 (Nat.le_refl _) (Nat.zero_le _) rfl) ad n c news rfl hl hcc.out HH.out (by unfold maxLen;omega) (by omega) (by simp) ?_)
  intro v' w1 hown hgrow hnil _
  go_wp2
  go_ret
  obtain ⟨g,cap,rfl⟩:∃ g cap,v'=.slice (some ⟨g,0,none⟩) n cap:=by
   rcases hown.2 with ⟨e,_⟩ | ⟨g,cap,cur,e,_⟩
   ·exact absurd e hnil
   ·exact ⟨g,cap,by simpa using e⟩
  have hown':w1.ownsRow w.heap.size 3 1 (.slice (some ⟨g,0,none⟩) n cap) n news:=by simpa using hown
  obtain ⟨hr,hb,hcap⟩:=RB.of_own hown'
  exact ⟨_,cap,rfl,fun _=>⟨g,rfl,hb,hr⟩,hcap,(bAl w _).grown hgrow (by simp) (fun k e=>by simp [Value.ownBlock] at e;omega)⟩
def ablk (a:Option Addr):Nat:=match a with
 | some x=>x.block
 | none=>0
theorem proCells_set {l:List PV}{k:Nat}{q:PV}(hk:k < l.length):pCl (l.set k q)=(((pCl l).set (k*3) (.int .i64 q.left)).set (k*3+1) (.slice q.ra q.right.length q.rc)).set (k*3+2) (.int .i64 q.prec):=by
 induction l generalizing k with
 | nil=>simp at hk
 | cons a r ih =>
  cases k with
  | zero=>simp [pCl]
  | succ k =>
   have e1:∀ m:List PV,pCl (a :: m)=.int .i64 a.left :: .slice a.ra a.right.length a.rc :: .int .i64 a.prec :: pCl m:=fun m=>rfl
   rw [List.set_cons_succ,e1,e1,ih (by simpa using hk),show (k+1)*3=k*3+1+1+1 by omega,show k*3+1+1+1+1=(k*3+1)+1+1+1 by omega,show k*3+1+1+1+2=(k*3+2)+1+1+1 by omega]
   simp only [List.set_cons_succ]
theorem levCells_set {l:List LV}{k:Nat}{q:LV}(hk:k < l.length):levCells (l.set k q)=((levCells l).set (k*2) (.int .i64 q.assoc)).set (k*2+1) (.slice q.ta q.terms.length q.tc):=by
 induction l generalizing k with
 | nil=>simp at hk
 | cons a r ih =>
  cases k with
  | zero=>simp [levCells]
  | succ k =>
   have e1:∀ m:List LV,levCells (a :: m)=.int .i64 a.assoc :: .slice a.ta a.terms.length a.tc :: levCells m:=fun m=>rfl
   rw [List.set_cons_succ,e1,e1,ih (by simpa using hk),show (k+1)*2=k*2+1+1 by omega,show k*2+1+1+1=(k*2+1)+1+1 by omega]
   simp only [List.set_cons_succ]
theorem set_same {α:Type}{l:List α}{k:Nat}{x:α}(h:l[k]?=some x):l.set k x=l:=by
 obtain ⟨hk,rfl⟩:=List.getElem?_eq_some_iff.1 h
 exact List.set_getElem_self hk
theorem getD_set_eq {α:Type}{l:List α}{k:Nat}{q d:α}(hk:k < l.length):(l.set k q).getD k d=q:=by simp [List.getD,hk]
theorem getD_set_ne {α:Type}{l:List α}{k i:Nat}{q d:α}(h:i≠k):(l.set k q).getD i d=l.getD i d:=by
 simp only [List.getD,List.getElem?_set]
 rw [if_neg (fun e=>h e.symm)]
structure PM (B H:Nat)(w:World)(pb pc k:Nat)(l:List PV):Prop where
 row:RB w pb 116 (pCl l) pc 3
 lo:B<=pb/\pb < H
 each:∀ i,i < k->(l.getD i .none).right≠[]->(l.getD i .none).ra=some ⟨ablk (l.getD i .none).ra,0,none⟩/\(B<=ablk (l.getD i .none).ra/\ablk (l.getD i .none).ra < H)/\ablk (l.getD i .none).ra≠pb/\RB w (ablk (l.getD i .none).ra) 82 (sCl (l.getD i .none).right) (l.getD i .none).rc 2
 two:∀ i j,i < k->j < k->i≠j->(l.getD i .none).right≠[]->(l.getD j .none).right≠[]->ablk (l.getD i .none).ra≠ablk (l.getD j .none).ra
structure LMt (B H:Nat)(w:World)(pb pc k:Nat)(l:List LV):Prop where
 row:RB w pb 120 (levCells l) pc 2
 lo:B<=pb/\pb < H
 each:∀ i,i < k->(l.getD i .none).terms≠[]->(l.getD i .none).ta=some ⟨ablk (l.getD i .none).ta,0,none⟩/\(B<=ablk (l.getD i .none).ta/\ablk (l.getD i .none).ta < H)/\ablk (l.getD i .none).ta≠pb/\RB w (ablk (l.getD i .none).ta) 3 ((l.getD i .none).terms.map (.int .i64 ·)) (l.getD i .none).tc 1
 two:∀ i j,i < k->j < k->i≠j->(l.getD i .none).terms≠[]->(l.getD j .none).terms≠[]->ablk (l.getD i .none).ta≠ablk (l.getD j .none).ta
theorem PM.kept {B H:Nat}{w w':World}{pb pc k:Nat}{l:List PV}(h:PM B H w pb pc k l)(hb:∀ j,B<=j->j < H->w'.heap[j]?=w.heap[j]?):PM B H w' pb pc k l :=
 ⟨h.row.kept (hb _ h.lo.1 h.lo.2),h.lo,fun i hi hr=>⟨(h.each i hi hr).1,(h.each i hi hr).2.1,(h.each i hi hr).2.2.1,(h.each i hi hr).2.2.2.kept (hb _ (h.each i hi hr).2.1.1 (h.each i hi hr).2.1.2)⟩,h.two⟩
theorem LMt.kept {B H:Nat}{w w':World}{pb pc k:Nat}{l:List LV}(h:LMt B H w pb pc k l)(hb:∀ j,B<=j->j < H->w'.heap[j]?=w.heap[j]?):LMt B H w' pb pc k l :=
 ⟨h.row.kept (hb _ h.lo.1 h.lo.2),h.lo,fun i hi hr=>⟨(h.each i hi hr).1,(h.each i hi hr).2.1,(h.each i hi hr).2.2.1,(h.each i hi hr).2.2.2.kept (hb _ (h.each i hi hr).2.1.1 (h.each i hi hr).2.1.2)⟩,h.two⟩
theorem PM.mono {B H H':Nat}{w:World}{pb pc k:Nat}{l:List PV}(h:PM B H w pb pc k l)(hH:H<=H'):PM B H' w pb pc k l :=
 ⟨h.row,⟨h.lo.1,Nat.lt_of_lt_of_le h.lo.2 hH⟩,fun i hi hr=>⟨(h.each i hi hr).1,⟨(h.each i hi hr).2.1.1,Nat.lt_of_lt_of_le (h.each i hi hr).2.1.2 hH⟩,(h.each i hi hr).2.2⟩,h.two⟩
theorem PM.later {B H:Nat}{w w':World}{pb pc k:Nat}{l:List PV}(h:PM B H w pb pc k l)(hH:H<=w.heap.size)(hb:Below w.heap.size w w'):PM B H w' pb pc k l:=h.kept fun j _ hj=>hb.block j (Nat.lt_of_lt_of_le hj hH)
theorem LMt.later {B H:Nat}{w w':World}{pb pc k:Nat}{l:List LV}(h:LMt B H w pb pc k l)(hH:H<=w.heap.size)(hb:Below w.heap.size w w'):LMt B H w' pb pc k l:=h.kept fun j _ hj=>hb.block j (Nat.lt_of_lt_of_le hj hH)
theorem PM.push {B H:Nat}{w:World}{pb pc k:Nat}{l:List PV}(h:PM B H w pb pc k l)(hk:k < l.length)(a:Option Addr)(c:Nat)(H':Nat)(hH:H<=H')
  (hn:(l.getD k .none).right≠[]->∃ b,a=some ⟨b,0,none⟩/\H<=b/\b < H'/\RB w b 82 (sCl (l.getD k .none).right) c 2) :
  PM B H' (w.setCell ⟨pb,k*3+1,none⟩ (.slice a (l.getD k .none).right.length c)) pb pc (k+1) (l.set k { l.getD k .none with ra:=a,rc:=c }):=by
 have hg:=proCells_get l k hk
 have hcs:pCl (l.set k { l.getD k .none with ra:=a,rc:=c })=(pCl l).set (k*3+1) (.slice a (l.getD k .none).right.length c):=by
  rw [proCells_set hk,set_same hg.1,List.set_comm _ _ (by omega),set_same hg.2.2]
 have hB:=h.lo.1
 refine ⟨hcs ▸ h.row.set _ _,⟨h.lo.1,Nat.lt_of_lt_of_le h.lo.2 hH⟩,fun i hi hr=>?_,fun i j hi hj hij hri hrj=>?_⟩
 ·by_cases e:i=k
  ·subst e
   rw [getD_set_eq hk] at hr ⊢
   obtain ⟨b,rfl,h1,h2,h3⟩:=hn hr
   have hlo:=h.lo
   have hne:b≠pb:=by omega
   exact ⟨rfl,⟨by show B<=b;omega,h2⟩,hne,h3.other hne _ _⟩
  ·rw [getD_set_ne e] at hr ⊢
   obtain ⟨h1,h2,h3,h4⟩:=h.each i (by omega) hr
   exact ⟨h1,⟨h2.1,Nat.lt_of_lt_of_le h2.2 hH⟩,h3,h4.other h3 _ _⟩
 ·by_cases ei:i=k
  ·subst ei
   rw [getD_set_eq hk] at hri ⊢
   rw [getD_set_ne (Ne.symm hij)] at hrj ⊢
   obtain ⟨b,rfl,h1,_⟩:=hn hri
   have:=(h.each j (by omega) hrj).2.1.2
   show b≠_
   omega
  ·rw [getD_set_ne ei] at hri ⊢
   by_cases ej:j=k
   ·subst ej
    rw [getD_set_eq hk] at hrj ⊢
    obtain ⟨b,rfl,h1,_⟩:=hn hrj
    have:=(h.each i (by omega) hri).2.1.2
    show _≠b
    omega
   ·rw [getD_set_ne ej] at hrj ⊢
    exact h.two i j (by omega) (by omega) hij hri hrj
theorem LMt.push {B H:Nat}{w:World}{pb pc k:Nat}{l:List LV}(h:LMt B H w pb pc k l)(hk:k < l.length)(a:Option Addr)(c:Nat)(H':Nat)(hH:H<=H')
  (hn:(l.getD k .none).terms≠[]->∃ b,a=some ⟨b,0,none⟩/\H<=b/\b < H'/\RB w b 3 ((l.getD k .none).terms.map (.int .i64 ·)) c 1) :
  LMt B H' (w.setCell ⟨pb,k*2+1,none⟩ (.slice a (l.getD k .none).terms.length c)) pb pc (k+1) (l.set k { l.getD k .none with ta:=a,tc:=c }):=by
 have hg:=levCells_get l k hk
 have hcs:levCells (l.set k { l.getD k .none with ta:=a,tc:=c })=(levCells l).set (k*2+1) (.slice a (l.getD k .none).terms.length c):=by
  rw [levCells_set hk,set_same hg.1]
 have hB:=h.lo.1
 refine ⟨hcs ▸ h.row.set _ _,⟨h.lo.1,Nat.lt_of_lt_of_le h.lo.2 hH⟩,fun i hi hr=>?_,fun i j hi hj hij hri hrj=>?_⟩
 ·by_cases e:i=k
  ·subst e
   rw [getD_set_eq hk] at hr ⊢
   obtain ⟨b,rfl,h1,h2,h3⟩:=hn hr
   have hlo:=h.lo
   have hne:b≠pb:=by omega
   exact ⟨rfl,⟨by show B<=b;omega,h2⟩,hne,h3.other hne _ _⟩
  ·rw [getD_set_ne e] at hr ⊢
   obtain ⟨h1,h2,h3,h4⟩:=h.each i (by omega) hr
   exact ⟨h1,⟨h2.1,Nat.lt_of_lt_of_le h2.2 hH⟩,h3,h4.other h3 _ _⟩
 ·by_cases ei:i=k
  ·subst ei
   rw [getD_set_eq hk] at hri ⊢
   rw [getD_set_ne (Ne.symm hij)] at hrj ⊢
   obtain ⟨b,rfl,h1,_⟩:=hn hri
   have:=(h.each j (by omega) hrj).2.1.2
   show b≠_
   omega
  ·rw [getD_set_ne ei] at hri ⊢
   by_cases ej:j=k
   ·subst ej
    rw [getD_set_eq hk] at hrj ⊢
    obtain ⟨b,rfl,h1,_⟩:=hn hrj
    have:=(h.each i (by omega) hri).2.1.2
    show _≠b
    omega
   ·rw [getD_set_ne ej] at hrj ⊢
    exact h.two i j (by omega) (by omega) hij hri hrj
theorem PM.turn {B H:Nat}{w w':World}{pb pc k:Nat}{l:List PV}(h:PM B H w pb pc k l)(hkl:k<=l.length){i:Nat}(hi:i < k)(hr:(l.getD i .none).right≠[])(r:List (Int×Int))(hl:r.length=(l.getD i .none).right.length)
  (hb:∀ j,B<=j->j < H->j≠ablk (l.getD i .none).ra->w'.heap[j]?=w.heap[j]?) (hn:RB w' (ablk (l.getD i .none).ra) 82 (sCl r) (l.getD i .none).rc 2):PM B H w' pb pc k (l.set i { l.getD i .none with right:=r }):=by
 have hil:i < l.length:=by omega
 have hg:=proCells_get l i hil
 have hcs:pCl (l.set i { l.getD i .none with right:=r })=pCl l:=by
  rw [proCells_set hil,set_same hg.1]
  simp only [hl]
  rw [set_same hg.2.1,set_same hg.2.2]
 obtain ⟨q1,q2,q3,q4⟩:=h.each i hi hr
 have hrn:∀ j,j < k->j≠i->(l.getD j .none).right≠[]->ablk (l.getD j .none).ra≠ablk (l.getD i .none).ra:=fun j hj hji hrj=>h.two j i hj hi hji hrj hr
 refine ⟨hcs ▸ h.row.kept (hb _ h.lo.1 h.lo.2 (Ne.symm q3)),h.lo,fun j hj hrj=>?_,fun x y hx hy hxy hrx hry=>?_⟩
 ·by_cases e:j=i
  ·subst e
   rw [getD_set_eq hil]
   exact ⟨q1,q2,q3,hn⟩
  ·rw [getD_set_ne e] at hrj ⊢
   obtain ⟨h1,h2,h3,h4⟩:=h.each j hj hrj
   exact ⟨h1,h2,h3,h4.kept (hb _ h2.1 h2.2 (hrn j hj e hrj))⟩
 ·have hz:∀ z,z < k->((l.set i { l.getD i .none with right:=r }).getD z .none).right≠[]->((l.set i { l.getD i .none with right:=r }).getD z .none).ra=(l.getD z .none).ra/\(l.getD z .none).right≠[]:=fun z _ hrz=>by
   by_cases e:z=i
   ·subst e;rw [getD_set_eq hil];exact ⟨rfl,hr⟩
   ·rw [getD_set_ne e] at hrz ⊢;exact ⟨rfl,hrz⟩
  rw [(hz x hx hrx).1,(hz y hy hry).1]
  exact h.two x y hx hy hxy (hz x hx hrx).2 (hz y hy hry).2
theorem symRow_of {w:World}{b c s:Nat}{l:List (Int×Int)}(h:RB w b 82 (sCl l) c s):SymRow w (some ⟨b,0,none⟩) l:=by
 intro _
 refine ⟨b,0,rfl,h.lt,fun i hi=>?_⟩
 obtain ⟨q1,q2⟩:=symCells_get l i hi
 have r1:=h.cell q1
 have r2:=h.cell q2
 exact ⟨by simpa using r1,by simpa [Nat.add_assoc] using r2⟩
theorem PM.at {B H:Nat}{w:World}{pb pc:Nat}{l:List PV}(h:PM B H w pb pc l.length l):PrRow w (some ⟨pb,0,none⟩) l:=by
 refine ⟨fun _=>⟨pb,0,rfl,h.row.lt,fun i hi=>?_⟩,fun p hp=>?_⟩
 ·obtain ⟨q1,q2,q3⟩:=proCells_get l i hi
  exact ⟨by simpa using h.row.cell q1,by simpa [Nat.add_assoc] using h.row.cell q2,by simpa [Nat.add_assoc] using h.row.cell q3⟩
 ·obtain ⟨i,hi,rfl⟩:=List.getElem_of_mem hp
  have e:l.getD i .none=l[i]:=by simp [List.getD,hi]
  intro hr
  have h2:=h.each i hi (by rw [e];exact hr)
  rw [e] at h2
  have h3:=symRow_of h2.2.2.2 hr
  rw [h2.1]
  exact h3
theorem inRow_of {w:World}{b c s:Nat}{l:List Int}(h:RB w b 3 (l.map (.int .i64 ·)) c s):InRow w (some ⟨b,0,none⟩) l:=by
 intro _
 refine ⟨b,0,rfl,h.lt,fun i hi=>?_⟩
 have r1:=h.cell (i:=i) (u:=.int .i64 (l.getD i 0)) (by simp [List.getD,hi])
 simpa using r1
theorem LMt.at {B H:Nat}{w:World}{pb pc:Nat}{l:List LV}(h:LMt B H w pb pc l.length l):LvRow w (some ⟨pb,0,none⟩) l:=by
 refine ⟨fun _=>⟨pb,0,rfl,h.row.lt,fun i hi=>?_⟩,fun p hp=>?_⟩
 ·obtain ⟨q1,q2⟩:=levCells_get l i hi
  exact ⟨by simpa using h.row.cell q1,by simpa [Nat.add_assoc] using h.row.cell q2⟩
 ·obtain ⟨i,hi,rfl⟩:=List.getElem_of_mem hp
  have e:l.getD i .none=l[i]:=by simp [List.getD,hi]
  intro hr
  have h2:=h.each i hi (by rw [e];exact hr)
  rw [e] at h2
  have h3:=inRow_of h2.2.2.2 hr
  rw [h2.1]
  exact h3
structure CBx (n0:Nat)(w0:World)(arr:Array Value)(w:World):Prop where
 box:w.heap[n0]?=some (.cells arr 63 (0,0))
 out:w.heap[n0+1]?=some (.cells #[.slice none 0 0,.slice none 0 0,.int .i64 0,.slice none 0 0,.slice none 0 0] 63 (0,0))
 bel:Below n0 w0 w
theorem CBx.later {n0:Nat}{w0 w w':World}{arr:Array Value}(h:CBx n0 w0 arr w)(hb:Below w.heap.size w w'):CBx n0 w0 arr w' :=
 ⟨(hb.block _ (lt_of_block h.box)).trans h.box,(hb.block _ (lt_of_block h.out)).trans h.out,h.bel.trans (hb.mono (Nat.le_of_lt (lt_of_block h.box)))⟩
theorem CBx.set {n0:Nat}{w0 w:World}{arr:Array Value}(h:CBx n0 w0 arr w)(i:Nat)(u:Value):CBx n0 w0 (arr.setIfInBounds i u) (w.setCell ⟨n0,i,none⟩ u) :=
 ⟨hSt h.box i u,(Below.heap_setCell _ _ _ _ (show n0+1≠n0 by omega)).trans h.out,h.bel.setCell (p:=⟨n0,i,none⟩) (Nat.le_refl _) u⟩
theorem CBx.put {n0:Nat}{w0 w:World}{arr:Array Value}(h:CBx n0 w0 arr w)(b i:Nat)(u:Value)(hb:n0+2<=b):CBx n0 w0 arr (w.setCell ⟨b,i,none⟩ u) :=
 ⟨(Below.heap_setCell _ _ _ _ (show n0≠b by omega)).trans h.box,(Below.heap_setCell _ _ _ _ (show n0+1≠b by omega)).trans h.out,h.bel.setCell (p:=⟨b,i,none⟩) (by show n0<=b;omega) u⟩
theorem strCells {w:World}{ao:Option Addr}{l:List ByteArray}(h:StrRow w ao l):l.map Value.string≠[]->∃ b off,ao=some ⟨b,off,none⟩/\b < w.heap.size/\∀ j u,(l.map Value.string)[j]?=some u->w.cell? ⟨b,off+j,none⟩=some u:=by
 intro hne
 obtain ⟨b,off,e,hb,hc⟩:=h (by intro e;subst e;simp at hne)
 refine ⟨b,off,e,hb,fun j u hu=>?_⟩
 have hj:j < l.length:=by have:=(List.getElem?_eq_some_iff.1 hu).1;simpa using this
 rw [hc j hj]
 simp [List.getD,hj] at hu ⊢
 exact hu
theorem wpAnyX_takeC {P:Program}{ops:Array Oper}{Q:Exit->Act->World->Prop}{md:Region.Mode}{i:Nat}{oi:Oper}{v:Value}{S0:World->Prop}{fuel:Nat}{listed:Array Bool}{a:Act}{w:World}(hi':ops.toList[i]?=some oi)
  (hs:Region.noSelect ops=true) (hf:Region.free md ops listed i=true) (hr:(Region.ready md ops listed).contains i=true)
  (hQ:∀ c a w,Q (.panic c) (a.put oi.dst v) w->Q (.panic c) a w) (hy:YieldsIf P ops S0 oi v a) (hS:S0 w)
  (h:wpAnyX P md ops Q (fun _=>S0) fuel (listed.setIfInBounds i true) (a.put oi.dst v) w):wpAnyX P md ops Q (fun _=>S0) (fuel+1) listed a w :=
 have hi:ops[i]?=some oi:=by rw [<- Array.getElem?_toList];exact hi'
 wpAnyX_first (Cl:=fun _=>True) (T:=S0) hi (Region.noSelect_spec hs) hQ (fun _ _ _ _=>trivial) (fun _ _ _ _ h=>h) (fun _ _=>Iff.rfl) fuel listed a w (Region.free_spec hi hf) (by simpa using hr) trivial hy hS h
theorem alloc_at (w:World)(o:Obj):(w.alloc o).heap[w.heap.size]?=some o:=heap_alloc_new w o
theorem cb_start (g:GV)(w:World):CBx w.heap.size w #[.slice g.ta g.ts.length g.tc,.slice g.na g.ns.length g.nc,.int .i64 g.start,.slice g.pa g.ps.length g.pc,.slice g.la g.ls.length g.lc] ((w.alloc (.cells #[.slice g.ta g.ts.length g.tc,.slice g.na g.ns.length g.nc,.int .i64 g.start,.slice g.pa g.ps.length g.pc,.slice g.la g.ls.length g.lc] 63)).alloc (.cells #[.slice none 0 0,.slice none 0 0,.int .i64 0,.slice none 0 0,.slice none 0 0] 63)):=by
 obtain ⟨h1,h2,h3⟩:=two_alloc w (.cells #[.slice g.ta g.ts.length g.tc,.slice g.na g.ns.length g.nc,.int .i64 g.start,.slice g.pa g.ps.length g.pc,.slice g.la g.ls.length g.lc] 63) (.cells #[.slice none 0 0,.slice none 0 0,.int .i64 0,.slice none 0 0,.slice none 0 0] 63)
 exact ⟨h2,h3,h1⟩
theorem proCells_one (l:List PV):∀ u∈pCl l,u.oneCell'=true:=by
 intro u hu
 obtain ⟨q,_,h⟩:=List.mem_flatMap.1 hu
 simp at h
 rcases h with rfl | rfl | rfl<;>rfl
theorem levCells_one (l:List LV):∀ u∈levCells l,u.oneCell'=true:=by
 intro u hu
 obtain ⟨q,_,h⟩:=List.mem_flatMap.1 hu
 simp at h
 rcases h with rfl | rfl<;>rfl
theorem symCells_one (l:List (Int×Int)):∀ u∈sCl l,u.oneCell'=true:=by
 intro u hu
 obtain ⟨q,_,h⟩:=List.mem_flatMap.1 hu
 simp at h
 rcases h with rfl | rfl<;>rfl
theorem proRow_cells {w:World}{ao:Option Addr}{l:List PV}(h:PrRow w ao l):pCl l≠[]->∃ b off,ao=some ⟨b,off,none⟩/\b < w.heap.size/\∀ j u,(pCl l)[j]?=some u->w.cell? ⟨b,off+j,none⟩=some u:=by
 intro hne
 obtain ⟨b,off,e,hb,hc⟩:=h.cells (by intro e;subst e;exact hne rfl)
 refine ⟨b,off,e,hb,fun j u hu=>?_⟩
 have hj:j < l.length*3:=by have:=(List.getElem?_eq_some_iff.1 hu).1;rwa [proCells_len] at this
 have hk:j / 3 < l.length:=by omega
 obtain ⟨q1,q2,q3⟩:=proCells_get l (j / 3) hk
 obtain ⟨c1,c2,c3⟩:=hc (j / 3) hk
 have hm:j=j / 3*3∨j=j / 3*3+1∨j=j / 3*3+2:=by omega
 rcases hm with e' | e' | e'
 ·rw [e',q1] at hu;rw [e',<- hu];exact c1
 ·rw [e',q2] at hu;rw [e',<- hu,<- Nat.add_assoc];exact c2
 ·rw [e',q3] at hu;rw [e',<- hu,<- Nat.add_assoc];exact c3
theorem levRow_cells {w:World}{ao:Option Addr}{l:List LV}(h:LvRow w ao l):levCells l≠[]->∃ b off,ao=some ⟨b,off,none⟩/\b < w.heap.size/\∀ j u,(levCells l)[j]?=some u->w.cell? ⟨b,off+j,none⟩=some u:=by
 intro hne
 obtain ⟨b,off,e,hb,hc⟩:=h.cells (by intro e;subst e;exact hne rfl)
 refine ⟨b,off,e,hb,fun j u hu=>?_⟩
 have hj:j < l.length*2:=by have:=(List.getElem?_eq_some_iff.1 hu).1;rwa [levCells_len] at this
 have hk:j / 2 < l.length:=by omega
 obtain ⟨q1,q2⟩:=levCells_get l (j / 2) hk
 obtain ⟨c1,c2⟩:=hc (j / 2) hk
 have hm:j=j / 2*2∨j=j / 2*2+1:=by omega
 rcases hm with e' | e'
 ·rw [e',q1] at hu;rw [e',<- hu];exact c1
 ·rw [e',q2] at hu;rw [e',<- hu,<- Nat.add_assoc];exact c2
theorem symRow_cells {w:World}{ao:Option Addr}{l:List (Int×Int)}(h:SymRow w ao l):sCl l≠[]->∃ b off,ao=some ⟨b,off,none⟩/\b < w.heap.size/\∀ j u,(sCl l)[j]?=some u->w.cell? ⟨b,off+j,none⟩=some u:=by
 intro hne
 obtain ⟨b,off,e,hb,hc⟩:=h (by intro e;subst e;exact hne rfl)
 refine ⟨b,off,e,hb,fun j u hu=>?_⟩
 have hj:j < l.length*2:=by have:=(List.getElem?_eq_some_iff.1 hu).1;rwa [symCells_len] at this
 have hk:j / 2 < l.length:=by omega
 obtain ⟨q1,q2⟩:=symCells_get l (j / 2) hk
 obtain ⟨c1,c2⟩:=hc (j / 2) hk
 have hm:j=j / 2*2∨j=j / 2*2+1:=by omega
 rcases hm with e' | e'
 ·rw [e',q1] at hu;rw [e',<- hu];exact c1
 ·rw [e',q2] at hu;rw [e',<- hu,<- Nat.add_assoc];exact c2
theorem inRow_cells {w:World}{ao:Option Addr}{l:List Int}(h:InRow w ao l):(l.map (Value.int .i64 ·))≠[]->∃ b off,ao=some ⟨b,off,none⟩/\b < w.heap.size/\∀ j u,(l.map (Value.int .i64 ·))[j]?=some u->w.cell? ⟨b,off+j,none⟩=some u:=by
 intro hne
 obtain ⟨b,off,e,hb,hc⟩:=h (by intro e;subst e;exact hne rfl)
 refine ⟨b,off,e,hb,fun j u hu=>?_⟩
 have hj:j < l.length:=by have:=(List.getElem?_eq_some_iff.1 hu).1;simpa using this
 rw [hc j hj]
 simp [List.getD,hj] at hu ⊢
 exact hu
theorem core_setP {L:List PV}{k:Nat}(hk:k < L.length)(a:Option Addr)(c:Nat):(L.set k { L.getD k .none with ra:=a,rc:=c }).map PV.core=L.map PV.core:=by
 rw [List.map_set]
 refine set_same ?_
 simp [List.getD,hk,PV.core]
theorem core_setL {L:List LV}{k:Nat}(hk:k < L.length)(a:Option Addr)(c:Nat):(L.set k { L.getD k .none with ta:=a,tc:=c }).map LV.core=L.map LV.core:=by
 rw [List.map_set]
 refine set_same ?_
 simp [List.getD,hk,LV.core]
structure MG (B:Nat)(w:World)(g:GV)(A H E pb lb tb nb:Nat):Prop where
 ord:B<=A/\A<=H/\H<=E/\E<=w.heap.size
 t:g.ta=some ⟨tb,0,none⟩/\RB w tb 9 (g.ts.map .string) g.tc 1/\(tb < A∨E<=tb)/\B<=tb
 n_:g.na=some ⟨nb,0,none⟩/\RB w nb 9 (g.ns.map .string) g.nc 1/\(nb < A∨E<=nb)/\B<=nb
 pa:g.pa=some ⟨pb,0,none⟩
 p:PM A H w pb g.pc g.ps.length g.ps
 pc:g.ps.length<=g.pc
 l:g.ls≠[]->g.la=some ⟨lb,0,none⟩/\LMt H E w lb g.lc g.ls.length g.ls
 tn:tb≠nb
theorem str_one (l:List ByteArray):∀ u∈l.map Value.string,u.oneCell'=true:=by
 intro u hu
 obtain ⟨s,_,rfl⟩:=List.mem_map.1 hu
 rfl
theorem int_one (l:List Int):∀ u∈l.map (Value.int .i64 ·),u.oneCell'=true:=by
 intro u hu
 obtain ⟨s,_,rfl⟩:=List.mem_map.1 hu
 rfl
theorem run_csym {o:Oper}{a:Act}{t0:TypeId}{v0:Value}{x0:Operand}(hop:o.op=Op.call { callee:=Callee.value (Operand.func 134),args:=#[x0],argTypes:=#[t0] })(h0:a.eval x0=v0)(w:World):(execOp a.eval o).run Tryz.prog w=.ok (.enter 134 #[v0]) w:=by
 have hf:a.eval (Operand.func 134)=.func (.func 134) #[] #[]:=rfl
 simp [execOp,hop,resolve,invoke,h0,hf,Deferred.ofValue]
theorem run_cint {o:Oper}{a:Act}{t0:TypeId}{v0:Value}{x0:Operand}(hop:o.op=Op.call { callee:=Callee.value (Operand.func 112),args:=#[x0],argTypes:=#[t0] })(h0:a.eval x0=v0)(w:World):(execOp a.eval o).run Tryz.prog w=.ok (.enter 112 #[v0]) w:=by
 have hf:a.eval (Operand.func 112)=.func (.func 112) #[] #[]:=rfl
 simp [execOp,hop,resolve,invoke,h0,hf,Deferred.ofValue]
set_option linter.unusedSimpArgs false in
set_option maxRecDepth 100000 in
set_option maxHeartbeats 8000000 in
theorem clone_G (g:GV)(w:World)(h:GAt 1048576 w g)(ht:g.ts≠[])(hn:g.ns≠[])(hp:g.ps≠[]) :
  Calls Tryz.prog 110 #[g.val] w fun e w'=>∃ g' A H E pb lb tb nb,e=.returned g'.val/\SameG g g'/\MG w.heap.size w' g' A H E pb lb tb nb/\Below w.heap.size w w':=by
 have HGA:Hid (∀ w',Below w.heap.size w w'->GAt 1048576 w' g):=fun w' hb=>h.later hb
 have CB0:Hid (CBx w.heap.size w #[.slice (g.ta) g.ts.length g.tc,.slice (g.na) g.ns.length g.nc,.int .i64 g.start,.slice (g.pa) g.ps.length g.pc,.slice (g.la) g.ls.length g.lc] ((w.alloc (.cells #[.slice g.ta g.ts.length g.tc,.slice g.na g.ns.length g.nc,.int .i64 g.start,.slice g.pa g.ps.length g.pc,.slice g.la g.ls.length g.lc] 63)).alloc (.cells #[.slice none 0 0,.slice none 0 0,.int .i64 0,.slice none 0 0,.slice none 0 0] 63))):=cb_start g w
 have SZ0:Hid (((w.alloc (.cells #[.slice g.ta g.ts.length g.tc,.slice g.na g.ns.length g.nc,.int .i64 g.start,.slice g.pa g.ps.length g.pc,.slice g.la g.ls.length g.lc] 63)).alloc (.cells #[.slice none 0 0,.slice none 0 0,.int .i64 0,.slice none 0 0,.slice none 0 0] 63)).heap.size=w.heap.size+2):=by show _=_;simp
 have HL:Hid (g.ts.length<=1048576/\g.ns.length<=1048576/\g.ps.length<=1048576/\g.ls.length<=1048576):=⟨h.tl,h.nl,h.pl,h.ll⟩
 have HN:Hid (g.ts.length≠0/\g.ns.length≠0/\g.ps.length≠0):=⟨fun e=>ht (List.eq_nil_of_length_eq_zero e),fun e=>hn (List.eq_nil_of_length_eq_zero e),fun e=>hp (List.eq_nil_of_length_eq_zero e)⟩
 have hpl:=h.pl
 have hll:=h.ll
 clear h ht hn hp
 go_enter Tryz.func110,Tryz.ntmps110
 go_wp2_with (first
  | (go_at_call 133;refine (clone_prod g.pa g.ps.length g.pc (pCl g.ps) _ (proCells_len _) HL.out.2.2.1 (proRow_cells (HGA.out _ C2.out.bel).p) (proCells_one _)).mono ?_;rintro e w3 ⟨aX,c3,rfl,k3,m3,b3⟩;obtain ⟨pb,rfl,l3,r3⟩:=k3 HN.out.2.2;have D3:Hid (CBx w.heap.size w #[.slice (some ⟨tb,0,none⟩) g.ts.length c1,.slice (some ⟨nb,0,none⟩) g.ns.length c2,.int .i64 g.start,.slice (g.pa) g.ps.length g.pc,.slice (g.la) g.ls.length g.lc] w3):=C2.out.later b3;have C3:Hid (CBx w.heap.size w #[.slice (some ⟨tb,0,none⟩) g.ts.length c1,.slice (some ⟨nb,0,none⟩) g.ns.length c2,.int .i64 g.start,.slice (some ⟨pb,0,none⟩) g.ps.length c3,.slice (g.la) g.ls.length g.lc] (w3.setCell ⟨w.heap.size,3,none⟩ (.slice (some ⟨pb,0,none⟩) g.ps.length c3))):=D3.out.set 3 _;have R3:Hid (RB (w3.setCell ⟨w.heap.size,3,none⟩ (.slice (some ⟨pb,0,none⟩) g.ps.length c3)) pb 116 (pCl g.ps) c3 3/\(w2.setCell ⟨w.heap.size,1,none⟩ (.slice (some ⟨nb,0,none⟩) g.ns.length c2)).heap.size<=pb/\g.ps.length<=c3):=⟨r3.other (by have:=T2.out.2.2.2;omega) _ _,l3,m3⟩;have T3:Hid (RB (w3.setCell ⟨w.heap.size,3,none⟩ (.slice (some ⟨pb,0,none⟩) g.ps.length c3)) tb 9 (g.ts.map .string) c1 1/\RB (w3.setCell ⟨w.heap.size,3,none⟩ (.slice (some ⟨pb,0,none⟩) g.ps.length c3)) nb 9 (g.ns.map .string) c2 1):=⟨(T2.out.1.later b3).other (by have:=T2.out.2.2.2;omega) _ _,(T2.out.2.1.later b3).other (by have:=T2.out.2.2.2;omega) _ _⟩;have q0:w3.cell? ⟨w.heap.size,3,none⟩=some (.slice g.pa g.ps.length g.pc):=(cQa D3.out.box).trans rfl;have y0:w3.frozen? ⟨w.heap.size,3,none⟩=false:=(by simp [World.frozen?,D3.out.box]);have hz3:w.heap.size < w3.heap.size:=lt_of_block D3.out.box;clear k3 l3 r3 m3 b3)
  | (go_at_call 132;refine (clone_str g.na g.ns.length g.nc (g.ns.map .string) _ (by simp) HL.out.2.1 (strCells (HGA.out _ C1.out.bel).n_) (str_one _)).mono ?_;rintro e w2 ⟨aX,c2,rfl,k2,m2,b2⟩;obtain ⟨nb,rfl,l2,r2⟩:=k2 HN.out.2.1;have TN:Hid (tb < nb):=Nat.lt_of_lt_of_le T1.out.1.lt l2;have D2:Hid (CBx w.heap.size w #[.slice (some ⟨tb,0,none⟩) g.ts.length c1,.slice (g.na) g.ns.length g.nc,.int .i64 g.start,.slice (g.pa) g.ps.length g.pc,.slice (g.la) g.ls.length g.lc] w2):=C1.out.later b2;have C2:Hid (CBx w.heap.size w #[.slice (some ⟨tb,0,none⟩) g.ts.length c1,.slice (some ⟨nb,0,none⟩) g.ns.length c2,.int .i64 g.start,.slice (g.pa) g.ps.length g.pc,.slice (g.la) g.ls.length g.lc] (w2.setCell ⟨w.heap.size,1,none⟩ (.slice (some ⟨nb,0,none⟩) g.ns.length c2))):=D2.out.set 1 _;have T2:Hid (RB (w2.setCell ⟨w.heap.size,1,none⟩ (.slice (some ⟨nb,0,none⟩) g.ns.length c2)) tb 9 (g.ts.map .string) c1 1/\RB (w2.setCell ⟨w.heap.size,1,none⟩ (.slice (some ⟨nb,0,none⟩) g.ns.length c2)) nb 9 (g.ns.map .string) c2 1/\(tb < (w2.setCell ⟨w.heap.size,1,none⟩ (.slice (some ⟨nb,0,none⟩) g.ns.length c2)).heap.size/\nb < (w2.setCell ⟨w.heap.size,1,none⟩ (.slice (some ⟨nb,0,none⟩) g.ns.length c2)).heap.size)/\(w.heap.size+2<=tb/\w.heap.size+2<=nb/\w.heap.size+2<=(w2.setCell ⟨w.heap.size,1,none⟩ (.slice (some ⟨nb,0,none⟩) g.ns.length c2)).heap.size)):=(by have h1:=T1.out.2;have h2:=lt_of_block C1.out.out;have r2':=r2.other (show nb≠w.heap.size by omega) 1 (.slice (some ⟨nb,0,none⟩) g.ns.length c2);have t2':=(T1.out.1.later b2).other (show tb≠w.heap.size by omega) 1 (.slice (some ⟨nb,0,none⟩) g.ns.length c2);exact ⟨t2',r2',⟨t2'.lt,r2'.lt⟩,h1,by omega,lt_of_block C2.out.out⟩);have q1:w2.cell? ⟨w.heap.size,1,none⟩=some (.slice g.na g.ns.length g.nc):=(cQa D2.out.box).trans rfl;have y1:w2.frozen? ⟨w.heap.size,1,none⟩=false:=(by simp [World.frozen?,D2.out.box]);have q3:w2.cell? ⟨w.heap.size,3,none⟩=some (.slice g.pa g.ps.length g.pc):=(cQa D2.out.box).trans rfl;have hz2:w.heap.size < w2.heap.size:=lt_of_block D2.out.box;clear k2 l2 r2 m2 b2)
  | (go_at_call 132;refine (clone_str g.ta g.ts.length g.tc (g.ts.map .string) _ (by simp) HL.out.1 (strCells (HGA.out _ CB0.out.bel).t) (str_one _)).mono ?_;rintro e w1 ⟨aX,c1,rfl,k1,m1,b1⟩;obtain ⟨tb,rfl,l1,r1⟩:=k1 HN.out.1;have D1:Hid (CBx w.heap.size w #[.slice (g.ta) g.ts.length g.tc,.slice (g.na) g.ns.length g.nc,.int .i64 g.start,.slice (g.pa) g.ps.length g.pc,.slice (g.la) g.ls.length g.lc] w1):=CB0.out.later b1;have C1:Hid (CBx w.heap.size w #[.slice (some ⟨tb,0,none⟩) g.ts.length c1,.slice (g.na) g.ns.length g.nc,.int .i64 g.start,.slice (g.pa) g.ps.length g.pc,.slice (g.la) g.ls.length g.lc] (w1.setCell ⟨w.heap.size,0,none⟩ (.slice (some ⟨tb,0,none⟩) g.ts.length c1))):=D1.out.set 0 _;have T1:Hid (RB (w1.setCell ⟨w.heap.size,0,none⟩ (.slice (some ⟨tb,0,none⟩) g.ts.length c1)) tb 9 (g.ts.map .string) c1 1/\w.heap.size+2<=tb):=(by have hh:=SZ0.out;rw [hh] at l1;exact ⟨r1.other (by omega) _ _,l1⟩);have q0:w1.cell? ⟨w.heap.size,0,none⟩=some (.slice g.ta g.ts.length g.tc):=(cQa D1.out.box).trans rfl;have y0:w1.frozen? ⟨w.heap.size,0,none⟩=false:=(by simp [World.frozen?,D1.out.box]);have q1:w1.cell? ⟨w.heap.size,1,none⟩=some (.slice g.na g.ns.length g.nc):=(cQa D1.out.box).trans rfl;have hz1:w.heap.size < w1.heap.size:=lt_of_block D1.out.box;clear k1 l1 r1 m1 b1))
 obtain ⟨A,RA'⟩:∃ A,w.heap.size+2<=A/\tb < A/\nb < A/\A<=pb:=⟨_,T2.out.2.2.2.2.2,T2.out.2.2.1.1,T2.out.2.2.1.2,R3.out.2.1⟩
 have RA:Hid (w.heap.size+2<=A/\tb < A/\nb < A/\A<=pb/\g.ps.length<=c3):=⟨RA'.1,RA'.2.1,RA'.2.2.1,RA'.2.2.2,R3.out.2.2⟩
 have NEQ:Hid (w.heap.size+2<=tb/\w.heap.size+2<=nb/\tb < nb):=⟨T2.out.2.2.2.1,T2.out.2.2.2.2.1,TN.out⟩
 clear RA'
 go_loopw [22] (fun z wr=>∃ (k H:Nat) (L:List PV),k<=g.ps.length/\z=.int .i64 k/\CBx w.heap.size w #[.slice (some ⟨tb,0,none⟩) g.ts.length c1,.slice (some ⟨nb,0,none⟩) g.ns.length c2,.int .i64 g.start,.slice (some ⟨pb,0,none⟩) g.ps.length c3,.slice (g.la) g.ls.length g.lc] wr/\(RB wr tb 9 (g.ts.map .string) c1 1/\RB wr nb 9 (g.ns.map .string) c2 1)/\PM A H wr pb c3 k L/\H<=wr.heap.size/\L.map PV.core=g.ps.map PV.core/\∀ i,k<=i->L.getD i .none=g.ps.getD i .none) (fun z _=>g.ps.length - (intOf z).toNat)
 case atStart=>exact ⟨0,_,g.ps,Nat.zero_le _,rfl,C3.out,T3.out,⟨R3.out.1,⟨RA.out.2.2.2.1,R3.out.1.lt⟩,fun i hi=>absurd hi (Nat.not_lt_zero _),fun i j hi=>absurd hi (Nat.not_lt_zero _)⟩,Nat.le_refl _,rfl,fun _ _=>rfl⟩
 case round =>
  clear q0 y0 q1 y1 q3 C1 C2 C3 D1 D2 D3 T1 T2 T3 R3 CB0 SZ0 hz1 hz2 hz3
  obtain ⟨k,H,L,hk,rfl,hC,hT,hP,hH,hcore,hrest⟩:=hrel
  have hLl:L.length=g.ps.length:=by simpa using congrArg List.length hcore
  have NE:Hid (w.heap.size+2<=tb/\w.heap.size+2<=nb/\tb < nb):=NEQ.out
  have b3:wr.cell? ⟨w.heap.size,3,none⟩=some (.slice (some ⟨pb,0,none⟩) g.ps.length c3):=(cQa hC.box).trans rfl
  have HC:Hid (CBx w.heap.size w #[.slice (some ⟨tb,0,none⟩) g.ts.length c1,.slice (some ⟨nb,0,none⟩) g.ns.length c2,.int .i64 g.start,.slice (some ⟨pb,0,none⟩) g.ps.length c3,.slice (g.la) g.ls.length g.lc] wr/\(RB wr tb 9 (g.ts.map .string) c1 1/\RB wr nb 9 (g.ns.map .string) c2 1)/\PM A H wr pb c3 k L/\H<=wr.heap.size/\L.map PV.core=g.ps.map PV.core/\∀ i,k<=i->L.getD i .none=g.ps.getD i .none):=⟨hC,hT,hP,hH,hcore,hrest⟩
  by_cases hlt:k < g.ps.length
  ·obtain ⟨p0,p1,p2⟩:=proCells_get L k (by omega)
   have c0:=hP.row.cell p0
   have c1':=hP.row.cell p1
   have c2':=hP.row.cell p2
   have hmem:L.getD k .none∈g.ps:=by rw [hrest k (Nat.le_refl _)];simp [List.getD,hlt]
   have GA:=HGA.out wr hC.bel
   have HR:Hid (SymRow wr (L.getD k .none).ra (L.getD k .none).right/\(L.getD k .none).right.length<=1048576):=⟨GA.p.rows _ hmem,GA.rl _ hmem⟩
   clear hC hT hP hH hcore hrest p0 p1 p2 hmem GA
   generalize hx:L.getD k .none=x at *
   have HX:Hid (L.getD k .none=x):=hx
   clear hx
   obtain ⟨pl,pra,prc,pr,pp⟩:=x
   simp only at c0 c1' c2' HR
   go_wp2
   have BQ:Hid (Below wr.heap.size wr (wr.alloc (.cells #[.int .i64 pl,.slice pra pr.length prc,.int .i64 pp] 116)).drew):=by show Below _ _ _;go_grown
   have hs0:Hid ((fun w'=>w'.cell? ⟨w.heap.size,3,none⟩=some (.slice (some ⟨pb,0,none⟩) g.ps.length c3)/\w'.cell? ⟨wr.heap.size,1,none⟩=some (.slice pra pr.length prc)) (wr.alloc (.cells #[.int .i64 pl,.slice pra pr.length prc,.int .i64 pp] 116)).drew):=⟨(cQa (HC.out.1.later BQ.out).box).trans rfl,by show (wr.alloc (.cells #[.int .i64 pl,.slice pra pr.length prc,.int .i64 pp] 116)).cell? _=_;rw [cQa (alloc_at wr _)];rfl⟩
   refine wp_region_x (S:=fun _=>(fun w'=>w'.cell? ⟨w.heap.size,3,none⟩=some (.slice (some ⟨pb,0,none⟩) g.ps.length c3)/\w'.cell? ⟨wr.heap.size,1,none⟩=some (.slice pra pr.length prc))) (by kernel_rfl) ?_
   refine wpAnyX_takeC (i:=0) (v:=?_) rfl (by kernel_rfl) (by decide +kernel) (by decide +kernel) (fun _ _ _ h=>h) (Or.inl ⟨by rfl,?_⟩) hs0.out ?_
   rotate_left
   ·(intro w hSw;(try dsimp only at hSw);go_simp;try (with_reducible rfl))
   (try simp only [Act.put,List.setIfInBounds_toArray,List.set_cons_zero,List.set_cons_succ])
   refine wpAnyX_takeC (i:=1) (v:=?_) rfl (by kernel_rfl) (by decide +kernel) (by decide +kernel) (fun _ _ _ h=>h) (Or.inl ⟨by rfl,?_⟩) hs0.out ?_
   rotate_left
   ·(intro w hSw;(try dsimp only at hSw);go_simp;try (with_reducible rfl))
   (try simp only [Act.put,List.setIfInBounds_toArray,List.set_cons_zero,List.set_cons_succ])
   refine wpAnyX_takeC (i:=2) (v:=?_) rfl (by kernel_rfl) (by decide +kernel) (by decide +kernel) (fun _ _ _ h=>h) (Or.inl ⟨by rfl,?_⟩) hs0.out ?_
   rotate_left
   ·(intro w hSw;(try dsimp only at hSw);go_simp;try (with_reducible rfl))
   (try simp only [Act.put,List.setIfInBounds_toArray,List.set_cons_zero,List.set_cons_succ])
   refine wpAnyX_takeC (i:=3) (v:=?_) rfl (by kernel_rfl) (by decide +kernel) (by decide +kernel) (fun _ _ _ h=>h) (Or.inl ⟨by rfl,?_⟩) hs0.out ?_
   rotate_left
   ·(intro w hSw;(try dsimp only at hSw);go_simp;try (with_reducible rfl))
   (try simp only [Act.put,List.setIfInBounds_toArray,List.set_cons_zero,List.set_cons_succ])
   refine wpAnyX_takeC (i:=4) (v:=?_) rfl (by kernel_rfl) (by decide +kernel) (by decide +kernel) (fun _ _ _ h=>h) (Or.inl ⟨by rfl,?_⟩) hs0.out ?_
   rotate_left
   ·(intro w hSw;(try dsimp only at hSw);go_simp;try (with_reducible rfl))
   (try simp only [Act.put,List.setIfInBounds_toArray,List.set_cons_zero,List.set_cons_succ])
   refine wX1 (j:=5) (by decide +kernel) rfl (fun K' hK=>?_)
   refine sCX rfl 134 #[.slice pra pr.length prc] _ (run_csym (v0:=.slice pra pr.length prc) (by rfl) (by rfl) _) (clone_sym pra pr.length prc (sCl pr) _ (symCells_len _) HR.out.2 (symRow_cells (HR.out.1.later (Nat.le_refl _) BQ.out)) (symCells_one _)) ?_
   rintro e w4 ⟨a4,c4,rfl,k4,m4,b4⟩
   have B4:Hid (Below wr.heap.size wr w4):=BQ.out.trans (b4.mono BQ.out.size)
   have s4:Hid ((fun w'=>w'.cell? ⟨w.heap.size,3,none⟩=some (.slice (some ⟨pb,0,none⟩) g.ps.length c3)/\w'.cell? ⟨wr.heap.size,1,none⟩=some (.slice pra pr.length prc)) w4):=⟨(cQa (HC.out.1.later B4.out).box).trans rfl,(b4.cell (p:=⟨wr.heap.size,1,none⟩) (by show _ < (wr.alloc (.cells #[.int .i64 pl,.slice pra pr.length prc,.int .i64 pp] 116)).heap.size;simp)).trans hs0.out.2⟩
   have P4:Hid (PM A H w4 pb c3 k L):=HC.out.2.2.1.later HC.out.2.2.2.1 B4.out
   refine ⟨_,rfl,hK.out _ _ s4.out ?_⟩
   clear hK K'
   refine wpAnyX_takeC (i:=6) (v:=?_) rfl (by kernel_rfl) (by decide +kernel) (by decide +kernel) (fun _ _ _ h=>h) (Or.inl ⟨by rfl,?_⟩) s4.out ?_
   rotate_left
   ·(intro w hSw;(try dsimp only at hSw);go_simp;try (with_reducible rfl))
   (try simp only [Act.put,List.setIfInBounds_toArray,List.set_cons_zero,List.set_cons_succ])
   refine wpAnyX_takeC (i:=7) (v:=?_) rfl (by kernel_rfl) (by decide +kernel) (by decide +kernel) (fun _ _ _ h=>h) (Or.inl ⟨by rfl,?_⟩) s4.out ?_
   rotate_left
   ·(intro w hSw;(try dsimp only at hSw);go_simp;try (with_reducible rfl))
   (try simp only [Act.put,List.setIfInBounds_toArray,List.set_cons_zero,List.set_cons_succ])
   have x1:w4.cell? ⟨pb,k*3+1,none⟩=some (.slice pra pr.length prc):=(by have hh:=P4.out.row.cell (proCells_get L k (by omega)).2.1;rw [HX.out] at hh;exact hh)
   have x2:w4.frozen? ⟨pb,k*3+1,none⟩=false:=P4.out.row.free _
   have x3:pb < w4.heap.size:=P4.out.row.lt
   refine wX1 (j:=8) (by decide +kernel) rfl (fun K' hK=>?_)
   go_simp
   refine hK.out _ _ (by have hh:=s4.out;exact ⟨(cQa ((HC.out.1.later B4.out).put pb _ _ (by have:=RA.out;omega)).box).trans rfl,(World.cell?_of_block (Below.heap_setCell _ _ _ _ (show wr.heap.size≠pb by have:=HC.out.2.2.1.lo.2;have:=HC.out.2.2.2.1;omega))).trans hh.2⟩) ?_
   clear hK K'
   refine wXd (by decide +kernel) ?_
   go_wp2
   go_roundw
   case rel =>
    have PP:=P4.out.push (by omega) a4 c4 w4.heap.size (Nat.le_trans HC.out.2.2.2.1 B4.out.size) (fun hr=>by
     rw [HX.out] at hr ⊢
     obtain ⟨b,e1,e2,e3⟩:=k4 (fun e=>hr (List.eq_nil_of_length_eq_zero e))
     exact ⟨b,e1,Nat.le_trans (Nat.le_trans HC.out.2.2.2.1 BQ.out.size) e2,e3.lt,e3⟩)
    have hlo:=HC.out.2.2.1.lo
    have hra:=RA.out
    have CR:=core_setP (L:=L) (k:=k) (by omega) a4 c4
    have GN:∀ i,k+1<=i->(L.set k { L.getD k .none with ra:=a4,rc:=c4 }).getD i .none=g.ps.getD i .none:=fun i hi=>by rw [getD_set_ne (by omega)];exact HC.out.2.2.2.2.2 i (by omega)
    rw [HX.out] at PP CR GN
    refine ⟨k+1,w4.heap.size,_,by omega,by go_num,(HC.out.1.later B4.out).put pb _ _ (by omega),⟨(HC.out.2.1.1.later B4.out).other (by omega) _ _,(HC.out.2.1.2.later B4.out).other (by omega) _ _⟩,PP,by simp,CR.trans HC.out.2.2.2.2.1,GN⟩
   case measure=>simp [intOf];omega
  ·obtain rfl:k=g.ps.length:=by omega
   have b4:wr.cell? ⟨w.heap.size,4,none⟩=some (.slice g.la g.ls.length g.lc):=(cQa hC.box).trans rfl
   have CO:Hid (L.map PV.core=g.ps.map PV.core):=hcore
   have w0':Hid (H<=wr.heap.size):=hH
   obtain ⟨HB,hHB⟩:∃ HB,HB=wr.heap.size:=⟨_,rfl⟩
   have HHB:Hid (HB=wr.heap.size/\H<=HB/\A<=HB):=⟨hHB,by omega,by have:=hP.lo;omega⟩
   clear hC hT hP hH hcore hrest hHB
   go_wp2_with (go_at_call 135;refine (clone_lev g.la g.ls.length g.lc (levCells g.ls) _ (levCells_len _) HL.out.2.2.2 (levRow_cells (HGA.out _ HC.out.1.bel).l) (levCells_one _)).mono ?_;rintro e w5 ⟨a5,c5,rfl,k5,m5,b5⟩;have C5:Hid (CBx w.heap.size w #[.slice (some ⟨tb,0,none⟩) g.ts.length c1,.slice (some ⟨nb,0,none⟩) g.ns.length c2,.int .i64 g.start,.slice (some ⟨pb,0,none⟩) g.ps.length c3,.slice (g.la) g.ls.length g.lc] w5):=HC.out.1.later b5;have D5:Hid (CBx w.heap.size w #[.slice (some ⟨tb,0,none⟩) g.ts.length c1,.slice (some ⟨nb,0,none⟩) g.ns.length c2,.int .i64 g.start,.slice (some ⟨pb,0,none⟩) g.ps.length c3,.slice (a5) g.ls.length c5] (w5.setCell ⟨w.heap.size,4,none⟩ (.slice a5 g.ls.length c5))):=C5.out.set 4 _;have T5:Hid (RB (w5.setCell ⟨w.heap.size,4,none⟩ (.slice a5 g.ls.length c5)) tb 9 (g.ts.map .string) c1 1/\RB (w5.setCell ⟨w.heap.size,4,none⟩ (.slice a5 g.ls.length c5)) nb 9 (g.ns.map .string) c2 1):=⟨(HC.out.2.1.1.later b5).other (by have:=NE.out.1;omega) _ _,(HC.out.2.1.2.later b5).other (by have:=NE.out.2;omega) _ _⟩;have P5:Hid (PM A H (w5.setCell ⟨w.heap.size,4,none⟩ (.slice a5 g.ls.length c5)) pb c3 g.ps.length L):=(HC.out.2.2.1.later HC.out.2.2.2.1 b5).kept (fun j hj _=>Below.heap_setCell _ _ _ _ (show j≠w.heap.size by have:=RA.out.1;omega));have K5:Hid (g.ls≠[]->∃ lb,a5=some ⟨lb,0,none⟩/\HB<=lb/\RB (w5.setCell ⟨w.heap.size,4,none⟩ (.slice a5 g.ls.length c5)) lb 120 (levCells g.ls) c5 2):=(fun hl=>by obtain ⟨lb,e1,e2,e3⟩:=k5 (fun e=>hl (List.eq_nil_of_length_eq_zero e));have:=RA.out.1;have:=HHB.out;exact ⟨lb,e1,by omega,e3.other (by omega) _ _⟩);have S5:Hid (HB<=(w5.setCell ⟨w.heap.size,4,none⟩ (.slice a5 g.ls.length c5)).heap.size):=(by show HB<=_;rw [HHB.out.1];simpa using b5.size);have q4:w5.cell? ⟨w.heap.size,4,none⟩=some (.slice g.la g.ls.length g.lc):=(cQa C5.out.box).trans rfl;have y4:w5.frozen? ⟨w.heap.size,4,none⟩=false:=(by simp [World.frozen?,C5.out.box]);have hz5:w.heap.size < w5.heap.size:=lt_of_block C5.out.box;clear k5 m5 b5)
   clear b3 b4 HC
   go_loopw [43] (fun z wr=>∃ (k E:Nat) (M:List LV),k<=g.ls.length/\z=.int .i64 k/\(CBx w.heap.size w #[.slice (some ⟨tb,0,none⟩) g.ts.length c1,.slice (some ⟨nb,0,none⟩) g.ns.length c2,.int .i64 g.start,.slice (some ⟨pb,0,none⟩) g.ps.length c3,.slice (a5) g.ls.length c5] wr/\(RB wr tb 9 (g.ts.map .string) c1 1/\RB wr nb 9 (g.ns.map .string) c2 1)/\PM A H wr pb c3 g.ps.length L)/\(g.ls≠[]->∃ lb,a5=some ⟨lb,0,none⟩/\LMt HB E wr lb c5 k M)/\(HB<=E/\E<=wr.heap.size)/\M.map LV.core=g.ls.map LV.core/\∀ i,k<=i->M.getD i .none=g.ls.getD i .none) (fun z _=>g.ls.length - (intOf z).toNat)
   case atStart =>
    refine ⟨0,_,g.ls,Nat.zero_le _,rfl,⟨D5.out,T5.out,P5.out⟩,fun hl=>?_,⟨S5.out,Nat.le_refl _⟩,rfl,fun _ _=>rfl⟩
    obtain ⟨lb,e1,e2,e3⟩:=K5.out hl
    exact ⟨lb,e1,e3,⟨e2,e3.lt⟩,fun i hi=>absurd hi (Nat.not_lt_zero _),fun i j hi=>absurd hi (Nat.not_lt_zero _)⟩
   case round =>
    clear q4 y4 C5 D5 T5 P5 K5 S5 hz5
    obtain ⟨k,E,M,hk,rfl,hC,hP,hH,hcore,hrest⟩:=hrel
    have hLl:M.length=g.ls.length:=by simpa using congrArg List.length hcore
    by_cases hlt:k < g.ls.length
    ·have hls:g.ls≠[]:=by intro e;rw [e] at hlt;simp at hlt
     obtain ⟨lb,e5,hP2⟩:=hP hls
     clear hP
     subst e5
     have hP:=hP2
     clear hP2
     have b3:wr.cell? ⟨w.heap.size,4,none⟩=some (.slice (some ⟨lb,0,none⟩) g.ls.length c5):=(cQa hC.1.box).trans rfl
     have HC:Hid ((CBx w.heap.size w #[.slice (some ⟨tb,0,none⟩) g.ts.length c1,.slice (some ⟨nb,0,none⟩) g.ns.length c2,.int .i64 g.start,.slice (some ⟨pb,0,none⟩) g.ps.length c3,.slice (some ⟨lb,0,none⟩) g.ls.length c5] wr/\(RB wr tb 9 (g.ts.map .string) c1 1/\RB wr nb 9 (g.ns.map .string) c2 1)/\PM A H wr pb c3 g.ps.length L)/\LMt HB E wr lb c5 k M/\(HB<=E/\E<=wr.heap.size)/\M.map LV.core=g.ls.map LV.core/\∀ i,k<=i->M.getD i .none=g.ls.getD i .none):=⟨hC,hP,hH,hcore,hrest⟩
     obtain ⟨p0,p1⟩:=levCells_get M k (by omega)
     have c0:=hP.row.cell p0
     have c1':=hP.row.cell p1
     have hmem:M.getD k .none∈g.ls:=by rw [hrest k (Nat.le_refl _)];simp [List.getD,hlt]
     have GA:=HGA.out wr hC.1.bel
     have HR:Hid (InRow wr (M.getD k .none).ta (M.getD k .none).terms/\(M.getD k .none).terms.length<=1048576):=⟨GA.l.rows _ hmem,GA.vl _ hmem⟩
     clear hC hP hH hcore hrest p0 p1 hmem GA
     generalize hx:M.getD k .none=x at *
     have HX:Hid (M.getD k .none=x):=hx
     clear hx
     obtain ⟨pl,pra,prc,pr⟩:=x
     simp only at c0 c1' HR
     go_wp2
     have BQ:Hid (Below wr.heap.size wr (wr.alloc (.cells #[.int .i64 pl,.slice pra pr.length prc] 120)).drew):=by show Below _ _ _;go_grown
     have hs0:Hid ((fun w'=>w'.cell? ⟨w.heap.size,4,none⟩=some (.slice (some ⟨lb,0,none⟩) g.ls.length c5)/\w'.cell? ⟨wr.heap.size,1,none⟩=some (.slice pra pr.length prc)) (wr.alloc (.cells #[.int .i64 pl,.slice pra pr.length prc] 120)).drew):=⟨(cQa (HC.out.1.1.later BQ.out).box).trans rfl,by show (wr.alloc (.cells #[.int .i64 pl,.slice pra pr.length prc] 120)).cell? _=_;rw [cQa (alloc_at wr _)];rfl⟩
     refine wp_region_x (S:=fun _=>(fun w'=>w'.cell? ⟨w.heap.size,4,none⟩=some (.slice (some ⟨lb,0,none⟩) g.ls.length c5)/\w'.cell? ⟨wr.heap.size,1,none⟩=some (.slice pra pr.length prc))) (by kernel_rfl) ?_
     refine wpAnyX_takeC (i:=0) (v:=?_) rfl (by kernel_rfl) (by decide +kernel) (by decide +kernel) (fun _ _ _ h=>h) (Or.inl ⟨by rfl,?_⟩) hs0.out ?_
     rotate_left
     ·(intro w hSw;(try dsimp only at hSw);go_simp;try (with_reducible rfl))
     (try simp only [Act.put,List.setIfInBounds_toArray,List.set_cons_zero,List.set_cons_succ])
     refine wpAnyX_takeC (i:=1) (v:=?_) rfl (by kernel_rfl) (by decide +kernel) (by decide +kernel) (fun _ _ _ h=>h) (Or.inl ⟨by rfl,?_⟩) hs0.out ?_
     rotate_left
     ·(intro w hSw;(try dsimp only at hSw);go_simp;try (with_reducible rfl))
     (try simp only [Act.put,List.setIfInBounds_toArray,List.set_cons_zero,List.set_cons_succ])
     refine wpAnyX_takeC (i:=2) (v:=?_) rfl (by kernel_rfl) (by decide +kernel) (by decide +kernel) (fun _ _ _ h=>h) (Or.inl ⟨by rfl,?_⟩) hs0.out ?_
     rotate_left
     ·(intro w hSw;(try dsimp only at hSw);go_simp;try (with_reducible rfl))
     (try simp only [Act.put,List.setIfInBounds_toArray,List.set_cons_zero,List.set_cons_succ])
     refine wpAnyX_takeC (i:=3) (v:=?_) rfl (by kernel_rfl) (by decide +kernel) (by decide +kernel) (fun _ _ _ h=>h) (Or.inl ⟨by rfl,?_⟩) hs0.out ?_
     rotate_left
     ·(intro w hSw;(try dsimp only at hSw);go_simp;try (with_reducible rfl))
     (try simp only [Act.put,List.setIfInBounds_toArray,List.set_cons_zero,List.set_cons_succ])
     refine wpAnyX_takeC (i:=4) (v:=?_) rfl (by kernel_rfl) (by decide +kernel) (by decide +kernel) (fun _ _ _ h=>h) (Or.inl ⟨by rfl,?_⟩) hs0.out ?_
     rotate_left
     ·(intro w hSw;(try dsimp only at hSw);go_simp;try (with_reducible rfl))
     (try simp only [Act.put,List.setIfInBounds_toArray,List.set_cons_zero,List.set_cons_succ])
     refine wX1 (j:=5) (by decide +kernel) rfl (fun K' hK=>?_)
     refine sCX rfl 112 #[.slice pra pr.length prc] _ (run_cint (v0:=.slice pra pr.length prc) (by rfl) (by rfl) _) (clone_int pra pr.length prc (pr.map (Value.int .i64 ·)) _ (by simp) HR.out.2 (inRow_cells (HR.out.1.later BQ.out)) (int_one _)) ?_
     rintro e w4 ⟨a4,c4,rfl,k4,m4,b4⟩
     have B4:Hid (Below wr.heap.size wr w4):=BQ.out.trans (b4.mono BQ.out.size)
     have s4:Hid ((fun w'=>w'.cell? ⟨w.heap.size,4,none⟩=some (.slice (some ⟨lb,0,none⟩) g.ls.length c5)/\w'.cell? ⟨wr.heap.size,1,none⟩=some (.slice pra pr.length prc)) w4):=⟨(cQa (HC.out.1.1.later B4.out).box).trans rfl,(b4.cell (p:=⟨wr.heap.size,1,none⟩) (by show _ < (wr.alloc (.cells #[.int .i64 pl,.slice pra pr.length prc] 120)).heap.size;simp)).trans hs0.out.2⟩
     have P4:Hid (LMt HB E w4 lb c5 k M):=HC.out.2.1.later HC.out.2.2.1.2 B4.out
     refine ⟨_,rfl,hK.out _ _ s4.out ?_⟩
     clear hK K'
     refine wpAnyX_takeC (i:=6) (v:=?_) rfl (by kernel_rfl) (by decide +kernel) (by decide +kernel) (fun _ _ _ h=>h) (Or.inl ⟨by rfl,?_⟩) s4.out ?_
     rotate_left
     ·(intro w hSw;(try dsimp only at hSw);go_simp;try (with_reducible rfl))
     (try simp only [Act.put,List.setIfInBounds_toArray,List.set_cons_zero,List.set_cons_succ])
     refine wpAnyX_takeC (i:=7) (v:=?_) rfl (by kernel_rfl) (by decide +kernel) (by decide +kernel) (fun _ _ _ h=>h) (Or.inl ⟨by rfl,?_⟩) s4.out ?_
     rotate_left
     ·(intro w hSw;(try dsimp only at hSw);go_simp;try (with_reducible rfl))
     (try simp only [Act.put,List.setIfInBounds_toArray,List.set_cons_zero,List.set_cons_succ])
     have x1:w4.cell? ⟨lb,k*2+1,none⟩=some (.slice pra pr.length prc):=(by have hh:=P4.out.row.cell (levCells_get M k (by omega)).2;rw [HX.out] at hh;exact hh)
     have x2:w4.frozen? ⟨lb,k*2+1,none⟩=false:=P4.out.row.free _
     have x3:lb < w4.heap.size:=P4.out.row.lt
     have LB:Hid (w.heap.size+2<=lb/\tb < lb/\nb < lb/\H<=lb/\lb < wr.heap.size):=by
      have h1:=HC.out.2.1.lo;have h2:=RA.out;have h3:=HHB.out;have h4:=HC.out.2.2.1.2
      exact ⟨by omega,by omega,by omega,by omega,by omega⟩
     refine wX1 (j:=8) (by decide +kernel) rfl (fun K' hK=>?_)
     go_simp
     refine hK.out _ _ (by have hh:=s4.out;exact ⟨(cQa ((HC.out.1.1.later B4.out).put lb _ _ LB.out.1).box).trans rfl,(World.cell?_of_block (Below.heap_setCell _ _ _ _ (show wr.heap.size≠lb by have:=LB.out;omega))).trans hh.2⟩) ?_
     clear hK K'
     refine wXd (by decide +kernel) ?_
     go_wp2
     go_roundw
     case rel =>
      have PP:=P4.out.push (by omega) a4 c4 w4.heap.size (Nat.le_trans HC.out.2.2.1.2 B4.out.size) (fun hr=>by
       rw [HX.out] at hr ⊢
       obtain ⟨b,e1,e2,e3⟩:=k4 (fun e=>hr (List.eq_nil_of_length_eq_zero e))
       exact ⟨b,e1,Nat.le_trans (Nat.le_trans HC.out.2.2.1.2 BQ.out.size) e2,e3.lt,e3⟩)
      have hlb:=LB.out
      have CR:=core_setL (L:=M) (k:=k) (by omega) a4 c4
      have GN:∀ i,k+1<=i->(M.set k { M.getD k .none with ta:=a4,tc:=c4 }).getD i .none=g.ls.getD i .none:=fun i hi=>by rw [getD_set_ne (by omega)];exact HC.out.2.2.2.2 i (by omega)
      rw [HX.out] at PP CR GN
      refine ⟨k+1,w4.heap.size,_,by omega,by go_num,⟨(HC.out.1.1.later B4.out).put lb _ _ (by omega),⟨(HC.out.1.2.1.1.later B4.out).other (by omega) _ _,(HC.out.1.2.1.2.later B4.out).other (by omega) _ _⟩,(HC.out.1.2.2.later (Nat.le_trans HHB.out.2.1 (Nat.le_trans HC.out.2.2.1.1 HC.out.2.2.1.2)) B4.out).kept (fun j _ hj=>Below.heap_setCell _ _ _ _ (show j≠lb by omega))⟩,fun _=>⟨lb,rfl,PP⟩,⟨Nat.le_trans HC.out.2.2.1.1 (Nat.le_trans HC.out.2.2.1.2 B4.out.size),by simp⟩,CR.trans HC.out.2.2.2.1,GN⟩
     case measure=>simp [intOf];omega
    ·obtain rfl:k=g.ls.length:=by omega
     have b0:wr.cell? ⟨w.heap.size,0,none⟩=some (.slice (some ⟨tb,0,none⟩) g.ts.length c1):=(cQa hC.1.box).trans rfl
     have b1:wr.cell? ⟨w.heap.size,1,none⟩=some (.slice (some ⟨nb,0,none⟩) g.ns.length c2):=(cQa hC.1.box).trans rfl
     have b2:wr.cell? ⟨w.heap.size,2,none⟩=some (.int .i64 g.start):=(cQa hC.1.box).trans rfl
     have b3:wr.cell? ⟨w.heap.size,3,none⟩=some (.slice (some ⟨pb,0,none⟩) g.ps.length c3):=(cQa hC.1.box).trans rfl
     have b4:wr.cell? ⟨w.heap.size,4,none⟩=some (.slice a5 g.ls.length c5):=(cQa hC.1.box).trans rfl
     have r0:wr.cell? ⟨w.heap.size+1,0,none⟩=some (.slice none 0 0):=(cQa hC.1.out).trans rfl
     have y0:wr.frozen? ⟨w.heap.size+1,0,none⟩=false:=by simp [World.frozen?,hC.1.out]
     have r1:wr.cell? ⟨w.heap.size+1,1,none⟩=some (.slice none 0 0):=(cQa hC.1.out).trans rfl
     have y1:wr.frozen? ⟨w.heap.size+1,1,none⟩=false:=by simp [World.frozen?,hC.1.out]
     have r2:wr.cell? ⟨w.heap.size+1,2,none⟩=some (.int .i64 0):=(cQa hC.1.out).trans rfl
     have y2:wr.frozen? ⟨w.heap.size+1,2,none⟩=false:=by simp [World.frozen?,hC.1.out]
     have r3:wr.cell? ⟨w.heap.size+1,3,none⟩=some (.slice none 0 0):=(cQa hC.1.out).trans rfl
     have y3:wr.frozen? ⟨w.heap.size+1,3,none⟩=false:=by simp [World.frozen?,hC.1.out]
     have r4:wr.cell? ⟨w.heap.size+1,4,none⟩=some (.slice none 0 0):=(cQa hC.1.out).trans rfl
     have y4:wr.frozen? ⟨w.heap.size+1,4,none⟩=false:=by simp [World.frozen?,hC.1.out]
     have hz:w.heap.size+1 < wr.heap.size:=lt_of_block hC.1.out
     have HF:Hid ((CBx w.heap.size w #[.slice (some ⟨tb,0,none⟩) g.ts.length c1,.slice (some ⟨nb,0,none⟩) g.ns.length c2,.int .i64 g.start,.slice (some ⟨pb,0,none⟩) g.ps.length c3,.slice a5 g.ls.length c5] wr/\(RB wr tb 9 (g.ts.map .string) c1 1/\RB wr nb 9 (g.ns.map .string) c2 1)/\PM A H wr pb c3 g.ps.length L)/\(g.ls≠[]->∃ lb,a5=some ⟨lb,0,none⟩/\LMt HB E wr lb c5 g.ls.length M)/\(HB<=E/\E<=wr.heap.size)/\M.map LV.core=g.ls.map LV.core):=⟨hC,hP,hH,hcore⟩
     clear hC hP hH hcore hrest
     go_wp2
     refine bodyPost_ret (v:=.agg #[.slice (some ⟨tb,0,none⟩) g.ts.length c1,.slice (some ⟨nb,0,none⟩) g.ns.length c2,.int .i64 g.start,.slice (some ⟨pb,0,none⟩) g.ps.length c3,.slice a5 g.ls.length c5]) (by simp [results,Tryz.results110,go_sem,r0,r1,r2,r3,r4,hz]) rfl ?_
     obtain ⟨⟨hC,hT,hPM⟩,hP,hH,hcore⟩:=HF.out
     have hra:=RA.out
     have hhb:=HHB.out
     have hne:=NEQ.out
     have e1:L.length=g.ps.length:=by simpa using congrArg List.length CO.out
     have hk:∀ j,j≠w.heap.size+1->(((((wr.setCell ⟨w.heap.size+1,0,none⟩ (.slice (some ⟨tb,0,none⟩) g.ts.length c1)).setCell ⟨w.heap.size+1,1,none⟩ (.slice (some ⟨nb,0,none⟩) g.ns.length c2)).setCell ⟨w.heap.size+1,2,none⟩ (.int .i64 g.start)).setCell ⟨w.heap.size+1,3,none⟩ (.slice (some ⟨pb,0,none⟩) g.ps.length c3)).setCell ⟨w.heap.size+1,4,none⟩ (.slice a5 g.ls.length c5)).heap[j]?=wr.heap[j]?:=fun j hj=>by
      rw [Below.heap_setCell _ _ _ _ hj,Below.heap_setCell _ _ _ _ hj,Below.heap_setCell _ _ _ _ hj,Below.heap_setCell _ _ _ _ hj,Below.heap_setCell _ _ _ _ hj]
     refine ⟨⟨some ⟨tb,0,none⟩,c1,g.ts,some ⟨nb,0,none⟩,c2,g.ns,g.start,some ⟨pb,0,none⟩,c3,L,a5,c5,M⟩,A,HB,E,pb,ablk a5,tb,nb,?_,⟨rfl,rfl,rfl,CO.out,hcore⟩,⟨?_,⟨rfl,hT.1.kept (hk _ (by omega)),.inl hra.2.1,by omega⟩,⟨rfl,hT.2.kept (hk _ (by omega)),.inl hra.2.2.1,by omega⟩,rfl,?_,?_,?_,by omega⟩,?_⟩
     ·simp only [GV.val,e1,hLl]
     ·refine ⟨by omega,hhb.2.2,hH.1,?_⟩
      simpa using hH.2
     ·show PM A HB _ pb c3 L.length L
      rw [e1]
      exact (hPM.kept (fun j hj _=>hk j (by omega))).mono hhb.2.1
     ·show L.length<=c3
      omega
     ·intro hl
      obtain ⟨lb,e5,hP2⟩:=hP (fun e=>hl (by simpa [e] using hLl))
      subst e5
      refine ⟨rfl,?_⟩
      show LMt HB E _ lb c5 M.length M
      rw [hLl]
      exact hP2.kept (fun j hj _=>hk j (by omega))
     ·exact ((((hC.bel.setCell (p:=⟨w.heap.size+1,0,none⟩) (by show w.heap.size<=w.heap.size+1;omega) _).setCell (p:=⟨w.heap.size+1,1,none⟩) (by show w.heap.size<=w.heap.size+1;omega) _).setCell (p:=⟨w.heap.size+1,2,none⟩) (by show w.heap.size<=w.heap.size+1;omega) _).setCell (p:=⟨w.heap.size+1,3,none⟩) (by show w.heap.size<=w.heap.size+1;omega) _).setCell (p:=⟨w.heap.size+1,4,none⟩) (by show w.heap.size<=w.heap.size+1;omega) _
open Go.RowKit Go.Shelf Go.Sort
def revRen:Ren:=⟨fun _=>111,fun x=>if x=22 then 100 else if x=23 then 82 else x,fun x=>x⟩
theorem rev_lays:SlLaysE0.n35 Tryz.prog revRen:={
 mixed:=by kernel_rfl
 f35:=⟨Tryz.f111.name,by decide,by kernel_rfl⟩
 t0:=by kernel_rfl
 a0:=fun _=>by kernel_rfl
 z0:=fun _=>by kernel_rfl
 v0:=fun _=>by kernel_rfl
 t3:=by kernel_rfl
 a3:=fun _=>by kernel_rfl
 z3:=fun _=>by kernel_rfl
 v3:=fun _=>by kernel_rfl
 t4:=by kernel_rfl
 a4:=fun _=>by kernel_rfl
 z4:=fun _=>by kernel_rfl
 v4:=fun _=>by kernel_rfl
 t22:=by kernel_rfl
 a22:=fun _=>by kernel_rfl
 z22:=fun _=>by kernel_rfl
 v22:=fun _=>by kernel_rfl }
def symEnc (q:Int×Int):List Value:=[.int .i64 q.1,.int .i64 q.2]
theorem flat_sym (r:List (Int×Int)):flatK symEnc 2 r.toArray=(sCl r).toArray:=by
 apply Array.ext
 ·simp [symCells_len]
 ·intro t h1 h2
  have ht:t < r.length*2:=by simpa using h1
  have hk:t / 2 < r.length:=by omega
  obtain ⟨q1,q2⟩:=symCells_get r (t / 2) hk
  have hm:t % 2=0∨t % 2=1:=by omega
  have e0:r.getD (t / 2) (0,0)=r[t / 2]:=by simp [List.getD,hk]
  rcases hm with hm | hm
  ·have e:t / 2*2=t:=by omega
   rw [e,e0] at q1
   have q1':=(List.getElem?_eq_some_iff.1 q1).2
   simp only [flatK,List.getElem_toArray,Array.getElem_map,Array.getElem_range,q1',hm]
   simp [symEnc,hk]
  ·have e:t / 2*2+1=t:=by omega
   rw [e,e0] at q2
   have q2':=(List.getElem?_eq_some_iff.1 q2).2
   simp only [flatK,List.getElem_toArray,Array.getElem_map,Array.getElem_range,q2',hm]
   simp [symEnc,hk]
theorem RB.holds {w:World}{b:Nat}{t:TypeId}{xs:List Value}{c s:Nat}(h:RB w b t xs c s):Holds id w b 0 xs.toArray:=fun j hj=>by
 have hj':j < xs.length:=by simpa using hj
 refine ⟨?_,h.free _⟩
 rw [Nat.zero_add,h.cell (i:=j) (u:=xs[j]) (List.getElem?_eq_getElem hj')]
 simp [hj']
theorem heap_put {w:World}{b n:Nat}{F:Array Value}{cur:Array Value}{t:TypeId}(hb:w.heap[b]?=some (.cells cur t (0,0))):(putRow id (Sort.ahead w n) b 0 F).heap[b]?=some (.cells (putCells id 0 F cur) t (0,0)):=by
 simp [putRow,mapBlock,Sort.ahead,Array.getElem?_modify,hb,onCells]
theorem heap_put_ne {w:World}{b n j:Nat}{F:Array Value}(h:j≠b):(putRow id (Sort.ahead w n) b 0 F).heap[j]?=w.heap[j]?:=by
 simp [putRow,mapBlock,Sort.ahead,Array.getElem?_modify,Ne.symm h]
theorem RB.put {w:World}{b:Nat}{t:TypeId}{xs ys:List Value}{c s:Nat}(h:RB w b t xs c s)(n:Nat)(hl:ys.length=xs.length):RB (putRow id (Sort.ahead w n) b 0 ys.toArray) b t ys c s:=by
 obtain ⟨cur,h1,h2,_,h4,h5⟩:=h
 refine ⟨_,heap_put h1,by simp [putCells];omega,?_,by simpa [putCells] using h4,h5⟩
 apply List.ext_getElem?
 intro j
 by_cases hj:j < ys.length
 ·rw [List.getElem?_take_of_lt hj,Array.getElem?_toList]
  simp [putCells,hj,show j < cur.size by omega]
 ·rw [List.getElem?_take_eq_none (by omega),List.getElem?_eq_none (by omega)]
structure Turned (w w':World)(b:Nat):Prop where
 size:w.heap.size<=w'.heap.size
 other:∀ j,j < w.heap.size->j≠b->w'.heap[j]?=w.heap[j]?
 bel:∀ B,B<=w.heap.size->B<=b->Below B w w'
theorem turned_put (w:World)(b n:Nat)(F:Array Value):Turned w (putRow id (Sort.ahead w n) b 0 F) b:=by
 have hs:(putRow id (Sort.ahead w n) b 0 F).heap.size=w.heap.size:=by simp [putRow,mapBlock,Sort.ahead]
 refine ⟨by omega,fun j _ hj=>heap_put_ne hj,fun B hB hb=>?_⟩
 have hg:w.grownBy (putRow id (Sort.ahead w n) b 0 F) (some b):=⟨rfl,rfl,rfl,by omega,fun k _ hk=>heap_put_ne fun e=>hk (by rw [e])⟩
 exact (Below.refl B w).grown hg hB (fun k e=>by cases e;exact hb)
theorem rev_sym {C S:Nat}(b c:Nat)(r:List (Int×Int))(w:World)(hr:r.length<=1048576)(h:RB w b 82 (sCl r) C S) :
  Calls Tryz.prog 111 #[.slice (some ⟨b,0,none⟩) r.length c] w fun e w'=>e=.returned (.tuple #[])/\RB w' b 82 (sCl r.reverse) C S/\Turned w w' b:=by
 have hH:HoldsK symEnc 2 w b 0 r.toArray:=by
  unfold HoldsK
  rw [flat_sym]
  exact h.holds
 have hc:=AnyQ.slices_Reverse rev_lays 2 (fun _=>by kernel_rfl) (fun _=>by kernel_rfl) symEnc (fun _=>rfl) (fun x v hv=>by simp [symEnc] at hv;rcases hv with rfl | rfl<;>rfl) b 0 c r.toArray w hH (by simp;omega)
 change Calls Tryz.prog 111 _ _ _ at hc
 simp only [List.reverse_toArray,List.size_toArray] at hc
 refine hc.mono ?_
 rintro e w' ⟨rfl,n,rfl⟩
 refine ⟨rfl,?_,?_⟩
 ·unfold putRowK
  rw [flat_sym]
  exact h.put n (by simp [symCells_len])
 ·exact turned_put w b n _
theorem rev_none (ao:Option Addr)(c:Nat)(w:World):Calls Tryz.prog 111 #[.slice ao 0 c] w fun e w'=>e=.returned (.tuple #[])/\w'=w:=by
 go_enter Tryz.func111,Tryz.ntmps111
 go_wp2
 go_loopw [2,3] (fun i j wr=>i=.int .i64 0/\j=.int .i64 (-1)/\wr=w) (fun _ _ _=>0)
 case atStart=>exact ⟨rfl,rfl,rfl⟩
 case round =>
  obtain ⟨rfl,rfl,rfl⟩:=hrel
  go_wp2
  go_end0
  exact ⟨rfl,rfl⟩
theorem MG.prods {B:Nat}{w w':World}{g:GV}{A H E pb lb tb nb:Nat}(h:MG B w g A H E pb lb tb nb)(hs:w.heap.size<=w'.heap.size)(hk:∀ j,j < w.heap.size->j < A∨H<=j->w'.heap[j]?=w.heap[j]?)(L:List PV)(hL:L.length=g.ps.length)(hp:PM A H w' pb g.pc L.length L):MG B w' { g with ps:=L } A H E pb lb tb nb:=by
 have ho:=h.ord
 refine ⟨⟨ho.1,ho.2.1,ho.2.2.1,by omega⟩,⟨h.t.1,h.t.2.1.kept (hk _ h.t.2.1.lt (by have:=h.t.2.2;omega)),h.t.2.2⟩,⟨h.n_.1,h.n_.2.1.kept (hk _ h.n_.2.1.lt (by have:=h.n_.2.2;omega)),h.n_.2.2⟩,h.pa,hp,by show L.length<=g.pc;rw [hL];exact h.pc,fun hl=>⟨(h.l hl).1,(h.l hl).2.kept fun j hj hj2=>hk j (by omega) (.inr hj)⟩,h.tn⟩
theorem MG.later {B:Nat}{w w':World}{g:GV}{A H E pb lb tb nb:Nat}(h:MG B w g A H E pb lb tb nb)(hb:Below w.heap.size w w'):MG B w' g A H E pb lb tb nb:=by
 have ho:=h.ord
 have hbs:=hb.size
 exact ⟨⟨ho.1,ho.2.1,ho.2.2.1,by omega⟩,⟨h.t.1,h.t.2.1.later hb,h.t.2.2⟩,⟨h.n_.1,h.n_.2.1.later hb,h.n_.2.2⟩,h.pa,h.p.later (by omega) hb,h.pc,fun hl=>⟨(h.l hl).1,(h.l hl).2.later ho.2.2.2 hb⟩,h.tn⟩
theorem strRow_of {w:World}{b c s:Nat}{l:List ByteArray}(h:RB w b 9 (l.map .string) c s):StrRow w (some ⟨b,0,none⟩) l:=by
 intro _
 refine ⟨b,0,rfl,h.lt,fun i hi=>?_⟩
 have r1:=h.cell (i:=i) (u:=.string (l.getD i ByteArray.empty)) (by simp [List.getD,hi])
 simpa using r1
theorem MG.at {B:Nat}{w:World}{g:GV}{A H E pb lb tb nb:Nat}(h:MG B w g A H E pb lb tb nb)(n:Nat)(tz:∀ s∈g.ts,s.size<=maxLen)(nz:∀ s∈g.ns,s.size<=maxLen)(tl:g.ts.length<=n)(nl:g.ns.length<=n)(pl:g.ps.length<=n)(ll:g.ls.length<=n)(rl:∀ p∈g.ps,p.right.length<=n)(vl:∀ p∈g.ls,p.terms.length<=n):GAt n w g:=by
 refine ⟨?_,?_,?_,?_,tz,nz,tl,nl,pl,ll,rl,vl⟩
 ·rw [h.t.1];exact strRow_of h.t.2.1
 ·rw [h.n_.1];exact strRow_of h.n_.2.1
 ·rw [h.pa];exact h.p.at
 ·by_cases hl:g.ls=[]
  ·rw [hl];exact ⟨fun e=>absurd rfl e,fun p hp=>by cases hp⟩
  ·rw [(h.l hl).1];exact (h.l hl).2.at
theorem MG.kept {B:Nat}{w w':World}{g:GV}{A H E pb lb tb nb:Nat}(h:MG B w g A H E pb lb tb nb)(hs:w.heap.size<=w'.heap.size)(hk:∀ j,B<=j->j < w.heap.size->w'.heap[j]?=w.heap[j]?):MG B w' g A H E pb lb tb nb:=by
 have ho:=h.ord
 exact ⟨⟨ho.1,ho.2.1,ho.2.2.1,by omega⟩,⟨h.t.1,h.t.2.1.kept (hk _ h.t.2.2.2 h.t.2.1.lt),h.t.2.2⟩,⟨h.n_.1,h.n_.2.1.kept (hk _ h.n_.2.2.2 h.n_.2.1.lt),h.n_.2.2⟩,h.pa,h.p.kept fun j hj hj2=>hk j (by omega) (by omega),h.pc,fun hl=>⟨(h.l hl).1,(h.l hl).2.kept fun j hj hj2=>hk j (by omega) (by omega)⟩,h.tn⟩
theorem MG.mono {B B':Nat}{w:World}{g:GV}{A H E pb lb tb nb:Nat}(h:MG B w g A H E pb lb tb nb)(hB:B'<=B):MG B' w g A H E pb lb tb nb:=by
 have ho:=h.ord
 have h1:=h.t.2.2.2
 have h2:=h.n_.2.2.2
 exact ⟨⟨by omega,ho.2⟩,⟨h.t.1,h.t.2.1,h.t.2.2.1,by omega⟩,⟨h.n_.1,h.n_.2.1,h.n_.2.2.1,by omega⟩,h.pa,h.p,h.pc,h.l,h.tn⟩
theorem core_ext {α β:Type}(f:α->β)(d:α){l m:List α}(hl:l.length=m.length)(h:∀ i,i < l.length->f (l.getD i d)=f (m.getD i d)):l.map f=m.map f:=by
 apply List.ext_getElem
 ·simpa using hl
 ·intro i h1 h2
  have h1':i < l.length:=by simpa using h1
  have:=h i h1'
  simp [List.getD,h1',show i < m.length by omega] at this
  simpa using this
def crev (c:Int×List (Int×Int)×Int):Int×List (Int×Int)×Int:=(c.1,c.2.1.reverse,c.2.2)
theorem CBx.five {n0:Nat}{w0 w:World}{arr:Array Value}(h:CBx n0 w0 arr w)(a b c d e:Value) :
  Below n0 w0 (((((w.setCell ⟨n0+1,0,none⟩ a).setCell ⟨n0+1,1,none⟩ b).setCell ⟨n0+1,2,none⟩ c).setCell ⟨n0+1,3,none⟩ d).setCell ⟨n0+1,4,none⟩ e)/\∀ j,j≠n0+1->(((((w.setCell ⟨n0+1,0,none⟩ a).setCell ⟨n0+1,1,none⟩ b).setCell ⟨n0+1,2,none⟩ c).setCell ⟨n0+1,3,none⟩ d).setCell ⟨n0+1,4,none⟩ e).heap[j]?=w.heap[j]?:=by
 refine ⟨((((h.bel.setCell (p:=⟨n0+1,0,none⟩) (by show n0<=n0+1;omega) _).setCell (p:=⟨n0+1,1,none⟩) (by show n0<=n0+1;omega) _).setCell (p:=⟨n0+1,2,none⟩) (by show n0<=n0+1;omega) _).setCell (p:=⟨n0+1,3,none⟩) (by show n0<=n0+1;omega) _).setCell (p:=⟨n0+1,4,none⟩) (by show n0<=n0+1;omega) _,fun j hj=>?_⟩
 rw [Below.heap_setCell _ _ _ _ hj,Below.heap_setCell _ _ _ _ hj,Below.heap_setCell _ _ _ _ hj,Below.heap_setCell _ _ _ _ hj,Below.heap_setCell _ _ _ _ hj]
set_option maxRecDepth 100000 in
set_option maxHeartbeats 4000000 in
theorem reverse_ok (g:GV)(w:World)(h:GAt 140737488355328 w g)(hpc:g.ps.length<=g.pc)(at_:Int)(hE:cG_ g (cF_ g.ts g.ns)=(0,at_)) :
  Calls Tryz.prog 89 #[g.val] w fun e w'=>∃ g' A H E pb lb tb nb,e=.returned (.tuple #[g'.val,.int .i64 0])/\SameG g.rev g'/\MG w.heap.size w' g' A H E pb lb tb nb/\Below w.heap.size w w':=by
 have ok:OkC g:=OkC.of (by rw [hE])
 have CB0:Hid (CBx w.heap.size w #[.slice g.ta g.ts.length g.tc,.slice g.na g.ns.length g.nc,.int .i64 g.start,.slice g.pa g.ps.length g.pc,.slice g.la g.ls.length g.lc] ((w.alloc (.cells #[.slice g.ta g.ts.length g.tc,.slice g.na g.ns.length g.nc,.int .i64 g.start,.slice g.pa g.ps.length g.pc,.slice g.la g.ls.length g.lc] 63)).alloc (.cells #[.slice none 0 0,.slice none 0 0,.int .i64 0,.slice none 0 0,.slice none 0 0] 63))):=cb_start g w
 have HGA:Hid (∀ w',Below w.heap.size w w'->GAt 140737488355328 w' g):=fun w' hb=>h.later hb
 have he:((0:Int) != 0)=false:=by simp
 have HO:Hid (OkC g):=ok
 have HN:Hid (g.ts≠[]/\g.ns≠[]/\g.ps≠[]):=⟨fun e=>by have:=ok.tl;rw [e] at this;simp at this,fun e=>by have:=ok.nl;rw [e] at this;simp at this,fun e=>by have:=ok.pl;rw [e] at this;simp at this⟩
 clear h ok
 go_enter Tryz.func89,Tryz.ntmps89
 go_wp2_with (first
  | (go_at_call 79;refine (check_G g _ (HGA.out _ CB0.out.bel) hpc 0 at_ hE).mono ?_;rintro e w1 ⟨rfl,b1⟩;have C1:Hid (CBx w.heap.size w #[.slice g.ta g.ts.length g.tc,.slice g.na g.ns.length g.nc,.int .i64 g.start,.slice g.pa g.ps.length g.pc,.slice g.la g.ls.length g.lc] w1):=CB0.out.later b1;have x0:w1.cell? ⟨w.heap.size,0,none⟩=some (.slice g.ta g.ts.length g.tc):=(cQa C1.out.box).trans rfl;have x1:w1.cell? ⟨w.heap.size,1,none⟩=some (.slice g.na g.ns.length g.nc):=(cQa C1.out.box).trans rfl;have x2:w1.cell? ⟨w.heap.size,2,none⟩=some (.int .i64 g.start):=(cQa C1.out.box).trans rfl;have x3:w1.cell? ⟨w.heap.size,3,none⟩=some (.slice g.pa g.ps.length g.pc):=(cQa C1.out.box).trans rfl;have x4:w1.cell? ⟨w.heap.size,4,none⟩=some (.slice g.la g.ls.length g.lc):=(cQa C1.out.box).trans rfl;have hz:w.heap.size < w1.heap.size:=lt_of_block C1.out.box;clear b1)
  | (go_at_call 110;refine (clone_G g _ ((HGA.out _ C1.out.bel).ok HO.out) HN.out.1 HN.out.2.1 HN.out.2.2).mono ?_;rintro e w2 ⟨⟨ta,tc,ts,na,nc,ns,st,pa,pc,ps,la,lc,ls⟩,A,H,E,pb,lb,tb,nb,rfl,sg,mg,b2⟩;obtain rfl:ts=g.ts:=sg.ts;obtain rfl:ns=g.ns:=sg.ns;obtain rfl:st=g.start:=sg.start;obtain rfl:pa=some ⟨pb,0,none⟩:=mg.pa;have C2:Hid (CBx w.heap.size w #[.slice g.ta g.ts.length g.tc,.slice g.na g.ns.length g.nc,.int .i64 g.start,.slice g.pa g.ps.length g.pc,.slice g.la g.ls.length g.lc] w2):=C1.out.later b2;have M2:Hid (MG w1.heap.size w2 ⟨ta,tc,g.ts,na,nc,g.ns,g.start,some ⟨pb,0,none⟩,pc,ps,la,lc,ls⟩ A H E pb lb tb nb):=mg;have S2:Hid (ps.map PV.core=g.ps.map PV.core/\ls.map LV.core=g.ls.map LV.core):=⟨sg.ps,sg.ls⟩;have hpl:ps.length<=1048576:=(by have h1:=congrArg List.length sg.ps;have h2:=HO.out.pl.2;simp at h1;omega);clear sg mg b2))
 obtain ⟨b6,hb6⟩:∃ b6,b6=w2.heap.size:=⟨_,rfl⟩
 obtain ⟨B,hB⟩:∃ B,B=w1.heap.size:=⟨_,rfl⟩
 have HB:Hid (B=w1.heap.size/\w.heap.size+2<=B/\E<=b6):=⟨hB,by rw [hB];exact lt_of_block C1.out.out,by have:=M2.out.ord.2.2.2;omega⟩
 rw [<- hb6]
 go_loopw [23] (fun z wr=>∃ (k:Nat) (L:List PV),k<=ps.length/\z=.int .i64 k/\CBx w.heap.size w #[.slice g.ta g.ts.length g.tc,.slice g.na g.ns.length g.nc,.int .i64 g.start,.slice g.pa g.ps.length g.pc,.slice g.la g.ls.length g.lc] wr/\wr.heap[b6]?=some (.cells #[.slice ta g.ts.length tc,.slice na g.ns.length nc,.int .i64 g.start,.slice (some ⟨pb,0,none⟩) ps.length pc,.slice la ls.length lc] 63 (0,0))/\MG B wr ⟨ta,tc,g.ts,na,nc,g.ns,g.start,some ⟨pb,0,none⟩,pc,L,la,lc,ls⟩ A H E pb lb tb nb/\L.length=ps.length/\∀ i,i < L.length->(L.getD i .none).core=if i < k then crev (ps.getD i .none).core else (ps.getD i .none).core) (fun z _=>ps.length - (intOf z).toNat)
 case atStart =>
  refine ⟨0,ps,Nat.zero_le _,rfl,C2.out.later (bAl _ _),by rw [hb6];exact alloc_at _ _,?_,rfl,fun i _=>by rw [if_neg (Nat.not_lt_zero _)]⟩
  rw [hB]
  exact M2.out.later (bAl _ _)
 case round =>
  clear x0 x1 x2 x3 x4 hz C1 C2 M2 CB0 hB hb6
  obtain ⟨k,L,hk,rfl,hC,hT,hM,hLl,hcore⟩:=hrel
  have HC:Hid (CBx w.heap.size w #[.slice g.ta g.ts.length g.tc,.slice g.na g.ns.length g.nc,.int .i64 g.start,.slice g.pa g.ps.length g.pc,.slice g.la g.ls.length g.lc] wr/\wr.heap[b6]?=some (.cells #[.slice ta g.ts.length tc,.slice na g.ns.length nc,.int .i64 g.start,.slice (some ⟨pb,0,none⟩) ps.length pc,.slice la ls.length lc] 63 (0,0))/\MG B wr ⟨ta,tc,g.ts,na,nc,g.ns,g.start,some ⟨pb,0,none⟩,pc,L,la,lc,ls⟩ A H E pb lb tb nb/\L.length=ps.length/\∀ i,i < L.length->(L.getD i .none).core=if i < k then crev (ps.getD i .none).core else (ps.getD i .none).core):=⟨hC,hT,hM,hLl,hcore⟩
  by_cases hlt:k < ps.length
  ·obtain ⟨p0,p1,p2⟩:=proCells_get L k (by omega)
   have c0:=hM.p.row.cell p0
   have c1':=hM.p.row.cell p1
   have c2':=hM.p.row.cell p2
   have HE:Hid ((L.getD k .none).right≠[]->(L.getD k .none).ra=some ⟨ablk (L.getD k .none).ra,0,none⟩/\(A<=ablk (L.getD k .none).ra/\ablk (L.getD k .none).ra < H)/\RB wr (ablk (L.getD k .none).ra) 82 (sCl (L.getD k .none).right) (L.getD k .none).rc 2):=fun hr=>by
    have:=hM.p.each k (by show k < L.length;omega) hr
    exact ⟨this.1,this.2.1,this.2.2.2⟩
   have HR0:Hid ((L.getD k .none).right.length<=1048576):=by
    show _<=_
    have h1:(L.getD k .none).core=(g.ps.getD k .none).core:=by
     rw [hcore k (by omega),if_neg (Nat.lt_irrefl _),getD_core PV.core,S2.out.1,<- getD_core PV.core]
    have h2:(L.getD k .none).right=(g.ps.getD k .none).right:=congrArg (·.2.1) h1
    have h3:ps.length=g.ps.length:=by simpa using congrArg List.length S2.out.1
    have:=HO.out.right k (by omega)
    rw [h2];omega
   clear hC hT hM hcore p0 p1 p2
   generalize hx:L.getD k .none=x at *
   have HX:Hid (L.getD k .none=x):=hx
   clear hx
   obtain ⟨pl,pra,prc,pr,pp⟩:=x
   simp only at c0 c1' c2' HE HR0
   have BA:Hid (Below wr.heap.size wr (wr.alloc (.cells #[.int .i64 pl,.slice pra pr.length prc,.int .i64 pp] 116))):=bAl _ _
   have SA:Hid ((wr.alloc (.cells #[.int .i64 pl,.slice pra pr.length prc,.int .i64 pp] 116)).heap.size=wr.heap.size+1):=by show _=_;simp
   by_cases hr:pr=[]
   ·subst hr
    simp only [List.length_nil] at c1'
    go_wp2_with (go_at_call 111;refine (rev_none pra prc _).mono ?_;rintro e w4 ⟨rfl,rfl⟩)
    go_roundw
    case rel =>
     obtain ⟨hC,hT,hM,hLl,hcore⟩:=HC.out
     refine ⟨k+1,L,by omega,by go_num,hC.later BA.out,(BA.out.block _ (lt_of_block hT)).trans hT,hM.later BA.out,hLl,fun i hi=>?_⟩
     by_cases e:i=k
     ·subst e
      have h1:=hcore i hi
      rw [if_neg (Nat.lt_irrefl _)] at h1
      rw [if_pos (by omega),<- h1,HX.out]
      rfl
     ·rw [hcore i hi]
      by_cases e2:i < k
      ·rw [if_pos e2,if_pos (by omega)]
      ·rw [if_neg e2,if_neg (by omega)]
    case measure=>simp [intOf];omega
   ·obtain ⟨hra,hlo,hrb⟩:=HE.out hr
    have HRB:Hid (RB wr (ablk pra) 82 (sCl pr) prc 2/\A<=ablk pra/\ablk pra < H):=⟨hrb,hlo⟩
    clear hlo hrb HE
    generalize hbk:ablk pra=bk at *
    subst hra
    go_wp2_with (go_at_call 111;refine (rev_sym bk prc pr _ HR0.out (HRB.out.1.later (bAl wr _))).mono ?_;rintro e w4 ⟨rfl,r4,t4⟩)
    go_roundw
    case rel =>
     obtain ⟨hC,hT,hM,hLl,hcore⟩:=HC.out
     obtain ⟨hrb,hA,hH⟩:=HRB.out
     have ho:=hM.ord
     have hB:=HB.out
     have hw:bk < wr.heap.size:=hrb.lt
     have hs:=SA.out
     have keep:∀ j,j < wr.heap.size->j≠bk->w4.heap[j]?=wr.heap[j]?:=fun j hj hj2=>(t4.other j (by omega) hj2).trans (BA.out.block j hj)
     have B4:Below w.heap.size w w4:=hC.bel.trans (((BA.out.mono hC.bel.size).trans (t4.bel w.heap.size (by have:=hC.bel.size;omega) (by omega))))
     have hl2:=lt_of_block hC.out
     have hl6:=lt_of_block hT
     have hP:=(hM.p.later (by omega) BA.out).turn (Nat.le_refl _) (i:=k) (w':=w4) (by show k < L.length;omega) (by rw [HX.out];exact hr) pr.reverse (by rw [HX.out];simp) (fun j _ hj2 hj3=>t4.other j (by omega) (by rw [HX.out] at hj3;exact hj3)) (by rw [HX.out];exact r4)
     rw [HX.out] at hP
     refine ⟨k+1,L.set k { (⟨pl,some ⟨bk,0,none⟩,prc,pr,pp⟩:PV) with right:=pr.reverse },by omega,by go_num,⟨(keep _ (by omega) (by omega)).trans hC.box,(keep _ hl2 (by omega)).trans hC.out,B4⟩,(keep _ hl6 (by omega)).trans hT,hM.prods (Nat.le_trans BA.out.size t4.size) (fun j hj hj2=>keep j hj (by omega)) _ (by simp) (by simpa using hP),by simpa using hLl,fun i hi=>?_⟩
     have hi':i < L.length:=by simpa using hi
     by_cases e:i=k
     ·subst e
      have h1:=hcore i hi'
      rw [if_neg (Nat.lt_irrefl _),HX.out] at h1
      rw [if_pos (by omega),getD_set_eq hi',<- h1]
      rfl
     ·rw [getD_set_ne e,hcore i hi']
      by_cases e2:i < k
      ·rw [if_pos e2,if_pos (by omega)]
      ·rw [if_neg e2,if_neg (by omega)]
    case measure=>simp [intOf];omega
  ·obtain rfl:k=ps.length:=by omega
   have b0:wr.cell? ⟨b6,0,none⟩=some (.slice ta g.ts.length tc):=(cQa hT).trans rfl
   have r0:wr.cell? ⟨w.heap.size+1,0,none⟩=some (.slice none 0 0):=(cQa hC.out).trans rfl
   have y0:wr.frozen? ⟨w.heap.size+1,0,none⟩=false:=by simp [World.frozen?,hC.out]
   have b1:wr.cell? ⟨b6,1,none⟩=some (.slice na g.ns.length nc):=(cQa hT).trans rfl
   have r1:wr.cell? ⟨w.heap.size+1,1,none⟩=some (.slice none 0 0):=(cQa hC.out).trans rfl
   have y1:wr.frozen? ⟨w.heap.size+1,1,none⟩=false:=by simp [World.frozen?,hC.out]
   have b2:wr.cell? ⟨b6,2,none⟩=some (.int .i64 g.start):=(cQa hT).trans rfl
   have r2:wr.cell? ⟨w.heap.size+1,2,none⟩=some (.int .i64 0):=(cQa hC.out).trans rfl
   have y2:wr.frozen? ⟨w.heap.size+1,2,none⟩=false:=by simp [World.frozen?,hC.out]
   have b3:wr.cell? ⟨b6,3,none⟩=some (.slice (some ⟨pb,0,none⟩) ps.length pc):=(cQa hT).trans rfl
   have r3:wr.cell? ⟨w.heap.size+1,3,none⟩=some (.slice none 0 0):=(cQa hC.out).trans rfl
   have y3:wr.frozen? ⟨w.heap.size+1,3,none⟩=false:=by simp [World.frozen?,hC.out]
   have b4:wr.cell? ⟨b6,4,none⟩=some (.slice la ls.length lc):=(cQa hT).trans rfl
   have r4:wr.cell? ⟨w.heap.size+1,4,none⟩=some (.slice none 0 0):=(cQa hC.out).trans rfl
   have y4:wr.frozen? ⟨w.heap.size+1,4,none⟩=false:=by simp [World.frozen?,hC.out]
   have hz:w.heap.size+1 < wr.heap.size:=lt_of_block hC.out
   clear hC hT hM hcore
   go_wp2
   refine bodyPost_ret (v:=.tuple #[.agg #[.slice ta g.ts.length tc,.slice na g.ns.length nc,.int .i64 g.start,.slice (some ⟨pb,0,none⟩) ps.length pc,.slice la ls.length lc],.int .i64 0]) (by simp [results,Tryz.results89,go_sem,r0,r1,r2,r3,r4]) rfl ?_
   obtain ⟨hC,hT,hM,hLl,hcore⟩:=HC.out
   have h5:=hC.five (.slice ta g.ts.length tc) (.slice na g.ns.length nc) (.int .i64 g.start) (.slice (some ⟨pb,0,none⟩) ps.length pc) (.slice la ls.length lc)
   have hB:=HB.out
   refine ⟨⟨ta,tc,g.ts,na,nc,g.ns,g.start,some ⟨pb,0,none⟩,pc,L,la,lc,ls⟩,A,H,E,pb,lb,tb,nb,?_,⟨rfl,rfl,rfl,?_,S2.out.2⟩,?_,h5.1⟩
   ·simp only [GV.val,hLl]
   ·have e3:ps.length=g.ps.length:=by simpa using congrArg List.length S2.out.1
    refine core_ext PV.core .none (by simp [GV.rev];omega) fun i hi=>?_
    have hi':i < L.length:=hi
    rw [hcore i hi',if_pos (by omega),getD_core PV.core,S2.out.1,<- getD_core PV.core]
    have e4:(g.rev.ps.getD i .none)=(g.ps.getD i .none).rev:=by simp [GV.rev,List.getD,show i < g.ps.length by omega]
    rw [e4]
    rfl
   ·refine (hM.kept ?_ fun j hj _=>h5.2 j (by omega)).mono (by omega)
    simp
end Go.Proofs.YteciabdjkaackaaGreat
