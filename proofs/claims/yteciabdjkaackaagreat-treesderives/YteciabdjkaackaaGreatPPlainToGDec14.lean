import Derived.Laws.BitsAllLaws
import Derived.Test.YteciabdjkaackaaGreatProg
import Derived.WalkSpells
import Derived.WalkLawsBesides
import Derived.Laws.AppendOwnNone
import Derived.Deep.RegionWith
import Derived.Deep.AppendSrc
import Derived.Deep.RegionHeld3
import Derived.Lib.SlBytesConst
import Derived.Test.YteciabdjkaackaaGreatPGCheckCToGCheckD
/- Plain facts on lists of bytes: no program in sight. -/
namespace Go.Proofs.YteciabdjkaackaaGreat.C
set_option linter.unusedVariables false
open Go.RowKit
def lo (xs:List Int):Int:=xs.foldl (fun a c=>(a+c) % 65521) 1
def hi (xs:List Int):Int:=(xs.foldl (fun (p:Int×Int) c=>((p.1+c) % 65521,(p.2+(p.1+c) % 65521) % 65521)) (1,0)).2
def adler (xs:List Int):Int:=hi xs*65536+lo xs
def isBytes (xs:List Int):Prop:=∀ x∈xs,0<=x/\x<=255
abbrev vals (xs:List Int):List Value:=xs.map (Value.int .u8)
theorem aNn (b off j:Nat):(⟨b,off,none⟩:Addr).add j=⟨b,off+j,none⟩:=by
 unfold Addr.add
 by_cases h:j=0<;>simp [h]
theorem bAl (w:World)(o:Obj):Below w.heap.size w (w.alloc o):=(Below.refl _ _).alloc (Nat.le_refl _) _
end Go.Proofs.YteciabdjkaackaaGreat.C
namespace Go.Proofs.YteciabdjkaackaaGreat.C
set_option linter.unusedVariables false
open Go.RowKit
end Go.Proofs.YteciabdjkaackaaGreat.C
namespace Go.Proofs.YteciabdjkaackaaGreat.C
set_option linter.unusedVariables false
open Go.RowKit
def Own (w:World)(v:Value)(xs:List Int):Prop:=isBytes xs/\w.ownsRow 0 5 1 v xs.length (vals xs)
structure Grew (w w':World)(v v':Value):Prop where
 grown:w.grownBy w' v.ownBlock
 moved:v'.ownBlock=v.ownBlock∨∃ k,v'.ownBlock=some k/\w.heap.size<=k
theorem grew_below {w w':World}{v v':Value}{B:Nat}(h:Grew w w' v v')(hB:B<=w.heap.size)(hv:∀ k,v.ownBlock=some k->B<=k):Below B w w' :=
 (Below.refl _ _).grown h.grown hB hv
end Go.Proofs.YteciabdjkaackaaGreat.C
namespace Go.Proofs.YteciabdjkaackaaGreat.C
set_option linter.unusedVariables false
open Go.RowKit
def enc:Nat->Int->List Int
 | 0,_=>[]
 | f+1,n=>if 128<=n then (n % 128+128) :: enc f (n / 128) else [n]
end Go.Proofs.YteciabdjkaackaaGreat.C
namespace Go.Proofs.YteciabdjkaackaaGreat.C
set_option linter.unusedVariables false
open Go.RowKit
end Go.Proofs.YteciabdjkaackaaGreat.C
namespace Go.Proofs.YteciabdjkaackaaGreat.C
set_option linter.unusedVariables false
open Go.RowKit
theorem hSt {w:World}{b:Nat}{C:Array Value}{t:TypeId}(h:w.heap[b]?=some (.cells C t (0,0)))(o:Nat)(u:Value):(w.setCell ⟨b,o,none⟩ u).heap[b]?=some (.cells (C.setIfInBounds o u) t (0,0)):=by
 have hlt:=lt_of_block h
 have h':w.heap[b]=.cells C t (0,0):=by simpa [Array.getElem?_eq_getElem hlt] using h
 show (w.heap.modify b _)[b]?=_
 rw [Array.getElem?_eq_getElem (by simpa using hlt),Array.getElem_modify_self,h']
 rfl
end Go.Proofs.YteciabdjkaackaaGreat.C
namespace Go.Proofs.YteciabdjkaackaaGreat.C
set_option linter.unusedVariables false
open Go.RowKit
end Go.Proofs.YteciabdjkaackaaGreat.C
namespace Go.Proofs.YteciabdjkaackaaGreat.C
set_option linter.unusedVariables false
open Go.RowKit
end Go.Proofs.YteciabdjkaackaaGreat.C
namespace Go.Proofs.YteciabdjkaackaaGreat.C
set_option linter.unusedVariables false
open Go.RowKit
def chk:List Int->Nat->List Int->Int×Int
 | [],_,_=>(0,0)
 | _ :: _,i,[]=>(11,i)
 | h :: t,i,x :: r=>if x=h then chk t (i+1) r else (14,i)
def headBytes (k:Int):List Int:=[103,116,114,k]
end Go.Proofs.YteciabdjkaackaaGreat.C
namespace Go.Proofs.YteciabdjkaackaaGreat.C
set_option linter.unusedVariables false
open Go.RowKit
def sumBytes (s:Int):List Int:=[s / 16777216,s / 65536 % 256,s / 256 % 256,s % 256]
end Go.Proofs.YteciabdjkaackaaGreat.C
namespace Go.Proofs.YteciabdjkaackaaGreat.C
set_option linter.unusedVariables false
open Go.RowKit
def lead (k:Int)(xs:List Int):List Int:=headBytes k++enc 10 xs.length++xs
def frame (k:Int)(xs:List Int):List Int:=lead k xs++sumBytes (adler (lead k xs))
end Go.Proofs.YteciabdjkaackaaGreat.C
namespace Go.Proofs.YteciabdjkaackaaGreat.C
set_option linter.unusedVariables false
open Go.RowKit
theorem lim (k:Nat)(hk:k<=9)(d:Int)(h1:d < 128)(h9:k=9->d<=1):d*128 ^ k < 18446744073709551616:=by
 have h:k=0∨k=1∨k=2∨k=3∨k=4∨k=5∨k=6∨k=7∨k=8∨k=9:=by omega
 rcases h with rfl | rfl | rfl | rfl | rfl | rfl | rfl | rfl | rfl | rfl<;>simp at h9 ⊢<;>omega
end Go.Proofs.YteciabdjkaackaaGreat.C
namespace Go.Proofs.YteciabdjkaackaaGreat.C
set_option linter.unusedVariables false
open Go.RowKit
end Go.Proofs.YteciabdjkaackaaGreat.C
namespace Go.Proofs.YteciabdjkaackaaGreat.C
set_option linter.unusedVariables false
open Go.RowKit
end Go.Proofs.YteciabdjkaackaaGreat.C
namespace Go.Proofs.YteciabdjkaackaaGreat.C
set_option linter.unusedVariables false
open Go.RowKit
end Go.Proofs.YteciabdjkaackaaGreat.C
namespace Go.Proofs.YteciabdjkaackaaGreat.C
set_option linter.unusedVariables false
open Go.RowKit
end Go.Proofs.YteciabdjkaackaaGreat.C
namespace Go.Proofs.YteciabdjkaackaaGreat.C
set_option linter.unusedVariables false
open Go.RowKit
end Go.Proofs.YteciabdjkaackaaGreat.C
namespace Go.Proofs.YteciabdjkaackaaGreat.C
set_option linter.unusedVariables false
open Go.RowKit
end Go.Proofs.YteciabdjkaackaaGreat.C
namespace Go.Proofs.YteciabdjkaackaaGreat.C
set_option linter.unusedVariables false
open Go.RowKit
end Go.Proofs.YteciabdjkaackaaGreat.C
namespace Go.Proofs.YteciabdjkaackaaGreat
set_option linter.unusedVariables false
open Go.RowKit
section
variable {w0 wr w':World} {p q:Nat} {v v':Value} {xs xs':List Int}
end
end Go.Proofs.YteciabdjkaackaaGreat
namespace Go.Proofs.YteciabdjkaackaaGreat
set_option linter.unusedVariables false
open Go.RowKit
end Go.Proofs.YteciabdjkaackaaGreat
namespace Go.Proofs.YteciabdjkaackaaGreat.C
set_option linter.unusedVariables false
open Go.RowKit
section
variable {w:World} {r:Nat} {ao:Option Addr} {N cap:Nat} {xs:List Int} {pos:Nat} {err:Int}
end
end Go.Proofs.YteciabdjkaackaaGreat.C
namespace Go.Proofs.YteciabdjkaackaaGreat.C
set_option linter.unusedVariables false
open Go.RowKit
theorem four {l:List Int}(h:l.length=4):∃ a b c d,l=[a,b,c,d]:=by
 match l,h with
 | [a,b,c,d],_=>exact ⟨a,b,c,d,rfl⟩
end Go.Proofs.YteciabdjkaackaaGreat.C
namespace Go.Proofs.YteciabdjkaackaaGreat.C
set_option linter.unusedVariables false
open Go.RowKit
end Go.Proofs.YteciabdjkaackaaGreat.C
namespace Go.Proofs.YteciabdjkaackaaGreat.C
set_option linter.unusedVariables false
open Go.RowKit
end Go.Proofs.YteciabdjkaackaaGreat.C
namespace Go.Proofs.YteciabdjkaackaaGreat.C
set_option linter.unusedVariables false
open Go.RowKit
end Go.Proofs.YteciabdjkaackaaGreat.C
namespace Go.Proofs.YteciabdjkaackaaGreat.C
set_option linter.unusedVariables false
open Go.RowKit
end Go.Proofs.YteciabdjkaackaaGreat.C
namespace Go.Proofs.YteciabdjkaackaaGreat.C
set_option linter.unusedVariables false
open Go.RowKit
end Go.Proofs.YteciabdjkaackaaGreat.C
namespace Go.Proofs.YteciabdjkaackaaGreat.C
set_option linter.unusedVariables false
open Go.RowKit
end Go.Proofs.YteciabdjkaackaaGreat.C
namespace Go.Proofs.YteciabdjkaackaaGreat.C
set_option linter.unusedVariables false
open Go.RowKit
end Go.Proofs.YteciabdjkaackaaGreat.C
namespace Go.Proofs.YteciabdjkaackaaGreat
set_option linter.unusedVariables false
open Go.RowKit
section
variable {wr:World} {r:Nat} {ao:Option Addr} {N cap:Nat} {zs:List Int} {pos:Nat}
end
end Go.Proofs.YteciabdjkaackaaGreat
namespace Go.Proofs.YteciabdjkaackaaGreat
set_option linter.unusedVariables false
open Go.RowKit
end Go.Proofs.YteciabdjkaackaaGreat
namespace Go.Proofs.YteciabdjkaackaaGreat
set_option linter.unusedVariables false
open Go.RowKit
end Go.Proofs.YteciabdjkaackaaGreat
namespace Go.Proofs.YteciabdjkaackaaGreat
set_option linter.unusedVariables false
open Go.RowKit
end Go.Proofs.YteciabdjkaackaaGreat
namespace Go.Proofs.YteciabdjkaackaaGreat
set_option linter.unusedVariables false
open Go.RowKit
end Go.Proofs.YteciabdjkaackaaGreat
namespace Go.Proofs.YteciabdjkaackaaGreat
set_option linter.unusedVariables false
open Go.RowKit
theorem two_alloc (w:World)(x y:Obj):Below w.heap.size w ((w.alloc x).alloc y)/\((w.alloc x).alloc y).heap[w.heap.size]?=some x/\((w.alloc x).alloc y).heap[w.heap.size+1]?=some y:=by
 have e1:(w.alloc x).heap.size=w.heap.size+1:=by simp
 refine ⟨(bAl w x).trans ((bAl _ y).mono (by omega)),?_,?_⟩
 ·rw [<- heap_alloc_new w x]
  exact (bAl (w.alloc x) y).block _ (by omega)
 ·rw [<- heap_alloc_new (w.alloc x) y,e1]
end Go.Proofs.YteciabdjkaackaaGreat
namespace Go.Proofs.YteciabdjkaackaaGreat
set_option linter.unusedVariables false
open Go.RowKit
end Go.Proofs.YteciabdjkaackaaGreat
namespace Go.Proofs.YteciabdjkaackaaGreat
set_option linter.unusedVariables false
open Go.RowKit
def levCells (l:List LV):List Value:=l.flatMap fun q=>[.int .i64 q.assoc,.slice q.ta q.terms.length q.tc]
theorem levCells_len (l:List LV):(levCells l).length=l.length*2:=by
 induction l with
 | nil=>rfl
 | cons a r ih=>simp [levCells] at ih ⊢;omega
def LY (w:World)(v:Value)(l:List LV):Prop:=w.ownsRow 0 120 2 v l.length (levCells l)
theorem infoLev:(Tryz.prog.info? 120).map (fun i=>(i.zero,i.size,i.bytes))=some (some (.agg #[.int .i64 0,.slice none 0 0]),2,32):=by kernel_rfl
theorem infoLev_parts:∃ i,Tryz.prog.info? 120=some i/\i.zero=some (.agg #[.int .i64 0,.slice none 0 0])/\i.size=2/\i.bytes=32:=by
 have h:=infoLev
 cases e:Tryz.prog.info? 120 with
 | none=>rw [e] at h;cases h
 | some i=>rw [e] at h;simp at h;exact ⟨i,rfl,h.1,h.2.1,h.2.2⟩
theorem LY.nil (w:World):LY w (.slice none 0 0) []:=World.ownsRow_nil w 0 120 2
theorem LY.len {w:World}{v:Value}{l:List LV}(h:LY w v l):∃ a c,v=.slice a l.length c:=by
 rcases h.2 with ⟨e,h0⟩ | ⟨g,cap,cur,e,_⟩
 ·rw [h0];exact ⟨_,_,e⟩
 ·exact ⟨_,_,e⟩
theorem LY.lt {w:World}{v:Value}{l:List LV}(h:LY w v l):∀ k,v.ownBlock=some k->k < w.heap.size:=fun k hk=>(World.ownsRow.lt h k hk).2
theorem LY.kept {w w':World}{v:Value}{l:List LV}(h:LY w v l)(hb:∀ k,v.ownBlock=some k->w'.heap[k]?=w.heap[k]?):LY w' v l:=by
 refine ⟨h.1,?_⟩
 rcases h.2 with q | ⟨g,cap,cur,rfl,h1,h2,h3⟩
 ·exact .inl q
 ·exact .inr ⟨g,cap,cur,rfl,h1,(hb g rfl).trans h2,h3⟩
theorem LY.later {w w':World}{v:Value}{l:List LV}(h:LY w v l)(hb:Below w.heap.size w w'):LY w' v l:=h.kept fun k hk=>hb.block k (h.lt k hk)
def pCl (l:List PV):List Value:=l.flatMap fun q=>[.int .i64 q.left,.slice q.ra q.right.length q.rc,.int .i64 q.prec]
theorem proCells_len (l:List PV):(pCl l).length=l.length*3:=by
 induction l with
 | nil=>rfl
 | cons a r ih=>simp [pCl] at ih ⊢;omega
def PY (w:World)(v:Value)(l:List PV):Prop:=w.ownsRow 0 116 3 v l.length (pCl l)
theorem infoPro:(Tryz.prog.info? 116).map (fun i=>(i.zero,i.size,i.bytes))=some (some (.agg #[.int .i64 0,.slice none 0 0,.int .i64 0]),3,40):=by kernel_rfl
theorem infoPro_parts:∃ i,Tryz.prog.info? 116=some i/\i.zero=some (.agg #[.int .i64 0,.slice none 0 0,.int .i64 0])/\i.size=3/\i.bytes=40:=by
 have h:=infoPro
 cases e:Tryz.prog.info? 116 with
 | none=>rw [e] at h;cases h
 | some i=>rw [e] at h;simp at h;exact ⟨i,rfl,h.1,h.2.1,h.2.2⟩
theorem PY.nil (w:World):PY w (.slice none 0 0) []:=World.ownsRow_nil w 0 116 3
theorem PY.len {w:World}{v:Value}{l:List PV}(h:PY w v l):∃ a c,v=.slice a l.length c:=by
 rcases h.2 with ⟨e,h0⟩ | ⟨g,cap,cur,e,_⟩
 ·rw [h0];exact ⟨_,_,e⟩
 ·exact ⟨_,_,e⟩
theorem PY.lt {w:World}{v:Value}{l:List PV}(h:PY w v l):∀ k,v.ownBlock=some k->k < w.heap.size:=fun k hk=>(World.ownsRow.lt h k hk).2
theorem PY.kept {w w':World}{v:Value}{l:List PV}(h:PY w v l)(hb:∀ k,v.ownBlock=some k->w'.heap[k]?=w.heap[k]?):PY w' v l:=by
 refine ⟨h.1,?_⟩
 rcases h.2 with q | ⟨g,cap,cur,rfl,h1,h2,h3⟩
 ·exact .inl q
 ·exact .inr ⟨g,cap,cur,rfl,h1,(hb g rfl).trans h2,h3⟩
theorem PY.later {w w':World}{v:Value}{l:List PV}(h:PY w v l)(hb:Below w.heap.size w w'):PY w' v l:=h.kept fun k hk=>hb.block k (h.lt k hk)
end Go.Proofs.YteciabdjkaackaaGreat
namespace Go.Proofs.YteciabdjkaackaaGreat
set_option linter.unusedVariables false
open Go.RowKit
end Go.Proofs.YteciabdjkaackaaGreat
namespace Go.Proofs.YteciabdjkaackaaGreat
set_option linter.unusedVariables false
open Go.RowKit
def LV.core (q:LV):Int×List Int:=(q.assoc,q.terms)
end Go.Proofs.YteciabdjkaackaaGreat
namespace Go.Proofs.YteciabdjkaackaaGreat
set_option linter.unusedVariables false
open Go.RowKit
def PV.core (q:PV):Int×List (Int×Int)×Int:=(q.left,q.right,q.prec)
end Go.Proofs.YteciabdjkaackaaGreat
namespace Go.Proofs.YteciabdjkaackaaGreat
set_option linter.unusedVariables false
open Go.RowKit
structure SameG (g g':GV):Prop where
 ts:g'.ts=g.ts
 ns:g'.ns=g.ns
 start:g'.start=g.start
 ps:g'.ps.map PV.core=g.ps.map PV.core
 ls:g'.ls.map LV.core=g.ls.map LV.core
end Go.Proofs.YteciabdjkaackaaGreat
namespace Go.Proofs.YteciabdjkaackaaGreat
set_option linter.unusedVariables false
open Go.RowKit
theorem proCells_get:∀ (l:List PV) (i:Nat),i < l.length->(pCl l)[i*3]?=some (.int .i64 (l.getD i .none).left)/\(pCl l)[i*3+1]?=some (.slice (l.getD i .none).ra (l.getD i .none).right.length (l.getD i .none).rc)/\(pCl l)[i*3+2]?=some (.int .i64 (l.getD i .none).prec)
 | [],i,h=>by simp at h
 | q :: r,0,_=>by simp [pCl]
 | q :: r,i+1,h=>by
  have:=proCells_get r i (by simpa using h)
  have e:pCl (q :: r)=.int .i64 q.left :: .slice q.ra q.right.length q.rc :: .int .i64 q.prec :: pCl r:=rfl
  rw [e,show (i+1)*3=i*3+1+1+1 by omega]
  simpa using this
theorem levCells_get:∀ (l:List LV) (i:Nat),i < l.length->(levCells l)[i*2]?=some (.int .i64 (l.getD i .none).assoc)/\(levCells l)[i*2+1]?=some (.slice (l.getD i .none).ta (l.getD i .none).terms.length (l.getD i .none).tc)
 | [],i,h=>by simp at h
 | q :: r,0,_=>by simp [levCells]
 | q :: r,i+1,h=>by
  have:=levCells_get r i (by simpa using h)
  have e:levCells (q :: r)=.int .i64 q.assoc :: .slice q.ta q.terms.length q.tc :: levCells r:=rfl
  rw [e,show (i+1)*2=i*2+1+1 by omega]
  simpa using this
end Go.Proofs.YteciabdjkaackaaGreat
namespace Go.Proofs.YteciabdjkaackaaGreat
set_option linter.unusedVariables false
open Go.RowKit
theorem getD_core {α β:Type}(f:α->β)(l:List α)(i:Nat)(d:α):f (l.getD i d)=(l.map f).getD i (f d):=by
 simp only [List.getD,List.getElem?_map]
 cases l[i]?<;>rfl
theorem core_p {g g':GV}(h:SameG g g')(i:Nat):(g'.ps.getD i .none).core=(g.ps.getD i .none).core:=by
 rw [getD_core PV.core,getD_core PV.core,h.ps]
theorem core_l {g g':GV}(h:SameG g g')(i:Nat):(g'.ls.getD i .none).core=(g.ls.getD i .none).core:=by
 rw [getD_core LV.core,getD_core LV.core,h.ls]
theorem any_core {α β:Type}(f:α->β)(p:β->Bool)(l l':List α)(h:l'.map f=l.map f)(i:Nat):((l'.take i).any fun q=>p (f q))=((l.take i).any fun q=>p (f q)):=by
 have e:∀ k:List α,((k.take i).any fun q=>p (f q))=((k.map f).take i).any p:=fun k=>by rw [<- List.map_take,List.any_map];rfl
 rw [e,e,h]
theorem same_prodU {g g':GV}(h:SameG g g')(i:Nat):prodU g' i=prodU g i:=by
 have hc:=core_p h i
 have c1:(g'.ps.getD i .none).left=(g.ps.getD i .none).left:=congrArg (·.1) hc
 have c2:(g'.ps.getD i .none).right=(g.ps.getD i .none).right:=congrArg (·.2.1) hc
 have c3:(g'.ps.getD i .none).prec=(g.ps.getD i .none).prec:=congrArg (·.2.2) hc
 have hn:inN g'=inN g:=by funext x;simp only [inN,h.ns]
 have ht:inT g'=inT g:=by funext x;simp only [inT,h.ts]
 have hG:inG g'=inG g:=by funext x y;simp only [inG,ht,hn]
 have ha:=any_core PV.core (fun q=>q.1 == (g.ps.getD i .none).left && q.2.1 == (g.ps.getD i .none).right) g.ps g'.ps h.ps i
 unfold prodU
 rw [c1,c2,c3,hn,ht,hG]
 have ha':((g'.ps.take i).any fun q=>q.left == (g.ps.getD i .none).left && q.right == (g.ps.getD i .none).right)=((g.ps.take i).any fun q=>q.left == (g.ps.getD i .none).left && q.right == (g.ps.getD i .none).right):=ha
 rw [ha']
theorem same_levelU {g g':GV}(h:SameG g g')(i:Nat):lU_ g' i=lU_ g i:=by
 have hc:=core_l h i
 have c1:(g'.ls.getD i .none).assoc=(g.ls.getD i .none).assoc:=congrArg (·.1) hc
 have c2:(g'.ls.getD i .none).terms=(g.ls.getD i .none).terms:=congrArg (·.2) hc
 have ht:inT g'=inT g:=by funext x;simp only [inT,h.ts]
 have hnm:nU_ g'.ls i=nU_ g.ls i:=by
  have e:∀ k:List LV,nU_ k i=((k.map LV.core).take i).flatMap (·.2):=fun k=>by rw [<- List.map_take,List.flatMap_map];rfl
  rw [e,e,h.ls]
 unfold lU_
 rw [c1,c2,ht,hnm]
theorem same_check {g g':GV}(h:SameG g g'):cG_ g' (cF_ g'.ts g'.ns)=cG_ g (cF_ g.ts g.ns):=by
 have hp:g'.ps.length=g.ps.length:=by simpa using congrArg List.length h.ps
 have hl:g'.ls.length=g.ls.length:=by simpa using congrArg List.length h.ls
 have hn:inN g'=inN g:=by funext x;simp only [inN,h.ns]
 have e1:prodU g'=prodU g:=funext (same_prodU h)
 have e2:lU_ g'=lU_ g:=funext (same_levelU h)
 unfold cG_
 rw [h.ts,h.ns,h.start,hp,hl,hn,e1,e2]
end Go.Proofs.YteciabdjkaackaaGreat
namespace Go.Proofs.YteciabdjkaackaaGreat
set_option linter.unusedVariables false
open Go.RowKit
end Go.Proofs.YteciabdjkaackaaGreat
