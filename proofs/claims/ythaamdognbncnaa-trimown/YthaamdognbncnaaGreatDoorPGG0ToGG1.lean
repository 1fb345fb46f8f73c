import Derived.Test.YthaamdognbncnaaGreatDoorPSGiven0ToHInt
import Derived.Test.YthaamdognbncnaaGreatDoorPPlainToGDec14
import Derived.Test.YthaamdognbncnaaGreatDoorPRegXToFThy2
namespace Go.Proofs.YthaamdognbncnaaGreatDoor
set_option linter.unusedVariables false
set_option maxRecDepth 100000
set_option maxHeartbeats 16000000
open Go.RowKit
def TB (w:World)(g:Nat)(xs:List ByteArray):Prop:=∃ zs:List ByteArray,w.heap[g]?=some (.cells (zs.map Value.string).toArray 9 (0,0))/\zs.take xs.length=xs
def YB (w:World)(g:Nat)(xs:List (Int×Int)):Prop:=∃ zs:List (Int×Int),w.heap[g]?=some (.cells (sCl zs).toArray 62 (0,0))/\zs.take xs.length=xs
def NB (w:World)(g:Nat)(xs:List Int):Prop:=∃ zs:List Int,w.heap[g]?=some (.cells (zs.map (Value.int .i64 ·)).toArray 3 (0,0))/\zs.take xs.length=xs
theorem take_getD {α:Type}{zs xs:List α}{d:α}(h:zs.take xs.length=xs){i:Nat}(hi:i < xs.length):i < zs.length/\xs.getD i d=zs.getD i d:=by
 have hz:i < zs.length:=by have:=congrArg List.length h;simp at this;omega
 refine ⟨hz,?_⟩
 rw [<- h]
 simp [List.getD,hi]
theorem TB.row {w:World}{g:Nat}{xs:List ByteArray}(h:TB w g xs):StrRow w (some ⟨g,0,none⟩) xs:=by
 obtain ⟨zs,h1,h2⟩:=h
 refine fun _=>⟨g,0,rfl,lt_of_block h1,fun i hi=>?_⟩
 obtain ⟨hz,e⟩:=take_getD (d:=ByteArray.empty) h2 hi
 rw [Nat.zero_add,cQa h1,e]
 simp [List.getD,hz]
theorem NB.row {w:World}{g:Nat}{xs:List Int}(h:NB w g xs):InRow w (some ⟨g,0,none⟩) xs:=by
 obtain ⟨zs,h1,h2⟩:=h
 refine fun _=>⟨g,0,rfl,lt_of_block h1,fun i hi=>?_⟩
 obtain ⟨hz,e⟩:=take_getD (d:=(0:Int)) h2 hi
 rw [Nat.zero_add,cQa h1,e]
 simp [List.getD,hz]
theorem YB.row {w:World}{g:Nat}{xs:List (Int×Int)}(h:YB w g xs):SymRow w (some ⟨g,0,none⟩) xs:=by
 obtain ⟨zs,h1,h2⟩:=h
 exact FullS.rowTake ⟨h1⟩ h2
section
variable {B:Nat} {w0 w w':World} {q:Nat} {V:Nat->Value} {E:Nat->List HE} {n1 n2 n4:Nat}
end
abbrev zG:Obj:=.cells #[.slice none 0 0,.slice none 0 0,.int .i64 0,.slice none 0 0,.slice none 0 0] 26
def RaC (x:PV)(b:Nat):Prop:=x.ra=some ⟨b,0,none⟩/\x.right.length<=x.rc
section
variable {B:Nat} {w0 w:World} {q m1 m2 m4:Nat} {g:GV} {p t0 n0:Nat} {P:List PV} {L:List LV} {pa:Option Addr} {pc:Nat} {la:Option Addr} {lc:Nat} {wr w':World}
end
theorem pro_get:∀ (l:List PV) (i:Nat),i < l.length->(pCl l)[i*3]?=some (.int .i64 (l.getD i .none).left)/\(pCl l)[i*3+1]?=some (.slice (l.getD i .none).ra (l.getD i .none).right.length (l.getD i .none).rc)/\(pCl l)[i*3+2]?=some (.int .i64 (l.getD i .none).prec)
 | [],i,h=>by simp at h
 | q :: r,0,_=>by simp [pCl]
 | q :: r,i+1,h=>by
  have:=pro_get r i (by simpa using h)
  have e:pCl (q :: r)=.int .i64 q.left :: .slice q.ra q.right.length q.rc :: .int .i64 q.prec :: pCl r:=rfl
  rw [e,show (i+1)*3=i*3+1+1+1 by omega]
  simpa using this
theorem lev_get:∀ (l:List LV) (i:Nat),i < l.length->(levCells l)[i*2]?=some (.int .i64 (l.getD i .none).assoc)/\(levCells l)[i*2+1]?=some (.slice (l.getD i .none).ta (l.getD i .none).terms.length (l.getD i .none).tc)
 | [],i,h=>by simp at h
 | q :: r,0,_=>by simp [levCells]
 | q :: r,i+1,h=>by
  have:=lev_get r i (by simpa using h)
  have e:levCells (q :: r)=.int .i64 q.assoc :: .slice q.ta q.terms.length q.tc :: levCells r:=rfl
  rw [e,show (i+1)*2=i*2+1+1 by omega]
  simpa using this
theorem set5 {w:World}{b p:Nat}{o:Obj}(hn:b≠p)(h:w.heap[b]?=some o)(i0 i1 i2 i3 i4:Nat)(v0 v1 v2 v3 v4:Value):(((((w.setCell ⟨p,i0,none⟩ v0).setCell ⟨p,i1,none⟩ v1).setCell ⟨p,i2,none⟩ v2).setCell ⟨p,i3,none⟩ v3).setCell ⟨p,i4,none⟩ v4).heap[b]?=some o:=by
 rw [Below.heap_setCell _ _ _ _ hn,Below.heap_setCell _ _ _ _ hn,Below.heap_setCell _ _ _ _ hn,Below.heap_setCell _ _ _ _ hn,Below.heap_setCell _ _ _ _ hn]
 exact h
structure GX (w:World)(x:GV):Prop where
 t:∃ b,x.ta=some ⟨b,0,none⟩/\TB w b x.ts
 n:∃ b,x.na=some ⟨b,0,none⟩/\TB w b x.ns
 p:PY w (.slice x.pa x.ps.length x.pc) x.ps
 pe:∀ p∈x.ps,∃ b,RaC p b/\YB w b p.right
 l:LY w (.slice x.la x.ls.length x.lc) x.ls
 le:∀ p∈x.ls,∃ b,p.ta=some ⟨b,0,none⟩/\NB w b p.terms
theorem PY.at {w:World}{a:Option Addr}{n c:Nat}{l:List PV}(hr:PY w (.slice a n c) l)(he:∀ p∈l,SymRow w p.ra p.right):PrRow w a l:=by
 refine ⟨fun hne=>?_,he⟩
 rcases hr.2 with ⟨e,h0⟩ | ⟨g,cap,cur,e,h1,h2,h3⟩
 ·exact absurd (List.eq_nil_of_length_eq_zero h0) hne
 ·have hc:=fun j x hx=>World.ownsRow.cells hr (g:=g) (by rw [e];rfl) j x hx
  cases e
  refine ⟨g,0,rfl,lt_of_block h2,fun i hi=>?_⟩
  obtain ⟨q1,q2,q3⟩:=pro_get l i hi
  have r1:=hc _ _ q1
  have r2:=hc _ _ q2
  have r3:=hc _ _ q3
  rw [aNn] at r1 r2 r3
  exact ⟨by simpa using r1,by simpa [Nat.add_assoc] using r2,by simpa [Nat.add_assoc] using r3⟩
theorem LY.at {w:World}{a:Option Addr}{n c:Nat}{l:List LV}(hr:LY w (.slice a n c) l)(he:∀ p∈l,InRow w p.ta p.terms):LvRow w a l:=by
 refine ⟨fun hne=>?_,he⟩
 rcases hr.2 with ⟨e,h0⟩ | ⟨g,cap,cur,e,h1,h2,h3⟩
 ·exact absurd (List.eq_nil_of_length_eq_zero h0) hne
 ·have hc:=fun j x hx=>World.ownsRow.cells hr (g:=g) (by rw [e];rfl) j x hx
  cases e
  refine ⟨g,0,rfl,lt_of_block h2,fun i hi=>?_⟩
  obtain ⟨q1,q2⟩:=lev_get l i hi
  have r1:=hc _ _ q1
  have r2:=hc _ _ q2
  rw [aNn] at r1 r2
  exact ⟨by simpa using r1,by simpa [Nat.add_assoc] using r2⟩
theorem PY.cap {w:World}{a:Option Addr}{n c:Nat}{l:List PV}(h:PY w (.slice a n c) l):l.length<=c:=by
 rcases h.2 with ⟨e,h0⟩ | ⟨g,cap,cur,e,h1,h2,h3,h4⟩
 ·omega
 ·cases e;omega
theorem GX.at {w:World}{n:Nat}{g x:GV}(h:GX w x)(hs:SameG g x){w0:World}(hg:GAt n w0 g):GAt n w x/\x.ps.length<=x.pc:=by
 have hp:x.ps.length=g.ps.length:=by simpa using congrArg List.length hs.ps
 have hl:x.ls.length=g.ls.length:=by simpa using congrArg List.length hs.ls
 obtain ⟨tb,te,tt⟩:=h.t
 obtain ⟨nb,ne,nt⟩:=h.n
 refine ⟨⟨te ▸ tt.row,ne ▸ nt.row,h.p.at fun p hp=>?_,h.l.at fun p hp=>?_,?_,?_,by rw [hs.ts];exact hg.tl,by rw [hs.ns];exact hg.nl,by rw [hp];exact hg.pl,by rw [hl];exact hg.ll,?_,?_⟩,h.p.cap⟩
 ·obtain ⟨b,e,y⟩:=h.pe p hp;rw [e.1];exact y.row
 ·obtain ⟨b,e,y⟩:=h.le p hp;rw [e];exact y.row
 ·rw [hs.ts];exact hg.tz
 ·rw [hs.ns];exact hg.nz
 ·intro p hp'
  have:p.core∈g.ps.map PV.core:=hs.ps ▸ List.mem_map_of_mem hp'
  obtain ⟨q,hq,e⟩:=List.mem_map.1 this
  have e':q.right=p.right:=congrArg (·.2.1) e
  rw [<- e'];exact hg.rl q hq
 ·intro p hp'
  have:p.core∈g.ls.map LV.core:=hs.ls ▸ List.mem_map_of_mem hp'
  obtain ⟨q,hq,e⟩:=List.mem_map.1 this
  have e':q.terms=p.terms:=congrArg (·.2) e
  rw [<- e'];exact hg.vl q hq
end Go.Proofs.YthaamdognbncnaaGreatDoor
