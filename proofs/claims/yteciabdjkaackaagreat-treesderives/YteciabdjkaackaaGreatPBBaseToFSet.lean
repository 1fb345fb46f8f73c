import Derived.Test.YteciabdjkaackaaGreatChecked
import Derived.WalkKit
import Derived.PlainAid
import Derived.Maps.AppendAt
import Derived.Maps.OwnSet
import Derived.Deep.RegionLaw
import Derived.Deep.QuietTactic
import Derived.BigQuiet
import Derived.OwnWalk
import Derived.StringKeys
import Derived.Handy
import Derived.Test.YteciabdjkaackaaGreatRows
import Derived.ProofKit
import Derived.OpenShut
import Derived.ShutString
import Derived.ChangeOld
import Derived.Below
import Derived.SizedLaws
import Derived.Deep.Slices
import Derived.Lib.SmallJoins
namespace Go.Proofs.YteciabdjkaackaaGreat
set_option linter.unusedVariables false
open Go.RowKit Go.Maps
def GS (w:World)(v:Value)(ss:List ByteArray):Prop:=w.ownsRow 0 9 1 v ss.length (ss.map Value.string)
theorem infoStr:(Tryz.prog.info? 9).map (fun i=>(i.zero,i.size,i.bytes))=some (some (.string ⟨#[]⟩),1,16):=by kernel_rfl
theorem infoStr_parts:∃ i,Tryz.prog.info? 9=some i/\i.zero=some (.string ⟨#[]⟩)/\i.size=1/\i.bytes=16:=by
 have h:=infoStr
 cases e:Tryz.prog.info? 9 with
 | none=>rw [e] at h;cases h
 | some i=>rw [e] at h;simp at h;exact ⟨i,rfl,h⟩
theorem GS.kept {w w':World}{v:Value}{ss:List ByteArray}(h:GS w v ss)(hb:∀ k,v.ownBlock=some k->w'.heap[k]?=w.heap[k]?):GS w' v ss:=by
 refine ⟨h.1,?_⟩
 rcases h.2 with q | ⟨g,cap,cur,rfl,h1,h2,h3⟩
 ·exact .inl q
 ·exact .inr ⟨g,cap,cur,rfl,h1,(hb g rfl).trans h2,h3⟩
theorem GS.lt {w:World}{v:Value}{ss:List ByteArray}(h:GS w v ss):∀ k,v.ownBlock=some k->k < w.heap.size:=fun k hk=>(World.ownsRow.lt h k hk).2
theorem GS.later {w w':World}{v:Value}{ss:List ByteArray}(h:GS w v ss)(hb:Below w.heap.size w w'):GS w' v ss:=h.kept fun k hk=>hb.block k (h.lt k hk)
theorem GS.nil (w:World):GS w (.slice none 0 0) []:=World.ownsRow_nil w 0 9 1
theorem gs_len {w:World}{v:Value}{ss:List ByteArray}(h:GS w v ss):∃ a c,v=.slice a ss.length c:=by
 rcases h.2 with ⟨rfl,h0⟩ | ⟨g,cap,cur,rfl,_⟩
 ·exact ⟨none,0,by rw [h0]⟩
 ·exact ⟨_,_,rfl⟩
theorem aNn (b off j:Nat):(⟨b,off,none⟩:Addr).add j=⟨b,off+j,none⟩:=by
 unfold Addr.add
 by_cases h:j=0<;>simp [h]
structure Grew (w w':World)(v v':Value):Prop where
 grown:w.grownBy w' v.ownBlock
 moved:v'.ownBlock=v.ownBlock∨∃ k,v'.ownBlock=some k/\w.heap.size<=k
theorem wpList_gs_append_w {ops:Array Oper}{rest:List Oper}{o:Oper}{a:Act}{Q:Exit->Act->World->Prop}{w:World}(hgd:o.guard=none)(s x:Operand)
  (ho:o.op=.call { callee:=.builtin .append,args:=#[s,x],argTypes:=#[59,59] })
  (v:Value) (ss:List ByteArray) (hs:a.eval s=v) (h:GS w v ss) (b c:Nat) (y:ByteArray) (hx:a.eval x=.slice (some ⟨b,0,none⟩) 1 c) (hy:w.cell? ⟨b,0,none⟩=some (.string y)) (hlen:ss.length<=100000000)
  (hK:∀ a' n' c' w',GS w' (.slice a' n' c') (ss++[y])->Grew w w' v (.slice a' n' c')->wpList Tryz.prog ops Q rest (a.put o.dst (.slice a' n' c')) w'):wpList Tryz.prog ops Q (o :: rest) a w:=by
 obtain ⟨i0,hi,hz0,hz1,hz2⟩:=infoStr_parts
 refine wpList_append_own_at w hgd s x 59 ho 0 9 i0 (.string ⟨#[]⟩) 1 16 Tryz.underlying59 hi hz0 hz1 hz2 rfl (by decide) v ss.length (ss.map Value.string) hs h ⟨b,0,none⟩ 1 c [.string y] hx (by simp) ?_ ?_ (by unfold maxLen;omega) (by omega) (Nat.zero_le _) ?_
 ·intro j u hu
  match j with
  | 0=>simp at hu;subst hu;rw [aNn];exact hy
  | j+1=>simp at hu
 ·intro u hu;simp at hu;subst hu;rfl
 ·intro v' w' h2 h3 _ h5
  have h6:GS w' v' (ss++[y]):=by unfold GS;simpa using h2
  obtain ⟨a',c',rfl⟩:=gs_len h6
  exact hK _ _ _ w' h6 ⟨h3,h5.imp id fun e=>⟨_,e,Nat.le_refl _⟩⟩
theorem wpList_gs_append {ops:Array Oper}{rest:List Oper}{o:Oper}{a:Act}{Q:Exit->Act->World->Prop}{w:World}(hgd:o.guard=none)(s x:Operand)
  (ho:o.op=.call { callee:=.builtin .append,args:=#[s,x],argTypes:=#[59,59] })
  (v:Value) (ss:List ByteArray) (hs:a.eval s=v) (h:GS w v ss) (b c:Nat) (y:ByteArray) (hx:a.eval x=.slice (some ⟨b,0,none⟩) 1 c) (hy:w.cell? ⟨b,0,none⟩=some (.string y)) (hlen:ss.length<=1000000)
  (hK:∀ a' n' c' w',GS w' (.slice a' n' c') (ss++[y])->Grew w w' v (.slice a' n' c')->wpList Tryz.prog ops Q rest (a.put o.dst (.slice a' n' c')) w'):wpList Tryz.prog ops Q (o :: rest) a w:=wpList_gs_append_w hgd s x ho v ss hs h b c y hx hy (Nat.le_trans hlen (by omega)) hK
def keyL (s:ByteArray):Lit:=.string s.data.toList
theorem keyL_inj {s t:ByteArray}(h:keyL s=keyL t):s=t:=by
 unfold keyL at h
 simp at h
 exact ByteArray.ext h
theorem keyL_is (s:ByteArray):WideAt.IsKeyLit (keyL s):=by unfold keyL WideAt.IsKeyLit;trivial
theorem law:Keyed Tryz.prog 9:=string_keyed Tryz.underlying9
theorem keyOf_name {s:ByteArray}(hs:s.size<=maxLen):keyOf Tryz.prog 9 (.string s)=some (keyL s):=Go.WideMaps.keyOf_string_mk Tryz.underlying9 hs
theorem bDn {B:Nat}{w w':World}(h:Below B w w')(n:Nat):Below B w (w'.drewN n):=by
 induction n with
 | zero=>exact h
 | succ n ih=>exact ih.drew
theorem bAl (w:World)(o:Obj):Below w.heap.size w (w.alloc o):=(Below.refl _ _).alloc (Nat.le_refl _) _
theorem hSt {w:World}{b:Nat}{C:Array Value}{t:TypeId}(h:w.heap[b]?=some (.cells C t (0,0)))(o:Nat)(u:Value):(w.setCell ⟨b,o,none⟩ u).heap[b]?=some (.cells (C.setIfInBounds o u) t (0,0)):=by
 have hlt:=lt_of_block h
 have h':w.heap[b]=.cells C t (0,0):=by simpa [Array.getElem?_eq_getElem hlt] using h
 show (w.heap.modify b _)[b]?=_
 rw [Array.getElem?_eq_getElem (by simpa using hlt),Array.getElem_modify_self,h']
 rfl
theorem cQa {w:World}{q i:Nat}{C:Array Value}{t:TypeId}{fz:Nat×Nat}(h:w.heap[q]?=some (.cells C t fz)):w.cell? ⟨q,i,none⟩=C[i]?:=by simp [World.cell?,h]
theorem wp_world {P:Program}{c:Code}{Q:Exit->Act->World->Prop}{a:Act}{w:World}(I:World->Prop)(h:I w)(k:∀ w',I w'->Code.wp P c Q a w'):Code.wp P c Q a w:=k w h
def placeS (l:List ByteArray)(s:ByteArray):Option Nat:=l.findIdx? fun t=>decide (t=s)
open Go.RowKit
structure Ext (w0:World) where
 w:World
 h:Below w0.heap.size w0 w
theorem extNonempty (w0:World):Nonempty (Ext w0):=⟨⟨w0,Below.refl _ _⟩⟩
theorem Ext.cell {w0:World}(x:Ext w0){a:Addr}(ha:a.block < w0.heap.size):x.w.cell? a=w0.cell? a:=x.h.cell ha
theorem wp_region_ext {P:Program}{id:Nat}{Q:Exit->Act->World->Prop}{a:Act}{w:World}{l:List Oper}(hm:P.follows .mixedOrders=true)(hB:Region.lexB .any l.toArray=true)
  (h:Nonempty (Ext w)->wpQuiet P l.toArray (fun w'=>∃ x:Ext w,w'=x.w) (fun a'=>∀ w',(∃ x:Ext w,w'=x.w)->Q .normal a' w') l a):(Code.region id l.toArray true).wp P Q a w :=
 wp_region_quiet (C:=fun w'=>∃ x:Ext w,w'=x.w) hm hB ⟨⟨_,(Below.refl _ _).drew⟩,rfl⟩ (by simpa using h (extNonempty w))
theorem Calls.ext_of {P:Program}{f:FuncId}{args:Array Value}{w0:World}{x:Ext w0}{v:Value}(h:Calls P f args x.w fun e w'=>e=.returned v/\Below x.w.heap.size x.w w'):Calls P f args x.w fun e w''=>e=.returned v/\∃ y:Ext w0,w''=y.w :=
 h.mono fun _ w' ⟨he,hb⟩=>⟨he,⟨w',x.h.trans (hb.mono x.h.size)⟩,rfl⟩
def StrRow (w:World)(ao:Option Addr)(ss:List ByteArray):Prop:=ss≠[]->∃ b off,ao=some ⟨b,off,none⟩/\b < w.heap.size/\∀ i,i < ss.length->w.cell? ⟨b,off+i,none⟩=some (.string (ss.getD i ByteArray.empty))
theorem StrRow.later {w w':World}{ao:Option Addr}{ss:List ByteArray}(h:StrRow w ao ss)(hb:Below w.heap.size w w'):StrRow w' ao ss:=fun hn=>by
 obtain ⟨b,off,rfl,hl,hc⟩:=h hn
 exact ⟨b,off,rfl,Nat.lt_of_lt_of_le hl hb.size,fun i hi=>(hb.cell (p:=⟨b,off+i,none⟩) hl).trans (hc i hi)⟩
theorem GS.row {w:World}{v:Value}{ss:List ByteArray}(h:GS w v ss):∃ a c,v=.slice a ss.length c/\StrRow w a ss/\(a=none->c=0)/\ss.length<=c:=by
 rcases h.2 with ⟨rfl,h0⟩ | ⟨g,cap,cur,rfl,hb,hg,hle,hm,hs,ht⟩
 ·have:ss=[]:=List.eq_nil_of_length_eq_zero h0
  subst this
  exact ⟨none,0,rfl,fun hn=>absurd rfl hn,fun _=>rfl,Nat.le_refl _⟩
 ·refine ⟨_,cap,rfl,fun hn=>⟨g,0,rfl,lt_of_block hg,fun i hi=>?_⟩,(fun h=>by cases h),hle⟩
  have:=World.ownsRow.cells h (g:=g) rfl i (.string (ss.getD i ByteArray.empty)) (by simp [List.getD,hi])
  rwa [aNn] at this
def inS (ss:List ByteArray)(s:ByteArray):Int:=match placeS ss s with | some i=>(i:Int) | none=>-1
theorem findIdx?_at {α:Type}(p:α->Bool):∀ (l:List α) (k:Nat) (h:k < l.length),(∀ j (hj:j < k),p (l[j]'(by omega))=false)->p l[k]=true->l.findIdx? p=some k
 | [],k,h,_,_=>by simp at h
 | x :: l,0,_,_,hk=>by simp [List.findIdx?_cons,show p x=true from hk]
 | x :: l,k+1,h,hn,hk=>by
  have h0:p x=false:=hn 0 (by omega)
  have:=findIdx?_at p l k (by simp at h;omega) (fun j hj=>hn (j+1) (by omega)) hk
  simp [List.findIdx?_cons,h0,this]
theorem placeS_at {ss:List ByteArray}{s:ByteArray}{k:Nat}(hk:k < ss.length)(hn:∀ j,j < k->ss.getD j ByteArray.empty≠s)(h:ss.getD k ByteArray.empty=s):placeS ss s=some k:=by
 refine findIdx?_at _ ss k hk (fun j hj=>?_) ?_
 ·have:=hn j hj
  simp [List.getD,show j < ss.length by omega] at this
  simp [this]
 ·simp [List.getD,hk] at h
  simp [h]
theorem placeS_none {ss:List ByteArray}{s:ByteArray}(hn:∀ j,j < ss.length->ss.getD j ByteArray.empty≠s):placeS ss s=none:=by
 unfold placeS
 rw [List.findIdx?_eq_none_iff]
 intro x hx
 obtain ⟨j,hj,rfl⟩:=List.getElem_of_mem hx
 have:=hn j hj
 simp [List.getD,hj] at this
 simp [this]
set_option maxHeartbeats 1000000 in
theorem in_any (ao:Option Addr)(N cap:Nat)(ss:List ByteArray)(s:ByteArray)(w:World)(hN:N=ss.length)(hl:ss.length<=140737488355328)(hr:StrRow w ao ss) :
  Calls Tryz.prog 118 #[.slice ao N cap,.string s] w fun e w'=>e=.returned (.int .i64 (inS ss s))/\w=w':=by
 subst hN
 go_enter Tryz.func118,Tryz.ntmps118
 go_wp2
 go_loop [5] (fun i=>∃ k:Nat,k<=ss.length/\i=.int .i64 k/\Hid (∀ j,j < k->ss.getD j ByteArray.empty≠s)) (fun i=>ss.length - (intOf i).toNat)
 case atStart=>exact ⟨0,Nat.zero_le _,rfl,fun j hj=>by omega⟩
 case round =>
  obtain ⟨k,hk,rfl,HA⟩:=hrel
  by_cases hlt:k < ss.length
  ·obtain ⟨b,off,rfl,_,hc⟩:=hr (by intro h;subst h;simp at hlt)
   have h1:=hc k hlt
   clear hc hr
   have HT:Hid (ss.getD k ByteArray.empty=s->inS ss s=k):=fun e=>by unfold inS;rw [placeS_at hlt HA.out e]
   have HF:Hid (ss.getD k ByteArray.empty≠s->∀ j,j < k+1->ss.getD j ByteArray.empty≠s):=fun e j hj=>by
    rcases Nat.lt_succ_iff_lt_or_eq.1 hj with q | rfl
    ·exact HA.out j q
    ·exact e
   generalize ss.getD k ByteArray.empty=x at *
   by_cases he:x=s
   ·have HI:Hid (inS ss s=k):=HT.out he
    subst he
    clear HT HF
    have het:(x.toList == x.toList)=true:=by simp
    go_wp2
    go_ret
    exact ⟨by rw [HI.out];rfl,rfl⟩
   ·have het:(x.toList == s.toList)=false:=by
     simp only [ByteArray.toList_eq,beq_eq_false_iff_ne,ne_eq]
     intro q
     exact he (ByteArray.ext (Array.toList_inj.1 q))
    have HE:Hid (x≠s):=he
    clear he
    go_wp2
    go_round
    case rel=>exact ⟨k+1,by omega,by go_num,HF.out HE.out⟩
    case measure=>simp [intOf];omega
  ·have HW:Hid (inS ss s=-1):=by unfold Hid inS;rw [placeS_none fun j hj=>HA.out j (by omega)]
   go_wp2
   go_ret
   exact ⟨by rw [HW.out];rfl,rfl⟩
def SymRow (w:World)(ao:Option Addr)(l:List (Int×Int)):Prop:=l≠[]->∃ b off,ao=some ⟨b,off,none⟩/\b < w.heap.size/\∀ i,i < l.length ->
 w.cell? ⟨b,off+i*2,none⟩=some (.int .i64 (l.getD i (0,0)).1)/\w.cell? ⟨b,off+i*2+1,none⟩=some (.int .i64 (l.getD i (0,0)).2)
theorem SymRow.later {B:Nat}{w w':World}{ao:Option Addr}{l:List (Int×Int)}(h:SymRow w ao l)(hB:w.heap.size<=B)(hb:Below B w w'):SymRow w' ao l:=by
 intro hne
 obtain ⟨b,off,rfl,hl,hc⟩:=h hne
 refine ⟨b,off,rfl,Nat.lt_of_lt_of_le hl hb.size,fun i hi=>?_⟩
 have e:∀ j,w'.cell? ⟨b,j,none⟩=w.cell? ⟨b,j,none⟩:=fun j=>hb.cell (p:=⟨b,j,none⟩) (by show b < B;omega)
 rw [e,e]
 exact hc i hi
def sCl (l:List (Int×Int)):List Value:=l.flatMap fun q=>[.int .i64 q.1,.int .i64 q.2]
theorem symCells_len (l:List (Int×Int)):(sCl l).length=l.length*2:=by
 induction l with
 | nil=>rfl
 | cons q r ih=>simp [sCl] at ih ⊢;omega
theorem symCells_get:∀ (l:List (Int×Int)) (i:Nat),i < l.length->(sCl l)[i*2]?=some (.int .i64 (l.getD i (0,0)).1)/\(sCl l)[i*2+1]?=some (.int .i64 (l.getD i (0,0)).2)
 | [],i,h=>by simp at h
 | q :: r,0,_=>by simp [sCl]
 | q :: r,i+1,h=>by
  have:=symCells_get r i (by simpa using h)
  have e:sCl (q :: r)=.int .i64 q.1 :: .int .i64 q.2 :: sCl r:=rfl
  rw [e,show (i+1)*2=i*2+1+1 by omega]
  simpa using this
def SY (w:World)(v:Value)(l:List (Int×Int)):Prop:=w.ownsRow 0 82 2 v l.length (sCl l)
theorem infoSym:(Tryz.prog.info? 82).map (fun i=>(i.zero,i.size,i.bytes))=some (some (.agg #[.int .i64 0,.int .i64 0]),2,16):=by kernel_rfl
theorem infoSym_parts:∃ i,Tryz.prog.info? 82=some i/\i.zero=some (.agg #[.int .i64 0,.int .i64 0])/\i.size=2/\i.bytes=16:=by
 have h:=infoSym
 cases e:Tryz.prog.info? 82 with
 | none=>rw [e] at h;cases h
 | some i=>rw [e] at h;simp at h;exact ⟨i,rfl,h⟩
theorem sy_len {w:World}{v:Value}{l:List (Int×Int)}(h:SY w v l):∃ a c,v=.slice a l.length c:=by
 rcases h.2 with ⟨rfl,h0⟩ | ⟨g,cap,cur,rfl,_⟩
 ·exact ⟨none,0,by rw [h0]⟩
 ·exact ⟨_,_,rfl⟩
theorem SY.kept {w w':World}{v:Value}{l:List (Int×Int)}(h:SY w v l)(hb:∀ k,v.ownBlock=some k->w'.heap[k]?=w.heap[k]?):SY w' v l:=by
 refine ⟨h.1,?_⟩
 rcases h.2 with q | ⟨g,cap,cur,rfl,h1,h2,h3⟩
 ·exact .inl q
 ·exact .inr ⟨g,cap,cur,rfl,h1,(hb g rfl).trans h2,h3⟩
theorem SY.lt {w:World}{v:Value}{l:List (Int×Int)}(h:SY w v l):∀ k,v.ownBlock=some k->k < w.heap.size:=fun k hk=>(World.ownsRow.lt h k hk).2
theorem SY.later {w w':World}{v:Value}{l:List (Int×Int)}(h:SY w v l)(hb:Below w.heap.size w w'):SY w' v l:=h.kept fun k hk=>hb.block k (h.lt k hk)
theorem SY.row {w:World}{a:Option Addr}{n c:Nat}{l:List (Int×Int)}(h:SY w (.slice a n c) l):SymRow w a l:=by
 intro hne
 rcases h.2 with ⟨e,h0⟩ | ⟨g,cap,cur,e,h1,h2,h3⟩
 ·exact absurd (List.eq_nil_of_length_eq_zero h0) hne
 ·have hc:=fun j x hx=>World.ownsRow.cells h (g:=g) (by rw [e];rfl) j x hx
  cases e
  refine ⟨g,0,rfl,lt_of_block h2,fun i hi=>?_⟩
  obtain ⟨q1,q2⟩:=symCells_get l i hi
  have r1:=hc _ _ q1
  have r2:=hc _ _ q2
  rw [aNn] at r1 r2
  exact ⟨r1,r2⟩
def InRow (w:World)(ao:Option Addr)(l:List Int):Prop:=l≠[]->∃ b off,ao=some ⟨b,off,none⟩/\b < w.heap.size/\∀ i,i < l.length->w.cell? ⟨b,off+i,none⟩=some (.int .i64 (l.getD i 0))
theorem InRow.later {w w':World}{ao:Option Addr}{l:List Int}(h:InRow w ao l)(hb:Below w.heap.size w w'):InRow w' ao l:=by
 intro hne
 obtain ⟨b,off,rfl,hl,hc⟩:=h hne
 have e:∀ j,w'.cell? ⟨b,j,none⟩=w.cell? ⟨b,j,none⟩:=fun j=>hb.cell (p:=⟨b,j,none⟩) hl
 refine ⟨b,off,rfl,Nat.lt_of_lt_of_le hl hb.size,fun i hi=>?_⟩
 rw [e]
 exact hc i hi
structure PV where
 left:Int
 ra:Option Addr
 rc:Nat
 right:List (Int×Int)
 prec:Int
def PV.none:PV:=⟨0,Option.none,0,[],0⟩
structure LV where
 assoc:Int
 ta:Option Addr
 tc:Nat
 terms:List Int
def LV.none:LV:=⟨0,Option.none,0,[]⟩
structure PrRow (w:World)(ao:Option Addr)(l:List PV):Prop where
 cells:l≠[]->∃ b off,ao=some ⟨b,off,none⟩/\b < w.heap.size/\∀ i,i < l.length ->
  w.cell? ⟨b,off+i*3,none⟩=some (.int .i64 (l.getD i .none).left)/\w.cell? ⟨b,off+i*3+1,none⟩=some (.slice (l.getD i .none).ra (l.getD i .none).right.length (l.getD i .none).rc)/\w.cell? ⟨b,off+i*3+2,none⟩=some (.int .i64 (l.getD i .none).prec)
 rows:∀ p∈l,SymRow w p.ra p.right
structure LvRow (w:World)(ao:Option Addr)(l:List LV):Prop where
 cells:l≠[]->∃ b off,ao=some ⟨b,off,none⟩/\b < w.heap.size/\∀ i,i < l.length ->
  w.cell? ⟨b,off+i*2,none⟩=some (.int .i64 (l.getD i .none).assoc)/\w.cell? ⟨b,off+i*2+1,none⟩=some (.slice (l.getD i .none).ta (l.getD i .none).terms.length (l.getD i .none).tc)
 rows:∀ p∈l,InRow w p.ta p.terms
theorem PrRow.later {w w':World}{ao:Option Addr}{l:List PV}(h:PrRow w ao l)(hb:Below w.heap.size w w'):PrRow w' ao l:=by
 refine ⟨fun hne=>?_,fun p hp=>(h.rows p hp).later (Nat.le_refl _) hb⟩
 obtain ⟨b,off,rfl,hl,hc⟩:=h.cells hne
 have e:∀ j,w'.cell? ⟨b,j,none⟩=w.cell? ⟨b,j,none⟩:=fun j=>hb.cell (p:=⟨b,j,none⟩) hl
 refine ⟨b,off,rfl,Nat.lt_of_lt_of_le hl hb.size,fun i hi=>?_⟩
 rw [e,e,e]
 exact hc i hi
theorem LvRow.later {w w':World}{ao:Option Addr}{l:List LV}(h:LvRow w ao l)(hb:Below w.heap.size w w'):LvRow w' ao l:=by
 refine ⟨fun hne=>?_,fun p hp=>(h.rows p hp).later hb⟩
 obtain ⟨b,off,rfl,hl,hc⟩:=h.cells hne
 have e:∀ j,w'.cell? ⟨b,j,none⟩=w.cell? ⟨b,j,none⟩:=fun j=>hb.cell (p:=⟨b,j,none⟩) hl
 refine ⟨b,off,rfl,Nat.lt_of_lt_of_le hl hb.size,fun i hi=>?_⟩
 rw [e,e]
 exact hc i hi
structure GV where
 ta:Option Addr
 tc:Nat
 ts:List ByteArray
 na:Option Addr
 nc:Nat
 ns:List ByteArray
 start:Int
 pa:Option Addr
 pc:Nat
 ps:List PV
 la:Option Addr
 lc:Nat
 ls:List LV
abbrev GV.val (g:GV):Value:=.agg #[.slice g.ta g.ts.length g.tc,.slice g.na g.ns.length g.nc,.int .i64 g.start,.slice g.pa g.ps.length g.pc,.slice g.la g.ls.length g.lc]
structure GAt (n:Nat)(w:World)(g:GV):Prop where
 t:StrRow w g.ta g.ts
 n_:StrRow w g.na g.ns
 p:PrRow w g.pa g.ps
 l:LvRow w g.la g.ls
 tz:∀ s∈g.ts,s.size<=maxLen
 nz:∀ s∈g.ns,s.size<=maxLen
 tl:g.ts.length<=n
 nl:g.ns.length<=n
 pl:g.ps.length<=n
 ll:g.ls.length<=n
 rl:∀ p∈g.ps,p.right.length<=n
 vl:∀ p∈g.ls,p.terms.length<=n
structure GFine (g:GV):Prop where
 tl:g.ts.length<=8796093022000
 nl:g.ns.length<=8796093022000
 pl:g.ps.length<=3518437208780
 ll:g.ls.length<=4398046510976
 rl:∀ p∈g.ps,p.right.length<=8796093022000
 vl:∀ p∈g.ls,p.terms.length<=17592186044000
theorem GAt.fine {w:World}{g:GV}(h:GAt 1048576 w g):GFine g :=
 ⟨Nat.le_trans h.tl (by omega),Nat.le_trans h.nl (by omega),Nat.le_trans h.pl (by omega),Nat.le_trans h.ll (by omega),fun p hp=>Nat.le_trans (h.rl p hp) (by omega),fun p hp=>Nat.le_trans (h.vl p hp) (by omega)⟩
theorem GAt.later {n:Nat}{w w':World}{g:GV}(h:GAt n w g)(hb:Below w.heap.size w w'):GAt n w' g :=
 ⟨h.t.later hb,h.n_.later hb,h.p.later hb,h.l.later hb,h.tz,h.nz,h.tl,h.nl,h.pl,h.ll,h.rl,h.vl⟩
theorem GAt.mono {n m:Nat}{w:World}{g:GV}(h:GAt n w g)(hn:n<=m):GAt m w g :=
 ⟨h.t,h.n_,h.p,h.l,h.tz,h.nz,Nat.le_trans h.tl hn,Nat.le_trans h.nl hn,Nat.le_trans h.pl hn,Nat.le_trans h.ll hn,fun p hp=>Nat.le_trans (h.rl p hp) hn,fun p hp=>Nat.le_trans (h.vl p hp) hn⟩
def IL (w:World)(v:Value)(l:List Int):Prop:=w.ownsRow 0 3 1 v l.length (l.map (.int .i64 ·))
theorem infoInt:(Tryz.prog.info? 3).map (fun i=>(i.zero,i.size,i.bytes))=some (some (.int .i64 0),1,8):=by kernel_rfl
theorem infoInt_parts:∃ i,Tryz.prog.info? 3=some i/\i.zero=some (.int .i64 0)/\i.size=1/\i.bytes=8:=by
 have h:=infoInt
 cases e:Tryz.prog.info? 3 with
 | none=>rw [e] at h;cases h
 | some i=>rw [e] at h;simp at h;exact ⟨i,rfl,h⟩
theorem il_len {w:World}{v:Value}{l:List Int}(h:IL w v l):∃ a c,v=.slice a l.length c:=by
 rcases h.2 with ⟨rfl,h0⟩ | ⟨g,cap,cur,rfl,_⟩
 ·exact ⟨none,0,by rw [h0]⟩
 ·exact ⟨_,_,rfl⟩
theorem IL.kept {w w':World}{v:Value}{l:List Int}(h:IL w v l)(hb:∀ k,v.ownBlock=some k->w'.heap[k]?=w.heap[k]?):IL w' v l:=by
 refine ⟨h.1,?_⟩
 rcases h.2 with q | ⟨g,cap,cur,rfl,h1,h2,h3⟩
 ·exact .inl q
 ·exact .inr ⟨g,cap,cur,rfl,h1,(hb g rfl).trans h2,h3⟩
theorem IL.lt {w:World}{v:Value}{l:List Int}(h:IL w v l):∀ k,v.ownBlock=some k->k < w.heap.size:=fun k hk=>(World.ownsRow.lt h k hk).2
theorem IL.later {w w':World}{v:Value}{l:List Int}(h:IL w v l)(hb:Below w.heap.size w w'):IL w' v l:=h.kept fun k hk=>hb.block k (h.lt k hk)
abbrev gBox (g:GV):Obj:=.cells #[.slice g.ta g.ts.length g.tc,.slice g.na g.ns.length g.nc,.int .i64 g.start,.slice g.pa g.ps.length g.pc,.slice g.la g.ls.length g.lc] 63
def inT (g:GV)(n:Int):Bool:=decide (0<=n/\n < g.ts.length)
def inN (g:GV)(n:Int):Bool:=decide (0<=n/\n < g.ns.length)
def inG (g:GV)(k n:Int):Bool:=if k=1 then inT g n else if k=2 then inN g n else false
set_option maxRecDepth 100000 in
set_option maxHeartbeats 2000000 in
theorem isterm_any (g:GV)(n:Int)(w:World)(hl:g.ts.length<=140737488355328):Calls Tryz.prog 146 #[g.val,.int .i64 n] w fun e w'=>e=.returned (.bool (inT g n))/\Below w.heap.size w w':=by
 have fin:=bAl w (gBox g)
 by_cases h0:0<=n
 ·by_cases h1:n < g.ts.length
  ·have E:Hid (inT g n=true):=by show _=_;simp [inT,h0,h1]
   go_enter Tryz.func146,Tryz.ntmps146
   go_wp2
   go_ret
   exact ⟨by rw [E.out];rfl,fin⟩
  ·have E:Hid (inT g n=false):=by show _=_;simp [inT,h1]
   go_enter Tryz.func146,Tryz.ntmps146
   go_wp2
   go_ret
   exact ⟨by rw [E.out];rfl,fin⟩
 ·have E:Hid (inT g n=false):=by show _=_;simp [inT,h0]
  go_enter Tryz.func146,Tryz.ntmps146
  go_wp2
  go_ret
  exact ⟨by rw [E.out];rfl,fin⟩
set_option maxRecDepth 100000 in
set_option maxHeartbeats 2000000 in
theorem isnon_any (g:GV)(n:Int)(w:World)(hl:g.ns.length<=140737488355328):Calls Tryz.prog 121 #[g.val,.int .i64 n] w fun e w'=>e=.returned (.bool (inN g n))/\Below w.heap.size w w':=by
 have fin:=bAl w (gBox g)
 by_cases h0:0<=n
 ·by_cases h1:n < g.ns.length
  ·have E:Hid (inN g n=true):=by show _=_;simp [inN,h0,h1]
   go_enter Tryz.func121,Tryz.ntmps121
   go_wp2
   go_ret
   exact ⟨by rw [E.out];rfl,fin⟩
  ·have E:Hid (inN g n=false):=by show _=_;simp [inN,h1]
   go_enter Tryz.func121,Tryz.ntmps121
   go_wp2
   go_ret
   exact ⟨by rw [E.out];rfl,fin⟩
 ·have E:Hid (inN g n=false):=by show _=_;simp [inN,h0]
  go_enter Tryz.func121,Tryz.ntmps121
  go_wp2
  go_ret
  exact ⟨by rw [E.out];rfl,fin⟩
abbrev syBox (k n:Int):Obj:=.cells #[.int .i64 k,.int .i64 n] 82
theorem two_box (w:World)(g:GV)(k n:Int):Below w.heap.size w ((w.alloc (gBox g)).alloc (syBox k n)):=(bAl w _).alloc (bAl w _).size _
set_option maxRecDepth 100000 in
set_option maxHeartbeats 2000000 in
theorem in_g (g:GV)(k n:Int)(w:World)(h1:g.ts.length<=140737488355328)(h2:g.ns.length<=140737488355328):Calls Tryz.prog 141 #[g.val,.agg #[.int .i64 k,.int .i64 n]] w fun e w'=>e=.returned (.bool (inG g k n))/\Below w.heap.size w w':=by
 have fin:=two_box w g k n
 by_cases k1:k=1
 ·subst k1
  have E:Hid (inG g 1 n=inT g n):=rfl
  go_enter Tryz.func141,Tryz.ntmps141
  go_wp2_with (first
   | (go_at_call 146;refine (isterm_any g n _ h1).mono ?_;rintro e w1 ⟨rfl,b1⟩;have B1:=fin.trans (b1.mono fin.size);clear b1))
  go_ret
  exact ⟨by rw [E.out];rfl,B1⟩
 by_cases k2:k=2
 ·subst k2
  have E:Hid (inG g 2 n=inN g n):=rfl
  go_enter Tryz.func141,Tryz.ntmps141
  go_wp2_with (first
   | (go_at_call 121;refine (isnon_any g n _ h2).mono ?_;rintro e w1 ⟨rfl,b1⟩;have B1:=fin.trans (b1.mono fin.size);clear b1))
  go_ret
  exact ⟨by rw [E.out];rfl,B1⟩
 have q1:(k == 1)=false:=by simp [k1]
 have q2:(k == 2)=false:=by simp [k2]
 have E:Hid (inG g k n=false):=by show _=_;unfold inG;rw [if_neg k1,if_neg k2]
 go_enter Tryz.func141,Tryz.ntmps141
 go_wp2
 go_ret
 exact ⟨by rw [E.out];rfl,fin⟩
set_option maxRecDepth 100000 in
set_option maxHeartbeats 4000000 in
theorem refin_g (g:GV)(k n:Int)(w:World)(h1:g.ts.length<=140737488355328)(h2:g.ns.length<=140737488355328):Calls Tryz.prog 119 #[g.val,.agg #[.int .i64 k,.int .i64 n]] w fun e w'=>e=.returned (.bool (inG g k n))/\Below w.heap.size w w':=by
 have fin:=two_box w g k n
 by_cases k1:k=1
 ·subst k1
  have hc:(0<=n/\n < g.ts.length/\Hid (inG g 1 n=true))∨(0<=n/\¬ n < g.ts.length/\Hid (inG g 1 n=false))∨(¬ 0<=n/\Hid (inG g 1 n=false)):=by
   by_cases a:0<=n
   ·by_cases b:n < g.ts.length
    ·exact .inl ⟨a,b,by show _=_;simp [inG,inT,a,b]⟩
    ·exact .inr (.inl ⟨a,b,by show _=_;simp [inG,inT,b]⟩)
   ·exact .inr (.inr ⟨a,by show _=_;simp [inG,inT,a]⟩)
  rcases hc with ⟨a,b,E⟩ | ⟨a,b,E⟩ | ⟨a,E⟩
  all_goals
   go_enter Tryz.func119,Tryz.ntmps119
   go_wp2
   go_ret
   exact ⟨by rw [E.out];rfl,fin⟩
 by_cases k2:k=2
 ·subst k2
  have hc:(0<=n/\n < g.ns.length/\Hid (inG g 2 n=true))∨(0<=n/\¬ n < g.ns.length/\Hid (inG g 2 n=false))∨(¬ 0<=n/\Hid (inG g 2 n=false)):=by
   by_cases a:0<=n
   ·by_cases b:n < g.ns.length
    ·exact .inl ⟨a,b,by show _=_;simp [inG,inN,a,b]⟩
    ·exact .inr (.inl ⟨a,b,by show _=_;simp [inG,inN,b]⟩)
   ·exact .inr (.inr ⟨a,by show _=_;simp [inG,inN,a]⟩)
  rcases hc with ⟨a,b,E⟩ | ⟨a,b,E⟩ | ⟨a,E⟩
  all_goals
   go_enter Tryz.func119,Tryz.ntmps119
   go_wp2
   go_ret
   exact ⟨by rw [E.out];rfl,fin⟩
 have q1:(k == 1)=false:=by simp [k1]
 have q2:(k == 2)=false:=by simp [k2]
 have E:Hid (inG g k n=false):=by show _=_;unfold inG;rw [if_neg k1,if_neg k2]
 go_enter Tryz.func119,Tryz.ntmps119
 go_wp2
 go_ret
 exact ⟨by rw [E.out];rfl,fin⟩
open Go.ChangeShapes Go.WideShapes Go.ChangeAt Go.RowKit
theorem gown:ownKnob Tryz.prog.godebug=none:=by kernel_rfl
theorem glaid:laidOutB Tryz.prog=true:=by kernel_rfl
theorem gcellsInt:Tryz.prog.cellsOf 3=1:=by kernel_rfl
theorem gcellsKind:Tryz.prog.cellsOf 80=1:=by kernel_rfl
theorem gcellsAssoc:Tryz.prog.cellsOf 118=1:=by kernel_rfl
theorem gcellsSym:Tryz.prog.cellsOf 82=2:=by kernel_rfl
theorem gcellsStr:Tryz.prog.cellsOf 9=1:=by kernel_rfl
theorem gcellsStrs:Tryz.prog.cellsOf 59=1:=by kernel_rfl
theorem gcellsInts:Tryz.prog.cellsOf 55=1:=by kernel_rfl
theorem gcellsSyms:Tryz.prog.cellsOf 100=1:=by kernel_rfl
theorem gcellsProd:Tryz.prog.cellsOf 116=3:=by kernel_rfl
theorem gcellsProds:Tryz.prog.cellsOf 60=1:=by kernel_rfl
theorem gcellsLevel:Tryz.prog.cellsOf 120=2:=by kernel_rfl
theorem gcellsLevels:Tryz.prog.cellsOf 61=1:=by kernel_rfl
theorem gcellsGram:Tryz.prog.cellsOf 63=5:=by kernel_rfl
def LD {H:Type}(n:Nat)(d:DataW H):Prop:=(d=.nil/\n=0)∨∃ el sp,d=.slice el sp/\el.length=n
section
variable {H:Type} {enc:TypeId×Value->H} {W:World}
set_option maxRecDepth 100000 in
theorem otext {fuel:Nat}{cs:List Value}{x:DataW H×List MemPlace}(hf:DataW.trod enc Tryz.prog W 0 (fun _=>true) true fuel 59 cs=some x) :
  ∃ (a:Option Addr) (cap:Nat) (l:List ByteArray),cs=[.slice a l.length cap]/\(∀ s∈l,s.size<=maxLen)/\StrRow W a l/\l.length<=cap/\((x.1=.nil/\l=[])∨∃ sp,x.1=.slice (l.map fun s=>.lit (.string s.data.toList)) sp):=by
 rcases Go.Deep.open_slice Tryz.underlying59 hf with ⟨hcs,hx⟩ | ⟨a,len,cap,m,n,D,Pl,hcs,_,hl,_,hm,hx,hel⟩
 ·exact ⟨none,0,[],hcs,(fun o ho=>by cases ho),fun h=>absurd rfl h,Nat.le_refl _,.inl ⟨by rw [hx],rfl⟩⟩
 ·have hm':m=cap:=by simpa using hm
  have each:∀ i,i < m->∃ s:ByteArray,W.cell? (a.add (i*1))=some (.string s)/\s.size<=maxLen/\D i=.lit (.string s.data.toList):=by
   intro i hi
   obtain ⟨cs',h1,h2⟩:=hel i hi
   rw [gcellsStr] at h1
   obtain ⟨hl1,_,hcell⟩:=World.cells?_some h1
   obtain ⟨s,hs,hx2,hsz⟩:=DataW.trod_string Tryz.underlying9 h2
   subst hs
   have e0:=hcell 0 (by omega)
   rw [Go.Deep.add_add] at e0
   simp only [Prod.mk.injEq] at hx2
   exact ⟨s,by simpa using e0,hsz,hx2.1⟩
  obtain ⟨f,hfs⟩:∃ f:Nat->ByteArray,∀ i,i < m->W.cell? (a.add (i*1))=some (.string (f i))/\(f i).size<=maxLen/\D i=.lit (.string (f i).data.toList) :=
   ⟨fun i=>if h:i < m then Classical.choose (each i h) else ByteArray.empty,fun i h=>by simp only [dif_pos h];exact Classical.choose_spec (each i h)⟩
  have hpl:((List.range len).map f).length=len:=by simp
  have hgd:∀ i,i < len->((List.range len).map f).getD i ByteArray.empty=f i:=fun i hi=>by simp [List.getD,hi]
  refine ⟨some a,cap,(List.range len).map f,by rw [hpl];exact hcs,fun o ho=>?_,fun hne=>?_,by rw [hpl];exact hl,.inr ⟨(List.range (m - len)).map fun j=>D (len+j),?_⟩⟩
  ·obtain ⟨i,hi,rfl⟩:=List.mem_map.1 ho
   exact (hfs i (by have:=List.mem_range.1 hi;omega)).2.1
  ·obtain ⟨b,off,spot⟩:=a
   have h0:0 < len:=by
    rcases Nat.eq_zero_or_pos len with e | e
    ·subst e;simp at hne
    ·exact e
   have hc0:=(hfs 0 (by omega)).1
   have hspot:spot=none:=by simpa [Addr.add] using World.cell?_spot hc0
   subst hspot
   refine ⟨b,off,rfl,?_,fun i hi=>?_⟩
   ·have:=World.block_lt_of_cell? W _ hc0
    rw [aNn] at this
    exact this
   ·rw [hpl] at hi
    rw [hgd i hi]
    have e0:=(hfs i (by omega)).1
    rw [aNn,Nat.mul_one] at e0
    exact e0
  ·rw [hx,List.map_map]
   show DataW.slice _ _=DataW.slice _ _
   congr 1
   apply List.map_congr_left
   intro i hi
   exact (hfs i (by have:=List.mem_range.1 hi;omega)).2.2
set_option maxRecDepth 100000 in
theorem onums {fuel:Nat}{cs:List Value}{x:DataW H×List MemPlace}(hf:DataW.trod enc Tryz.prog W 0 (fun _=>true) true fuel 55 cs=some x) :
  ∃ (a:Option Addr) (cap:Nat) (l:List Int),cs=[.slice a l.length cap]/\InRow W a l/\l.length<=cap/\LD l.length x.1/\∀ z∈l,-9223372036854775808<=z/\z<=9223372036854775807:=by
 rcases Go.Deep.open_slice Tryz.underlying55 hf with ⟨hcs,hx⟩ | ⟨a,len,cap,m,n,D,Pl,hcs,_,hl,_,hm,hx,hel⟩
 ·exact ⟨none,0,[],hcs,fun h=>absurd rfl h,Nat.le_refl _,.inl ⟨by rw [hx],rfl⟩,(fun o ho=>by cases ho)⟩
 ·have hm':m=cap:=by simpa using hm
  have each:∀ i,i < m->∃ s:Int,W.cell? (a.add (i*1))=some (.int .i64 s)/\(-9223372036854775808<=s/\s<=9223372036854775807):=by
   intro i hi
   obtain ⟨cs',h1,h2⟩:=hel i hi
   rw [gcellsInt] at h1
   obtain ⟨hl1,_,hcell⟩:=World.cells?_some h1
   obtain ⟨s,hs,_,hsz⟩:=DataW.trod_int Tryz.underlying3 h2
   subst hs
   have e0:=hcell 0 (by omega)
   rw [Go.Deep.add_add] at e0
   exact ⟨s,by simpa using e0,bounds_i64 hsz⟩
  obtain ⟨f,hfs⟩:∃ f:Nat->Int,∀ i,i < m->W.cell? (a.add (i*1))=some (.int .i64 (f i))/\(-9223372036854775808<=f i/\f i<=9223372036854775807) :=
   ⟨fun i=>if h:i < m then Classical.choose (each i h) else 0,fun i h=>by simp only [dif_pos h];exact Classical.choose_spec (each i h)⟩
  have hpl:((List.range len).map f).length=len:=by simp
  have hgd:∀ i,i < len->((List.range len).map f).getD i 0=f i:=fun i hi=>by simp [List.getD,hi]
  refine ⟨some a,cap,(List.range len).map f,by rw [hpl];exact hcs,fun hne=>?_,by rw [hpl];exact hl,.inr ⟨_,_,by rw [hx],by simp⟩,fun z hz=>?_⟩
  ·obtain ⟨b,off,spot⟩:=a
   have h0:0 < len:=by
    rcases Nat.eq_zero_or_pos len with e | e
    ·subst e;simp at hne
    ·exact e
   have hc0:=(hfs 0 (by omega)).1
   have hspot:spot=none:=by simpa [Addr.add] using World.cell?_spot hc0
   subst hspot
   refine ⟨b,off,rfl,?_,fun i hi=>?_⟩
   ·have:=World.block_lt_of_cell? W _ hc0
    rw [aNn] at this
    exact this
   ·rw [hpl] at hi
    rw [hgd i hi]
    have e0:=(hfs i (by omega)).1
    rw [aNn,Nat.mul_one] at e0
    exact e0
  ·obtain ⟨i,hi,rfl⟩:=List.mem_map.1 hz
   exact (hfs i (by have:=List.mem_range.1 hi;omega)).2
set_option maxRecDepth 100000 in
theorem osymc {fuel:Nat}{cs:List Value}{x:DataW H×List MemPlace}(h:DataW.trod enc Tryz.prog W 0 (fun _=>true) true fuel 82 cs=some x):∃ q:Int×Int,cs=[.int .i64 q.1,.int .i64 q.2]:=by
 obtain ⟨xs,n,_,hx,hl,hlen,hf⟩:=DataW.trod_struct Tryz.underlying82 h
 rw [gcellsSym] at hl
 match xs,hlen,cs,hl with
 | [y0,y1],_,[e0,e1],_ =>
  have g0:=hf 0 _ rfl
  have g1:=hf 1 _ rfl
  simp [gcellsInt,gcellsKind] at g0 g1
  obtain ⟨a,ha,_,_⟩:=DataW.trod_int Tryz.underlying80 g0
  obtain ⟨b,hb,_,_⟩:=DataW.trod_int Tryz.underlying3 g1
  simp only [List.cons.injEq,and_true] at ha hb
  subst ha;subst hb
  exact ⟨(a,b),rfl⟩
set_option maxRecDepth 100000 in
theorem osymsC {fuel:Nat}{cs:List Value}{x:DataW H×List MemPlace}(hf:DataW.trod enc Tryz.prog W 0 (fun _=>true) true fuel 100 cs=some x) :
  ∃ (a:Option Addr) (cap:Nat) (l:List (Int×Int)),cs=[.slice a l.length cap]/\SymRow W a l/\LD l.length x.1/\l.length<=cap:=by
 rcases Go.Deep.open_slice Tryz.underlying100 hf with ⟨hcs,hx⟩ | ⟨a,len,cap,m,n,D,Pl,hcs,_,hl,_,hm,hx,hel⟩
 ·exact ⟨none,0,[],hcs,fun h=>absurd rfl h,.inl ⟨by rw [hx],rfl⟩,Nat.le_refl _⟩
 ·have hm':m=cap:=by simpa using hm
  have each:∀ i,i < m->∃ q:Int×Int,W.cell? (a.add (i*2))=some (.int .i64 q.1)/\W.cell? (a.add (i*2+1))=some (.int .i64 q.2):=by
   intro i hi
   obtain ⟨cs',h1,h2⟩:=hel i hi
   rw [gcellsSym] at h1
   obtain ⟨hl1,_,hcell⟩:=World.cells?_some h1
   obtain ⟨q,hs⟩:=osymc h2
   subst hs
   have e0:=hcell 0 (by omega)
   have e1:=hcell 1 (by omega)
   rw [Go.Deep.add_add] at e0 e1
   exact ⟨q,by simpa using e0,by simpa using e1⟩
  obtain ⟨f,hfs⟩:∃ f:Nat->Int×Int,∀ i,i < m->W.cell? (a.add (i*2))=some (.int .i64 (f i).1)/\W.cell? (a.add (i*2+1))=some (.int .i64 (f i).2) :=
   ⟨fun i=>if h:i < m then Classical.choose (each i h) else (0,0),fun i h=>by simp only [dif_pos h];exact Classical.choose_spec (each i h)⟩
  have hpl:((List.range len).map f).length=len:=by simp
  have hgd:∀ i,i < len->((List.range len).map f).getD i (0,0)=f i:=fun i hi=>by simp [List.getD,hi]
  refine ⟨some a,cap,(List.range len).map f,by rw [hpl];exact hcs,fun hne=>?_,.inr ⟨_,_,by rw [hx],by simp⟩,by rw [hpl];exact hl⟩
  obtain ⟨b,off,spot⟩:=a
  have h0:0 < len:=by
   rcases Nat.eq_zero_or_pos len with e | e
   ·subst e;simp at hne
   ·exact e
  have hc0:=(hfs 0 (by omega)).1
  have hspot:spot=none:=by simpa [Addr.add] using World.cell?_spot hc0
  subst hspot
  refine ⟨b,off,rfl,?_,fun i hi=>?_⟩
  ·have:=World.block_lt_of_cell? W _ hc0
   rw [aNn] at this
   exact this
  ·rw [hpl] at hi
   rw [hgd i hi]
   obtain ⟨e0,e1⟩:=hfs i (by omega)
   rw [aNn] at e0 e1
   exact ⟨e0,by rw [Nat.add_assoc];exact e1⟩
def PD (p:PV)(d:DataW H):Prop:=∃ r,d=.agg [.lit (.int .i64 p.left),r,.lit (.int .i64 p.prec)]/\LD p.right.length r/\p.right.length<=p.rc
def VD (p:LV)(d:DataW H):Prop:=∃ r,d=.agg [.lit (.int .i64 p.assoc),r]/\LD p.terms.length r
set_option maxRecDepth 100000 in
theorem oprod {fuel:Nat}{cs:List Value}{x:DataW H×List MemPlace}(h:DataW.trod enc Tryz.prog W 0 (fun _=>true) true fuel 116 cs=some x) :
  ∃ p:PV,cs=[.int .i64 p.left,.slice p.ra p.right.length p.rc,.int .i64 p.prec]/\SymRow W p.ra p.right/\PD p x.1:=by
 obtain ⟨xs,n,_,hx,hl,hlen,hf⟩:=DataW.trod_struct Tryz.underlying116 h
 rw [gcellsProd] at hl
 match xs,hlen,cs,hl with
 | [y0,y1,y2],_,[e0,e1,e2],_ =>
  have g0:=hf 0 _ rfl
  have g1:=hf 1 _ rfl
  have g2:=hf 2 _ rfl
  simp [gcellsInt,gcellsSyms] at g0 g1 g2
  obtain ⟨a,ha,hda,_⟩:=DataW.trod_int Tryz.underlying3 g0
  obtain ⟨ra,rc,r,hr,hrow,hld,hcp⟩:=osymsC g1
  obtain ⟨b,hb,hdb,_⟩:=DataW.trod_int Tryz.underlying3 g2
  simp only [List.cons.injEq,and_true] at ha hb hr
  subst ha;subst hb;subst hr;subst hda;subst hdb
  exact ⟨⟨a,ra,rc,r,b⟩,rfl,hrow,y1.1,by rw [hx];rfl,hld,hcp⟩
set_option maxRecDepth 100000 in
theorem olevel {fuel:Nat}{cs:List Value}{x:DataW H×List MemPlace}(h:DataW.trod enc Tryz.prog W 0 (fun _=>true) true fuel 120 cs=some x) :
  ∃ p:LV,cs=[.int .i64 p.assoc,.slice p.ta p.terms.length p.tc]/\InRow W p.ta p.terms/\VD p x.1:=by
 obtain ⟨xs,n,_,hx,hl,hlen,hf⟩:=DataW.trod_struct Tryz.underlying120 h
 rw [gcellsLevel] at hl
 match xs,hlen,cs,hl with
 | [y0,y1],_,[e0,e1],_ =>
  have g0:=hf 0 _ rfl
  have g1:=hf 1 _ rfl
  simp [gcellsAssoc,gcellsInts] at g0 g1
  obtain ⟨a,ha,hda,_⟩:=DataW.trod_int Tryz.underlying118 g0
  obtain ⟨ra,rc,r,hr,hrow,_,hld,_⟩:=onums g1
  simp only [List.cons.injEq,and_true] at ha hr
  subst ha;subst hr;subst hda
  exact ⟨⟨a,ra,rc,r⟩,rfl,hrow,y1.1,by rw [hx];rfl,hld⟩
set_option maxRecDepth 100000 in
theorem oprods {fuel:Nat}{cs:List Value}{x:DataW H×List MemPlace}(hf:DataW.trod enc Tryz.prog W 0 (fun _=>true) true fuel 60 cs=some x) :
  ∃ (a:Option Addr) (cap:Nat) (l:List PV),cs=[.slice a l.length cap]/\PrRow W a l/\l.length<=cap/\((x.1=.nil/\l=[])∨∃ el sp,x.1=.slice el sp/\el.length=l.length/\∀ i,i < l.length->PD (l.getD i .none) (el.getD i .nil)):=by
 rcases Go.Deep.open_slice Tryz.underlying60 hf with ⟨hcs,hx⟩ | ⟨a,len,cap,m,n,D,Pl,hcs,_,hl,_,hm,hx,hel⟩
 ·exact ⟨none,0,[],hcs,⟨fun h=>absurd rfl h,fun p hp=>by cases hp⟩,Nat.le_refl _,.inl ⟨by rw [hx],rfl⟩⟩
 ·have hm':m=cap:=by simpa using hm
  have each:∀ i,i < m->∃ p:PV,(W.cell? (a.add (i*3))=some (.int .i64 p.left)/\W.cell? (a.add (i*3+1))=some (.slice p.ra p.right.length p.rc)/\W.cell? (a.add (i*3+2))=some (.int .i64 p.prec))/\SymRow W p.ra p.right/\PD p (D i):=by
   intro i hi
   obtain ⟨cs',h1,h2⟩:=hel i hi
   rw [gcellsProd] at h1
   obtain ⟨hl1,_,hcell⟩:=World.cells?_some h1
   obtain ⟨q,hs,hr,hd⟩:=oprod h2
   subst hs
   have e0:=hcell 0 (by omega)
   have e1:=hcell 1 (by omega)
   have e2:=hcell 2 (by omega)
   rw [Go.Deep.add_add] at e0 e1 e2
   exact ⟨q,⟨by simpa using e0,by simpa using e1,by simpa using e2⟩,hr,hd⟩
  obtain ⟨f,hfs⟩:∃ f:Nat->PV,∀ i,i < m->(W.cell? (a.add (i*3))=some (.int .i64 (f i).left)/\W.cell? (a.add (i*3+1))=some (.slice (f i).ra (f i).right.length (f i).rc)/\W.cell? (a.add (i*3+2))=some (.int .i64 (f i).prec))/\SymRow W (f i).ra (f i).right/\PD (f i) (D i) :=
   ⟨fun i=>if h:i < m then Classical.choose (each i h) else .none,fun i h=>by simp only [dif_pos h];exact Classical.choose_spec (each i h)⟩
  have hpl:((List.range len).map f).length=len:=by simp
  have hgd:∀ i,i < len->((List.range len).map f).getD i .none=f i:=fun i hi=>by simp [List.getD,hi]
  refine ⟨some a,cap,(List.range len).map f,by rw [hpl];exact hcs,⟨fun hne=>?_,fun p hp=>?_⟩,by rw [hpl];exact hl,.inr ⟨_,_,by rw [hx],by simp,fun i hi=>?_⟩⟩
  ·obtain ⟨b,off,spot⟩:=a
   have h0:0 < len:=by
    rcases Nat.eq_zero_or_pos len with e | e
    ·subst e;simp at hne
    ·exact e
   have hc0:=(hfs 0 (by omega)).1.1
   have hspot:spot=none:=by simpa [Addr.add] using World.cell?_spot hc0
   subst hspot
   refine ⟨b,off,rfl,?_,fun i hi=>?_⟩
   ·have:=World.block_lt_of_cell? W _ hc0
    rw [aNn] at this
    exact this
   ·rw [hpl] at hi
    rw [hgd i hi]
    obtain ⟨e0,e1,e2⟩:=(hfs i (by omega)).1
    rw [aNn] at e0 e1 e2
    exact ⟨e0,by rw [Nat.add_assoc];exact e1,by rw [Nat.add_assoc];exact e2⟩
  ·obtain ⟨i,hi,rfl⟩:=List.mem_map.1 hp
   exact (hfs i (by have:=List.mem_range.1 hi;omega)).2.1
  ·rw [hpl] at hi
   have:=(hfs i (by omega)).2.2
   rw [hgd i hi]
   have e:((List.range len).map D).getD i DataW.nil=D i:=by simp [List.getD,hi]
   rw [e]
   exact this
set_option maxRecDepth 100000 in
theorem olevels {fuel:Nat}{cs:List Value}{x:DataW H×List MemPlace}(hf:DataW.trod enc Tryz.prog W 0 (fun _=>true) true fuel 61 cs=some x) :
  ∃ (a:Option Addr) (cap:Nat) (l:List LV),cs=[.slice a l.length cap]/\LvRow W a l/\((x.1=.nil/\l=[])∨∃ el sp,x.1=.slice el sp/\el.length=l.length/\∀ i,i < l.length->VD (l.getD i .none) (el.getD i .nil)):=by
 rcases Go.Deep.open_slice Tryz.underlying61 hf with ⟨hcs,hx⟩ | ⟨a,len,cap,m,n,D,Pl,hcs,_,hl,_,hm,hx,hel⟩
 ·exact ⟨none,0,[],hcs,⟨fun h=>absurd rfl h,fun p hp=>by cases hp⟩,.inl ⟨by rw [hx],rfl⟩⟩
 ·have hm':m=cap:=by simpa using hm
  have each:∀ i,i < m->∃ p:LV,(W.cell? (a.add (i*2))=some (.int .i64 p.assoc)/\W.cell? (a.add (i*2+1))=some (.slice p.ta p.terms.length p.tc))/\InRow W p.ta p.terms/\VD p (D i):=by
   intro i hi
   obtain ⟨cs',h1,h2⟩:=hel i hi
   rw [gcellsLevel] at h1
   obtain ⟨hl1,_,hcell⟩:=World.cells?_some h1
   obtain ⟨q,hs,hr,hd⟩:=olevel h2
   subst hs
   have e0:=hcell 0 (by omega)
   have e1:=hcell 1 (by omega)
   rw [Go.Deep.add_add] at e0 e1
   exact ⟨q,⟨by simpa using e0,by simpa using e1⟩,hr,hd⟩
  obtain ⟨f,hfs⟩:∃ f:Nat->LV,∀ i,i < m->(W.cell? (a.add (i*2))=some (.int .i64 (f i).assoc)/\W.cell? (a.add (i*2+1))=some (.slice (f i).ta (f i).terms.length (f i).tc))/\InRow W (f i).ta (f i).terms/\VD (f i) (D i) :=
   ⟨fun i=>if h:i < m then Classical.choose (each i h) else .none,fun i h=>by simp only [dif_pos h];exact Classical.choose_spec (each i h)⟩
  have hpl:((List.range len).map f).length=len:=by simp
  have hgd:∀ i,i < len->((List.range len).map f).getD i .none=f i:=fun i hi=>by simp [List.getD,hi]
  refine ⟨some a,cap,(List.range len).map f,by rw [hpl];exact hcs,⟨fun hne=>?_,fun p hp=>?_⟩,.inr ⟨_,_,by rw [hx],by simp,fun i hi=>?_⟩⟩
  ·obtain ⟨b,off,spot⟩:=a
   have h0:0 < len:=by
    rcases Nat.eq_zero_or_pos len with e | e
    ·subst e;simp at hne
    ·exact e
   have hc0:=(hfs 0 (by omega)).1.1
   have hspot:spot=none:=by simpa [Addr.add] using World.cell?_spot hc0
   subst hspot
   refine ⟨b,off,rfl,?_,fun i hi=>?_⟩
   ·have:=World.block_lt_of_cell? W _ hc0
    rw [aNn] at this
    exact this
   ·rw [hpl] at hi
    rw [hgd i hi]
    obtain ⟨e0,e1⟩:=(hfs i (by omega)).1
    rw [aNn] at e0 e1
    exact ⟨e0,by rw [Nat.add_assoc];exact e1⟩
  ·obtain ⟨i,hi,rfl⟩:=List.mem_map.1 hp
   exact (hfs i (by have:=List.mem_range.1 hi;omega)).2.1
  ·rw [hpl] at hi
   have:=(hfs i (by omega)).2.2
   rw [hgd i hi]
   have e:((List.range len).map D).getD i DataW.nil=D i:=by simp [List.getD,hi]
   rw [e]
   exact this
structure GD (g:GV)(d:DataW H):Prop where
 all:∃ dt dn dp dl,d=.agg [dt,dn,.lit (.int .i64 g.start),dp,dl] /\
  ((dt=.nil/\g.ts=[])∨∃ sp,dt=.slice (g.ts.map fun s=>.lit (.string s.data.toList)) sp) /\
  ((dn=.nil/\g.ns=[])∨∃ sp,dn=.slice (g.ns.map fun s=>.lit (.string s.data.toList)) sp) /\
  ((dp=.nil/\g.ps=[])∨∃ el sp,dp=.slice el sp/\el.length=g.ps.length/\∀ i,i < g.ps.length->PD (g.ps.getD i .none) (el.getD i .nil)) /\
  ((dl=.nil/\g.ls=[])∨∃ el sp,dl=.slice el sp/\el.length=g.ls.length/\∀ i,i < g.ls.length->VD (g.ls.getD i .none) (el.getD i .nil))
set_option maxRecDepth 100000 in
theorem open_gram {base:Nat}{v:Value}{d:DataW H}{p:List MemPlace}(hv:Value.okWide Tryz.prog W .any base 63 v)
  (h:DataW.Trod enc Tryz.prog W 0 (fun _=>true) true 63 v d p) :
  ∃ g:GV,v=g.val/\(StrRow W g.ta g.ts/\StrRow W g.na g.ns/\PrRow W g.pa g.ps/\LvRow W g.la g.ls/\(∀ s∈g.ts,s.size<=maxLen)/\(∀ s∈g.ns,s.size<=maxLen)/\g.ps.length<=g.pc)/\GD g d/\(-9223372036854775808<=g.start/\g.start<=9223372036854775807):=by
 obtain ⟨cs,rfl,hsz⟩:=okWide_struct Tryz.underlying63 hv
 obtain ⟨fuel,h⟩:=h
 obtain ⟨xs,n,_,hx,hl,hlen,hf⟩:=DataW.trod_struct Tryz.underlying63 h
 simp only [Value.cells] at hl hf
 rw [gcellsGram] at hl
 obtain ⟨cs⟩:=cs
 simp only at hl hf
 match xs,hlen,cs,hl with
 | [y0,y1,y2,y3,y4],_,[e0,e1,e2,e3,e4],_ =>
  have g0:=hf 0 _ rfl
  have g1:=hf 1 _ rfl
  have g2:=hf 2 _ rfl
  have g3:=hf 3 _ rfl
  have g4:=hf 4 _ rfl
  simp [gcellsInt,gcellsStrs,gcellsProds,gcellsLevels] at g0 g1 g2 g3 g4
  obtain ⟨ta,tc,ts,ht,htz,htr,_,htd⟩:=otext g0
  obtain ⟨na,nc,ns,hn,hnz,hnr,_,hnd⟩:=otext g1
  obtain ⟨st,hs,hsd,hsw⟩:=DataW.trod_int Tryz.underlying3 g2
  obtain ⟨pa,pc,ps,hp,hpr,hpc,hpd⟩:=oprods g3
  obtain ⟨la,lc,ls,hl2,hlr,hld⟩:=olevels g4
  simp only [List.cons.injEq,and_true] at ht hn hs hp hl2
  subst ht;subst hn;subst hs;subst hp;subst hl2;subst hsd
  simp only [Prod.mk.injEq] at hx
  exact ⟨⟨ta,tc,ts,na,nc,ns,st,pa,pc,ps,la,lc,ls⟩,rfl,⟨htr,hnr,hpr,hlr,htz,hnz,hpc⟩,⟨y0.1,y1.1,y3.1,y4.1,hx.1,htd,hnd,hpd,hld⟩,bounds_i64 hsw⟩
end
section
variable {H:Type}
theorem getD_in {α:Type}{l:List α}{d:α}{j:Nat}(h:j < l.length):l.getD j d∈l:=by
 have e:l.getD j d=l[j]:=by simp [List.getD,h]
 rw [e];exact List.getElem_mem h
theorem in_getD {α:Type}{l:List α}{d x:α}(h:x∈l):∃ i,i < l.length/\x=l.getD i d:=by
 obtain ⟨i,hi,rfl⟩:=List.getElem_of_mem h
 exact ⟨i,hi,by simp [List.getD,hi]⟩
end
theorem gbulk_pos {H:Type}(d:DataW H):1<=Rows.uptoBulk d:=by
 cases d with
 | lit x=>cases x<;>simp [Rows.uptoBulk]
 | nil=>simp [Rows.uptoBulk]
 | ptr d=>simp [Rows.uptoBulk]
 | slice a b=>simp [Rows.uptoBulk]
 | agg a=>simp [Rows.uptoBulk]
 | iface a d=>simp [Rows.uptoBulk]
 | map a=>simp [Rows.uptoBulk]
 | held a=>simp [Rows.uptoBulk]
theorem gbulk_len {H:Type}:∀ ds:List (DataW H),ds.length<=Rows.uptoBulkAll ds
 | []=>by simp
 | d :: r=>by
  have:=gbulk_len r
  have:=gbulk_pos d
  simp only [Rows.uptoBulkAll,List.length_cons]
  omega
theorem gbulk_mem {H:Type}:∀ {ds:List (DataW H)} {d:DataW H},d∈ds->Rows.uptoBulk d<=Rows.uptoBulkAll ds
 | [],_,h=>by cases h
 | a :: r,d,h=>by
  simp only [Rows.uptoBulkAll]
  rcases List.mem_cons.1 h with rfl | h
  ·omega
  ·have:=gbulk_mem h
   omega
theorem gbulk_el {H:Type}{el sp:List (DataW H)}{N:Nat}(h:Rows.uptoBulk (.slice el sp)<=N):el.length<=N/\∀ d∈el,Rows.uptoBulk d<=N:=by
 simp only [Rows.uptoBulk] at h
 have h1:=gbulk_len el
 exact ⟨by omega,fun d hd=>by have:=gbulk_mem hd;omega⟩
theorem ld_bulk {H:Type}{n N:Nat}{d:DataW H}(h:LD n d)(hb:Rows.uptoBulk d<=N):n<=N:=by
 rcases h with ⟨_,rfl⟩ | ⟨el,sp,rfl,rfl⟩
 ·exact Nat.zero_le _
 ·exact (gbulk_el hb).1
theorem agg_bulk {H:Type}{l:List (DataW H)}{d:DataW H}{N:Nat}(h:Rows.uptoBulk (.agg l)<=N)(hd:d∈l):Rows.uptoBulk d<=N:=by
 simp only [Rows.uptoBulk] at h
 have:=gbulk_mem hd
 omega
theorem gram_bulk {H:Type}{W:World}{N:Nat}{d:DataW H}{g:GV}(hb:Rows.uptoBulk d<=N)(h:GD g d)
  (hr:StrRow W g.ta g.ts/\StrRow W g.na g.ns/\PrRow W g.pa g.ps/\LvRow W g.la g.ls/\(∀ s∈g.ts,s.size<=maxLen)/\(∀ s∈g.ns,s.size<=maxLen)/\g.ps.length<=g.pc):GAt N W g:=by
 obtain ⟨dt,dn,dp,dl,rfl,a1,a2,a3,a4⟩:=h.all
 have w0:Rows.uptoBulk dt<=N:=agg_bulk hb (by simp)
 have w1:Rows.uptoBulk dn<=N:=agg_bulk hb (by simp)
 have w3:Rows.uptoBulk dp<=N:=agg_bulk hb (by simp)
 have w4:Rows.uptoBulk dl<=N:=agg_bulk hb (by simp)
 obtain ⟨r1,r2,r3,r4,r5,r6,_⟩:=hr
 refine ⟨r1,r2,r3,r4,r5,r6,?_,?_,?_,?_,?_,?_⟩
 ·rcases a1 with ⟨_,e⟩ | ⟨sp,rfl⟩
  ·rw [e];simp
  ·simpa using (gbulk_el w0).1
 ·rcases a2 with ⟨_,e⟩ | ⟨sp,rfl⟩
  ·rw [e];simp
  ·simpa using (gbulk_el w1).1
 ·rcases a3 with ⟨_,e⟩ | ⟨el,sp,rfl,e,_⟩
  ·rw [e];simp
  ·rw [<- e];exact (gbulk_el w3).1
 ·rcases a4 with ⟨_,e⟩ | ⟨el,sp,rfl,e,_⟩
  ·rw [e];simp
  ·rw [<- e];exact (gbulk_el w4).1
 ·intro p hp
  rcases a3 with ⟨_,e⟩ | ⟨el,sp,rfl,e,hE⟩
  ·rw [e] at hp;cases hp
  ·obtain ⟨i,hi,rfl⟩:=in_getD (d:=PV.none) hp
   obtain ⟨r,hr,hl,_⟩:=hE i hi
   have hm:el.getD i .nil∈el:=getD_in (by omega)
   have hx:=(gbulk_el w3).2 _ hm
   rw [hr] at hx
   exact ld_bulk hl (agg_bulk hx (by simp))
 ·intro p hp
  rcases a4 with ⟨_,e⟩ | ⟨el,sp,rfl,e,hE⟩
  ·rw [e] at hp;cases hp
  ·obtain ⟨i,hi,rfl⟩:=in_getD (d:=LV.none) hp
   obtain ⟨r,hr,hl⟩:=hE i hi
   have hm:el.getD i .nil∈el:=getD_in (by omega)
   have hx:=(gbulk_el w4).2 _ hm
   rw [hr] at hx
   exact ld_bulk hl (agg_bulk hx (by simp))
set_option maxRecDepth 100000 in
theorem open_intsg {H:Type}{enc:TypeId×Value->H}{W:World}{base:Nat}{v:Value}{d:DataW H}{p:List MemPlace}(hv:Value.okWide Tryz.prog W .any base 55 v)
  (h:DataW.Trod enc Tryz.prog W 0 (fun _=>true) true 55 v d p) :
  ∃ (a:Option Addr) (cap:Nat) (l:List Int),v=.slice a l.length cap/\InRow W a l/\l.length<=cap/\LD l.length d/\∀ z∈l,-9223372036854775808<=z/\z<=9223372036854775807:=by
 obtain ⟨a0,len0,cap0,rfl⟩:=okWide_slice Tryz.underlying55 hv
 obtain ⟨fuel,hf⟩:=h
 obtain ⟨a,cap,l,hcs,h1,h2,h3,h4⟩:=onums hf
 simp only [Value.cells,List.cons.injEq,and_true] at hcs
 exact ⟨a,cap,l,hcs,h1,h2,h3,h4⟩
abbrev BS:=Nat×Nat
end Go.Proofs.YteciabdjkaackaaGreat
