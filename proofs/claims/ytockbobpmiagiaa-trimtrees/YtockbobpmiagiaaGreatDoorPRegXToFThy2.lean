import Derived.Deep.RegionHeld3
import Derived.StillTail
import Derived.Test.YtockbobpmiagiaaGreatDoorPFBaseToFOf
import Derived.Lib.SliceRun
namespace Go.Proofs.YtockbobpmiagiaaGreatDoor
set_option linter.unusedVariables false
set_option maxRecDepth 100000
set_option maxHeartbeats 16000000
open Go.RowKit
section
variable {P:Program} {ops:Array Oper} {Q:Exit->Act->World->Prop} {md:Region.Mode} {S:Array Bool->World->Prop}
def wpAnyX (P:Program)(md:Region.Mode)(ops:Array Oper)(Q:Exit->Act->World->Prop)(S:Array Bool->World->Prop):Nat->Array Bool->Act->World->Prop
 | 0,listed,a,w=>Region.ready md ops listed=[]/\Q .normal a w
 | fuel+1,listed,a,w =>
  (Region.ready md ops listed=[]->Q .normal a w) /\
  ∀ i∈Region.ready md ops listed,wpOp P ops Q i (fun a' w'=>S (listed.setIfInBounds i true) w'/\wpAnyX P md ops Q S fuel (listed.setIfInBounds i true) a' w') a w
theorem wpAny_of_x:∀ (fuel:Nat) (listed:Array Bool) (a:Act) (w:World),wpAnyX P md ops Q S fuel listed a w->wpAny P md ops Q fuel listed a w
 | 0,_,_,_,h=>h
 | fuel+1,_,_,_,h=>⟨h.1,fun i hi=>wpOp_mono (fun a' w' h'=>wpAny_of_x fuel _ a' w' h'.2) (h.2 i hi)⟩
theorem wp_region_x {id:Nat}{a:Act}{w:World}(hm:P.follows .mixedOrders=true)
  (h:wpAnyX P .any ops Q S ops.size (Array.replicate ops.size false) a w.drew):(Code.region id ops true).wp P Q a w :=
 wp_region_any hm (wpAny_of_x _ _ _ _ h)
theorem wpAnyX_first {i:Nat}{oi:Oper}{v:Value}{T:World->Prop}{Cl:Array Bool->Prop}(hi:ops[i]?=some oi)(hsel:∀ (j:Nat) (o:Oper) cs b,ops[j]?=some o->o.op≠.select cs b)
  (hQ:∀ c a w,Q (.panic c) (a.put oi.dst v) w->Q (.panic c) a w) (hCl:∀ L j,Cl L->j∈Region.ready md ops L->Cl (L.setIfInBounds j true))
  (hST:∀ L w,Cl L->L.getD i true=false->S L w->T w) (hSi:∀ L w,S (L.setIfInBounds i true) w ↔ S L w) :
  ∀ (fuel:Nat) (listed:Array Bool) (a:Act) (w:World),
   (∀ j oj,ops[j]?=some oj->j≠i->listed.getD j true=false->(∀ e∈oj.after,Region.binds md e=true->e.on≠i)->oi.apart ops oj=true) ->
   i∈Region.ready md ops listed->Cl listed->YieldsIf P ops T oi v a->S listed w ->
   wpAnyX P md ops Q S fuel (listed.setIfInBounds i true) (a.put oi.dst v) w->wpAnyX P md ops Q S (fuel+1) listed a w:=by
 intro fuel
 induction fuel with
 | zero =>
  intro listed a w _ hr hc hy hS H
  refine ⟨fun h=>(by rw [h] at hr;cases hr),fun j hj=>?_⟩
  by_cases hji:j=i
  ·subst hji;exact hy.wpOp hi (hST _ _ hc (mem_ready.1 hr).1 hS) ⟨(hSi _ _).2 hS,H⟩
  ·have:=ready_mono hj hji
   rw [H.1] at this
   cases this
 | succ fuel ih =>
  intro listed a w hfree hr hc hy hS H
  refine ⟨fun h=>(by rw [h] at hr;cases hr),fun j hj=>?_⟩
  by_cases hji:j=i
  ·subst hji;exact hy.wpOp hi (hST _ _ hc (mem_ready.1 hr).1 hS) ⟨(hSi _ _).2 hS,H⟩
  ·have h1:=H.2 j (ready_mono hj hji)
   obtain ⟨hjun,oj,hoj,hall⟩:=mem_ready.1 hj
   have hnot:∀ e∈oj.after,Region.binds md e=true->e.on≠i:=fun e he hb heq=>by
    have h1:=hall e he hb
    have h0:=(mem_ready.1 hr).1
    rw [heq] at h1
    rcases Nat.lt_or_ge i listed.size with h' | h'
    ·simp [h'] at h0 h1;rw [h0] at h1;cases h1
    ·simp [Array.getElem?_eq_none h'] at h1
   have h2:=wpOp_putIf hoj (hfree j oj hoj hji hjun hnot) (fun cs b=>hsel i oi cs b hi) (fun cs b=>hsel j oj cs b hoj) hQ hy h1
   have hfree':∀ k ok,ops[k]?=some ok->k≠i->(listed.setIfInBounds j true).getD k true=false ->
     (∀ e∈ok.after,Region.binds md e=true->e.on≠i)->oi.apart ops ok=true:=fun k ok hk hki hun hno=>by
    refine hfree k ok hk hki ?_ hno
    by_cases hjk:j=k
    ·subst hjk;exact hjun
    ·rw [getD_set_ne true hjk] at hun;exact hun
   refine wpOp_mono (fun a' w' h3=>?_) h2
   have hs:S (listed.setIfInBounds j true) w':=by
    have:=h3.2.1
    rw [Array.setIfInBounds_comm _ _ (Ne.symm hji)] at this
    exact (hSi _ _).1 this
   refine ⟨hs,ih (listed.setIfInBounds j true) a' w' hfree' (ready_mono hr (Ne.symm hji)) (hCl _ _ hc hj) h3.1 hs ?_⟩
   rw [Array.setIfInBounds_comm _ _ hji]
   exact h3.2.2
def SX (m:Nat)(S0 S1:World->Prop)(L:Array Bool)(w:World):Prop:=S0 w/\(L.getD m false=false->S1 w)
theorem SX.both {m:Nat}{S0 S1:World->Prop}{L:Array Bool}{w:World}(h0:S0 w)(h1:S1 w):SX m S0 S1 L w:=⟨h0,fun _=>h1⟩
theorem SX.one {m:Nat}{S0 S1:World->Prop}{L:Array Bool}{w:World}(h0:S0 w)(hm:L.getD m false=true):SX m S0 S1 L w:=⟨h0,fun h=>by rw [hm] at h;cases h⟩
def lastB (md:Region.Mode)(ops:Array Oper)(m:Nat):Bool:=(List.range m).all fun i=>Region.waitsFor md ops m i
def ClX (m:Nat)(L:Array Bool):Prop:=L.getD m false=true->∀ i,i < m->L.getD i false=true
theorem ClX.next {m:Nat}(hl:lastB md ops m=true)(L:Array Bool)(j:Nat)(h:ClX m L)(hj:j∈Region.ready md ops L):ClX m (L.setIfInBounds j true):=by
 intro hm i hi
 by_cases hjm:j=m
 ·subst hjm
  obtain ⟨_,oj,hoj,hall⟩:=mem_ready.1 hj
  have h1:=List.all_eq_true.1 hl i (List.mem_range.2 hi)
  obtain ⟨o',ho',e,he,hb,hon⟩:=Region.waitsFor_spec h1
  obtain rfl:o'=oj:=Option.some.inj (ho'.symm.trans hoj)
  have h2:=hall e he hb
  rw [hon] at h2
  exact getD_set_true h2
 ·rw [getD_set_ne false hjm] at hm
  exact getD_set_true (h hm i hi)
theorem wXt {m i:Nat}{oi:Oper}{v:Value}{S0 S1:World->Prop}{fuel:Nat}{listed:Array Bool}{a:Act}{w:World}(hi':ops.toList[i]?=some oi)
  (hs:Region.noSelect ops=true) (hl:lastB md ops m=true) (him:i < m) (hf:Region.free md ops listed i=true) (hr:(Region.ready md ops listed).contains i=true)
  (hQ:∀ c a w,Q (.panic c) (a.put oi.dst v) w->Q (.panic c) a w) (hc0:listed.getD m false=false) (hy:YieldsIf P ops (fun w=>S0 w/\S1 w) oi v a) (hS:SX m S0 S1 listed w)
  (h:wpAnyX P md ops Q (SX m S0 S1) fuel (listed.setIfInBounds i true) (a.put oi.dst v) w):wpAnyX P md ops Q (SX m S0 S1) (fuel+1) listed a w :=
 have hi:ops[i]?=some oi:=by rw [<- Array.getElem?_toList];exact hi'
 wpAnyX_first (Cl:=ClX m) hi (Region.noSelect_spec hs) hQ (ClX.next hl)
  (fun L w hc hun hS=>⟨hS.1,hS.2 (by
   cases e:L.getD m false with
   | false=>rfl
   | true=>have:=hc e i him;rw [getD_both hun] at this;cases this)⟩)
  (fun L w=>by
   have e:(L.setIfInBounds i true).getD m false=L.getD m false:=getD_set_ne false (by omega)
   unfold SX
   rw [e]) fuel listed a w (Region.free_spec hi hf) (by simpa using hr) (fun e=>by rw [hc0] at e;cases e) hy hS h
theorem wX1 {j:Nat}{o:Oper}{fuel:Nat}{listed:Array Bool}{a:Act}{w:World}(hr:Region.ready md ops listed=[j])(ho':ops.toList[j]?=some o)
  (h:∀ K':Act->World->Prop,Shut (∀ a' w',S (listed.setIfInBounds j true) w'->wpAnyX P md ops Q S fuel (listed.setIfInBounds j true) a' w'->K' a' w')->if Region.wanted o (yielded ops a.tmps)=true then Oper.wp P o a w K' Q else K' (a.put o.dst undef) w) :
  wpAnyX P md ops Q S (fuel+1) listed a w:=by
 refine ⟨fun h0=>(by rw [hr] at h0;cases h0),fun i hi=>?_⟩
 rw [hr] at hi
 obtain rfl:i=j:=by simpa using hi
 have ho:ops[i]?=some o:=by rw [<- Array.getElem?_toList];exact ho'
 exact wpOp_step ho (fun K' hK=>h K' (fun a' w' hS hW=>hK a' w' ⟨hS,hW⟩))
theorem sCX {o:Oper}{a:Act}{w:World}{K:Act->World->Prop}{E:Prop}(hg:o.guard=none)(f:FuncId)(args:Array Value)(R:Ending->World->Prop)
  (hrun:(execOp a.eval o).run P w=.ok (.enter f args) w) (hC:Calls P f args w R) (hK:∀ e w',R e w'->∃ v,e=.returned v/\K (a.put o.dst v) w') :
  if Region.wanted o (yielded ops a.tmps)=true then Oper.wp P o a w K Q else E:=by
 have hw:Region.wanted o (yielded ops a.tmps)=true:=by simp [Region.wanted,hg]
 rw [if_pos hw]
 show o.upon P a K Q ((execOp a.eval o).run P w)
 rw [hrun,Oper.upon_enter]
 refine hC.mono fun e w' hR=>?_
 obtain ⟨v,rfl,hk⟩:=hK e w' hR
 exact hk
theorem wXd {listed:Array Bool}{a:Act}{w:World}(hr:Region.ready md ops listed=[])(h:Q .normal a w):wpAnyX P md ops Q S 0 listed a w:=⟨hr,h⟩
end
theorem lsA {α:Type}{xs:List α}{i:Nat}{a:α}:xs.toArray.setIfInBounds i a=(xs.set i a).toArray:=List.setIfInBounds_toArray ..
theorem lsZ {α:Type}{a b:α}{l:List α}:(a :: l).set 0 b=b :: l:=rfl
theorem lsN {α:Type}{a b:α}{l:List α}{n:Nat}:(a :: l).set (n+1) b=a :: l.set n b:=rfl
theorem wtT {P:Program}{ops:Array Oper}{Q:Exit → Act → World → Prop}{md:Region.Mode}{m i:Nat}{oi:Oper}{v:Value}{S0 S1:World → Prop}{fuel:Nat}{listed:Array Bool}{a:Act}{w:World}(hi':ops.toList[i]?=some oi)(hy:YieldsIf P ops (fun w=>S0 w ∧ S1 w) oi v a)(hS:SX m S0 S1 listed w)(h:wpAnyX P md ops Q (SX m S0 S1) fuel (listed.setIfInBounds i true) (a.put oi.dst v) w)
    (hs:Region.noSelect ops=true:=by kernel_rfl) (hl:lastB md ops m=true:=by kernel_rfl) (him:i < m:=by decide) (hf:Region.free md ops listed i=true:=by decide +kernel) (hr:(Region.ready md ops listed).contains i=true:=by decide +kernel) (hQ:∀ c a w,Q (.panic c) (a.put oi.dst v) w → Q (.panic c) a w:=by exact fun _ _ _ h=>h) (hc0:listed.getD m false=false:=by kernel_rfl):wpAnyX P md ops Q (SX m S0 S1) (fuel+1) listed a w:=wXt hi' hs hl him hf hr hQ hc0 hy hS h
def rStep (N:List Bool)(F:List BS)(p:PV):List BS:=F.set p.left.toNat (withS (F.getD p.left.toNat (0,0)) (ofS N F p.right (0,0)))
def roundS (N:List Bool)(ps:List PV)(F:List BS):List BS:=ps.foldl (rStep N) F
theorem getD_setS {F:List BS}{i j:Nat}{v:BS}:(F.set i v).getD j (0,0)=if i=j/\j < F.length then v else F.getD j (0,0):=by
 simp only [List.getD,List.getElem?_set]
 by_cases h1:i=j
 ·subst h1
  by_cases h2:i < F.length
  ·simp [h2]
  ·simp [h2]
 ·simp [h1]
theorem rStep_len (N:List Bool)(F:List BS)(p:PV):(rStep N F p).length=F.length:=by simp [rStep]
def SRd (w:World)(b:Nat)(F:List BS):Prop:=b < w.heap.size/\∀ i,i < F.length->w.cell? ⟨b,i*2,none⟩=some (.int .u64 ((F.getD i (0,0)).1:Int))/\w.cell? ⟨b,i*2+1,none⟩=some (.int .u64 ((F.getD i (0,0)).2:Int))
theorem SRd.later {w w':World}{b:Nat}{F:List BS}(h:SRd w b F)(hb:Below w.heap.size w w'):SRd w' b F :=
 ⟨Nat.lt_of_lt_of_le h.1 hb.size,fun i hi=>⟨(hb.cell (p:=⟨b,i*2,none⟩) h.1).trans (h.2 i hi).1,(hb.cell (p:=⟨b,i*2+1,none⟩) h.1).trans (h.2 i hi).2⟩⟩
def iterS (N:List Bool)(ps:List PV)(F:List BS):Nat->List BS
 | 0=>F
 | k+1=>roundS N ps (iterS N ps F k)
def LeF (F G:List BS):Prop:=G.length=F.length/\∀ i,(F.getD i (0,0)).1<=(G.getD i (0,0)).1/\(F.getD i (0,0)).2<=(G.getD i (0,0)).2
theorem LeF.refl (F:List BS):LeF F F:=⟨rfl,fun _=>⟨Nat.le_refl _,Nat.le_refl _⟩⟩
theorem LeF.trans {F G H:List BS}(h:LeF F G)(h':LeF G H):LeF F H:=⟨h'.1.trans h.1,fun i=>⟨Nat.le_trans (h.2 i).1 (h'.2 i).1,Nat.le_trans (h.2 i).2 (h'.2 i).2⟩⟩
theorem rStep_le (N:List Bool)(F:List BS)(p:PV):LeF F (rStep N F p):=by
 refine ⟨rStep_len N F p,fun i=>?_⟩
 unfold rStep
 rw [getD_setS]
 split
 ·rename_i h
  rw [<- h.1]
  exact ⟨Nat.left_le_or,Nat.left_le_or⟩
 ·exact ⟨Nat.le_refl _,Nat.le_refl _⟩
theorem rFold_le (N:List Bool):∀ (ps:List PV) (F:List BS),LeF F (ps.foldl (rStep N) F)
 | [],F=>LeF.refl F
 | p :: ps,F=>(rStep_le N F p).trans (rFold_le N ps _)
theorem SRd.kept {w w':World}{b:Nat}{F:List BS}(h:SRd w b F)(hb:w'.heap[b]?=w.heap[b]?)(hs:w.heap.size<=w'.heap.size):SRd w' b F:=by
 have hc:∀ i,w'.cell? ⟨b,i,none⟩=w.cell? ⟨b,i,none⟩:=fun i=>by simp [World.cell?,hb]
 exact ⟨Nat.lt_of_lt_of_le h.1 hs,fun i hi=>⟨(hc _).trans (h.2 i hi).1,(hc _).trans (h.2 i hi).2⟩⟩
def LsRow (w:World)(ao:Option Addr)(L:List (List Int)):Prop:=L≠[]->∃ b off,ao=some ⟨b,off,none⟩/\b < w.heap.size/\∀ i,i < L.length->∃ a c,w.cell? ⟨b,off+i,none⟩=some (.slice a (L.getD i []).length c)/\InRow w a (L.getD i [])
theorem LsRow.later {w w':World}{ao:Option Addr}{L:List (List Int)}(h:LsRow w ao L)(hb:Below w.heap.size w w'):LsRow w' ao L:=by
 intro hne
 obtain ⟨b,off,e,h1,h2⟩:=h hne
 refine ⟨b,off,e,Nat.lt_of_lt_of_le h1 hb.size,fun i hi=>?_⟩
 obtain ⟨a,c,h3,h4⟩:=h2 i hi
 exact ⟨a,c,(hb.cell (p:=⟨b,off+i,none⟩) h1).trans h3,h4.later hb⟩
def LLk (w:World)(b:Nat)(T:List (List Int))(k:Nat):Prop:=∃ C:Array Value,w.heap[b]?=some (.cells C 36 (0,0))/\C.size=T.length/\∀ i,i < k->∃ a c,C[i]?=some (.slice a (T.getD i []).length c)/\IL w (.slice a (T.getD i []).length c) (T.getD i [])/\(∀ j,(Value.slice a (T.getD i []).length c).ownBlock=some j->b < j)
theorem LLk.lt {w:World}{b:Nat}{T:List (List Int)}{k:Nat}(h:LLk w b T k):b < w.heap.size:=by
 obtain ⟨C,h1,_⟩:=h
 exact lt_of_block h1
theorem LLk.later {w w':World}{b:Nat}{T:List (List Int)}{k:Nat}(h:LLk w b T k)(hb:Below w.heap.size w w'):LLk w' b T k:=by
 have hl:=h.lt
 obtain ⟨C,h1,h2,h3⟩:=h
 refine ⟨C,(hb.block _ hl).trans h1,h2,fun i hi=>?_⟩
 obtain ⟨a,c,q1,q2,q3⟩:=h3 i hi
 exact ⟨a,c,q1,q2.later hb,q3⟩
theorem LLk.free {w:World}{b:Nat}{T:List (List Int)}{k:Nat}(h:LLk w b T k)(i:Nat):w.frozen? ⟨b,i,none⟩=false:=by
 obtain ⟨C,h1,_⟩:=h
 simp [World.frozen?,h1]
theorem LLk.some {w:World}{b:Nat}{T:List (List Int)}{k:Nat}(h:LLk w b T k)(i:Nat)(hi:i < T.length):∃ v,w.cell? ⟨b,i,none⟩=.some v:=by
 obtain ⟨C,h1,h2,_⟩:=h
 exact ⟨C[i]'(by omega),by rw [cQa h1];simp [show i < C.size by omega]⟩
theorem LLk.set {w:World}{b:Nat}{T:List (List Int)}{k:Nat}(h:LLk w b T k)(hk:k < T.length){a:Option Addr}{c:Nat}(hI:IL w (.slice a (T.getD k []).length c) (T.getD k []))(hb:∀ j,(Value.slice a (T.getD k []).length c).ownBlock=.some j->b < j) :
  LLk (w.setCell ⟨b,k,none⟩ (.slice a (T.getD k []).length c)) b T (k+1):=by
 obtain ⟨C,h1,h2,h3⟩:=h
 have hkeep:∀ {v:Value} {l:List Int},IL w v l->(∀ j,v.ownBlock=.some j->b < j)->IL (w.setCell ⟨b,k,none⟩ (.slice a (T.getD k []).length c)) v l:=fun hI hj=>hI.kept fun j e=>Below.heap_setCell w ⟨b,k,none⟩ _ _ (show j≠b by have:=hj j e;omega)
 refine ⟨_,hSt h1 k _,by simpa using h2,fun i hi=>?_⟩
 by_cases e:i=k
 ·subst e
  exact ⟨a,c,by simp [show i < C.size by omega],hkeep hI hb,hb⟩
 ·obtain ⟨a',c',q1,q2,q3⟩:=h3 i (by omega)
  exact ⟨a',c',by rw [Array.getElem?_setIfInBounds];simp [show ¬ k=i by omega,q1],hkeep q2 q3,q3⟩
theorem LLk.row {w:World}{b:Nat}{T:List (List Int)}(h:LLk w b T T.length):LsRow w (.some ⟨b,0,none⟩) T:=by
 have hl:=h.lt
 obtain ⟨C,h1,h2,h3⟩:=h
 intro _
 refine ⟨b,0,rfl,hl,fun i hi=>?_⟩
 obtain ⟨a,c,q1,q2,_⟩:=h3 i hi
 exact ⟨a,c,by rw [cQa h1,Nat.zero_add,q1],q2.inrow⟩
theorem LLk.made (w:World)(T:List (List Int)):LLk (w.alloc (.cells (madeCells #[.slice none 0 0] T.length) 36)) w.heap.size T 0:=⟨_,heap_alloc_new _ _,by simp [madeCells],fun i hi=>absurd hi (Nat.not_lt_zero i)⟩
def listsU (F:List BS):List (List Int):=F.map fun s=>listS s 128
section
variable {P:Program} {ops:Array Oper} {Q:Exit->Act->World->Prop} {md:Region.Mode} {S:Array Bool->World->Prop}
end
def LeastF (g:GV)(F:List BS):Prop:=∃ k,F=iterS (nullU g.ps g.ns.length) g.ps (List.replicate g.ns.length (0,0)) k/\roundS (nullU g.ps g.ns.length) g.ps F=F/\(∀ i,OkS (F.getD i (0,0)))/\F.length=g.ns.length
theorem takeF {P:Program}{ops:Array Oper}{Q:Exit->Act->World->Prop}{md:Region.Mode}{i:Nat}{oi:Oper}{v:Value}{S0:World->Prop}{fuel:Nat}{listed:Array Bool}{a:Act}{w:World}(hi':ops.toList[i]?=some oi)
  (hs:Region.noSelect ops=true) (hf:Region.free md ops listed i=true) (hr:(Region.ready md ops listed).contains i=true)
  (hQ:∀ c a w,Q (.panic c) (a.put oi.dst v) w->Q (.panic c) a w) (hy:YieldsIf P ops S0 oi v a) (hS:S0 w)
  (h:wpAnyX P md ops Q (fun _=>S0) fuel (listed.setIfInBounds i true) (a.put oi.dst v) w):wpAnyX P md ops Q (fun _=>S0) (fuel+1) listed a w :=
 have hi:ops[i]?=some oi:=by rw [<- Array.getElem?_toList];exact hi'
 wpAnyX_first (Cl:=fun _=>True) (T:=S0) hi (Region.noSelect_spec hs) hQ (fun _ _ _ _=>trivial) (fun _ _ _ _ h=>h) (fun _ _=>Iff.rfl) fuel listed a w (Region.free_spec hi hf) (by simpa using hr) trivial hy hS h
def firstO (v:Nat->Option (Int×Int)):Nat->Option (Int×Int)
 | 0=>none
 | n+1=>match firstO v n with
  | some x=>some x
  | none=>v n
theorem firstO_none {v:Nat->Option (Int×Int)}:∀ {n:Nat},(∀ j,j < n->v j=none)->firstO v n=none
 | 0,_=>rfl
 | n+1,h=>by rw [firstO,firstO_none (fun j hj=>h j (by omega))];exact h n (by omega)
def badL (L:List (List Int))(nt:Nat)(i:Nat):Option (Int×Int):=if allB (L.getD i []) nt=false then some (4,(i:Int)) else if riseF (L.getD i [])=false then some (7,(i:Int)) else none
def badP (N:List Bool)(F:List BS)(ps:List PV)(i:Nat):Option (Int×Int):=if decide (withS (ofS N F (ps.getD i .none).right (0,0)) (F.getD (ps.getD i .none).left.toNat (0,0))=F.getD (ps.getD i .none).left.toNat (0,0))=false then some (62,(i:Int)) else none
def chkF (N:List Bool)(L:List (List Int))(ps:List PV)(nt:Nat):Int×Int:=match firstO (badL L nt) L.length with
 | some x=>x
 | none=>match firstO (badP N (L.map setS) ps) ps.length with
  | some x=>x
  | none=>(0,0)
def LeS (a b:BS):Prop:=∀ n,n < 128->hasS a n=true->hasS b n=true
theorem LeS.refl (a:BS):LeS a a:=fun _ _ h=>h
theorem LeS.trans {a b c:BS}(h:LeS a b)(h':LeS b c):LeS a c:=fun n hn q=>h' n hn (h n hn q)
theorem leS_with {a b c:BS}(h:LeS a c)(h':LeS b c):LeS (withS a b) c:=fun n hn q=>by
 rw [hasS_with,Bool.or_eq_true] at q
 exact q.elim (h n hn) (h' n hn)
theorem leS_left (a b:BS):LeS a (withS a b):=fun n _ q=>by rw [hasS_with,q];rfl
theorem leS_right (a b:BS):LeS b (withS a b):=fun n _ q=>by rw [hasS_with,q];simp
theorem ahead_mono {N N':List Bool}{F G:List BS}(hN:∀ i,N.getD i false=true->N'.getD i false=true)(hF:∀ i,LeS (F.getD i (0,0)) (G.getD i (0,0)))(s:Int×Int){a b:BS}(h:LeS a b):LeS (aheadS N F s a) (aheadS N' G s b):=by
 unfold aheadS
 by_cases h1:s.1=1
 ·rw [if_pos h1,if_pos h1];exact LeS.refl _
 ·rw [if_neg h1,if_neg h1]
  by_cases h2:N.getD s.2.toNat false=true
  ·rw [if_pos h2,if_pos (hN _ h2)]
   exact leS_with (h.trans (leS_left _ _)) ((hF _).trans (leS_right _ _))
  ·rw [if_neg h2]
   split
   ·exact (hF _).trans (leS_right _ _)
   ·exact hF _
theorem of_mono {N N':List Bool}{F G:List BS}(hN:∀ i,N.getD i false=true->N'.getD i false=true)(hF:∀ i,LeS (F.getD i (0,0)) (G.getD i (0,0))){a b:BS}(h:LeS a b):∀ l:List (Int×Int),LeS (ofS N F l a) (ofS N' G l b)
 | []=>h
 | s :: l=>ahead_mono hN hF s (of_mono hN hF h l)
def ClosF (N:List Bool)(ps:List PV)(F:List BS):Prop:=∀ p∈ps,LeS (ofS N F p.right (0,0)) (F.getD p.left.toNat (0,0))
theorem step_in {N N':List Bool}{F G:List BS}(hN:∀ i,N.getD i false=true->N'.getD i false=true)(hF:∀ i,LeS (F.getD i (0,0)) (G.getD i (0,0))){p:PV}(hp:LeS (ofS N' G p.right (0,0)) (G.getD p.left.toNat (0,0))):∀ i,LeS ((rStep N F p).getD i (0,0)) (G.getD i (0,0)):=fun i=>by
 unfold rStep
 rw [getD_setS]
 split
 ·rename_i h
  rw [<- h.1]
  exact leS_with (hF _) ((of_mono hN hF (LeS.refl _) _).trans hp)
 ·exact hF i
theorem fold_in {N N':List Bool}{G:List BS}(hN:∀ i,N.getD i false=true->N'.getD i false=true):∀ (ps:List PV) (F:List BS),ClosF N' ps G->(∀ i,LeS (F.getD i (0,0)) (G.getD i (0,0)))->∀ i,LeS ((ps.foldl (rStep N) F).getD i (0,0)) (G.getD i (0,0))
 | [],_,_,h=>h
 | p :: ps,F,hc,h=>fold_in hN ps _ (fun q hq=>hc q (List.mem_cons_of_mem _ hq)) (step_in hN h (hc p (List.mem_cons_self ..)))
theorem iter_in {N N':List Bool}{ps:List PV}{F G:List BS}(hN:∀ i,N.getD i false=true->N'.getD i false=true)(hc:ClosF N' ps G)(h:∀ i,LeS (F.getD i (0,0)) (G.getD i (0,0))):∀ k i,LeS ((iterS N ps F k).getD i (0,0)) (G.getD i (0,0))
 | 0=>h
 | k+1=>fold_in hN ps _ hc (iter_in hN hc h k)
theorem rep_zero (n i:Nat):(List.replicate n ((0,0):BS)).getD i (0,0)=(0,0):=by simp [List.getD,List.getElem?_replicate];split<;>rfl
theorem LeastF.within {g:GV}{F G:List BS}{N':List Bool}(h:LeastF g F)(hN:∀ i,(nullU g.ps g.ns.length).getD i false=true->N'.getD i false=true)(hc:ClosF N' g.ps G):∀ i,LeS (F.getD i (0,0)) (G.getD i (0,0)):=by
 obtain ⟨k,rfl,_⟩:=h
 exact iter_in hN hc (fun i n hn q=>by rw [rep_zero,hasS_zero] at q;cases q) k
theorem LeF.antisymm {F G:List BS}(h:LeF F G)(h':LeF G F):F=G:=by
 apply List.ext_getElem h.1.symm
 intro i h1 h2
 have a:=h.2 i
 have b:=h'.2 i
 simp only [List.getD,List.getElem?_eq_getElem h1,List.getElem?_eq_getElem h2,Option.getD_some] at a b
 exact Prod.ext (by omega) (by omega)
theorem fold_fix (N:List Bool):∀ (ps:List PV) (F:List BS),ps.foldl (rStep N) F=F->∀ p∈ps,rStep N F p=F
 | [],_,_,p,hp=>absurd hp (List.not_mem_nil)
 | q :: ps,F,h,p,hp=>by
  rw [List.foldl_cons] at h
  have e:rStep N F q=F:=LeF.antisymm (by have:=rFold_le N ps (rStep N F q);rwa [h] at this) (rStep_le N F q)
  rw [e] at h
  rcases List.mem_cons.1 hp with rfl | hp
  ·exact e
  ·exact fold_fix N ps F h p hp
theorem fix_closed {N:List Bool}{ps:List PV}{F:List BS}(h:roundS N ps F=F)(hl:∀ p∈ps,p.left.toNat < F.length):ClosF N ps F:=fun p hp=>by
 have e:=fold_fix N ps F h p hp
 have e2:(rStep N F p).getD p.left.toNat (0,0)=F.getD p.left.toNat (0,0):=by rw [e]
 unfold rStep at e2
 rw [getD_setS,if_pos ⟨rfl,hl p hp⟩] at e2
 have:=leS_right (F.getD p.left.toNat (0,0)) (ofS N F p.right (0,0))
 rwa [e2] at this
theorem of_all {N:List Bool}{F:List BS}{R:Nat->Prop}(hF:∀ i n,n < 128->hasS (F.getD i (0,0)) n=true->R n){look:BS}(hk:∀ n,n < 128->hasS look n=true->R n):∀ l:List (Int×Int),(∀ s∈l,s.1=1->0<=s.2/\s.2 < 128/\R s.2.toNat)->∀ n,n < 128->hasS (ofS N F l look) n=true->R n
 | [],_=>hk
 | s :: l,hs=>fun n hn q=>by
  have ih:=of_all (N:=N) hF hk l (fun t ht=>hs t (List.mem_cons_of_mem _ ht))
  have e:ofS N F (s :: l) look=aheadS N F s (ofS N F l look):=rfl
  rw [e] at q
  unfold aheadS at q
  by_cases h1:s.1=1
  ·rw [if_pos h1] at q
   obtain ⟨a0,a1,a2⟩:=hs s (List.mem_cons_self ..) h1
   have:=(setS_has (l:=[s.2]) (fun x hx=>by simp at hx;omega) n hn).1 q
   simp at this
   rw [show n=s.2.toNat by omega];exact a2
  ·rw [if_neg h1] at q
   split at q
   ·rw [hasS_with,Bool.or_eq_true] at q
    exact q.elim (ih n hn) (hF _ n hn)
   ·exact hF _ n hn q
theorem fold_all {N:List Bool}{R:Nat->Prop}:∀ (ps:List PV) (F:List BS),(∀ p∈ps,∀ s∈p.right,s.1=1->0<=s.2/\s.2 < 128/\R s.2.toNat)->(∀ i n,n < 128->hasS (F.getD i (0,0)) n=true->R n)->∀ i n,n < 128->hasS ((ps.foldl (rStep N) F).getD i (0,0)) n=true->R n
 | [],_,_,h=>h
 | p :: ps,F,hp,h=>fold_all ps _ (fun q hq=>hp q (List.mem_cons_of_mem _ hq)) (fun i n hn q=>by
   unfold rStep at q
   rw [getD_setS] at q
   split at q
   ·rw [hasS_with,Bool.or_eq_true] at q
    exact q.elim (h _ n hn) (of_all h (fun n _ q=>by rw [hasS_zero] at q;cases q) p.right (hp p (List.mem_cons_self ..)) n hn)
   ·exact h i n hn q)
theorem iter_all {N:List Bool}{ps:List PV}{R:Nat->Prop}(m:Nat)(hp:∀ p∈ps,∀ s∈p.right,s.1=1->0<=s.2/\s.2 < 128/\R s.2.toNat):∀ k i n,n < 128->hasS ((iterS N ps (List.replicate m (0,0)) k).getD i (0,0)) n=true->R n
 | 0=>fun i n hn q=>by have e:iterS N ps (List.replicate m (0,0)) 0=List.replicate m (0,0):=rfl;rw [e,rep_zero,hasS_zero] at q;cases q
 | k+1=>fold_all ps _ hp (iter_all m hp k)
theorem set_list {s:BS}(h:OkS s):setS (listS s 128)=s:=by
 have hb:∀ x∈listS s 128,0<=x/\x < 128:=fun x hx=>by have:=(listS_mem s 128 x).1 hx;omega
 refine setS_ext (setS_ok hb) h (fun n hn=>?_)
 have h1:=setS_has hb n hn
 rw [listS_mem] at h1
 rw [Bool.eq_iff_iff,h1]
 simp
 omega
theorem sets_lists {F:List BS}(h:∀ i,OkS (F.getD i (0,0))):(listsU F).map setS=F:=by
 unfold listsU
 rw [List.map_map]
 apply List.ext_getElem (by simp)
 intro i h1 h2
 have:=h i
 rw [show F.getD i (0,0)=F[i] by simp [List.getD,h2]] at this
 simpa using set_list this
theorem rise_list (s:BS)(n:Nat):riseF (listS s n)=true:=by
 refine decide_eq_true (fun i hi=>?_)
 have:=List.pairwise_iff_getElem.1 (listS_rises s n) i (i+1) (by omega) (by omega) (by omega)
 simpa [List.getD,show i < (listS s n).length by omega,show i+1 < (listS s n).length by omega] using this
structure GP (g:GV):Prop where
 left:∀ p∈g.ps,0<=p.left/\p.left < g.ns.length
 sym:∀ p∈g.ps,∀ s∈p.right,(s.1=1/\0<=s.2/\s.2 < g.ts.length)∨(s.1=2/\0<=s.2/\s.2 < g.ns.length)
 tl:g.ts.length<=64
theorem GP.symIn {g:GV}(h:GP g){N:List Bool}(hN:N.length=g.ns.length):∀ p∈g.ps,∀ s∈p.right,SymIn N.length s:=fun p hp s hs=>by
 have:=h.tl
 rcases h.sym p hp s hs with q | q
 ·exact .inl ⟨q.1,q.2.1,by omega⟩
 ·exact .inr ⟨q.1,q.2.1,by omega⟩
theorem psD {g:GV}{j:Nat}(hj:j < g.ps.length):g.ps.getD j .none∈g.ps:=by simp [List.getD,hj]
theorem LeastF.closed {g:GV}{F:List BS}(hg:GP g)(h:LeastF g F):ClosF (nullU g.ps g.ns.length) g.ps F:=by
 obtain ⟨k,_,h2,_,h4⟩:=h
 exact fix_closed h2 (fun p hp=>by have:=hg.left p hp;omega)
theorem LeastF.below {g:GV}{F:List BS}(hg:GP g)(h:LeastF g F):∀ i n,n < 128->hasS (F.getD i (0,0)) n=true->n < g.ts.length:=by
 obtain ⟨k,rfl,_⟩:=h
 refine iter_all _ (fun p hp s hs e=>?_) k
 have:=hg.tl
 rcases hg.sym p hp s hs with q | q<;>omega
theorem LeastF.chk {g:GV}{F:List BS}(hg:GP g)(h:LeastF g F):chkF (nullU g.ps g.ns.length) (listsU F) g.ps g.ts.length=(0,0):=by
 have hok:∀ i,OkS (F.getD i (0,0)):=by obtain ⟨k,_,_,h3,_⟩:=h;exact h3
 have hlen:(listsU F).length=F.length:=by simp [listsU]
 have e1:firstO (badL (listsU F) g.ts.length) (listsU F).length=none:=firstO_none (fun j hj=>by
  rw [hlen] at hj
  have e:(listsU F).getD j []=listS (F.getD j (0,0)) 128:=by simp [listsU,List.getD,hj]
  unfold badL
  rw [e,rise_list]
  have:allB (listS (F.getD j (0,0)) 128) g.ts.length=true:=List.all_eq_true.2 (fun x hx=>by
   have q:=(listS_mem _ 128 x).1 hx
   have:=h.below hg j x.toNat (by omega) q.2.2
   simp [below1]
   omega)
  rw [this]
  rfl)
 have e2:firstO (badP (nullU g.ps g.ns.length) ((listsU F).map setS) g.ps) g.ps.length=none:=firstO_none (fun j hj=>by
  rw [sets_lists hok]
  have hm:=psD hj
  have hc:=h.closed hg _ hm
  unfold badP
  have:withS (ofS (nullU g.ps g.ns.length) F (g.ps.getD j .none).right (0,0)) (F.getD (g.ps.getD j .none).left.toNat (0,0))=F.getD (g.ps.getD j .none).left.toNat (0,0):=(within_iff (ofS_ok hok _ _ (hg.symIn (nullU_len _ _) _ hm) OkS.zero) (hok _)).2 hc
  rw [decide_eq_true this]
  rfl)
 rw [chkF,e1,e2]
theorem nullU_iff {g:GV}(i:Nat):(nullU g.ps g.ns.length).getD i false=true ↔ (htU g.ps g.ns.length g.ns.length).getD i 0≠0:=by
 by_cases hi:i < g.ns.length
 ·rw [nullU_get _ _ _ hi]
  have:=(htU_bd g.ps g.ns.length g.ns.length i).1
  rw [decide_eq_true_eq]
  omega
 ·have a:(nullU g.ps g.ns.length).getD i false=false:=by simp [List.getD,List.getElem?_eq_none (show (nullU g.ps g.ns.length).length<=i by rw [nullU_len];omega)]
  have b:(htU g.ps g.ns.length g.ns.length).getD i 0=0:=by simp [List.getD,List.getElem?_eq_none (show (htU g.ps g.ns.length g.ns.length).length<=i by rw [htU_len];omega)]
  rw [a,b];simp
end Go.Proofs.YtockbobpmiagiaaGreatDoor
