import Derived.Test.YteciabdjkaackaaGreatPBBaseToFSet
import Derived.Laws.OwnMore
import Derived.Deep.LoopGhost
import Derived.StillTail
import Derived.StillTactics
import Derived.Deep.Quiet
namespace Go.Proofs.YteciabdjkaackaaGreat
set_option linter.unusedVariables false
open Go.RowKit
abbrev TV:=DataW (Int×Int×ByteArray×Option Addr×Nat)
def TV.mk (prod kind:Int)(tx:ByteArray)(ka:Option Addr)(kc:Nat)(kids:List TV):TV:=DataW.agg (DataW.held (prod,kind,tx,ka,kc) :: kids)
def TV.pay:TV->Int×Int×ByteArray×Option Addr×Nat
 | .agg (.held x :: _)=>x
 | _=>(0,0,ByteArray.empty,Option.none,0)
def TV.prod (t:TV):Int:=(TV.pay t).1
def TV.kind (t:TV):Int:=(TV.pay t).2.1
def TV.tx (t:TV):ByteArray:=(TV.pay t).2.2.1
def TV.ka (t:TV):Option Addr:=(TV.pay t).2.2.2.1
def TV.kc (t:TV):Nat:=(TV.pay t).2.2.2.2
def TV.kids:TV->List TV
 | .agg (.held _ :: l)=>l
 | _=>[]
def TV.none:TV:=TV.mk 0 0 ByteArray.empty Option.none 0 []
def tsz (t:TV):Nat:=Rows.uptoBulk t
theorem tsz_pos (t:TV):0 < tsz t:=gbulk_pos t
theorem kid_lt {t k:TV}(h:k∈TV.kids t):tsz k < tsz t:=by
 unfold TV.kids at h
 split at h
 ·have:=gbulk_mem h
  simp only [tsz,Rows.uptoBulk,Rows.uptoBulkAll]
  omega
 ·cases h
theorem TV.ind {P:TV->Prop}(h:∀ t:TV,(∀ k∈TV.kids t,P k)->P t)(t:TV):P t:=by
 have:∀ (n:Nat) (t:TV),tsz t<=n->P t:=by
  intro n
  induction n with
  | zero=>intro t ht;have:=tsz_pos t;omega
  | succ n ih=>intro t ht;exact h t (fun k hk=>ih k (by have:=kid_lt hk;omega))
 exact this _ t (Nat.le_refl _)
theorem fm_congr {α β:Type}{f f':α->List β}:∀ (l:List α),(∀ x∈l,f x=f' x)->l.flatMap f=l.flatMap f'
 | [],_=>rfl
 | x :: l,h=>by rw [List.flatMap_cons,List.flatMap_cons,h x (List.mem_cons_self ..),fm_congr l (fun y hy=>h y (List.mem_cons_of_mem _ hy))]
structure SP where
 t:TV
 d:Int
 s:Int×Int
 u:Bool
def plF:Nat->Int->TV->List SP
 | 0,_,_=>[]
 | n+1,d,t=>⟨t,d,(0,0),false⟩ :: (TV.kids t).flatMap (plF n (d+1))
def plT (d:Int)(t:TV):List SP:=plF (tsz t) d t
def plL (d:Int)(l:List TV):List SP:=l.flatMap (plT d)
theorem plF_any:∀ (n m:Nat) (t:TV) (d:Int),tsz t<=n->tsz t<=m->plF n d t=plF m d t
 | 0,_,t,_,h,_=>by have:=tsz_pos t;omega
 | _+1,0,t,_,_,h=>by have:=tsz_pos t;omega
 | n+1,m+1,t,d,h,h'=>by
  rw [plF,plF]
  congr 1
  exact fm_congr _ (fun k hk=>plF_any n m k (d+1) (by have:=kid_lt hk;omega) (by have:=kid_lt hk;omega))
theorem plT_eq (d:Int)(t:TV):plT d t=⟨t,d,(0,0),false⟩ :: plL (d+1) (TV.kids t):=by
 obtain ⟨n,hn⟩:∃ n,tsz t=n+1:=⟨tsz t - 1,by have:=tsz_pos t;omega⟩
 unfold plT plL
 rw [hn,plF]
 congr 1
 exact fm_congr _ (fun k hk=>plF_any _ _ k (d+1) (by have:=kid_lt hk;omega) (Nat.le_refl _))
theorem plL_nil (d:Int):plL d []=[]:=rfl
theorem plL_cons (d:Int)(t:TV)(l:List TV):plL d (t :: l)=plT d t++plL d l:=rfl
def ckK:List (Int×Int)->List TV->List SP
 | _,[]=>[]
 | r,t :: l=>⟨t,0,r.headD (0,0),true⟩ :: ckK r.tail l
theorem ckK_mem:∀ (r:List (Int×Int)) (l:List TV) (x:SP),x∈ckK r l->x.t∈l/\x.d=0
 | _,[],_,h=>by cases h
 | r,t :: l,x,h=>by
  rw [ckK] at h
  rcases List.mem_cons.1 h with rfl | h
  ·exact ⟨List.mem_cons_self ..,rfl⟩
  ·obtain ⟨h1,h2⟩:=ckK_mem r.tail l x h
   exact ⟨List.mem_cons_of_mem _ h1,h2⟩
def rightU (g:GV)(t:TV):List (Int×Int):=(g.ps.getD (TV.prod t).toNat .none).right
def ckF (g:GV):Nat->Int×Int->Bool->TV->List SP
 | 0,_,_,_=>[]
 | n+1,s,u,t=>⟨t,0,s,u⟩ :: (ckK (rightU g t) (TV.kids t)).flatMap fun x=>ckF g n x.s x.u x.t
def ckT (g:GV)(s:Int×Int)(u:Bool)(t:TV):List SP:=ckF g (tsz t) s u t
def ckL (g:GV)(r:List (Int×Int))(l:List TV):List SP:=(ckK r l).flatMap fun x=>ckT g x.s x.u x.t
theorem ckF_any (g:GV):∀ (n m:Nat) (t:TV) (s:Int×Int) (u:Bool),tsz t<=n->tsz t<=m->ckF g n s u t=ckF g m s u t
 | 0,_,t,_,_,h,_=>by have:=tsz_pos t;omega
 | _+1,0,t,_,_,_,h=>by have:=tsz_pos t;omega
 | n+1,m+1,t,s,u,h,h'=>by
  rw [ckF,ckF]
  congr 1
  exact fm_congr _ (fun x hx=>ckF_any g n m x.t x.s x.u (by have:=kid_lt (ckK_mem _ _ x hx).1;omega) (by have:=kid_lt (ckK_mem _ _ x hx).1;omega))
theorem ckT_eq (g:GV)(s:Int×Int)(u:Bool)(t:TV):ckT g s u t=⟨t,0,s,u⟩ :: ckL g (rightU g t) (TV.kids t):=by
 obtain ⟨n,hn⟩:∃ n,tsz t=n+1:=⟨tsz t - 1,by have:=tsz_pos t;omega⟩
 unfold ckT ckL
 rw [hn,ckF]
 congr 1
 exact fm_congr _ (fun x hx=>ckF_any g _ _ x.t x.s x.u (by have:=kid_lt (ckK_mem _ _ x hx).1;omega) (Nat.le_refl _))
theorem ckL_nil (g:GV)(r:List (Int×Int)):ckL g r []=[]:=rfl
theorem ckL_cons (g:GV)(r:List (Int×Int))(t:TV)(l:List TV):ckL g r (t :: l)=ckT g (r.headD (0,0)) true t++ckL g r.tail l:=rfl
def alTU (g:GV)(t:TV):Int :=
 if t.prod=-1 then (if t.kind < 0∨(g.ts.length:Int)<=t.kind∨0 < t.kids.length then 82 else 0)
 else if t.prod < 0∨(g.ps.length:Int)<=t.prod∨t.kind≠0∨t.tx.toList≠[]∨t.kids.length≠(rightU g t).length then 81 else 0
def rootU (g:GV)(t:TV):Int×Int :=
 if t.prod=-1/\0<=t.kind/\t.kind < g.ts.length then (1,t.kind)
 else if 0<=t.prod/\t.prod < g.ps.length then (2,(g.ps.getD t.prod.toNat .none).left) else (0,0)
def erU (g:GV)(x:SP):Int :=
 if alTU g x.t≠0 then alTU g x.t else if x.u=true/\rootU g x.t≠x.s then (if x.s.1=1∨x.t.prod=-1 then 82 else 81) else 0
def runU (g:GV):List SP->Nat->Int×Nat
 | [],n=>(0,n)
 | x :: l,n=>if erU g x≠0 then (erU g x,n) else runU g l (n+1)
theorem runU_zero {g:GV}:∀ (l:List SP) (n:Nat),(runU g l n).1=0->∀ x∈l,erU g x=0
 | [],_,_,x,hx=>by cases hx
 | y :: l,n,h,x,hx=>by
  rw [runU] at h
  split at h
  ·rename_i q
   exact absurd h q
  ·rename_i q
   rcases List.mem_cons.1 hx with rfl | hx
   ·exact Decidable.of_not_not q
   ·exact runU_zero l (n+1) h x hx
def AllP (P:TV->Prop)(t:TV):Prop:=∀ d,∀ y∈plT d t,P y.t
theorem plL_in {d:Int}{y:SP}:∀ (l:List TV),y∈plL d l->∃ k∈l,y∈plT d k
 | [],h=>by rw [plL_nil] at h;cases h
 | t :: l,h=>by
  rw [plL_cons] at h
  rcases List.mem_append.1 h with q | q
  ·exact ⟨t,List.mem_cons_self ..,q⟩
  ·obtain ⟨k,hk,hy⟩:=plL_in l q
   exact ⟨k,List.mem_cons_of_mem _ hk,hy⟩
theorem plL_of {d:Int}{y:SP}{k:TV}:∀ (l:List TV),k∈l->y∈plT d k->y∈plL d l
 | [],h,_=>by cases h
 | t :: l,h,hy=>by
  rw [plL_cons]
  rcases List.mem_cons.1 h with rfl | h
  ·exact List.mem_append_left _ hy
  ·exact List.mem_append_right _ (plL_of l h hy)
theorem AllP.mk {P:TV->Prop}{t:TV}(h:P t)(hk:∀ k∈TV.kids t,AllP P k):AllP P t:=fun d y hy=>by
 rw [plT_eq] at hy
 rcases List.mem_cons.1 hy with rfl | hy
 ·exact h
 ·obtain ⟨k,hm,hy⟩:=plL_in _ hy
  exact hk k hm _ y hy
theorem AllP.here {P:TV->Prop}{t:TV}(h:AllP P t):P t:=h 0 ⟨t,0,(0,0),false⟩ (by rw [plT_eq];exact List.mem_cons_self ..)
theorem AllP.kid {P:TV->Prop}{t:TV}(h:AllP P t):∀ k∈TV.kids t,AllP P k:=fun k hk d y hy=>h (d - 1) y (by
 rw [plT_eq,show d - 1+1=d by omega]
 exact List.mem_cons_of_mem _ (plL_of _ hk hy))
theorem ckL_roots {g:GV}:∀ (r:List (Int×Int)) (l:List TV),l.length=r.length->(∀ x∈ckL g r l,erU g x=0)->l.map (rootU g)=r
 | [],[],_,_=>rfl
 | [],t :: l,e,_=>by simp at e
 | s :: r,[],e,_=>by simp at e
 | s :: r,t :: l,e,h=>by
  rw [ckL_cons,ckT_eq] at h
  have h1:=h ⟨t,0,s,true⟩ (by simp)
  have h2:=ckL_roots r l (by simpa using e) (fun x hx=>h x (List.mem_append_right _ hx))
  rw [List.map_cons,h2]
  congr 1
  unfold erU at h1
  by_cases q:alTU g t=0
  ·rw [if_neg (by simpa using q)] at h1
   by_cases q2:rootU g t=s
   ·exact q2
   ·rw [if_pos ⟨rfl,q2⟩] at h1
    split at h1<;>cases h1
  ·rw [if_pos q] at h1
   exact absurd h1 q
theorem ckL_mem {g:GV}:∀ (r:List (Int×Int)) (l:List TV) (k:TV),k∈l->∃ s,∀ x∈ckT g s true k,x∈ckL g r l
 | _,[],_,h=>by cases h
 | r,t :: l,k,h=>by
  rcases List.mem_cons.1 h with rfl | h
  ·exact ⟨_,fun x hx=>by rw [ckL_cons];exact List.mem_append_left _ hx⟩
  ·obtain ⟨s,hs⟩:=ckL_mem r.tail l k h
   exact ⟨s,fun x hx=>by rw [ckL_cons];exact List.mem_append_right _ (hs x hx)⟩
theorem root_leaf {g:GV}{t:TV}(h:t.prod=-1)(h0:0<=t.kind)(h1:t.kind < g.ts.length):rootU g t=(1,t.kind):=by
 unfold rootU
 rw [if_pos ⟨h,h0,h1⟩]
theorem root_node {g:GV}{t:TV}(h0:0<=t.prod)(h1:t.prod < g.ps.length):rootU g t=(2,(g.ps.getD t.prod.toNat .none).left):=by
 unfold rootU
 rw [if_neg (by rintro ⟨q,_⟩;omega),if_pos ⟨h0,h1⟩]
structure RK {α:Type}(τ σ:TypeId)(k:Nat)(f:α->List Value):Prop where
 und:Tryz.prog.underlying σ=some (.slice τ)
 info:∃ i z,Tryz.prog.info? τ=some i/\i.zero=some z/\i.size=k/\i.bytes<=128/\z.cells.size=k
 pos:0 < k
 len:∀ x,(f x).length=k
 one:∀ x,∀ u∈f x,u.oneCell'=true
def RO {α:Type}(τ:TypeId)(k:Nat)(f:α->List Value)(w:World)(v:Value)(l:List α):Prop:=w.ownsRow 0 τ k v l.length (l.flatMap f)
section
variable {α:Type} {τ σ:TypeId} {k:Nat} {f:α->List Value}
theorem fm_len (hf:∀ x,(f x).length=k)(l:List α):(l.flatMap f).length=l.length*k:=by
 induction l with
 | nil=>simp
 | cons x l ih=>rw [List.flatMap_cons,List.length_append,ih,hf,List.length_cons,Nat.add_mul];omega
theorem fm_get (hf:∀ x,(f x).length=k):∀ (l:List α) (i:Nat) (h:i < l.length) (j:Nat),j < k->(l.flatMap f)[i*k+j]?=(f l[i])[j]?
 | [],_,h,_,_=>by simp at h
 | x :: l,0,_,j,hj=>by rw [List.flatMap_cons,Nat.zero_mul,Nat.zero_add,List.getElem?_append_left (by rw [hf];exact hj)];rfl
 | x :: l,i+1,h,j,hj=>by
  have:=fm_get hf l i (by simpa using h) j hj
  rw [List.flatMap_cons,List.getElem?_append_right (by rw [hf,Nat.add_mul];omega),hf,show (i+1)*k+j - k=i*k+j by rw [Nat.add_mul];omega,this]
  rfl
theorem RO.nil (w:World):RO τ k f w (.slice none 0 0) []:=World.ownsRow_nil w 0 τ k
theorem RO.len {w:World}{v:Value}{l:List α}(h:RO τ k f w v l):∃ a c,v=.slice a l.length c/\l.length<=c:=by
 rcases h.2 with ⟨rfl,h0⟩ | ⟨g,cap,cur,rfl,_,_,h3,_⟩
 ·exact ⟨none,0,by rw [h0],by omega⟩
 ·exact ⟨_,_,rfl,h3⟩
theorem RO.kept {w w':World}{v:Value}{l:List α}(h:RO τ k f w v l)(hb:∀ j,v.ownBlock=some j->w'.heap[j]?=w.heap[j]?):RO τ k f w' v l:=by
 refine ⟨h.1,?_⟩
 rcases h.2 with q | ⟨g,cap,cur,rfl,h1,h2,h3⟩
 ·exact .inl q
 ·exact .inr ⟨g,cap,cur,rfl,h1,(hb g rfl).trans h2,h3⟩
theorem RO.lt {w:World}{v:Value}{l:List α}(h:RO τ k f w v l):∀ j,v.ownBlock=some j->j < w.heap.size:=fun j hj=>(World.ownsRow.lt h j hj).2
theorem RO.later {w w':World}{v:Value}{l:List α}(h:RO τ k f w v l)(hb:Below w.heap.size w w'):RO τ k f w' v l:=h.kept fun j hj=>hb.block j (h.lt j hj)
theorem RO.cell {w:World}{v:Value}{l:List α}(hf:∀ x,(f x).length=k)(h:RO τ k f w v l){i:Nat}(hi:i < l.length):∃ b c,v=.slice (some ⟨b,0,none⟩) l.length c/\l.length<=c/\∀ j,j < k->w.cell? ⟨b,i*k+j,none⟩=(f l[i])[j]?:=by
 have hc:=h
 rcases h.2 with ⟨_,h0⟩ | ⟨g,cap,cur,rfl,h1,h2,h3,h4⟩
 ·omega
 ·refine ⟨g,cap,rfl,h3,fun j hj=>?_⟩
  have hlt:i*k+j < l.length*k:=by
   have:(i+1)*k<=l.length*k:=Nat.mul_le_mul_right _ hi
   rw [Nat.add_mul] at this
   omega
  rw [World.ownsRow.cellAt hc (i*k+j) hlt,fm_get hf l i hi j hj]
theorem RO.pop {w:World}{v:Value}{l:List α}{x:α}(hf:∀ x,(f x).length=k)(h:RO τ k f w v (l++[x])):∃ b c,v=.slice (some ⟨b,0,none⟩) (l.length+1) c/\l.length+1<=c/\(∀ j,j < k->w.cell? ⟨b,l.length*k+j,none⟩=(f x)[j]?)/\RO τ k f w (.slice (some ⟨b,0,none⟩) l.length c) l:=by
 obtain ⟨b,c,rfl,hc,hcell⟩:=h.cell hf (i:=l.length) (by simp)
 rw [show (l++[x]).length=l.length+1 by simp] at hc h ⊢
 refine ⟨b,c,rfl,hc,fun j hj=>?_,?_⟩
 ·have:=hcell j hj
  simpa using this
 ·have h':w.ownsRow 0 τ k (.slice (some ⟨b,0,none⟩) (l.length+1) c) (l.length+1) ((l++[x]).flatMap f):=by
   have:=h
   unfold RO at this
   rwa [show (l++[x]).length=l.length+1 by simp] at this
  rcases h'.2 with ⟨_,h0⟩ | ⟨g,cap,cur,e,h1,h2,h3,h4,h5,h6⟩
  ·omega
  ·cases e
   refine ⟨fm_len hf l,.inr ⟨b,c,cur,rfl,h1,h2,by omega,h4,h5,?_⟩⟩
   have e:cur.toList.take (l.length*k)=(cur.toList.take ((l.length+1)*k)).take (l.length*k):=by
    rw [List.take_take];congr 1;rw [Nat.add_mul];omega
   rw [e,h6,List.flatMap_append,List.take_left' (fm_len hf l)]
theorem run_ro_append (r:RK τ σ k f)(w:World)(ty:TypeId)(v:Value)(l:List α)(h:RO τ k f w v l)(b c:Nat)(x:α)(hy:∀ j u,(f x)[j]?=some u->w.cell? ⟨b,j,none⟩=some u)(hlen:l.length<=1000000000) :
  ∃ a' n' c' w',(Builtin.append_ #[σ,σ] ty #[v,.slice (some ⟨b,0,none⟩) 1 c]).run Tryz.prog w=.ok (.slice a' n' c') w'/\RO τ k f w' (.slice a' n' c') (l++[x])/\Grew w w' v (.slice a' n' c'):=by
 obtain ⟨i0,z0,hi,hz0,hz1,hz2,hz3⟩:=r.info
 have hlim:(l.length+1)*i0.bytes<=140737488355328:=Nat.le_trans (Nat.mul_le_mul_left _ hz2) (by omega)
 obtain ⟨v',w',hrun,hown,hgrow,_,hmv⟩:=run_append_own_at (P:=Tryz.prog) (w:=w) 0 σ ty τ i0 z0 k i0.bytes r.und hi hz0 hz1 rfl hz3 r.pos v l.length (l.flatMap f) h ⟨b,0,none⟩ 1 c (f x) (by rw [r.len];omega) (fun j u hu=>by rw [aNn,Nat.zero_add];exact hy j u hu) (r.one x) (by unfold maxLen;omega) hlim (Nat.zero_le _)
 have h6:RO τ k f w' v' (l++[x]):=by
  unfold RO
  have e:(l++[x]).flatMap f=l.flatMap f++f x:=by simp
  rw [e]
  simpa using hown
 obtain ⟨a',c',rfl,_⟩:=RO.len h6
 exact ⟨_,_,_,w',hrun,h6,⟨hgrow,hmv.imp id fun e=>⟨_,e,Nat.le_refl _⟩⟩⟩
theorem step_ro_append (r:RK τ σ k f){ops:Array Oper}{o:Oper}{a:Act}{w:World}{K:Act->World->Prop}{Q:Exit->Act->World->Prop}{E:Prop}
  (hg:o.guard=none) (s x:Operand) (hop:o.op=Op.call { callee:=Callee.builtin Builtin.append,args:=#[s,x],argTypes:=#[σ,σ] })
  (v:Value) (l:List α) (hs:a.eval s=v) (h:RO τ k f w v l) (b c:Nat) (q:α) (hx:a.eval x=.slice (some ⟨b,0,none⟩) 1 c) (hy:∀ j u,(f q)[j]?=some u->w.cell? ⟨b,j,none⟩=some u) (hlen:l.length<=1000000000)
  (hK:∀ a' n' c' w',RO τ k f w' (.slice a' n' c') (l++[q])->Grew w w' v (.slice a' n' c')->K (a.put o.dst (.slice a' n' c')) w') :
  if Region.wanted o (yielded ops a.tmps)=true then Oper.wp Tryz.prog o a w K Q else E:=by
 have hw:Region.wanted o (yielded ops a.tmps)=true:=by simp [Region.wanted,hg]
 rw [if_pos hw]
 obtain ⟨a',n',c',w',hrun,r1,r2⟩:=run_ro_append r w o.type v l h b c q hy hlen
 unfold Oper.wp
 simp [execOp,hop,resolve,invoke,builtin,hs,hx,hrun,Result.andThen]
 exact hK a' n' c' w' r1 r2
theorem wpList_ro_append (r:RK τ σ k f){ops:Array Oper}{rest:List Oper}{o:Oper}{a:Act}{Q:Exit->Act->World->Prop}{w:World}(hgd:o.guard=none)(s x:Operand)
  (ho:o.op=.call { callee:=.builtin .append,args:=#[s,x],argTypes:=#[σ,σ] })
  (v:Value) (l:List α) (hs:a.eval s=v) (h:RO τ k f w v l) (b c:Nat) (q:α) (hx:a.eval x=.slice (some ⟨b,0,none⟩) 1 c) (hy:∀ j u,(f q)[j]?=some u->w.cell? ⟨b,j,none⟩=some u) (hlen:l.length<=1000000000)
  (hK:∀ a' n' c' w',RO τ k f w' (.slice a' n' c') (l++[q])->Grew w w' v (.slice a' n' c')->wpList Tryz.prog ops Q rest (a.put o.dst (.slice a' n' c')) w'):wpList Tryz.prog ops Q (o :: rest) a w:=by
 refine wpList_plain hgd fun K hK'=>?_
 obtain ⟨a',n',c',w',hrun,r1,r2⟩:=run_ro_append r w o.type v l h b c q hy hlen
 unfold Oper.wp execOp
 simp only [ho,resolve,invoke,builtin,Sem.run_bind,Sem.run_pure,Result.andThen_ok,List.map_toArray,List.map_cons,List.map_nil,hs,hx,hrun]
 exact hK' _ _ (hK a' n' c' w' r1 r2)
theorem Grew.below {w w' w0:World}{v v':Value}{n:Nat}(h:Grew w w' v v')(hb:Below n w0 w)(hn:n<=w0.heap.size)(hv:∀ j,v.ownBlock=some j->n<=j):Below n w0 w' :=
 ⟨h.grown.os.trans hb.os,h.grown.tape.trans hb.tape,h.grown.output.trans hb.output,Nat.le_trans hb.size h.grown.size,fun j hj=>(h.grown.block j (by have:=hb.size;omega) (fun e=>by have:=hv j e.symm;omega)).trans (hb.block j hj)⟩
theorem Grew.own {w w':World}{v v':Value}{n:Nat}(h:Grew w w' v v')(hn:n<=w.heap.size)(hv:∀ j,v.ownBlock=some j->n<=j):∀ j,v'.ownBlock=some j->n<=j:=fun j hj=>by
 rcases h.moved with e | ⟨i,e,hi⟩
 ·exact hv j (by rw [<- e];exact hj)
 ·rw [e] at hj
  simp at hj
  omega
end
def KRow (w:World)(ao:Option Addr)(l:List TV):Prop:=l≠[]->∃ b off,ao=some ⟨b,off,none⟩/\b < w.heap.size/\∀ i,i < l.length ->
 w.cell? ⟨b,off+i*4,none⟩=some (.int .i64 (l.getD i .none).prod)/\w.cell? ⟨b,off+i*4+1,none⟩=some (.int .i64 (l.getD i .none).kind)/\w.cell? ⟨b,off+i*4+2,none⟩=some (.string (l.getD i .none).tx)/\w.cell? ⟨b,off+i*4+3,none⟩=some (.slice (l.getD i .none).ka (l.getD i .none).kids.length (l.getD i .none).kc)
theorem KRow.later {w w':World}{ao:Option Addr}{l:List TV}(h:KRow w ao l)(hb:Below w.heap.size w w'):KRow w' ao l:=by
 intro hne
 obtain ⟨b,off,rfl,hl,hc⟩:=h hne
 have e:∀ j,w'.cell? ⟨b,j,none⟩=w.cell? ⟨b,j,none⟩:=fun j=>hb.cell (p:=⟨b,j,none⟩) hl
 refine ⟨b,off,rfl,Nat.lt_of_lt_of_le hl hb.size,fun i hi=>?_⟩
 rw [e,e,e,e]
 exact hc i hi
def TAt (w:World)(t:TV):Prop:=AllP (fun t=>KRow w (TV.ka t) (TV.kids t)) t
theorem TAt.mk {w:World}(t:TV)(h:KRow w (TV.ka t) (TV.kids t))(hk:∀ k∈TV.kids t,TAt w k):TAt w t:=AllP.mk h hk
theorem TAt.row {w:World}{t:TV}(h:TAt w t):KRow w (TV.ka t) (TV.kids t):=AllP.here h
theorem TAt.kid {w:World}{t:TV}(h:TAt w t):∀ k∈TV.kids t,TAt w k:=AllP.kid h
theorem TAt.later {w w':World}{t:TV}(h:TAt w t)(hb:Below w.heap.size w w'):TAt w' t:=fun d y hy=>(h d y hy).later hb
abbrev TV.val (t:TV):Value:=.agg #[.int .i64 t.prod,.int .i64 t.kind,.string t.tx,.slice t.ka t.kids.length t.kc]
abbrev tBox (t:TV):Obj:=.cells #[.int .i64 t.prod,.int .i64 t.kind,.string t.tx,.slice t.ka t.kids.length t.kc] 26
theorem tb_cells {t:TV}{b:Nat}{w':World}(h:w'.heap[b]?=some (tBox t)):w'.cell? ⟨b,0,none⟩=some (.int .i64 t.prod)/\w'.cell? ⟨b,1,none⟩=some (.int .i64 t.kind)/\w'.cell? ⟨b,2,none⟩=some (.string t.tx)/\w'.cell? ⟨b,3,none⟩=some (.slice t.ka t.kids.length t.kc) :=
 ⟨(cQa h).trans rfl,(cQa h).trans rfl,(cQa h).trans rfl,(cQa h).trans rfl⟩
section
variable {α:Type} {τ σ:TypeId} {k:Nat} {f:α->List Value}
theorem run_ro_cat (r:RK τ σ k f)(w:World)(ty:TypeId)(v:Value)(l:List α)(h:RO τ k f w v l)(ao:Option Addr)(c:Nat)(xs:List α)(hy:xs≠[]->∃ b off,ao=some ⟨b,off,none⟩/\∀ j u,(xs.flatMap f)[j]?=some u->w.cell? ⟨b,off+j,none⟩=some u)(hlen:l.length+xs.length<=1000000000) :
  ∃ a' n' c' w',(Builtin.append_ #[σ,σ] ty #[v,.slice ao xs.length c]).run Tryz.prog w=.ok (.slice a' n' c') w'/\RO τ k f w' (.slice a' n' c') (l++xs)/\Grew w w' v (.slice a' n' c'):=by
 obtain ⟨i0,z0,hi,hz0,hz1,hz2,hz3⟩:=r.info
 cases ao with
 | none =>
  have hz:xs=[]:=Classical.byContradiction fun e=>by
   obtain ⟨b,off,e1,_⟩:=hy e
   cases e1
  subst hz
  obtain ⟨a,c0,rfl,hc0⟩:=RO.len h
  have hr:(Builtin.append_ #[σ,σ] ty #[.slice a l.length c0,.slice none 0 c]).run Tryz.prog w=.ok (.slice a l.length c0) w:=by
   cases a with
   | none =>
    have hl:l.length=0/\c0=0:=by
     rcases h.2 with ⟨q,h0⟩ | ⟨g,cap,cur,q,_⟩
     ·simp at q;exact ⟨by rw [q.1];rfl,q.2⟩
     ·cases q
    simp [Builtin.append_,run_underlying r.und,sizeOf,typeInfo,zeroValue,hi,hz0,Builtin.lenOf,Builtin.firstCells,hl]
   | some ad=>simp [Builtin.append_,run_underlying r.und,sizeOf,typeInfo,zeroValue,hi,hz0,Builtin.lenOf,Builtin.firstCells,storeCells,hc0]
  exact ⟨_,_,_,_,hr,by rw [List.append_nil];exact h,⟨⟨rfl,rfl,rfl,Nat.le_refl _,fun _ _ _=>rfl⟩,.inl rfl⟩⟩
 | some ad =>
  have hlim:(l.length+xs.length)*i0.bytes<=140737488355328:=Nat.le_trans (Nat.mul_le_mul_left _ hz2) (by omega)
  obtain ⟨v',w',hrun,hown,hgrow,_,hmv⟩:=run_append_own_at (P:=Tryz.prog) (w:=w) 0 σ ty τ i0 z0 k i0.bytes r.und hi hz0 hz1 rfl hz3 r.pos v l.length (l.flatMap f) h ad xs.length c (xs.flatMap f) (fm_len r.len xs) (fun j u hu=>by
    have hne:xs≠[]:=fun e=>by rw [e] at hu;simp at hu
    obtain ⟨b,off,e,q⟩:=hy hne
    cases e
    rw [aNn]
    exact q j u hu) (fun u hu=>by
    obtain ⟨x,_,hx⟩:=List.mem_flatMap.1 hu
    exact r.one x u hx) (by unfold maxLen;omega) hlim (Nat.zero_le _)
  have h6:RO τ k f w' v' (l++xs):=by
   unfold RO
   rw [List.flatMap_append,List.length_append]
   exact hown
  obtain ⟨a',c',rfl,_⟩:=RO.len h6
  exact ⟨_,_,_,w',hrun,h6,⟨hgrow,hmv.imp id fun e=>⟨_,e,Nat.le_refl _⟩⟩⟩
theorem wpList_ro_cat (r:RK τ σ k f){ops:Array Oper}{rest:List Oper}{o:Oper}{a:Act}{Q:Exit->Act->World->Prop}{w:World}(hgd:o.guard=none)(s x:Operand)
  (ho:o.op=.call { callee:=.builtin .append,args:=#[s,x],argTypes:=#[σ,σ] })
  (v:Value) (l:List α) (hs:a.eval s=v) (h:RO τ k f w v l) (ao:Option Addr) (c:Nat) (xs:List α) (hx:a.eval x=.slice ao xs.length c) (hy:xs≠[]->∃ b off,ao=some ⟨b,off,none⟩/\∀ j u,(xs.flatMap f)[j]?=some u->w.cell? ⟨b,off+j,none⟩=some u) (hlen:l.length+xs.length<=1000000000)
  (hK:∀ a' n' c' w',RO τ k f w' (.slice a' n' c') (l++xs)->Grew w w' v (.slice a' n' c')->wpList Tryz.prog ops Q rest (a.put o.dst (.slice a' n' c')) w'):wpList Tryz.prog ops Q (o :: rest) a w:=by
 refine wpList_plain hgd fun K hK'=>?_
 obtain ⟨a',n',c',w',hrun,r1,r2⟩:=run_ro_cat r w o.type v l h ao c xs hy hlen
 unfold Oper.wp execOp
 simp only [ho,resolve,invoke,builtin,Sem.run_bind,Sem.run_pure,Result.andThen_ok,List.map_toArray,List.map_cons,List.map_nil,hs,hx,hrun]
 exact hK' _ _ (hK a' n' c' w' r1 r2)
end
def trCells (t:TV):List Value:=[.int .i64 t.prod,.int .i64 t.kind,.string t.tx,.slice t.ka t.kids.length t.kc]
theorem rkTree:RK 26 24 4 trCells:=by
 refine ⟨Tryz.underlying24,?_,by decide,fun _=>rfl,fun x u hu=>?_⟩
 ·have h:(Tryz.prog.info? 26).map (fun i=>(i.zero,i.size,i.bytes))=some (some (.agg #[.int .i64 0,.int .i64 0,.string ByteArray.empty,.slice none 0 0]),4,56):=by kernel_rfl
  cases e:Tryz.prog.info? 26 with
  | none=>rw [e] at h;cases h
  | some i =>
   rw [e] at h
   simp at h
   exact ⟨i,_,rfl,h.1,h.2.1,by rw [h.2.2];decide,rfl⟩
 ·simp [trCells] at hu
  rcases hu with rfl | rfl | rfl | rfl<;>rfl
abbrev TRo:=RO 26 4 trCells
theorem KRow.src {w:World}{ao:Option Addr}{l:List TV}(h:KRow w ao l)(hne:l≠[]):∃ b off,ao=some ⟨b,off,none⟩/\∀ j u,(l.flatMap trCells)[j]?=some u->w.cell? ⟨b,off+j,none⟩=some u:=by
 obtain ⟨b,off,e,hb,hc⟩:=h hne
 refine ⟨b,off,e,fun j u hu=>?_⟩
 have hlt:j < (l.flatMap trCells).length:=Classical.byContradiction fun q=>by
  rw [List.getElem?_eq_none (by omega)] at hu;cases hu
 rw [fm_len (k:=4) (fun _=>rfl) l] at hlt
 obtain ⟨i,m,hi,hm,rfl⟩:∃ i m,i < l.length/\m < 4/\j=i*4+m:=⟨j / 4,j % 4,by omega,by omega,by omega⟩
 rw [fm_get (k:=4) (fun _=>rfl) l i hi m hm] at hu
 obtain ⟨c0,c1,c2,c3⟩:=hc i hi
 have eg:l.getD i .none=l[i]:=by simp [List.getD,hi]
 rw [eg] at c0 c1 c2 c3
 rcases (show m=0∨m=1∨m=2∨m=3 by omega) with rfl | rfl | rfl | rfl
 ·simp [trCells] at hu;rw [<- hu];exact c0
 ·simp [trCells] at hu;rw [<- hu,<- Nat.add_assoc];exact c1
 ·simp [trCells] at hu;rw [<- hu,<- Nat.add_assoc];exact c2
 ·simp [trCells] at hu;rw [<- hu,<- Nat.add_assoc];exact c3
structure WS (P:Program)(ops:Array Oper)(w:World)(Q:Act->Prop)(l:List Oper)(a:Act):Prop where
 out:wpStill P ops w Q l a
structure WQ (P:Program)(ops:Array Oper)(C:World->Prop)(Q:Act->Prop)(l:List Oper)(a:Act):Prop where
 out:wpQuiet P ops C Q l a
theorem st_yes {P:Program}{ops:Array Oper}{w:World}{Q:Act->Prop}{a:Act}{o:Oper}{rest:List Oper}{v:Value}(hw:Region.wanted o (yielded ops a.tmps)=true)(hr:(execOp a.eval o).run P w=.ok (.value v) w)(h:WS P ops w Q rest (a.put o.dst v)):WS P ops w Q (o :: rest) a:=by
 refine ⟨?_⟩
 unfold wpStill
 rw [if_pos hw]
 show o.stillUpon P a w _ _
 rw [hr,Oper.stillUpon_value]
 exact h.out
theorem st_no {P:Program}{ops:Array Oper}{w:World}{Q:Act->Prop}{a:Act}{o:Oper}{rest:List Oper}(hw:Region.wanted o (yielded ops a.tmps)=false)(h:WS P ops w Q rest (a.put o.dst undef)):WS P ops w Q (o :: rest) a:=by
 refine ⟨?_⟩
 unfold wpStill
 rw [if_neg (by rw [hw];exact Bool.false_ne_true)]
 exact h.out
theorem st_nil {P:Program}{ops:Array Oper}{w:World}{Q:Act->Prop}{a:Act}(h:Q a):WS P ops w Q [] a:=⟨h⟩
theorem qt_yes {P:Program}{ops:Array Oper}{C:World->Prop}{Q:Act->Prop}{a:Act}{o:Oper}{rest:List Oper}{v:Value}(hw:Region.wanted o (yielded ops a.tmps)=true)(hr:∀ w,C w->(execOp a.eval o).run P w=.ok (.value v) w)(h:WQ P ops C Q rest (a.put o.dst v)):WQ P ops C Q (o :: rest) a:=by
 refine ⟨?_⟩
 unfold wpQuiet
 rw [if_pos hw]
 refine ⟨v,fun w hC=>?_,h.out⟩
 unfold Oper.quietAt
 rw [hr w hC]
 exact ⟨rfl,rfl⟩
theorem qt_call {P:Program}{ops:Array Oper}{C:World->Prop}{Q:Act->Prop}{a:Act}{o:Oper}{rest:List Oper}{v:Value}(f:FuncId)(args:Array Value)(hw:Region.wanted o (yielded ops a.tmps)=true)(hr:∀ w,C w->(execOp a.eval o).run P w=.ok (.enter f args) w)(hc:∀ w,C w->Calls P f args w fun e w'=>e=.returned v/\C w')(h:WQ P ops C Q rest (a.put o.dst v)):WQ P ops C Q (o :: rest) a:=by
 refine ⟨?_⟩
 unfold wpQuiet
 rw [if_pos hw]
 refine ⟨v,fun w hC=>?_,h.out⟩
 unfold Oper.quietAt
 rw [hr w hC]
 exact ⟨rfl,hc w hC⟩
theorem qt_nil {P:Program}{ops:Array Oper}{C:World->Prop}{Q:Act->Prop}{a:Act}(h:Q a):WQ P ops C Q [] a:=⟨h⟩
theorem wp_region_q {P:Program}{C:World->Prop}{id:Nat}{Q:Exit->Act->World->Prop}{a:Act}{w:World}{l:List Oper}(hm:P.follows .mixedOrders=true)(hB:Region.lexB .any l.toArray=true)(hC:C w.drew)
  (h:WQ P l.toArray C (fun a'=>∀ w',C w'->Q .normal a' w') l a):(Code.region id l.toArray true).wp P Q a w :=
 wp_region_quiet (C:=C) hm hB hC (by simpa using h.out)
theorem wp_region_tail_d {P:Program}{id:Nat}{Q:Exit->Act->World->Prop}{a:Act}{w:World}{l:List Oper}(n:Nat)(hm:P.follows .mixedOrders=true)(hB:Region.lexTailB .any l.toArray n=true)(wd:World)(hwd:wd=w.drew)
  (h:wpStill P l.toArray wd (fun a'=>wpList P l.toArray Q (l.drop n) a' wd) (l.take n) a):(Code.region id l.toArray true).wp P Q a w:=by
 subst hwd
 exact wp_region_still_tail n hm hB h
theorem wp_region_tail_s {P:Program}{id:Nat}{Q:Exit->Act->World->Prop}{a:Act}{w:World}{l:List Oper}(n:Nat)(hm:P.follows .mixedOrders=true)(hB:Region.lexTailB .any l.toArray n=true)(wd:World)(hwd:wd=w.drew)
  (h:WS P l.toArray wd (fun a'=>wpList P l.toArray Q (l.drop n) a' wd) (l.take n) a):(Code.region id l.toArray true).wp P Q a w:=wp_region_tail_d n hm hB wd hwd h.out
theorem wp_region_s {P:Program}{id:Nat}{Q:Exit->Act->World->Prop}{a:Act}{w:World}{l:List Oper}(hm:P.follows .mixedOrders=true)(hB:Region.lexB .any l.toArray=true)(wd:World)(hwd:wd=w.drew)
  (h:WS P l.toArray wd (fun a'=>Q .normal a' wd) l a):(Code.region id l.toArray true).wp P Q a w:=by
 subst hwd
 exact wp_region_still_lit hm hB h.out
end Go.Proofs.YteciabdjkaackaaGreat
