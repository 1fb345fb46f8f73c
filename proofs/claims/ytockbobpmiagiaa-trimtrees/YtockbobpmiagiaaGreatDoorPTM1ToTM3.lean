import Derived.Test.YtockbobpmiagiaaGreatDoorPTR5ToTR8
import Derived.Test.YtockbobpmiagiaaGreatDoorPBR0ToTM0
import Derived.Test.YtockbobpmiagiaaGreatDoorPBZ9ToBZ10
namespace Go.Proofs.YtockbobpmiagiaaGreatDoor
set_option linter.unusedVariables false
set_option maxRecDepth 100000
set_option maxHeartbeats 16000000
open Go.RowKit Go.Shelf
def vanU (N:List Bool)(l:List (Int×Int)):Bool:=l.all fun s=>decide (s.1=2) && N.getD s.2.toNat false
def alK (N:List Bool)(p:PV)(k:Nat):List (Int×Int):=(List.range k).flatMap fun i=>if (p.right.getD i (0,0)).1=2/\vanU N (p.right.take i)=true/\vanU N (p.right.drop (i+1))=true then [(p.left,(p.right.getD i (0,0)).2)] else []
def alP (N:List Bool)(p:PV):List (Int×Int):=alK N p p.right.length
def alU (N:List Bool)(ps:List PV):List (Int×Int):=ps.flatMap (alP N)
theorem alK_succ (N:List Bool)(p:PV)(k:Nat):alK N p (k+1)=alK N p k++if (p.right.getD k (0,0)).1=2/\vanU N (p.right.take k)=true/\vanU N (p.right.drop (k+1))=true then [(p.left,(p.right.getD k (0,0)).2)] else []:=by
 unfold alK
 rw [List.range_succ,List.flatMap_append]
 simp
theorem alK_len (N:List Bool)(p:PV)(k:Nat):(alK N p k).length<=k:=by
 induction k with
 | zero=>simp [alK]
 | succ k ih =>
  rw [alK_succ,List.length_append]
  split
  ·simp;omega
  ·simp;omega
theorem mem_alK {N:List Bool}{p:PV}{k:Nat}{q:Int×Int}:q∈alK N p k ↔ ∃ i,i < k/\(p.right.getD i (0,0)).1=2/\vanU N (p.right.take i)=true/\vanU N (p.right.drop (i+1))=true/\q=(p.left,(p.right.getD i (0,0)).2):=by
 unfold alK
 rw [List.mem_flatMap]
 constructor
 ·rintro ⟨i,hi,hq⟩
  split at hq
  ·rename_i h
   exact ⟨i,List.mem_range.1 hi,h.1,h.2.1,h.2.2,by simpa using hq⟩
  ·cases hq
 ·rintro ⟨i,hi,h1,h2,h3,rfl⟩
  exact ⟨i,List.mem_range.2 hi,by rw [if_pos ⟨h1,h2,h3⟩];exact List.mem_singleton.2 rfl⟩
theorem mem_alU {N:List Bool}{ps:List PV}{q:Int×Int}:q∈alU N ps ↔ ∃ p∈ps,∃ i,i < p.right.length/\(p.right.getD i (0,0)).1=2/\vanU N (p.right.take i)=true/\vanU N (p.right.drop (i+1))=true/\q=(p.left,(p.right.getD i (0,0)).2):=by
 unfold alU
 rw [List.mem_flatMap]
 exact ⟨fun ⟨p,hp,h⟩=>⟨p,hp,mem_alK.1 h⟩,fun ⟨p,hp,h⟩=>⟨p,hp,mem_alK.2 h⟩⟩
theorem al_ok {N:List Bool}{ps:List PV}{n:Nat}(hl:∀ p∈ps,0<=p.left/\p.left < n)(hr:∀ p∈ps,∀ s∈p.right,s.1=2->0<=s.2/\s.2 < n){q:Int×Int}(hq:q∈alU N ps):(0<=q.1/\q.1 < n)/\0<=q.2/\q.2 < n:=by
 obtain ⟨p,hp,i,hi,h2,_,_,rfl⟩:=mem_alU.1 hq
 refine ⟨hl p hp,hr p hp (p.right.getD i (0,0)) ?_ h2⟩
 rw [List.getD_eq_getElem?_getD,List.getElem?_eq_getElem hi]
 exact List.getElem_mem hi
theorem bool_ext {M M':List Bool}(hl:M.length=M'.length)(h:∀ i,M.getD i false=true ↔ M'.getD i false=true):M=M':=by
 apply List.ext_getElem hl
 intro i h1 h2
 have:=h i
 rw [List.getD_eq_getElem?_getD,List.getD_eq_getElem?_getD,List.getElem?_eq_getElem h1,List.getElem?_eq_getElem h2] at this
 simp only [Option.getD_some] at this
 cases e:M[i]<;>cases e':M'[i]<;>simp_all
theorem MLst.closed {ps:List PV}{n:Nat}{t:Bool}{M:List Bool}(h:MLst ps n t M):ClM ps t fun i=>M.getD i false=true:=fun p hp hs=>h.clo p hp (by
 unfold wU_
 rw [List.all_eq_true]
 intro s hs'
 have:=hs s hs'
 unfold wh1
 by_cases e1:s.1=2
 ·have h2:=this.1 e1
  have e2:¬ s.1=1:=by omega
  rw [decide_eq_false e2,h2]
  simp
 ·by_cases e2:s.1=1
  ·rw [this.2 e2,decide_eq_false e1]
   simp
  ·rw [decide_eq_false e1,decide_eq_false e2]
   simp)
theorem MLst.one {ps:List PV}{n:Nat}{t:Bool}{M M':List Bool}(h:MLst ps n t M)(h':MLst ps n t M'):M=M':=bool_ext (h.len.trans h'.len.symm) fun i=>⟨fun q=>h.lst _ h'.closed i q,fun q=>h'.lst _ h.closed i q⟩
theorem RLst.closed {g:GV}{T N:List Bool}(h:RLst g T N):ClR g (fun i=>T.getD i false=true) fun i=>N.getD i false=true:=⟨h.st,fun p hp hl s hs=>h.clo p hp hl s hs⟩
theorem RLst.one {g:GV}{T N T' N':List Bool}(h:RLst g T N)(h':RLst g T' N'):T=T'/\N=N' :=
 ⟨bool_ext (h.tl.trans h'.tl.symm) fun i=>⟨fun q=>(h.lst _ _ h'.closed).2 i q,fun q=>(h'.lst _ _ h.closed).2 i q⟩,bool_ext (h.nl.trans h'.nl.symm) fun i=>⟨fun q=>(h.lst _ _ h'.closed).1 i q,fun q=>(h'.lst _ _ h.closed).1 i q⟩⟩
def digU (l:List (Int×Int)):List Int:=(l.filter fun p=>decide (p.1=p.2)).map Prod.fst
theorem digU_app (a b:List (Int×Int)):digU (a++b)=digU a++digU b:=by
 unfold digU
 rw [List.filter_append,List.map_append]
theorem dig_row (x:Nat):∀ (m N:Nat),digU (prR x (bitsU N m))=if x < m/\N.testBit x=true then [(x:Int)] else []
 | 0,N=>by
  rw [if_neg (by omega)]
  rfl
 | m+1,N=>by
  have ih:=dig_row x m N
  have e0:bitsU N (m+1)=bitsU N m++if N.testBit m=true then [m] else []:=by
   unfold bitsU
   rw [List.range_succ,List.filter_append]
   congr 1
   by_cases h:N.testBit m=true
   ·rw [List.filter_cons,if_pos h,if_pos h];rfl
   ·rw [List.filter_cons,if_neg h,if_neg h];rfl
  have e1:prR x (bitsU N (m+1))=prR x (bitsU N m)++prR x (if N.testBit m=true then [m] else []):=by
   rw [e0]
   unfold prR
   rw [List.map_append]
  rw [e1,digU_app,ih]
  by_cases h:N.testBit m=true
  ·rw [if_pos h]
   by_cases e:x=m
   ·subst e
    rw [if_neg (by omega),if_pos ⟨by omega,h⟩]
    simp [digU,prR]
   ·have:(x < m+1/\N.testBit x=true) ↔ (x < m/\N.testBit x=true):=by
     constructor
     ·rintro ⟨a,b⟩;exact ⟨by omega,b⟩
     ·rintro ⟨a,b⟩;exact ⟨by omega,b⟩
    simp only [this]
    have e2:digU (prR x [m])=[]:=by
     unfold digU prR
     rw [List.map_cons,List.map_nil,List.filter_cons,if_neg (by simp;omega)]
     rfl
    rw [e2,List.append_nil]
  ·rw [if_neg h]
   have:(x < m+1/\N.testBit x=true) ↔ (x < m/\N.testBit x=true):=by
    constructor
    ·rintro ⟨a,b⟩
     refine ⟨?_,b⟩
     by_cases e:x=m
     ·subst e;exact absurd b h
     ·omega
    ·rintro ⟨a,b⟩;exact ⟨by omega,b⟩
   simp only [this]
   have e2:digU (prR x [])=[]:=rfl
   rw [e2,List.append_nil]
theorem dig_off {Ms:List Nat}{O:List Bool}{m:Nat}:∀ n,n<=m->(∀ x,x < n->((Ms.getD x 0).testBit x=true ↔ O.getD x false=true))->digU (prU Ms m n)=offU true O n
 | 0,_,_=>rfl
 | n+1,hn,h=>by
  rw [prU_next,digU_app,dig_off n (by omega) (fun x hx=>h x (by omega)),offU_succ,dig_row]
  have:=h n (by omega)
  by_cases e:O.getD n false=true
  ·rw [if_pos e,if_pos ⟨by omega,this.2 e⟩]
  ·rw [if_neg e,if_neg (fun q=>e (this.1 q.2)),List.append_nil]
theorem null_mlst {g:GV}(hl:∀ p∈g.ps,0<=p.left/\p.left < g.ns.length)(hs:∀ p∈g.ps,∀ s∈p.right,s.1=1∨s.1=2):MLst g.ps g.ns.length false (nullU g.ps g.ns.length):=by
 refine ⟨by unfold nullU;rw [List.length_map,htU_len],fun p hp hw=>?_,fun C hC i hi=>?_⟩
 ·refine (nullU_iff _).2 (htU_closed g.ps g.ns.length hl p hp fun s hs'=>?_)
  have h1:=whole_in hw s hs'
  rcases hs p hp s hs' with e | e
  ·exact absurd (h1.2 e) (by decide)
  ·exact ⟨e,(nullU_iff _).1 (h1.1 e)⟩
 ·refine htU_least g.ps g.ns.length C (fun p hp hr=>hC p hp fun s hs'=>⟨fun _=>(hr s hs').2,fun e=>?_⟩) g.ns.length i ((nullU_iff i).1 hi)
  have:=(hr s hs').1
  omega
theorem made_listR (n:Nat)(v:Value):madeCells #[v] n=(List.replicate n v).toArray:=made_listB v n
def inCR (x:Int):List Value:=[.int .i64 x]
abbrev IRo:=RO 3 1 inCR
theorem RO.neR {α:Type}{τ:TypeId}{k:Nat}{f:α->List Value}{w:World}{v:Value}{l:List α}(h:RO τ k f w v l){b:Nat}{C:Array Value}{t:TypeId}(hb:w.heap[b]?=some (.cells C t (0,0)))(ht:t≠τ):some b≠v.ownBlock:=by
 intro e
 rcases h.2 with ⟨rfl,_⟩ | ⟨g,cap,cur,rfl,_,hg,_⟩
 ·simp [Value.ownBlock] at e
 ·simp [Value.ownBlock] at e
  subst e
  rw [hb] at hg;simp at hg;exact ht hg.2
theorem IRo.il {w:World}{v:Value}{l:List Int}(h:IRo w v l):IL w v l:=by
 unfold IL
 have e:l.map (fun x=>Value.int .i64 x)=l.flatMap inCR:=by
  rw [List.map_eq_flatMap]
  rfl
 rw [e]
 exact h
structure MxR (B n x:Nat)(w:World)(ks:List Nat)(Rs:List (List Bool))(wr:World):Prop where
 row:wr.heap[B]?=some (.cells ((ks.map fun k=>Value.slice (some ⟨k,0,none⟩) n n)++List.replicate (n - x) (Value.slice none 0 0)).toArray 75)
 kl:ks.length=x
 rl:Rs.length=x
 xn:x<=n
 nd:ks.Nodup
 blk:∀ (j k:Nat) (R:List Bool),ks[j]?=some k->Rs[j]?=some R->B<=k/\R.length=n/\wr.heap[k]?=some (.cells (R.map Value.bool).toArray 4)
 bel:Below B w wr
section
variable {B n x:Nat} {w wr w':World} {ks:List Nat} {Rs:List (List Bool)}
theorem MxR.any (h:MxR B n x w ks Rs wr)(hb:Below wr.heap.size wr w'):MxR B n x w ks Rs w' :=
 ⟨(hb.block _ (lt_of_block h.row)).trans h.row,h.kl,h.rl,h.xn,h.nd,fun j k R hk hR=>by
  obtain ⟨h1,h2,h3⟩:=h.blk j k R hk hR
  exact ⟨h1,h2,(hb.block _ (lt_of_block h3)).trans h3⟩,h.bel.trans (hb.mono (by have:=lt_of_block h.row;omega))⟩
theorem MxR.grew {v v':Value}{l:List Int}(h:MxR B n x w ks Rs wr)(hv:IRo wr v l)(ho:∀ j,v.ownBlock=some j->B<=j)(g:Grew wr w' v v'):MxR B n x w ks Rs w' :=
 ⟨(g.grown.block _ (lt_of_block h.row) (hv.neR h.row (by decide))).trans h.row,h.kl,h.rl,h.xn,h.nd,fun j k R hk hR=>by
  obtain ⟨h1,h2,h3⟩:=h.blk j k R hk hR
  exact ⟨h1,h2,(g.grown.block _ (lt_of_block h3) (hv.neR h3 (by decide))).trans h3⟩,h.bel.grown g.grown (by have:=lt_of_block h.row;omega) ho⟩
theorem MxR.at (h:MxR B n x w ks Rs wr){j:Nat}(hj:j < x):∃ k R,ks[j]?=some k/\Rs[j]?=some R/\R=Rs.getD j []/\R.length=n/\wr.cell? ⟨B,j,none⟩=some (.slice (some ⟨k,0,none⟩) n n)/\wr.heap[k]?=some (.cells (R.map Value.bool).toArray 4):=by
 have hk:ks[j]?=some (ks[j]'(by rw [h.kl];exact hj)):=List.getElem?_eq_getElem _
 have hR:Rs[j]?=some (Rs[j]'(by rw [h.rl];exact hj)):=List.getElem?_eq_getElem _
 obtain ⟨h1,h2,h3⟩:=h.blk j _ _ hk hR
 refine ⟨_,_,hk,hR,by simp [List.getD,hR],h2,?_,h3⟩
 rw [cQa h.row]
 simp only [List.getElem?_toArray]
 rw [List.getElem?_append_left (by simp [h.kl];exact hj),List.getElem?_map,hk]
 rfl
theorem MxR.put (h:MxR B n x w ks Rs wr){j k z:Nat}{R:List Bool}(hk:ks[j]?=some k)(hR:Rs[j]?=some R)(b:Bool):MxR B n x w ks (Rs.set j (R.set z b)) (wr.setCell ⟨k,z,none⟩ (.bool b)):=by
 obtain ⟨h1,h2,h3⟩:=h.blk j k R hk hR
 have hne:B≠k:=fun e=>by
  subst e
  rw [h.row] at h3
  simp only [Option.some.injEq,Obj.cells.injEq] at h3
  exact absurd h3.2.1 (by decide)
 have hf:=frB_setCell wr k z (Value.bool b)
 refine ⟨(hf.block _ (lt_of_block h.row) hne).trans h.row,h.kl,by rw [List.length_set];exact h.rl,h.xn,h.nd,fun j' k' R' hk' hR'=>?_,h.bel.setCell h1 _⟩
 have hjl:j < Rs.length:=(List.getElem?_eq_some_iff.1 hR).1
 by_cases e:j=j'
 ·subst e
  rw [hk] at hk'
  obtain rfl:=Option.some.inj hk'
  rw [List.getElem?_set_self hjl] at hR'
  obtain rfl:=Option.some.inj hR'
  refine ⟨h1,by rw [List.length_set];exact h2,?_⟩
  rw [hSt h3,List.setIfInBounds_toArray,List.map_set]
 ·rw [List.getElem?_set_ne e] at hR'
  obtain ⟨q1,q2,q3⟩:=h.blk j' k' R' hk' hR'
  have hkk:k'≠k:=fun ek=>by
   subst ek
   have a1:=(List.getElem?_eq_some_iff.1 hk)
   have a2:=(List.getElem?_eq_some_iff.1 hk')
   have nd:=List.pairwise_iff_getElem.1 h.nd
   rcases Nat.lt_or_gt_of_ne e with q | q
   ·exact nd j j' a1.1 a2.1 q (a1.2.trans a2.2.symm)
   ·exact nd j' j a2.1 a1.1 q (a2.2.trans a1.2.symm)
  exact ⟨q1,q2,(hf.block _ (lt_of_block q3) hkk).trans q3⟩
theorem MxR.more (h:MxR B n x w ks Rs wr)(hx:x < n):MxR B n (x+1) w (ks++[wr.heap.size]) (Rs++[List.replicate n false]) ((wr.alloc (.cells (madeCells #[.bool false] n) 4)).setCell ⟨B,x,none⟩ (.slice (some ⟨wr.heap.size,0,none⟩) n n)):=by
 have hB:=lt_of_block h.row
 have ha:=h.any (bAl wr (.cells (madeCells #[.bool false] n) 4))
 have hn:=heap_alloc_new wr (.cells (madeCells #[.bool false] n) 4)
 have hf:=frB_setCell (wr.alloc (.cells (madeCells #[.bool false] n) 4)) B x (.slice (some ⟨wr.heap.size,0,none⟩) n n)
 refine ⟨?_,by simp [h.kl],by simp [h.rl],hx,?_,fun j k R hk hR=>?_,ha.bel.setCell (Nat.le_refl _) _⟩
 ·rw [hSt ha.row,List.setIfInBounds_toArray]
  congr 3
  have hl:(ks.map fun k=>Value.slice (some ⟨k,0,none⟩) n n).length=x:=by rw [List.length_map,h.kl]
  rw [List.set_append_right _ _ (by omega),hl,Nat.sub_self,List.map_append,List.append_assoc]
  congr 1
  rw [show n - x=(n - (x+1))+1 by omega,List.replicate_succ]
  rfl
 ·rw [List.nodup_append]
  refine ⟨h.nd,by simp,fun a ha b hb e=>?_⟩
  have e2:a=wr.heap.size:=by simp at hb;omega
  obtain ⟨j,hj⟩:=List.getElem?_of_mem ha
  have hjx:j < Rs.length:=by rw [h.rl,<- h.kl];exact (List.getElem?_eq_some_iff.1 hj).1
  have:=lt_of_block (h.blk j a _ hj (List.getElem?_eq_getElem hjx)).2.2
  omega
 ·rcases Nat.lt_or_ge j x with q | q
  ·rw [List.getElem?_append_left (by rw [h.kl];exact q)] at hk
   rw [List.getElem?_append_left (by rw [h.rl];exact q)] at hR
   obtain ⟨q1,q2,q3⟩:=ha.blk j k R hk hR
   have hne:k≠B:=fun e=>by
    subst e
    rw [ha.row] at q3
    simp only [Option.some.injEq,Obj.cells.injEq] at q3
    exact absurd q3.2.1 (by decide)
   exact ⟨q1,q2,(hf.block _ (lt_of_block q3) hne).trans q3⟩
  ·rw [List.getElem?_append_right (by rw [h.kl];exact q)] at hk
   rw [List.getElem?_append_right (by rw [h.rl];exact q)] at hR
   have h0:j - ks.length=0:=by have:=(List.getElem?_eq_some_iff.1 hk).1;simp at this;omega
   rw [h0] at hk
   rw [show j - Rs.length=0 by have:=h.kl;have:=h.rl;omega] at hR
   simp at hk hR
   subst hk hR
   refine ⟨by omega,by simp,?_⟩
   rw [hf.block _ (lt_of_block hn) (by show wr.heap.size≠B;omega),hn,made_listR]
   simp
theorem MxR.old (h:MxR B n x w ks Rs wr)(hx:x < n)(o:Obj):(wr.alloc o).cell? ⟨B,x,none⟩=some (.slice none 0 0)/\(wr.alloc o).frozen? ⟨B,x,none⟩=false:=by
 have r:=(h.any (bAl wr o)).row
 refine ⟨?_,by simp [World.frozen?,r]⟩
 rw [cQa r]
 have hl:(ks.map fun k=>Value.slice (some ⟨k,0,none⟩) n n).length=x:=by rw [List.length_map,h.kl]
 simp only [List.getElem?_toArray]
 rw [List.getElem?_append_right (by omega),hl,List.getElem?_replicate,if_pos (by omega)]
end
structure CX (g:GV)(w w2:World)(mb gb k:Nat)(NU:List Bool)(ks:List Nat)(Rs:List (List Bool))(wr:World):Prop where
 mx:MxR gb g.ns.length k w2 ks Rs wr
 nu:BB wr mb NU
 ord:w.heap.size < mb/\mb < gb
 box:wr.heap[w.heap.size]?=some (gBox g)
 bel:Below w.heap.size w wr
section
variable {g:GV} {w w2 wr w':World} {mb gb k:Nat} {NU:List Bool} {ks:List Nat} {Rs:List (List Bool)}
theorem CX.any (h:CX g w w2 mb gb k NU ks Rs wr)(hb:Below wr.heap.size wr w'):CX g w w2 mb gb k NU ks Rs w' :=
 ⟨h.mx.any hb,h.nu.later hb,h.ord,(hb.block _ (lt_of_block h.box)).trans h.box,h.bel.trans (hb.mono h.bel.size)⟩
theorem CX.fill (h:CX g w w2 mb gb k NU ks Rs wr)(hk:k < g.ns.length):CX g w w2 mb gb (k+1) NU (ks++[wr.heap.size]) (Rs++[List.replicate g.ns.length false]) ((wr.alloc (.cells (madeCells #[.bool false] g.ns.length) 4)).setCell ⟨gb,k,none⟩ (.slice (some ⟨wr.heap.size,0,none⟩) g.ns.length g.ns.length)):=by
 have h1:=h.any (bAl wr (.cells (madeCells #[.bool false] g.ns.length) 4))
 have ho:=h.ord
 exact ⟨h.mx.more hk,h1.nu.kept (Below.heap_setCell _ _ _ _ (by show mb≠gb;omega)),h.ord,(Below.heap_setCell _ _ _ _ (by show w.heap.size≠gb;omega)).trans h1.box,h1.bel.setCell (p:=⟨gb,k,none⟩) (by show w.heap.size<=gb;omega) _⟩
theorem CX.put (h:CX g w w2 mb gb k NU ks Rs wr){i b:Nat}{R:List Bool}(hk:ks[i]?=some b)(hR:Rs[i]?=some R)(j:Nat)(v:Bool):CX g w w2 mb gb k NU ks (Rs.set i (R.set j v)) (wr.setCell ⟨b,j,none⟩ (.bool v)):=by
 have ho:=h.ord
 have hb:=(h.mx.blk i b R hk hR).1
 exact ⟨h.mx.put hk hR v,h.nu.kept (Below.heap_setCell _ _ _ _ (by show mb≠b;omega)),h.ord,(Below.heap_setCell _ _ _ _ (by show w.heap.size≠b;omega)).trans h.box,h.bel.setCell (p:=⟨b,j,none⟩) (by show w.heap.size<=b;omega) _⟩
end
def GvI (n:Nat)(L:List (Int×Int))(Rs:List (List Bool)):Prop:=∀ a b,a < n->b < n->((Rs.getD a []).getD b false=true ↔ ((a:Int),(b:Int))∈L)
theorem GvI.start (n:Nat):GvI n [] (List.replicate n (List.replicate n false)):=fun a b ha hb=>by
 have e:(List.replicate n (List.replicate n false)).getD a []=List.replicate n false:=by
  rw [List.getD_eq_getElem?_getD,List.getElem?_replicate,if_pos ha]
  rfl
 rw [e,repl_getR]
 simp
theorem GvI.put {n m e:Nat}{L:List (Int×Int)}{Rs:List (List Bool)}{R:List Bool}(h:GvI n L Rs)(hm:m < n)(he:e < n)(hl:Rs.length=n)(hR:Rs[m]?=some R)(hr:R.length=n):GvI n (L++[((m:Int),(e:Int))]) (Rs.set m (R.set e true)):=fun a b ha hb=>by
 have hR2:Rs.getD m []=R:=by rw [List.getD_eq_getElem?_getD,hR];rfl
 have hg:(Rs.set m (R.set e true)).getD a []=if m=a then R.set e true else Rs.getD a []:=by
  rw [List.getD_eq_getElem?_getD,List.getElem?_set]
  by_cases q:m=a
  ·subst q
   rw [if_pos rfl,if_pos rfl,if_pos (by omega)]
   rfl
  ·rw [if_neg q,if_neg q,List.getD_eq_getElem?_getD]
 have h0:=h a b ha hb
 rw [hg,List.mem_append,List.mem_singleton]
 by_cases q:m=a
 ·subst q
  rw [if_pos rfl,getD_setR]
  by_cases q2:e=b
  ·subst q2
   rw [if_pos ⟨rfl,by omega⟩]
   exact ⟨fun _=>.inr rfl,fun _=>rfl⟩
  ·rw [if_neg (fun z=>q2 z.1),<- hR2,h0]
   refine ⟨.inl,fun z=>z.resolve_right fun c=>q2 ?_⟩
   have:=(Prod.mk.injEq _ _ _ _).mp c
   omega
 ·rw [if_neg q,h0]
  refine ⟨.inl,fun z=>z.resolve_right fun c=>q ?_⟩
  have:=(Prod.mk.injEq _ _ _ _).mp c
  omega
theorem al_take {N:List Bool}{ps:List PV}{k:Nat}{p:PV}(hk:k < ps.length)(hp:ps.getD k .none=p):alU N (ps.take (k+1))=alU N (ps.take k)++alK N p p.right.length:=by
 have e:ps.take (k+1)=ps.take k++[p]:=by
  rw [List.take_add_one,List.getElem?_eq_getElem hk]
  rw [List.getD_eq_getElem?_getD,List.getElem?_eq_getElem hk] at hp
  simp only [Option.getD_some] at hp
  rw [hp]
  rfl
 unfold alU
 rw [e,List.flatMap_append]
 simp [alP]
end Go.Proofs.YtockbobpmiagiaaGreatDoor
