import Derived.Test.YtlfiohdhcmmjbaaGreatDoorPTR5ToTR8
import Derived.Test.YtlfiohdhcmmjbaaGreatDoorPBR0ToTM0
import Derived.Test.YtlfiohdhcmmjbaaGreatDoorPBZ9ToBZ10
namespace Go.Proofs.YtlfiohdhcmmjbaaGreatDoor
set_option linter.unusedVariables false
set_option maxRecDepth 100000
set_option maxHeartbeats 16000000
open Go.RowKit Go.Shelf
def vanU (N:List Bool)(l:List (Int×Int)):Bool:=l.all fun s=>decide (s.1=2) && N.getD s.2.toNat false
theorem van_whole {N:List Bool}{l:List (Int×Int)}(h:∀ s∈l,s.1=1∨s.1=2):wU_ false N l=vanU N l:=by
 induction l with
 | nil=>rfl
 | cons s l ih =>
  have h1:=ih fun t ht=>h t (List.mem_cons_of_mem _ ht)
  unfold wU_ vanU at h1 ⊢
  rw [List.all_cons,List.all_cons,h1]
  congr 1
  unfold wh1
  rcases h s (List.mem_cons_self ..) with e | e
  ·rw [e];simp
  ·rw [e];simp
def alK (N:List Bool)(p:PV)(k:Nat):List (Int×Int):=(List.range k).flatMap fun i=>if (p.right.getD i (0,0)).1=2/\vanU N (p.right.take i)=true/\vanU N (p.right.drop (i+1))=true then [(p.left,(p.right.getD i (0,0)).2)] else []
def alP (N:List Bool)(p:PV):List (Int×Int):=alK N p p.right.length
def alU (N:List Bool)(ps:List PV):List (Int×Int):=ps.flatMap (alP N)
theorem alK_succ (N:List Bool)(p:PV)(k:Nat):alK N p (k+1)=alK N p k++if (p.right.getD k (0,0)).1=2/\vanU N (p.right.take k)=true/\vanU N (p.right.drop (k+1))=true then [(p.left,(p.right.getD k (0,0)).2)] else []:=by
 unfold alK
 rw [List.range_succ,List.flatMap_append]
 simp
theorem alK_len (N:List Bool)(p:PV)(k:Nat):(alK N p k).length<=k:=by
 induction k with
 | zero=>simp [alK]
 | succ k ih =>
  rw [alK_succ,List.length_append]
  split
  ·simp;omega
  ·simp;omega
theorem mem_alK {N:List Bool}{p:PV}{k:Nat}{q:Int×Int}:q∈alK N p k ↔ ∃ i,i < k/\(p.right.getD i (0,0)).1=2/\vanU N (p.right.take i)=true/\vanU N (p.right.drop (i+1))=true/\q=(p.left,(p.right.getD i (0,0)).2):=by
 unfold alK
 rw [List.mem_flatMap]
 constructor
 ·rintro ⟨i,hi,hq⟩
  split at hq
  ·rename_i h
   exact ⟨i,List.mem_range.1 hi,h.1,h.2.1,h.2.2,by simpa using hq⟩
  ·cases hq
 ·rintro ⟨i,hi,h1,h2,h3,rfl⟩
  exact ⟨i,List.mem_range.2 hi,by rw [if_pos ⟨h1,h2,h3⟩];exact List.mem_singleton.2 rfl⟩
theorem mem_alU {N:List Bool}{ps:List PV}{q:Int×Int}:q∈alU N ps ↔ ∃ p∈ps,∃ i,i < p.right.length/\(p.right.getD i (0,0)).1=2/\vanU N (p.right.take i)=true/\vanU N (p.right.drop (i+1))=true/\q=(p.left,(p.right.getD i (0,0)).2):=by
 unfold alU
 rw [List.mem_flatMap]
 exact ⟨fun ⟨p,hp,h⟩=>⟨p,hp,mem_alK.1 h⟩,fun ⟨p,hp,h⟩=>⟨p,hp,mem_alK.2 h⟩⟩
theorem al_ok {N:List Bool}{ps:List PV}{n:Nat}(hl:∀ p∈ps,0<=p.left/\p.left < n)(hr:∀ p∈ps,∀ s∈p.right,s.1=2->0<=s.2/\s.2 < n){q:Int×Int}(hq:q∈alU N ps):(0<=q.1/\q.1 < n)/\0<=q.2/\q.2 < n:=by
 obtain ⟨p,hp,i,hi,h2,_,_,rfl⟩:=mem_alU.1 hq
 refine ⟨hl p hp,hr p hp (p.right.getD i (0,0)) ?_ h2⟩
 rw [List.getD_eq_getElem?_getD,List.getElem?_eq_getElem hi]
 exact List.getElem_mem hi
theorem bool_ext {M M':List Bool}(hl:M.length=M'.length)(h:∀ i,M.getD i false=true ↔ M'.getD i false=true):M=M':=by
 apply List.ext_getElem hl
 intro i h1 h2
 have:=h i
 rw [List.getD_eq_getElem?_getD,List.getD_eq_getElem?_getD,List.getElem?_eq_getElem h1,List.getElem?_eq_getElem h2] at this
 simp only [Option.getD_some] at this
 cases e:M[i]<;>cases e':M'[i]<;>simp_all
theorem MLst.closed {ps:List PV}{n:Nat}{t:Bool}{M:List Bool}(h:MLst ps n t M):ClM ps t fun i=>M.getD i false=true:=fun p hp hs=>h.clo p hp (by
 unfold wU_
 rw [List.all_eq_true]
 intro s hs'
 have:=hs s hs'
 unfold wh1
 by_cases e1:s.1=2
 ·have h2:=this.1 e1
  have e2:¬ s.1=1:=by omega
  rw [decide_eq_false e2,h2]
  simp
 ·by_cases e2:s.1=1
  ·rw [this.2 e2,decide_eq_false e1]
   simp
  ·rw [decide_eq_false e1,decide_eq_false e2]
   simp)
theorem MLst.one {ps:List PV}{n:Nat}{t:Bool}{M M':List Bool}(h:MLst ps n t M)(h':MLst ps n t M'):M=M':=bool_ext (h.len.trans h'.len.symm) fun i=>⟨fun q=>h.lst _ h'.closed i q,fun q=>h'.lst _ h.closed i q⟩
theorem RLst.closed {g:GV}{T N:List Bool}(h:RLst g T N):ClR g (fun i=>T.getD i false=true) fun i=>N.getD i false=true:=⟨h.st,fun p hp hl s hs=>h.clo p hp hl s hs⟩
theorem RLst.one {g:GV}{T N T' N':List Bool}(h:RLst g T N)(h':RLst g T' N'):T=T'/\N=N' :=
 ⟨bool_ext (h.tl.trans h'.tl.symm) fun i=>⟨fun q=>(h.lst _ _ h'.closed).2 i q,fun q=>(h'.lst _ _ h.closed).2 i q⟩,bool_ext (h.nl.trans h'.nl.symm) fun i=>⟨fun q=>(h.lst _ _ h'.closed).1 i q,fun q=>(h'.lst _ _ h.closed).1 i q⟩⟩
def digU (l:List (Int×Int)):List Int:=(l.filter fun p=>decide (p.1=p.2)).map Prod.fst
theorem digU_app (a b:List (Int×Int)):digU (a++b)=digU a++digU b:=by
 unfold digU
 rw [List.filter_append,List.map_append]
theorem dig_row (x:Nat):∀ (m N:Nat),digU (prR x (bitsU N m))=if x < m/\N.testBit x=true then [(x:Int)] else []
 | 0,N=>by
  rw [if_neg (by omega)]
  rfl
 | m+1,N=>by
  have ih:=dig_row x m N
  have e0:bitsU N (m+1)=bitsU N m++if N.testBit m=true then [m] else []:=by
   unfold bitsU
   rw [List.range_succ,List.filter_append]
   congr 1
   by_cases h:N.testBit m=true
   ·rw [List.filter_cons,if_pos h,if_pos h];rfl
   ·rw [List.filter_cons,if_neg h,if_neg h];rfl
  have e1:prR x (bitsU N (m+1))=prR x (bitsU N m)++prR x (if N.testBit m=true then [m] else []):=by
   rw [e0]
   unfold prR
   rw [List.map_append]
  rw [e1,digU_app,ih]
  by_cases h:N.testBit m=true
  ·rw [if_pos h]
   by_cases e:x=m
   ·subst e
    rw [if_neg (by omega),if_pos ⟨by omega,h⟩]
    simp [digU,prR]
   ·have:(x < m+1/\N.testBit x=true) ↔ (x < m/\N.testBit x=true):=by
     constructor
     ·rintro ⟨a,b⟩;exact ⟨by omega,b⟩
     ·rintro ⟨a,b⟩;exact ⟨by omega,b⟩
    simp only [this]
    have e2:digU (prR x [m])=[]:=by
     unfold digU prR
     rw [List.map_cons,List.map_nil,List.filter_cons,if_neg (by simp;omega)]
     rfl
    rw [e2,List.append_nil]
  ·rw [if_neg h]
   have:(x < m+1/\N.testBit x=true) ↔ (x < m/\N.testBit x=true):=by
    constructor
    ·rintro ⟨a,b⟩
     refine ⟨?_,b⟩
     by_cases e:x=m
     ·subst e;exact absurd b h
     ·omega
    ·rintro ⟨a,b⟩;exact ⟨by omega,b⟩
   simp only [this]
   have e2:digU (prR x [])=[]:=rfl
   rw [e2,List.append_nil]
theorem dig_off {Ms:List Nat}{O:List Bool}{m:Nat}:∀ n,n<=m->(∀ x,x < n->((Ms.getD x 0).testBit x=true ↔ O.getD x false=true))->digU (prU Ms m n)=offU true O n
 | 0,_,_=>rfl
 | n+1,hn,h=>by
  rw [prU_next,digU_app,dig_off n (by omega) (fun x hx=>h x (by omega)),offU_succ,dig_row]
  have:=h n (by omega)
  by_cases e:O.getD n false=true
  ·rw [if_pos e,if_pos ⟨by omega,this.2 e⟩]
  ·rw [if_neg e,if_neg (fun q=>e (this.1 q.2)),List.append_nil]
theorem null_mlst {g:GV}(hl:∀ p∈g.ps,0<=p.left/\p.left < g.ns.length)(hs:∀ p∈g.ps,∀ s∈p.right,s.1=1∨s.1=2):MLst g.ps g.ns.length false (nullU g.ps g.ns.length):=by
 refine ⟨by unfold nullU;rw [List.length_map,htU_len],fun p hp hw=>?_,fun C hC i hi=>?_⟩
 ·refine (nullU_iff _).2 (htU_closed g.ps g.ns.length hl p hp fun s hs'=>?_)
  have h1:=whole_in hw s hs'
  rcases hs p hp s hs' with e | e
  ·exact absurd (h1.2 e) (by decide)
  ·exact ⟨e,(nullU_iff _).1 (h1.1 e)⟩
 ·refine htU_least g.ps g.ns.length C (fun p hp hr=>hC p hp fun s hs'=>⟨fun _=>(hr s hs').2,fun e=>?_⟩) g.ns.length i ((nullU_iff i).1 hi)
  have:=(hr s hs').1
  omega
theorem made_listR (n:Nat)(v:Value):madeCells #[v] n=(List.replicate n v).toArray:=made_listB v n
theorem RO.neR {α:Type}{τ:TypeId}{k:Nat}{f:α->List Value}{w:World}{v:Value}{l:List α}(h:RO τ k f w v l){b:Nat}{C:Array Value}{t:TypeId}(hb:w.heap[b]?=some (.cells C t (0,0)))(ht:t≠τ):some b≠v.ownBlock:=by
 intro e
 rcases h.2 with ⟨rfl,_⟩ | ⟨g,cap,cur,rfl,_,hg,_⟩
 ·simp [Value.ownBlock] at e
 ·simp [Value.ownBlock] at e
  subst e
  rw [hb] at hg;simp at hg;exact ht hg.2
structure MxR (B n x:Nat)(w:World)(ks:List Nat)(Rs:List (List Bool))(wr:World):Prop where
 row:wr.heap[B]?=some (.cells ((ks.map fun k=>Value.slice (some ⟨k,0,none⟩) n n)++List.replicate (n - x) (Value.slice none 0 0)).toArray 83)
 kl:ks.length=x
 rl:Rs.length=x
 xn:x<=n
 nd:ks.Nodup
 blk:∀ (j k:Nat) (R:List Bool),ks[j]?=some k->Rs[j]?=some R->B<=k/\R.length=n/\wr.heap[k]?=some (.cells (R.map Value.bool).toArray 4)
 bel:Below B w wr
section
variable {B n x:Nat} {w wr w':World} {ks:List Nat} {Rs:List (List Bool)}
theorem MxR.any (h:MxR B n x w ks Rs wr)(hb:Below wr.heap.size wr w'):MxR B n x w ks Rs w' :=
 ⟨(hb.block _ (lt_of_block h.row)).trans h.row,h.kl,h.rl,h.xn,h.nd,fun j k R hk hR=>by
  obtain ⟨h1,h2,h3⟩:=h.blk j k R hk hR
  exact ⟨h1,h2,(hb.block _ (lt_of_block h3)).trans h3⟩,h.bel.trans (hb.mono (by have:=lt_of_block h.row;omega))⟩
theorem MxR.at (h:MxR B n x w ks Rs wr){j:Nat}(hj:j < x):∃ k R,ks[j]?=some k/\Rs[j]?=some R/\R=Rs.getD j []/\R.length=n/\wr.cell? ⟨B,j,none⟩=some (.slice (some ⟨k,0,none⟩) n n)/\wr.heap[k]?=some (.cells (R.map Value.bool).toArray 4):=by
 have hk:ks[j]?=some (ks[j]'(by rw [h.kl];exact hj)):=List.getElem?_eq_getElem _
 have hR:Rs[j]?=some (Rs[j]'(by rw [h.rl];exact hj)):=List.getElem?_eq_getElem _
 obtain ⟨h1,h2,h3⟩:=h.blk j _ _ hk hR
 refine ⟨_,_,hk,hR,by simp [List.getD,hR],h2,?_,h3⟩
 rw [cQa h.row]
 simp only [List.getElem?_toArray]
 rw [List.getElem?_append_left (by simp [h.kl];exact hj),List.getElem?_map,hk]
 rfl
theorem boR_cell {k:Nat}{R:List Bool}(h:wr.heap[k]?=some (.cells (R.map Value.bool).toArray 4)){y:Nat}(hy:y < R.length):wr.cell? ⟨k,y,none⟩=some (.bool (R.getD y false))/\wr.frozen? ⟨k,y,none⟩=false:=by
 refine ⟨?_,by simp [World.frozen?,h]⟩
 rw [cQa h]
 simp [List.getD,hy]
theorem MxR.put (h:MxR B n x w ks Rs wr){j k z:Nat}{R:List Bool}(hk:ks[j]?=some k)(hR:Rs[j]?=some R)(b:Bool):MxR B n x w ks (Rs.set j (R.set z b)) (wr.setCell ⟨k,z,none⟩ (.bool b)):=by
 obtain ⟨h1,h2,h3⟩:=h.blk j k R hk hR
 have hne:B≠k:=fun e=>by
  subst e
  rw [h.row] at h3
  simp only [Option.some.injEq,Obj.cells.injEq] at h3
  exact absurd h3.2.1 (by decide)
 have hf:=frB_setCell wr k z (Value.bool b)
 refine ⟨(hf.block _ (lt_of_block h.row) hne).trans h.row,h.kl,by rw [List.length_set];exact h.rl,h.xn,h.nd,fun j' k' R' hk' hR'=>?_,h.bel.setCell h1 _⟩
 have hjl:j < Rs.length:=(List.getElem?_eq_some_iff.1 hR).1
 by_cases e:j=j'
 ·subst e
  rw [hk] at hk'
  obtain rfl:=Option.some.inj hk'
  rw [List.getElem?_set_self hjl] at hR'
  obtain rfl:=Option.some.inj hR'
  refine ⟨h1,by rw [List.length_set];exact h2,?_⟩
  rw [hSt h3,List.setIfInBounds_toArray,List.map_set]
 ·rw [List.getElem?_set_ne e] at hR'
  obtain ⟨q1,q2,q3⟩:=h.blk j' k' R' hk' hR'
  have hkk:k'≠k:=fun ek=>by
   subst ek
   have a1:=(List.getElem?_eq_some_iff.1 hk)
   have a2:=(List.getElem?_eq_some_iff.1 hk')
   have nd:=List.pairwise_iff_getElem.1 h.nd
   rcases Nat.lt_or_gt_of_ne e with q | q
   ·exact nd j j' a1.1 a2.1 q (a1.2.trans a2.2.symm)
   ·exact nd j' j a2.1 a1.1 q (a2.2.trans a1.2.symm)
  exact ⟨q1,q2,(hf.block _ (lt_of_block q3) hkk).trans q3⟩
theorem MxR.more (h:MxR B n x w ks Rs wr)(hx:x < n):MxR B n (x+1) w (ks++[wr.heap.size]) (Rs++[List.replicate n false]) ((wr.alloc (.cells (madeCells #[.bool false] n) 4)).setCell ⟨B,x,none⟩ (.slice (some ⟨wr.heap.size,0,none⟩) n n)):=by
 have hB:=lt_of_block h.row
 have ha:=h.any (bAl wr (.cells (madeCells #[.bool false] n) 4))
 have hn:=heap_alloc_new wr (.cells (madeCells #[.bool false] n) 4)
 have hf:=frB_setCell (wr.alloc (.cells (madeCells #[.bool false] n) 4)) B x (.slice (some ⟨wr.heap.size,0,none⟩) n n)
 refine ⟨?_,by simp [h.kl],by simp [h.rl],hx,?_,fun j k R hk hR=>?_,ha.bel.setCell (Nat.le_refl _) _⟩
 ·rw [hSt ha.row,List.setIfInBounds_toArray]
  congr 3
  have hl:(ks.map fun k=>Value.slice (some ⟨k,0,none⟩) n n).length=x:=by rw [List.length_map,h.kl]
  rw [List.set_append_right _ _ (by omega),hl,Nat.sub_self,List.map_append,List.append_assoc]
  congr 1
  rw [show n - x=(n - (x+1))+1 by omega,List.replicate_succ]
  rfl
 ·rw [List.nodup_append]
  refine ⟨h.nd,by simp,fun a ha b hb e=>?_⟩
  have e2:a=wr.heap.size:=by simp at hb;omega
  obtain ⟨j,hj⟩:=List.getElem?_of_mem ha
  have hjx:j < Rs.length:=by rw [h.rl,<- h.kl];exact (List.getElem?_eq_some_iff.1 hj).1
  have:=lt_of_block (h.blk j a _ hj (List.getElem?_eq_getElem hjx)).2.2
  omega
 ·rcases Nat.lt_or_ge j x with q | q
  ·rw [List.getElem?_append_left (by rw [h.kl];exact q)] at hk
   rw [List.getElem?_append_left (by rw [h.rl];exact q)] at hR
   obtain ⟨q1,q2,q3⟩:=ha.blk j k R hk hR
   have hne:k≠B:=fun e=>by
    subst e
    rw [ha.row] at q3
    simp only [Option.some.injEq,Obj.cells.injEq] at q3
    exact absurd q3.2.1 (by decide)
   exact ⟨q1,q2,(hf.block _ (lt_of_block q3) hne).trans q3⟩
  ·rw [List.getElem?_append_right (by rw [h.kl];exact q)] at hk
   rw [List.getElem?_append_right (by rw [h.rl];exact q)] at hR
   have h0:j - ks.length=0:=by have:=(List.getElem?_eq_some_iff.1 hk).1;simp at this;omega
   rw [h0] at hk
   rw [show j - Rs.length=0 by have:=h.kl;have:=h.rl;omega] at hR
   simp at hk hR
   subst hk hR
   refine ⟨by omega,by simp,?_⟩
   rw [hf.block _ (lt_of_block hn) (by show wr.heap.size≠B;omega),hn,made_listR]
   simp
theorem MxR.old (h:MxR B n x w ks Rs wr)(hx:x < n)(o:Obj):(wr.alloc o).cell? ⟨B,x,none⟩=some (.slice none 0 0)/\(wr.alloc o).frozen? ⟨B,x,none⟩=false:=by
 have r:=(h.any (bAl wr o)).row
 refine ⟨?_,by simp [World.frozen?,r]⟩
 rw [cQa r]
 have hl:(ks.map fun k=>Value.slice (some ⟨k,0,none⟩) n n).length=x:=by rw [List.length_map,h.kl]
 simp only [List.getElem?_toArray]
 rw [List.getElem?_append_right (by omega),hl,List.getElem?_replicate,if_pos (by omega)]
end
structure CX (g:GV)(w w2:World)(mb gb k:Nat)(NU:List Bool)(ks:List Nat)(Rs:List (List Bool))(wr:World):Prop where
 mx:MxR gb g.ns.length k w2 ks Rs wr
 nu:BB wr mb NU
 ord:w.heap.size < mb/\mb < gb
 box:wr.heap[w.heap.size]?=some (gBox g)
 bel:Below w.heap.size w wr
section
variable {g:GV} {w w2 wr w':World} {mb gb k:Nat} {NU:List Bool} {ks:List Nat} {Rs:List (List Bool)}
theorem CX.any (h:CX g w w2 mb gb k NU ks Rs wr)(hb:Below wr.heap.size wr w'):CX g w w2 mb gb k NU ks Rs w' :=
 ⟨h.mx.any hb,h.nu.later hb,h.ord,(hb.block _ (lt_of_block h.box)).trans h.box,h.bel.trans (hb.mono h.bel.size)⟩
theorem CX.fill (h:CX g w w2 mb gb k NU ks Rs wr)(hk:k < g.ns.length):CX g w w2 mb gb (k+1) NU (ks++[wr.heap.size]) (Rs++[List.replicate g.ns.length false]) ((wr.alloc (.cells (madeCells #[.bool false] g.ns.length) 4)).setCell ⟨gb,k,none⟩ (.slice (some ⟨wr.heap.size,0,none⟩) g.ns.length g.ns.length)):=by
 have h1:=h.any (bAl wr (.cells (madeCells #[.bool false] g.ns.length) 4))
 have ho:=h.ord
 exact ⟨h.mx.more hk,h1.nu.kept (Below.heap_setCell _ _ _ _ (by show mb≠gb;omega)),h.ord,(Below.heap_setCell _ _ _ _ (by show w.heap.size≠gb;omega)).trans h1.box,h1.bel.setCell (p:=⟨gb,k,none⟩) (by show w.heap.size<=gb;omega) _⟩
theorem CX.put (h:CX g w w2 mb gb k NU ks Rs wr){i b:Nat}{R:List Bool}(hk:ks[i]?=some b)(hR:Rs[i]?=some R)(j:Nat)(v:Bool):CX g w w2 mb gb k NU ks (Rs.set i (R.set j v)) (wr.setCell ⟨b,j,none⟩ (.bool v)):=by
 have ho:=h.ord
 have hb:=(h.mx.blk i b R hk hR).1
 exact ⟨h.mx.put hk hR v,h.nu.kept (Below.heap_setCell _ _ _ _ (by show mb≠b;omega)),h.ord,(Below.heap_setCell _ _ _ _ (by show w.heap.size≠b;omega)).trans h.box,h.bel.setCell (p:=⟨b,j,none⟩) (by show w.heap.size<=b;omega) _⟩
end
def GvI (n:Nat)(L:List (Int×Int))(Rs:List (List Bool)):Prop:=∀ a b,a < n->b < n->((Rs.getD a []).getD b false=true ↔ ((a:Int),(b:Int))∈L)
theorem GvI.start (n:Nat):GvI n [] (List.replicate n (List.replicate n false)):=fun a b ha hb=>by
 have e:(List.replicate n (List.replicate n false)).getD a []=List.replicate n false:=by
  rw [List.getD_eq_getElem?_getD,List.getElem?_replicate,if_pos ha]
  rfl
 rw [e,repl_getR]
 simp
theorem GvI.put {n m e:Nat}{L:List (Int×Int)}{Rs:List (List Bool)}{R:List Bool}(h:GvI n L Rs)(hm:m < n)(he:e < n)(hl:Rs.length=n)(hR:Rs[m]?=some R)(hr:R.length=n):GvI n (L++[((m:Int),(e:Int))]) (Rs.set m (R.set e true)):=fun a b ha hb=>by
 have hR2:Rs.getD m []=R:=by rw [List.getD_eq_getElem?_getD,hR];rfl
 have hg:(Rs.set m (R.set e true)).getD a []=if m=a then R.set e true else Rs.getD a []:=by
  rw [List.getD_eq_getElem?_getD,List.getElem?_set]
  by_cases q:m=a
  ·subst q
   rw [if_pos rfl,if_pos rfl,if_pos (by omega)]
   rfl
  ·rw [if_neg q,if_neg q,List.getD_eq_getElem?_getD]
 have h0:=h a b ha hb
 rw [hg,List.mem_append,List.mem_singleton]
 by_cases q:m=a
 ·subst q
  rw [if_pos rfl,getD_setR]
  by_cases q2:e=b
  ·subst q2
   rw [if_pos ⟨rfl,by omega⟩]
   exact ⟨fun _=>.inr rfl,fun _=>rfl⟩
  ·rw [if_neg (fun z=>q2 z.1),<- hR2,h0]
   refine ⟨.inl,fun z=>z.resolve_right fun c=>q2 ?_⟩
   have:=(Prod.mk.injEq _ _ _ _).mp c
   omega
 ·rw [if_neg q,h0]
  refine ⟨.inl,fun z=>z.resolve_right fun c=>q ?_⟩
  have:=(Prod.mk.injEq _ _ _ _).mp c
  omega
theorem al_take {N:List Bool}{ps:List PV}{k:Nat}{p:PV}(hk:k < ps.length)(hp:ps.getD k .none=p):alU N (ps.take (k+1))=alU N (ps.take k)++alK N p p.right.length:=by
 have e:ps.take (k+1)=ps.take k++[p]:=by
  rw [List.take_add_one,List.getElem?_eq_getElem hk]
  rw [List.getD_eq_getElem?_getD,List.getElem?_eq_getElem hk] at hp
  simp only [Option.getD_some] at hp
  rw [hp]
  rfl
 unfold alU
 rw [e,List.flatMap_append]
 simp [alP]
theorem al_cond {N:List Bool}{p:PV}{q:Nat}(hs:∀ s∈p.right,s.1=1∨s.1=2):(vanU N (p.right.take q)=true/\vanU N (p.right.drop (q+1))=true) ↔ wU_ false N (p.right.take q++p.right.drop (q+1))=true:=by
 rw [van_whole (fun s hs'=>hs s (by
  rcases List.mem_append.1 hs' with h | h
  ·exact List.mem_of_mem_take h
  ·exact List.mem_of_mem_drop h))]
 unfold vanU
 rw [List.all_append,Bool.and_eq_true]
def CirO (g:GV)(w:World)(e:Ending)(w':World):Prop:=∃ b M NU,e=.returned (.slice (some ⟨b,0,none⟩) g.ns.length g.ns.length)/\M.length=g.ns.length/\MLst g.ps g.ns.length false NU/\(∀ a,a < g.ns.length->(M.getD a false=true ↔ TrE (alU NU g.ps) a a))/\BB w' b M/\w.heap.size<=b/\Below w.heap.size w w'
theorem circles_X (g:GV)(w:World)(hfg:FG w g)(hcap:∀ p∈g.ps,p.right.length<=p.rc) :
  Calls Tryz.prog 39 #[g.val] w fun e w'=>CirO g w e w':=by
 have X0:Hid ((w.alloc (gBox g)).heap[w.heap.size]?=some (gBox g)):=heap_alloc_new _ _
 have HFG:Hid (∀ w',Below w.heap.size w w'->FG w' g):=fun w' hb=>hfg.later hb
 have HCP:Hid (∀ p∈g.ps,p.right.length<=p.rc):=hcap
 have hmk:=make_boolF g.ns.length (by have:=hfg.nl;omega)
 have hmb:=make_blF g.ns.length (by have:=hfg.nl;omega)
 have hpl:=hfg.pl
 have hnl:=hfg.nl.2
 obtain ⟨x0,x1,x2,x3,x4⟩:=gbc X0.out
 have LC:Hid (Calls Tryz.prog 83 #[g.val] (w.alloc (gBox g)) fun e w'=>∃ b M,e=.returned (.slice (some ⟨b,0,none⟩) g.ns.length g.ns.length)/\MLst g.ps g.ns.length false M/\BB w' b M/\(w.alloc (gBox g)).heap.size<=b/\Below (w.alloc (gBox g)).heap.size (w.alloc (gBox g)) w'):=null7_R g _ (hfg.later (bAl _ _))
 have HED0:Hid (∀ NU a b,EdE (alU NU g.ps) a b->b < g.ns.length):=fun NU a b he=>by
  have:=(al_ok (n:=g.ns.length) (fun p hp=>hfg.left p hp) (fun p hp s hs e=>by rcases hfg.sym p hp s hs with z | z;omega;exact z.2) he).2.2
  omega
 clear hfg hcap
 go_enter Tryz.func39,Tryz.ntmps39
 go_wp2_with (go_at_call 83;refine LC.out.mono ?_;rintro e w2 ⟨mb,NU,rfl,m2,bb2,l2,b2⟩;have HML:Hid (MLst g.ps g.ns.length false NU):=m2;have B2:Hid (NU.length=g.ns.length/\BB w2 mb NU/\w.heap.size < mb/\w2.heap[w.heap.size]?=some (gBox g)/\Below w.heap.size w w2):=⟨m2.len,bb2,(by have:=l2;simp at this;omega),(b2.block _ (lt_of_block X0.out)).trans X0.out,(bAl w _).trans (b2.mono (bAl w _).size)⟩;clear m2 bb2 l2 b2 x0 x1 x2 x3 x4;obtain ⟨x0,x1,x2,x3,x4⟩:=gbc B2.out.2.2.2.1)
 have C0:Hid (CX g w w2 mb w2.heap.size 0 NU [] [] (w2.alloc (.cells (madeCells #[.slice none 0 0] g.ns.length) 83))):=by
  have bA:=bAl w2 (.cells (madeCells #[.slice none 0 0] g.ns.length) 83)
  obtain ⟨_,q2,q3,q4,q5⟩:=B2.out
  exact ⟨⟨by rw [heap_alloc_new,made_listR];rfl,rfl,rfl,Nat.zero_le _,List.nodup_nil,fun j k R hk=>by simp at hk,bAl w2 _⟩,q2.later bA,⟨q3,q2.lt⟩,(bA.block _ (lt_of_block q4)).trans q4,q5.trans (bA.mono q5.size)⟩
 have HNU:Hid (NU.length=g.ns.length):=B2.out.1
 have HED:Hid (∀ a b,EdE (alU NU g.ps) a b->b < g.ns.length):=HED0.out NU
 clear HED0
 clear x0 x1 x2 x3 x4
 obtain ⟨gb,hgb⟩:∃ gb,w2.heap.size=gb:=⟨_,rfl⟩
 rw [hgb] at C0 ⊢
 generalize Value.agg #[Value.slice g.ta g.ts.length g.tc,Value.slice g.na g.ns.length g.nc,Value.int .i64 g.start,Value.slice g.pa g.ps.length g.pc,Value.slice g.la g.ls.length g.lc]=v15
 go_loopw [5] (fun i wr=>∃ (k:Nat) (ks:List Nat),k<=g.ns.length/\i=.int .i64 k/\CX g w w2 mb gb k NU ks (List.replicate k (List.replicate g.ns.length false)) wr) (fun i _=>g.ns.length - (intOf i).toNat)
 case atStart=>exact ⟨0,[],Nat.zero_le _,rfl,C0.out⟩
 case round =>
  clear C0 B2 hgb
  obtain ⟨k,ks,hk,rfl,hC⟩:=hrel
  have HC:Hid (CX g w w2 mb gb k NU ks (List.replicate k (List.replicate g.ns.length false)) wr):=hC
  obtain ⟨x0,x1,x2,x3,x4⟩:=gbc hC.box
  by_cases hlt:k < g.ns.length
  ·have klt:(k:Int) < (g.ns.length:Int):=by omega
   obtain ⟨hv0,hf0⟩:=hC.mx.old hlt (.cells (madeCells #[.bool false] g.ns.length) 4)
   have R:Hid (CX g w w2 mb gb (k+1) NU (ks++[wr.heap.size]) (List.replicate (k+1) (List.replicate g.ns.length false)) ((wr.alloc (.cells (madeCells #[.bool false] g.ns.length) 4)).setCell ⟨gb,k,none⟩ (.slice (some ⟨wr.heap.size,0,none⟩) g.ns.length g.ns.length))):=by
    have:=hC.fill hlt
    rwa [<- List.replicate_succ'] at this
   clear hC
   go_wp2
   go_roundw
   case rel=>exact ⟨k+1,_,by omega,by go_num,R.out⟩
   case measure=>simp [intOf];omega
  ·have klt:¬ (k:Int) < (g.ns.length:Int):=by omega
   obtain rfl:k=g.ns.length:=by omega
   clear hC x0 x1 x2 x3 x4
   obtain ⟨wz,rfl⟩:∃ wz:World,wz=wr:=⟨_,rfl⟩
   go_wp2
   go_loopw [6] (fun i wr=>∃ (k:Nat) (ks:List Nat) (Rs:List (List Bool)),k<=g.ps.length/\i=.int .i64 k/\CX g w w2 mb gb g.ns.length NU ks Rs wr/\GvI g.ns.length (alU NU (g.ps.take k)) Rs) (fun i _=>g.ps.length - (intOf i).toNat)
   case atStart=>exact ⟨0,_,_,Nat.zero_le _,rfl,HC.out,GvI.start _⟩
   case round =>
    clear HC
    obtain ⟨k,ks,Rs,hk,rfl,hC,hG⟩:=hrel
    have HC:Hid (CX g w w2 mb gb g.ns.length NU ks Rs wr):=hC
    have HG:Hid (GvI g.ns.length (alU NU (g.ps.take k)) Rs):=hG
    clear hG
    obtain ⟨x0,x1,x2,x3,x4⟩:=gbc hC.box
    by_cases hlt:k < g.ps.length
    ·have klt:(k:Int) < (g.ps.length:Int):=by omega
     have hmem:g.ps.getD k .none∈g.ps:=by simp [List.getD,hlt]
     obtain ⟨p,hp⟩:∃ p,g.ps.getD k .none=p:=⟨_,rfl⟩
     have HPC:Hid (∀ w',Below w.heap.size w w'->∃ b o,g.pa=some ⟨b,o,none⟩/\w'.cell? ⟨b,o+k*3,none⟩=some (.int .i64 p.left)/\w'.cell? ⟨b,o+k*3+1,none⟩=some (.slice p.ra p.right.length p.rc)):=fun w' hb=>by
      obtain ⟨b,o,hpa,hbl,hc⟩:=(HFG.out _ hb).p.cells (by intro e;rw [e] at hlt;simp at hlt)
      obtain ⟨c0,c1,c2⟩:=hc k hlt
      rw [hp] at c0 c1
      exact ⟨b,o,hpa,c0,c1⟩
     rw [hp] at hmem
     have HRO:Hid (∀ w',Below w.heap.size w w'->SymRow w' p.ra p.right):=fun w' hb=>(HFG.out _ hb).p.rows _ hmem
     have hrc:=HCP.out _ hmem
     obtain ⟨l0,l1⟩:=(HFG.out _ hC.bel).left _ hmem
     have hrl:=(HFG.out _ hC.bel).rl _ hmem
     have HSY:Hid (∀ s∈p.right,(s.1=1/\0<=s.2/\s.2 < g.ts.length)∨(s.1=2/\0<=s.2/\s.2 < g.ns.length)):=(HFG.out _ hC.bel).sym _ hmem
     have HTK:Hid (alU NU (g.ps.take (k+1))=alU NU (g.ps.take k)++alK NU p p.right.length):=al_take hlt hp
     obtain ⟨m,hm⟩:∃ m:Nat,p.left=(m:Int):=⟨p.left.toNat,by omega⟩
     have mlt:(m:Int) < (g.ns.length:Int):=by omega
     rw [hm] at HPC
     obtain ⟨pb,po,hpa,c0,c1⟩:=HPC.out _ hC.bel
     have x3':=x3
     rw [hpa] at x3'
     have HPL:Hid (p.left=(m:Int)):=hm
     obtain ⟨pr,hpr0⟩:∃ pr,p.right=pr:=⟨_,rfl⟩
     obtain ⟨pra,hpra⟩:∃ pra,p.ra=pra:=⟨_,rfl⟩
     obtain ⟨prc,hprc⟩:∃ prc,p.rc=prc:=⟨_,rfl⟩
     have HPR:Hid (p.right=pr):=hpr0
     rw [hpr0,hpra] at HRO
     rw [hpr0] at hrl HSY hrc
     rw [hprc] at hrc
     rw [hpr0,hpra,hprc] at c1
     simp only [hpr0,hpra,hprc] at HPC
     clear hmem hp hm l0 l1 hC x3 hpr0 hpra hprc
     have G0:Hid (GvI g.ns.length (alU NU (g.ps.take k)++alK NU p 0) Rs):=by
      have:=HG.out
      have e:alK NU p 0=[]:=rfl
      rw [e,List.append_nil]
      exact this
     clear HG
     obtain ⟨wy,rfl⟩:∃ wy:World,wy=wr:=⟨_,rfl⟩
     go_wp2
     go_loopw [8] (fun i wr=>∃ (q:Nat) (ks:List Nat) (Rs:List (List Bool)),q<=pr.length/\i=.int .i64 q/\CX g w w2 mb gb g.ns.length NU ks Rs wr/\GvI g.ns.length (alU NU (g.ps.take k)++alK NU p q) Rs) (fun i _=>pr.length - (intOf i).toNat)
     case atStart=>exact ⟨0,_,_,Nat.zero_le _,rfl,HC.out,G0.out⟩
     case round =>
      clear x0 x1 x2 x3' x4 c0 c1 HC G0
      obtain ⟨q,ks,Rs,hq,rfl,hC,hG⟩:=hrel
      have HC:Hid (CX g w w2 mb gb g.ns.length NU ks Rs wr):=hC
      have HG:Hid (GvI g.ns.length (alU NU (g.ps.take k)++alK NU p q) Rs):=hG
      clear hG
      by_cases hql:q < pr.length
      ·have qlt:(q:Int) < (pr.length:Int):=by omega
       obtain ⟨sb,so,hpr,hsl,hsc⟩:=HRO.out _ hC.bel (by intro e;rw [e] at hql;simp at hql)
       subst hpr
       have HSR:Hid (∀ w',Below w.heap.size w w'->SymRow w' (some ⟨sb,so,none⟩) pr):=HRO
       have hs1:=slice_toS sb so prc pr.length q (by omega)
       obtain ⟨o2,c2,hs2,hr2⟩:=slice_froS sb so prc pr.length (q+1) (by omega) hrc
       have HR2:Hid (∀ w',Below w.heap.size w w'->SymRow w' (some ⟨sb,o2,none⟩) (pr.drop (q+1))):=fun w' hb=>hr2 w' _ rfl (HSR.out w' hb)
       simp only [show ((q+1:Nat):Int)=(q:Int)+1 from rfl] at hs2
       clear hr2 hsc hsl hC
       obtain ⟨x,hx⟩:∃ x,pr.getD q (0,0)=x:=⟨_,rfl⟩
       have HSC:Hid (∀ w',Below w.heap.size w w'->w'.cell? ⟨sb,so+q*2,none⟩=some (.int .i64 x.1)/\w'.cell? ⟨sb,so+q*2+1,none⟩=some (.int .i64 x.2)):=fun w' hb=>by
        obtain ⟨b',o',e,_,hc⟩:=HSR.out w' hb (by intro e;rw [e] at hql;simp at hql)
        simp at e
        obtain ⟨rfl,rfl⟩:=e
        rw [<- hx]
        exact hc q hql
       have hin:=HSY.out x (by rw [<- hx];simp [List.getD,hql])
       obtain ⟨y1,y2⟩:=x
       simp only at HSC hin
       have HST:Hid (alK NU p (q+1)=alK NU p q++if y1=2/\wU_ false NU (pr.take q++pr.drop (q+1))=true then [((m:Int),y2)] else []):=by
        show _=_
        rw [alK_succ]
        have e1:p.right.getD q (0,0)=(y1,y2):=by rw [HPR.out];exact hx
        have e2:=al_cond (N:=NU) (p:=p) (q:=q) (fun s hs=>by rw [HPR.out] at hs;rcases HSY.out s hs with z | z;exact .inl z.1;exact .inr z.1)
        rw [e1,HPL.out]
        rw [HPR.out] at e2 ⊢
        simp only [e2]
       have GO:Hid True:=trivial
       clear hx
       rcases hin with ⟨h1,i0,i1⟩ | ⟨h1,i0,i1⟩
       ·have t2:(y1 == 2)=false:=by rw [h1];decide
        have HN:Hid (GvI g.ns.length (alU NU (g.ps.take k)++alK NU p (q+1)) Rs):=by
         show GvI _ _ _
         rw [HST.out,if_neg (by omega),List.append_nil]
         exact HG.out
        clear h1 HST HG
        go_wp2_with (first
         | (at_builtin;guard_hyp GO:Hid True;clear GO;refine wpList_sy_cat rfl _ _ rfl (.slice none 0 0) [] rfl (SY.nil _) sb so prc q (pr.take q) rfl (by rw [List.length_take];omega) ((HSR.out _ HC.out.bel).takeS q) (by simp;omega) ?_;intro a4 n4 c4 w4 ho4 hg4;obtain ⟨q1,q2⟩:=gBi (Below.refl wr.heap.size wr) (fun j hj=>by simp [Value.ownBlock] at hj) hg4;have R4:Hid (SY w4 (.slice a4 n4 c4) (pr.take q)/\(∀ j,(Value.slice a4 n4 c4).ownBlock=some j->wr.heap.size<=j)/\Below wr.heap.size wr w4/\CX g w w2 mb gb g.ns.length NU ks Rs w4):=⟨by simpa using ho4,q2,q1,HC.out.any q1⟩;clear ho4 hg4 q1 q2)
         | (at_builtin;refine wpList_sy_cat rfl _ _ rfl (.slice a4 n4 c4) (pr.take q) rfl R4.out.1 sb o2 c2 (pr.length - (q+1)) (pr.drop (q+1)) rfl (by rw [List.length_drop]) (HR2.out _ R4.out.2.2.2.bel) (by rw [List.length_take,List.length_drop];omega) ?_;intro a5 n5 c5 w5 ho5 hg5;obtain ⟨_,_,en⟩:=sy_len ho5;simp only [Value.slice.injEq] at en;obtain ⟨rfl,rfl,rfl⟩:=en;obtain ⟨q1,q2⟩:=gBi R4.out.2.2.1 R4.out.2.1 hg5;have R5:Hid (SY w5 (.slice a5 (pr.take q++pr.drop (q+1)).length c5) (pr.take q++pr.drop (q+1))/\CX g w w2 mb gb g.ns.length NU ks Rs w5):=⟨ho5,HC.out.any q1⟩;clear ho5 hg5 q1 q2;obtain ⟨s0,s1⟩:=HSC.out _ R5.out.2.bel))
        go_roundw
        case rel=>exact ⟨q+1,_,_,by omega,by go_num,R5.out.2,HN.out⟩
        case measure=>simp [intOf];omega
       ·have t2:(y1 == 2)=true:=by simpa using h1
        have HST2:Hid (alK NU p (q+1)=alK NU p q++if wU_ false NU (pr.take q++pr.drop (q+1))=true then [((m:Int),y2)] else []):=by
         show _=_
         rw [HST.out]
         simp only [h1,true_and]
        clear h1 HST
        have HRS:Hid (∀ s∈pr.take q++pr.drop (q+1),s.1=2->0<=s.2/\s.2 < g.ns.length):=fun s hs e=>by
         have:s∈pr:=by
          rcases List.mem_append.1 hs with h | h
          ·exact List.mem_of_mem_take h
          ·exact List.mem_of_mem_drop h
         rcases HSY.out s this with z | z
         ·omega
         ·exact z.2
        have HWL:Hid (∀ (w':World) (a:Option Addr) (n c:Nat),n=q+(pr.length - (q+1))->BB w' mb NU->SymRow w' a (pr.take q++pr.drop (q+1))->Calls Tryz.prog 60 #[.slice a n c,.slice (some ⟨mb,0,none⟩) g.ns.length g.ns.length,.bool false] w' fun e w''=>e=.returned (.bool (wU_ false NU (pr.take q++pr.drop (q+1))))/\w'=w''):=fun w' a n c hn hb hr=>by
         have hn2:n=(pr.take q++pr.drop (q+1)).length:=by rw [hn,List.length_append,List.length_take,List.length_drop];omega
         subst hn2
         have:=whole_R (some ⟨mb,0,none⟩) g.ns.length NU a c (pr.take q++pr.drop (q+1)) false w' hb.row hr (by rw [List.length_append,List.length_take,List.length_drop];omega) (by rw [HNU.out];omega) (by rw [HNU.out];exact HRS.out)
         rwa [HNU.out] at this
        generalize wU_ false NU (pr.take q++pr.drop (q+1))=wv at HWL HST2
        clear HRS
        cases wv
        ·have HN:Hid (GvI g.ns.length (alU NU (g.ps.take k)++alK NU p (q+1)) Rs):=by
          show GvI _ _ _
          rw [HST2.out,if_neg (by decide),List.append_nil]
          exact HG.out
         clear HST2 HG
         go_wp2_with (first
          | (at_builtin;guard_hyp GO:Hid True;clear GO;refine wpList_sy_cat rfl _ _ rfl (.slice none 0 0) [] rfl (SY.nil _) sb so prc q (pr.take q) rfl (by rw [List.length_take];omega) ((HSR.out _ HC.out.bel).takeS q) (by simp;omega) ?_;intro a4 n4 c4 w4 ho4 hg4;obtain ⟨q1,q2⟩:=gBi (Below.refl wr.heap.size wr) (fun j hj=>by simp [Value.ownBlock] at hj) hg4;have R4:Hid (SY w4 (.slice a4 n4 c4) (pr.take q)/\(∀ j,(Value.slice a4 n4 c4).ownBlock=some j->wr.heap.size<=j)/\Below wr.heap.size wr w4/\CX g w w2 mb gb g.ns.length NU ks Rs w4):=⟨by simpa using ho4,q2,q1,HC.out.any q1⟩;clear ho4 hg4 q1 q2)
          | (at_builtin;refine wpList_sy_cat rfl _ _ rfl (.slice a4 n4 c4) (pr.take q) rfl R4.out.1 sb o2 c2 (pr.length - (q+1)) (pr.drop (q+1)) rfl (by rw [List.length_drop]) (HR2.out _ R4.out.2.2.2.bel) (by rw [List.length_take,List.length_drop];omega) ?_;intro a5 n5 c5 w5 ho5 hg5;obtain ⟨_,_,en⟩:=sy_len ho5;simp only [Value.slice.injEq] at en;obtain ⟨rfl,rfl,rfl⟩:=en;obtain ⟨q1,q2⟩:=gBi R4.out.2.2.1 R4.out.2.1 hg5;have R5:Hid (SY w5 (.slice a5 (pr.take q++pr.drop (q+1)).length c5) (pr.take q++pr.drop (q+1))/\CX g w w2 mb gb g.ns.length NU ks Rs w5):=⟨ho5,HC.out.any q1⟩;clear ho5 hg5 q1 q2;obtain ⟨s0,s1⟩:=HSC.out _ R5.out.2.bel)
          | (go_at_call 60;refine (HWL.out _ a5 _ c5 rfl R5.out.2.nu R5.out.1.row).mono ?_;rintro e w6 ⟨rfl,rfl⟩))
         go_roundw
         case rel=>exact ⟨q+1,_,_,by omega,by go_num,R5.out.2,HN.out⟩
         case measure=>simp [intOf];omega
        ·go_wp2_with (first
          | (at_builtin;guard_hyp GO:Hid True;clear GO;refine wpList_sy_cat rfl _ _ rfl (.slice none 0 0) [] rfl (SY.nil _) sb so prc q (pr.take q) rfl (by rw [List.length_take];omega) ((HSR.out _ HC.out.bel).takeS q) (by simp;omega) ?_;intro a4 n4 c4 w4 ho4 hg4;obtain ⟨q1,q2⟩:=gBi (Below.refl wr.heap.size wr) (fun j hj=>by simp [Value.ownBlock] at hj) hg4;have R4:Hid (SY w4 (.slice a4 n4 c4) (pr.take q)/\(∀ j,(Value.slice a4 n4 c4).ownBlock=some j->wr.heap.size<=j)/\Below wr.heap.size wr w4/\CX g w w2 mb gb g.ns.length NU ks Rs w4):=⟨by simpa using ho4,q2,q1,HC.out.any q1⟩;clear ho4 hg4 q1 q2)
          | (at_builtin;refine wpList_sy_cat rfl _ _ rfl (.slice a4 n4 c4) (pr.take q) rfl R4.out.1 sb o2 c2 (pr.length - (q+1)) (pr.drop (q+1)) rfl (by rw [List.length_drop]) (HR2.out _ R4.out.2.2.2.bel) (by rw [List.length_take,List.length_drop];omega) ?_;intro a5 n5 c5 w5 ho5 hg5;obtain ⟨_,_,en⟩:=sy_len ho5;simp only [Value.slice.injEq] at en;obtain ⟨rfl,rfl,rfl⟩:=en;obtain ⟨q1,q2⟩:=gBi R4.out.2.2.1 R4.out.2.1 hg5;have R5:Hid (SY w5 (.slice a5 (pr.take q++pr.drop (q+1)).length c5) (pr.take q++pr.drop (q+1))/\CX g w w2 mb gb g.ns.length NU ks Rs w5):=⟨ho5,HC.out.any q1⟩;clear ho5 hg5 q1 q2;obtain ⟨s0,s1⟩:=HSC.out _ R5.out.2.bel)
          | (go_at_call 60;refine (HWL.out _ a5 _ c5 rfl R5.out.2.nu R5.out.1.row).mono ?_;rintro e w6 ⟨rfl,rfl⟩))
         obtain ⟨x0,x1,x2,x3,x4⟩:=gbc R5.out.2.box
         obtain ⟨pb',po',hpa',c0,c1⟩:=HPC.out _ R5.out.2.bel
         rw [hpa] at x3 hpa'
         simp only [Option.some.injEq,Addr.mk.injEq,and_true] at hpa'
         obtain ⟨rfl,rfl⟩:=hpa'
         obtain ⟨rb,M,ek,eR,_,lM,gc,bbM⟩:=R5.out.2.mx.at (j:=m) (by omega)
         obtain ⟨ee,rfl⟩:∃ e:Nat,y2=(e:Int):=⟨y2.toNat,by omega⟩
         obtain ⟨cM,fM⟩:=boR_cell bbM (y:=ee) (by omega)
         have RS:Hid (CX g w w2 mb gb g.ns.length NU ks (Rs.set m (M.set ee true)) (w5.setCell ⟨rb,ee,none⟩ (.bool true))):=R5.out.2.put ek eR ee true
         have HN:Hid (GvI g.ns.length (alU NU (g.ps.take k)++alK NU p (q+1)) (Rs.set m (M.set ee true))):=by
          show GvI _ _ _
          rw [HST2.out,if_pos trivial,<- List.append_assoc]
          exact HG.out.put (by omega) (by omega) (by rw [R5.out.2.mx.rl]) eR lM
         clear bbM lM ek eR x0 x1 x2 x4 c1 HST2 HG
         go_region
         have RT:Hid (CX g w w2 mb gb g.ns.length NU ks (Rs.set m (M.set ee true)) (w5.setCell ⟨rb,ee,none⟩ (.bool true)).drew):=RS.out.any (Below.refl _ _).drew
         clear RS x3 c0 gc cM fM
         generalize (w5.setCell ⟨rb,ee,none⟩ (.bool true)).drew=wt at *
         go_wp2
         go_roundw
         case rel=>exact ⟨q+1,_,_,by omega,by go_num,RT.out,HN.out⟩
         case measure=>simp [intOf];omega
      ·have qlt:¬ (q:Int) < (pr.length:Int):=by omega
       have HN:Hid (GvI g.ns.length (alU NU (g.ps.take (k+1))) Rs):=by
        show GvI _ _ _
        rw [HTK.out,HPR.out]
        obtain rfl:q=pr.length:=by omega
        exact HG.out
       clear hC HG
       go_wp2
       go_roundw
       case rel=>exact ⟨k+1,_,_,by omega,by go_num,HC.out,HN.out⟩
       case measure=>simp [intOf];omega
    ·have klt:¬ (k:Int) < (g.ps.length:Int):=by omega
     have W0:Hid (WaI (EdE (alU NU g.ps)) g.ns.length 0 0 0 Rs):=by
      have e:g.ps.take k=g.ps:=List.take_of_length_le (by omega)
      have:=HG.out
      rw [e] at this
      exact WaI.start HC.out.mx.rl (fun a ha=>by obtain ⟨_,R,_,_,e1,e2,_⟩:=HC.out.mx.at ha;rw [<- e1];exact e2) this
     clear hC HG
     obtain ⟨wy,rfl⟩:∃ wy:World,wy=wr:=⟨_,rfl⟩
     go_wp2
     clear x0 x1 x2 x3 x4
     go_loopw [10] (fun i wr=>∃ (k:Nat) (ks:List Nat) (Rs:List (List Bool)),k<=g.ns.length/\i=.int .i64 k/\CX g w w2 mb gb g.ns.length NU ks Rs wr/\WaI (EdE (alU NU g.ps)) g.ns.length k 0 0 Rs) (fun i _=>g.ns.length - (intOf i).toNat)
     case atStart=>exact ⟨0,_,_,Nat.zero_le _,rfl,HC.out,W0.out⟩
     case round =>
      clear HC klt W0
      obtain ⟨k,ks,Rs,hk,rfl,hC,hW⟩:=hrel
      have HC:Hid (CX g w w2 mb gb g.ns.length NU ks Rs wr):=hC
      have HW:Hid (WaI (EdE (alU NU g.ps)) g.ns.length k 0 0 Rs):=hW
      clear hW
      by_cases hlt:k < g.ns.length
      ·have klt:(k:Int) < (g.ns.length:Int):=by omega
       clear hC
       obtain ⟨wv,rfl⟩:∃ wv:World,wv=wr:=⟨_,rfl⟩
       go_wp2
       go_loopw [11] (fun i wr=>∃ (i0:Nat) (ks:List Nat) (Rs:List (List Bool)),i0<=g.ns.length/\i=.int .i64 i0/\CX g w w2 mb gb g.ns.length NU ks Rs wr/\WaI (EdE (alU NU g.ps)) g.ns.length k i0 0 Rs) (fun i _=>g.ns.length - (intOf i).toNat)
       case atStart=>exact ⟨0,_,_,Nat.zero_le _,rfl,HC.out,HW.out⟩
       case round =>
        clear HC HW
        obtain ⟨i,ks,Rs,hi,rfl,hC,hW⟩:=hrel
        have HC:Hid (CX g w w2 mb gb g.ns.length NU ks Rs wr):=hC
        have HW:Hid (WaI (EdE (alU NU g.ps)) g.ns.length k i 0 Rs):=hW
        clear hW
        by_cases hilt:i < g.ns.length
        ·have ilt:(i:Int) < (g.ns.length:Int):=by omega
         clear hC
         obtain ⟨wu,rfl⟩:∃ wu:World,wu=wr:=⟨_,rfl⟩
         go_wp2
         go_loopw [12] (fun j wr=>∃ (j0:Nat) (ks:List Nat) (Rs:List (List Bool)),j0<=g.ns.length/\j=.int .i64 j0/\CX g w w2 mb gb g.ns.length NU ks Rs wr/\WaI (EdE (alU NU g.ps)) g.ns.length k i j0 Rs) (fun j _=>g.ns.length - (intOf j).toNat)
         case atStart=>exact ⟨0,_,_,Nat.zero_le _,rfl,HC.out,HW.out⟩
         case round =>
          clear HC HW
          obtain ⟨j,ks,Rs,hj,rfl,hC,hW⟩:=hrel
          have HC:Hid (CX g w w2 mb gb g.ns.length NU ks Rs wr):=hC
          have HW:Hid (WaI (EdE (alU NU g.ps)) g.ns.length k i j Rs):=hW
          clear hW
          by_cases hjlt:j < g.ns.length
          ·have jlt:(j:Int) < (g.ns.length:Int):=by omega
           obtain ⟨ri,Mi,ei,eRi,eMi,li,gi,bi⟩:=hC.mx.at (j:=i) hilt
           obtain ⟨rk,Mk,ek,eRk,eMk,lk,gk,bk⟩:=hC.mx.at (j:=k) hlt
           obtain ⟨ci,_⟩:=boR_cell bi (y:=k) (by omega)
           obtain ⟨ck,_⟩:=boR_cell bk (y:=j) (by omega)
           obtain ⟨cj,fj⟩:=boR_cell bi (y:=j) (by omega)
           have RS:Hid (CX g w w2 mb gb g.ns.length NU ks (Rs.set i (Mi.set j true)) (wr.setCell ⟨ri,j,none⟩ (.bool true))):=hC.put ei eRi j true
           have WY:Hid (Mi.getD k false=true->Mk.getD j false=true->WaI (EdE (alU NU g.ps)) g.ns.length k i (j+1) (Rs.set i (Mi.set j true))):=fun q1 q2=>by
            have:=HW.out.yes hilt hjlt hlt (by rw [<- eMi];exact q1) (by rw [<- eMk];exact q2)
            rwa [<- eMi] at this
           have WN:Hid (¬ (Mi.getD k false=true/\Mk.getD j false=true)->WaI (EdE (alU NU g.ps)) g.ns.length k i (j+1) Rs):=fun q=>HW.out.no hilt hjlt hlt (by rw [<- eMi,<- eMk];exact q)
           clear bi bk li lk ei ek eRi eRk eMi eMk hC HW
           generalize Mi.getD k false=ba at *
           generalize Mk.getD j false=bb at *
           generalize Mi.getD j false=bc at *
           cases ba<;>cases bb
           ·go_wp2
            go_roundw
            case rel=>exact ⟨j+1,_,_,by omega,by go_num,HC.out,WN.out (by simp)⟩
            case measure=>simp [intOf];omega
           ·go_wp2
            go_roundw
            case rel=>exact ⟨j+1,_,_,by omega,by go_num,HC.out,WN.out (by simp)⟩
            case measure=>simp [intOf];omega
           ·go_wp2
            go_roundw
            case rel=>exact ⟨j+1,_,_,by omega,by go_num,HC.out,WN.out (by simp)⟩
            case measure=>simp [intOf];omega
           ·go_wp2
            go_roundw
            case rel=>exact ⟨j+1,_,_,by omega,by go_num,RS.out,WY.out rfl rfl⟩
            case measure=>simp [intOf];omega
          ·have jlt:¬ (j:Int) < (g.ns.length:Int):=by omega
           have HN:Hid (WaI (EdE (alU NU g.ps)) g.ns.length k (i+1) 0 Rs):=by
            have e:j=g.ns.length:=by omega
            have:=HW.out
            rw [e] at this
            exact this.next
           clear hC HW
           go_wp2
           go_roundw
           case rel=>exact ⟨i+1,_,_,by omega,by go_num,HC.out,HN.out⟩
           case measure=>simp [intOf];omega
        ·have ilt:¬ (i:Int) < (g.ns.length:Int):=by omega
         have HN:Hid (WaI (EdE (alU NU g.ps)) g.ns.length (k+1) 0 0 Rs):=by
          have e:i=g.ns.length:=by omega
          have:=HW.out
          rw [e] at this
          exact this.phase
         clear hC HW
         go_wp2
         go_roundw
         case rel=>exact ⟨k+1,_,_,by omega,by go_num,HC.out,HN.out⟩
         case measure=>simp [intOf];omega
      ·have klt:¬ (k:Int) < (g.ns.length:Int):=by omega
       obtain ⟨x0,x1,x2,x3,x4⟩:=gbc hC.box
       have bA:=bAl wr (.cells (madeCells #[.bool false] g.ns.length) 4)
       have HF:Hid (∀ a,a < g.ns.length->((Rs.getD a []).getD a false=true ↔ TrE (alU NU g.ps) a a)):=fun a ha=>by
        have e:k=g.ns.length:=by omega
        have:=HW.out
        rw [e] at this
        exact this.fin HED.out ha ha
       have HCV:Hid (CX g w w2 mb gb g.ns.length NU ks Rs wr):=hC
       have R:Hid (CX g w w2 mb gb g.ns.length NU ks Rs (wr.alloc (.cells (madeCells #[.bool false] g.ns.length) 4))/\BB (wr.alloc (.cells (madeCells #[.bool false] g.ns.length) 4)) wr.heap.size (List.replicate g.ns.length false)/\gb < wr.heap.size):=⟨hC.any bA,BB.made wr _,lt_of_block hC.mx.row⟩
       have HOB:Hid (gb < wr.heap.size/\w.heap.size<=wr.heap.size):=⟨lt_of_block hC.mx.row,hC.bel.size⟩
       have BVA:Hid (Below wr.heap.size wr (wr.alloc (.cells (madeCells #[.bool false] g.ns.length) 4))):=bA
       clear hC HC bA HW
       obtain ⟨wv,rfl⟩:∃ wv:World,wv=wr:=⟨_,rfl⟩
       go_wp2
       generalize wv.alloc (.cells (madeCells #[.bool false] g.ns.length) 4)=wa at *
       obtain ⟨ob,hob⟩:∃ ob,wv.heap.size=ob:=⟨_,rfl⟩
       rw [hob] at BVA HOB R ⊢
       have HOE:Hid (wv.heap.size=ob):=hob
       clear hob
       clear x0 x1 x2 x3 x4
       go_loopw [14] (fun i wr=>∃ (k:Nat) (MO:List Bool),k<=g.ns.length/\i=.int .i64 k/\Below ob wv wr/\MO.length=g.ns.length/\BB wr ob MO/\∀ a,a < k->MO.getD a false=(Rs.getD a []).getD a false) (fun i _=>g.ns.length - (intOf i).toNat)
       case atStart=>exact ⟨0,_,Nat.zero_le _,rfl,BVA.out,by simp,R.out.2.1,fun a ha=>absurd ha (Nat.not_lt_zero a)⟩
       case round =>
        clear R
        obtain ⟨i,MO,hi,rfl,hV,hMO,hB,hA⟩:=hrel
        have hC:CX g w w2 mb gb g.ns.length NU ks Rs wr:=HCV.out.any (by rw [HOE.out];exact hV)
        by_cases hilt:i < g.ns.length
        ·have ilt:(i:Int) < (g.ns.length:Int):=by omega
         obtain ⟨ri,Mi,_,_,eMi,li,gi,bi⟩:=hC.mx.at (j:=i) hilt
         obtain ⟨ci,_⟩:=boR_cell bi (y:=i) (by omega)
         have hba:Mi.getD i false=(Rs.getD i []).getD i false:=by rw [eMi]
         have co:=hB.cell (i:=i) (by omega)
         have fo:=hB.free i
         generalize Mi.getD i false=ba at *
         generalize MO.getD i false=bb at *
         have RS:Hid (Below ob wv (wr.setCell ⟨ob,i,none⟩ (.bool ba))/\(MO.set i ba).length=g.ns.length/\BB (wr.setCell ⟨ob,i,none⟩ (.bool ba)) ob (MO.set i ba)/\∀ a,a < i+1->(MO.set i ba).getD a false=(Rs.getD a []).getD a false):=⟨hV.setCell (p:=⟨ob,i,none⟩) (Nat.le_refl _) _,by simpa using hMO,hB.set i ba,fun a ha=>by
          rw [getD_setR]
          by_cases e:i=a
          ·subst e
           rw [if_pos ⟨rfl,by omega⟩,hba]
          ·rw [if_neg (fun z=>e z.1)]
           exact hA a (by omega)⟩
         clear bi li hC hB hMO hV hA hba eMi
         go_wp2
         go_roundw
         case rel=>exact ⟨i+1,_,by omega,by go_num,RS.out⟩
         case measure=>simp [intOf];omega
        ·have ilt:¬ (i:Int) < (g.ns.length:Int):=by omega
         have RZ:Hid (CirO g w (.returned (.slice (some ⟨ob,0,none⟩) g.ns.length g.ns.length)) wr):=⟨ob,MO,NU,rfl,hMO,HML.out,fun a ha=>by rw [hA a (by omega)];exact HF.out a ha,hB,HOB.out.2,hC.bel⟩
         clear hC hB hMO hV hA
         go_wp2
         go_ret
         exact RZ.out
end Go.Proofs.YtlfiohdhcmmjbaaGreatDoor
