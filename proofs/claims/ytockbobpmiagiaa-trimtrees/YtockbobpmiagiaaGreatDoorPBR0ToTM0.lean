import Derived.Test.YtockbobpmiagiaaGreatDoorPBT16ToBCard
namespace Go.Proofs.YtockbobpmiagiaaGreatDoor
set_option linter.unusedVariables false
set_option maxRecDepth 100000
set_option maxHeartbeats 16000000
open Go.RowKit Go.Shelf
def EdE (E:List (Int×Int))(a b:Nat):Prop:=((a:Int),(b:Int))∈E
abbrev TrE (E:List (Int×Int)):Nat->Nat->Prop:=Relation.TransGen (EdE E)
structure SrR (E:List (Int×Int))(n x:Nat)(R:List Bool)(T:List Int):Prop where
 len:R.length=n
 sound:∀ y,R.getD y false=true->TrE E x y
 todo:∀ t∈T,∃ y:Nat,t=(y:Int)/\y < n/\(y=x∨R.getD y false=true)
 done:∀ y,(y=x∨R.getD y false=true)->(y:Int)∈T∨∀ z,EdE E y z->R.getD z false=true
structure SrI (E:List (Int×Int))(n x y i:Nat)(R:List Bool)(T:List Int):Prop where
 len:R.length=n
 sound:∀ y,R.getD y false=true->TrE E x y
 todo:∀ t∈T,∃ y:Nat,t=(y:Int)/\y < n/\(y=x∨R.getD y false=true)
 yx:y=x∨R.getD y false=true
 done:∀ u,(u=x∨R.getD u false=true)->(u:Int)∈T∨u=y∨∀ z,EdE E u z->R.getD z false=true
 part:∀ (j z:Nat),j < i->E[j]?=some ((y:Int),(z:Int))->R.getD z false=true
theorem getD_setR (R:List Bool)(z u:Nat)(b:Bool):(R.set z b).getD u false=if z=u/\u < R.length then b else R.getD u false:=by
 rw [List.getD_eq_getElem?_getD,List.getD_eq_getElem?_getD,List.getElem?_set]
 by_cases h:z=u
 ·subst h
  by_cases h2:z < R.length
  ·simp [h2]
  ·simp [h2]
 ·simp [h]
theorem repl_getR (n u:Nat):(List.replicate n false).getD u false=false:=by
 rw [List.getD_eq_getElem?_getD,List.getElem?_replicate]
 split<;>rfl
theorem SrR.start {E:List (Int×Int)}{n x:Nat}(hx:x < n):SrR E n x (List.replicate n false) [(x:Int)]:=by
 refine ⟨by simp,fun y hy=>?_,fun t ht=>⟨x,by simpa using ht,hx,.inl rfl⟩,fun y hy=>.inl ?_⟩
 ·rw [repl_getR] at hy;cases hy
 ·rw [repl_getR] at hy
  rcases hy with rfl | q
  ·simp
  ·cases q
theorem SrR.pop {E:List (Int×Int)}{n x:Nat}{R:List Bool}{T:List Int}{t:Int}(h:SrR E n x R (T++[t])):∃ y:Nat,t=(y:Int)/\y < n/\SrI E n x y 0 R T:=by
 obtain ⟨y,rfl,hy,hx⟩:=h.todo t (by simp)
 refine ⟨y,rfl,hy,h.len,h.sound,fun t ht=>h.todo t (by simp [ht]),hx,fun u hu=>?_,fun j z hj=>absurd hj (Nat.not_lt_zero j)⟩
 rcases h.done u hu with q | q
 ·rcases List.mem_append.1 q with q | q
  ·exact .inl q
  ·have:(u:Int)=(y:Int):=by simpa using q
   exact .inr (.inl (by omega))
 ·exact .inr (.inr q)
theorem SrI.fin {E:List (Int×Int)}{n x y:Nat}{R:List Bool}{T:List Int}(h:SrI E n x y E.length R T):SrR E n x R T:=by
 refine ⟨h.len,h.sound,h.todo,fun u hu=>?_⟩
 rcases h.done u hu with q | q | q
 ·exact .inl q
 ·subst q
  refine .inr fun z hz=>?_
  obtain ⟨j,hj⟩:=List.getElem?_of_mem hz
  exact h.part j z (List.getElem?_eq_some_iff.1 hj).1 hj
 ·exact .inr q
theorem SrI.skip {E:List (Int×Int)}{n x y i:Nat}{R:List Bool}{T:List Int}{p:Int×Int}(h:SrI E n x y i R T)(hp:E[i]?=some p)(hk:p.1≠(y:Int)∨R.getD p.2.toNat false=true):SrI E n x y (i+1) R T:=by
 refine ⟨h.len,h.sound,h.todo,h.yx,h.done,fun j z hj he=>?_⟩
 by_cases e:j=i
 ·subst e
  rw [hp] at he
  have:=Option.some.inj he
  subst this
  rcases hk with q | q
  ·exact absurd rfl q
  ·simpa using q
 ·exact h.part j z (by omega) he
theorem SrI.push {E:List (Int×Int)}{n x y i z:Nat}{R:List Bool}{T:List Int}(h:SrI E n x y i R T)(hp:E[i]?=some ((y:Int),(z:Int)))(hz:z < n):SrI E n x y (i+1) (R.set z true) (T++[(z:Int)]):=by
 have hl:=h.len
 have up:∀ u,R.getD u false=true->(R.set z true).getD u false=true:=fun u hu=>by
  rw [getD_setR]
  split
  ·rfl
  ·exact hu
 have hzz:(R.set z true).getD z false=true:=by rw [getD_setR,if_pos ⟨rfl,by omega⟩]
 have hed:EdE E y z:=List.mem_of_getElem? hp
 have hxz:TrE E x z:=by
  rcases h.yx with e | e
  ·subst e;exact .single hed
  ·exact (h.sound y e).tail hed
 have back:∀ u,(R.set z true).getD u false=true->u=z∨R.getD u false=true:=fun u hu=>by
  rw [getD_setR] at hu
  by_cases e:z=u/\u < R.length
  ·exact .inl e.1.symm
  ·rw [if_neg e] at hu;exact .inr hu
 refine ⟨by rw [List.length_set];exact hl,fun u hu=>?_,fun t ht=>?_,h.yx.imp id (up y),fun u hu=>?_,fun j v hj he=>?_⟩
 ·rcases back u hu with e | e
  ·subst e;exact hxz
  ·exact h.sound u e
 ·rcases List.mem_append.1 ht with q | q
  ·obtain ⟨u,e,hu,hx⟩:=h.todo t q
   exact ⟨u,e,hu,hx.imp id (up u)⟩
  ·exact ⟨z,by simpa using q,hz,.inr hzz⟩
 ·have hu2:u=z∨(u=x∨R.getD u false=true):=by
   rcases hu with e | e
   ·exact .inr (.inl e)
   ·rcases back u e with q | q
    ·exact .inl q
    ·exact .inr (.inr q)
  rcases hu2 with rfl | hu2
  ·exact .inl (by simp)
  ·rcases h.done u hu2 with q | q | q
   ·exact .inl (by simp [q])
   ·exact .inr (.inl q)
   ·exact .inr (.inr fun v hv=>up v (q v hv))
 ·by_cases e:j=i
  ·subst e
   rw [hp] at he
   simp only [Option.some.injEq,Prod.mk.injEq,true_and] at he
   have:v=z:=by omega
   subst this
   exact hzz
  ·exact up v (h.part j v (by omega) he)
theorem SrR.all {E:List (Int×Int)}{n x:Nat}{R:List Bool}(h:SrR E n x R [])(y:Nat):R.getD y false=true ↔ TrE E x y:=by
 refine ⟨h.sound y,fun ht=>?_⟩
 induction ht with
 | single e =>
  rcases h.done x (.inl rfl) with q | q
  ·cases q
  ·exact q _ e
 | tail _ e ih =>
  rcases h.done _ (.inr ih) with q | q
  ·cases q
  ·exact q _ e
def PaK (D:Nat->Nat->Prop):Nat->Nat->Nat->Prop
 | 0,a,b=>D a b
 | k+1,a,b=>PaK D k a b∨(PaK D k a k/\PaK D k k b)
section
variable {D:Nat->Nat->Prop}
theorem pa_tr:∀ {k a b:Nat},PaK D k a b->Relation.TransGen D a b
 | 0,_,_,h=>.single h
 | _+1,_,_,.inl h=>pa_tr h
 | _+1,_,_,.inr ⟨h1,h2⟩=>(pa_tr h1).trans (pa_tr h2)
theorem pa_up:∀ {k a b:Nat},D a b->PaK D k a b
 | 0,_,_,h=>h
 | _+1,_,_,h=>.inl (pa_up h)
theorem pa_colK {k a:Nat}:PaK D (k+1) a k ↔ PaK D k a k:=⟨fun h=>by
 rcases h with h | ⟨h,_⟩
 ·exact h
 ·exact h,.inl⟩
theorem pa_rowK {k b:Nat}:PaK D (k+1) k b ↔ PaK D k k b:=⟨fun h=>by
 rcases h with h | ⟨_,h⟩
 ·exact h
 ·exact h,.inl⟩
theorem pa_in:∀ {k a b c:Nat},c < k->PaK D k a c->PaK D k c b->PaK D k a b
 | 0,_,_,_,h,_,_=>absurd h (Nat.not_lt_zero _)
 | k+1,a,b,c,h,h1,h2=>by
  by_cases e:c=k
  ·subst e
   exact .inr ⟨pa_colK.1 h1,pa_rowK.1 h2⟩
  ·have hc:c < k:=by omega
   rcases h1 with h1 | ⟨h1,h3⟩
   ·rcases h2 with h2 | ⟨h2,h4⟩
    ·exact .inl (pa_in hc h1 h2)
    ·exact .inr ⟨pa_in hc h1 h2,h4⟩
   ·rcases h2 with h2 | ⟨_,h4⟩
    ·exact .inr ⟨h1,pa_in hc h3 h2⟩
    ·exact .inr ⟨h1,h4⟩
theorem pa_all {n a b:Nat}(hD:∀ a b,D a b->b < n)(h:Relation.TransGen D a b):PaK D n a b:=by
 induction h with
 | single h=>exact pa_up h
 | tail h1 h2 ih =>
  rename_i c d
  have hc:c < n:=by
   cases h1 with
   | single h=>exact hD _ _ h
   | tail _ h=>exact hD _ _ h
  exact pa_in hc ih (pa_up h2)
structure WaI (D:Nat->Nat->Prop)(n k i j:Nat)(Rs:List (List Bool)):Prop where
 len:Rs.length=n
 row:∀ a,a < n->(Rs.getD a []).length=n
 bit:∀ a b,a < n->b < n->((Rs.getD a []).getD b false=true ↔ if a < i∨a=i/\b < j then PaK D (k+1) a b else PaK D k a b)
variable {n k i j:Nat} {Rs:List (List Bool)}
theorem WaI.col (h:WaI D n k i j Rs){a:Nat}(ha:a < n)(hk:k < n):(Rs.getD a []).getD k false=true ↔ PaK D k a k:=by
 rw [h.bit a k ha hk]
 split
 ·exact pa_colK
 ·exact Iff.rfl
theorem WaI.rowK (h:WaI D n k i j Rs){b:Nat}(hb:b < n)(hk:k < n):(Rs.getD k []).getD b false=true ↔ PaK D k k b:=by
 rw [h.bit k b hk hb]
 split
 ·exact pa_rowK
 ·exact Iff.rfl
theorem WaI.yes (h:WaI D n k i j Rs)(hi:i < n)(hj:j < n)(hk:k < n)(h1:(Rs.getD i []).getD k false=true)(h2:(Rs.getD k []).getD j false=true):WaI D n k i (j+1) (Rs.set i ((Rs.getD i []).set j true)):=by
 have hg:∀ a,(Rs.set i ((Rs.getD i []).set j true)).getD a []=if i=a then (Rs.getD i []).set j true else Rs.getD a []:=fun a=>by
  rw [List.getD_eq_getElem?_getD,List.getElem?_set]
  by_cases e:i=a
  ·subst e
   rw [if_pos rfl,if_pos rfl,if_pos (by rw [h.len];exact hi)]
   rfl
  ·rw [if_neg e,if_neg e,List.getD_eq_getElem?_getD]
 refine ⟨by rw [List.length_set,h.len],fun a ha=>?_,fun a b ha hb=>?_⟩
 ·rw [hg a]
  split
  ·rw [List.length_set,h.row i hi]
  ·exact h.row a ha
 ·rw [hg a]
  by_cases e:i=a
  ·subst e
   rw [if_pos rfl,getD_setR]
   by_cases e2:j=b
   ·subst e2
    rw [if_pos ⟨rfl,by rw [h.row i hi];exact hb⟩,if_pos (.inr ⟨rfl,Nat.lt_succ_self _⟩)]
    exact ⟨fun _=>.inr ⟨(h.col ha hk).1 h1,(h.rowK hb hk).1 h2⟩,fun _=>rfl⟩
   ·rw [if_neg (fun q=>e2 q.1),h.bit i b ha hb]
    have:(b < j) ↔ (b < j+1):=by omega
    simp only [this]
  ·rw [if_neg e,h.bit a b ha hb]
   have:(a < i∨a=i/\b < j) ↔ (a < i∨a=i/\b < j+1):=by omega
   simp only [this]
theorem WaI.no (h:WaI D n k i j Rs)(hi:i < n)(hj:j < n)(hk:k < n)(hno:¬ ((Rs.getD i []).getD k false=true/\(Rs.getD k []).getD j false=true)):WaI D n k i (j+1) Rs:=by
 refine ⟨h.len,h.row,fun a b ha hb=>?_⟩
 by_cases e:a=i/\b=j
 ·obtain ⟨rfl,rfl⟩:=e
  rw [h.bit a b ha hb,if_neg (by omega),if_pos (by omega)]
  refine ⟨.inl,fun q=>?_⟩
  rcases q with q | ⟨q1,q2⟩
  ·exact q
  ·exact absurd ⟨(h.col hi hk).2 q1,(h.rowK hj hk).2 q2⟩ hno
 ·rw [h.bit a b ha hb]
  have:(a < i∨a=i/\b < j) ↔ (a < i∨a=i/\b < j+1):=by omega
  simp only [this]
theorem WaI.next (h:WaI D n k i n Rs):WaI D n k (i+1) 0 Rs:=⟨h.len,h.row,fun a b ha hb=>by
 rw [h.bit a b ha hb]
 have:(a < i∨a=i/\b < n) ↔ (a < i+1∨a=i+1/\b < 0):=by omega
 simp only [this]⟩
theorem WaI.phase (h:WaI D n k n 0 Rs):WaI D n (k+1) 0 0 Rs:=⟨h.len,h.row,fun a b ha hb=>by
 rw [h.bit a b ha hb,if_pos (.inl ha),if_neg (by omega)]⟩
theorem WaI.start (hl:Rs.length=n)(hr:∀ a,a < n->(Rs.getD a []).length=n)(hb:∀ a b,a < n->b < n->((Rs.getD a []).getD b false=true ↔ D a b)):WaI D n 0 0 0 Rs:=⟨hl,hr,fun a b ha hb'=>by
 rw [hb a b ha hb',if_neg (by omega)]
 exact Iff.rfl⟩
theorem WaI.fin (h:WaI D n n 0 0 Rs)(hD:∀ a b,D a b->b < n){a b:Nat}(ha:a < n)(hb:b < n):(Rs.getD a []).getD b false=true ↔ Relation.TransGen D a b:=by
 rw [h.bit a b ha hb,if_neg (by omega)]
 exact ⟨pa_tr,pa_all hD⟩
end
end Go.Proofs.YtockbobpmiagiaaGreatDoor
