import Derived.Test.YtlfiohdhcmmjbaaGreatDoorPBT16ToBCard
namespace Go.Proofs.YtlfiohdhcmmjbaaGreatDoor
set_option linter.unusedVariables false
set_option maxRecDepth 100000
set_option maxHeartbeats 16000000
open Go.RowKit Go.Shelf
def EdE (E:List (Int×Int))(a b:Nat):Prop:=((a:Int),(b:Int))∈E
abbrev TrE (E:List (Int×Int)):Nat->Nat->Prop:=Relation.TransGen (EdE E)
theorem getD_setR (R:List Bool)(z u:Nat)(b:Bool):(R.set z b).getD u false=if z=u/\u < R.length then b else R.getD u false:=by
 rw [List.getD_eq_getElem?_getD,List.getD_eq_getElem?_getD,List.getElem?_set]
 by_cases h:z=u
 ·subst h
  by_cases h2:z < R.length
  ·simp [h2]
  ·simp [h2]
 ·simp [h]
theorem repl_getR (n u:Nat):(List.replicate n false).getD u false=false:=by
 rw [List.getD_eq_getElem?_getD,List.getElem?_replicate]
 split<;>rfl
def PaK (D:Nat->Nat->Prop):Nat->Nat->Nat->Prop
 | 0,a,b=>D a b
 | k+1,a,b=>PaK D k a b∨(PaK D k a k/\PaK D k k b)
section
variable {D:Nat->Nat->Prop}
theorem pa_tr:∀ {k a b:Nat},PaK D k a b->Relation.TransGen D a b
 | 0,_,_,h=>.single h
 | _+1,_,_,.inl h=>pa_tr h
 | _+1,_,_,.inr ⟨h1,h2⟩=>(pa_tr h1).trans (pa_tr h2)
theorem pa_up:∀ {k a b:Nat},D a b->PaK D k a b
 | 0,_,_,h=>h
 | _+1,_,_,h=>.inl (pa_up h)
theorem pa_colK {k a:Nat}:PaK D (k+1) a k ↔ PaK D k a k:=⟨fun h=>by
 rcases h with h | ⟨h,_⟩
 ·exact h
 ·exact h,.inl⟩
theorem pa_rowK {k b:Nat}:PaK D (k+1) k b ↔ PaK D k k b:=⟨fun h=>by
 rcases h with h | ⟨_,h⟩
 ·exact h
 ·exact h,.inl⟩
theorem pa_in:∀ {k a b c:Nat},c < k->PaK D k a c->PaK D k c b->PaK D k a b
 | 0,_,_,_,h,_,_=>absurd h (Nat.not_lt_zero _)
 | k+1,a,b,c,h,h1,h2=>by
  by_cases e:c=k
  ·subst e
   exact .inr ⟨pa_colK.1 h1,pa_rowK.1 h2⟩
  ·have hc:c < k:=by omega
   rcases h1 with h1 | ⟨h1,h3⟩
   ·rcases h2 with h2 | ⟨h2,h4⟩
    ·exact .inl (pa_in hc h1 h2)
    ·exact .inr ⟨pa_in hc h1 h2,h4⟩
   ·rcases h2 with h2 | ⟨_,h4⟩
    ·exact .inr ⟨h1,pa_in hc h3 h2⟩
    ·exact .inr ⟨h1,h4⟩
theorem pa_all {n a b:Nat}(hD:∀ a b,D a b->b < n)(h:Relation.TransGen D a b):PaK D n a b:=by
 induction h with
 | single h=>exact pa_up h
 | tail h1 h2 ih =>
  rename_i c d
  have hc:c < n:=by
   cases h1 with
   | single h=>exact hD _ _ h
   | tail _ h=>exact hD _ _ h
  exact pa_in hc ih (pa_up h2)
structure WaI (D:Nat->Nat->Prop)(n k i j:Nat)(Rs:List (List Bool)):Prop where
 len:Rs.length=n
 row:∀ a,a < n->(Rs.getD a []).length=n
 bit:∀ a b,a < n->b < n->((Rs.getD a []).getD b false=true ↔ if a < i∨a=i/\b < j then PaK D (k+1) a b else PaK D k a b)
variable {n k i j:Nat} {Rs:List (List Bool)}
theorem WaI.col (h:WaI D n k i j Rs){a:Nat}(ha:a < n)(hk:k < n):(Rs.getD a []).getD k false=true ↔ PaK D k a k:=by
 rw [h.bit a k ha hk]
 split
 ·exact pa_colK
 ·exact Iff.rfl
theorem WaI.rowK (h:WaI D n k i j Rs){b:Nat}(hb:b < n)(hk:k < n):(Rs.getD k []).getD b false=true ↔ PaK D k k b:=by
 rw [h.bit k b hk hb]
 split
 ·exact pa_rowK
 ·exact Iff.rfl
theorem WaI.yes (h:WaI D n k i j Rs)(hi:i < n)(hj:j < n)(hk:k < n)(h1:(Rs.getD i []).getD k false=true)(h2:(Rs.getD k []).getD j false=true):WaI D n k i (j+1) (Rs.set i ((Rs.getD i []).set j true)):=by
 have hg:∀ a,(Rs.set i ((Rs.getD i []).set j true)).getD a []=if i=a then (Rs.getD i []).set j true else Rs.getD a []:=fun a=>by
  rw [List.getD_eq_getElem?_getD,List.getElem?_set]
  by_cases e:i=a
  ·subst e
   rw [if_pos rfl,if_pos rfl,if_pos (by rw [h.len];exact hi)]
   rfl
  ·rw [if_neg e,if_neg e,List.getD_eq_getElem?_getD]
 refine ⟨by rw [List.length_set,h.len],fun a ha=>?_,fun a b ha hb=>?_⟩
 ·rw [hg a]
  split
  ·rw [List.length_set,h.row i hi]
  ·exact h.row a ha
 ·rw [hg a]
  by_cases e:i=a
  ·subst e
   rw [if_pos rfl,getD_setR]
   by_cases e2:j=b
   ·subst e2
    rw [if_pos ⟨rfl,by rw [h.row i hi];exact hb⟩,if_pos (.inr ⟨rfl,Nat.lt_succ_self _⟩)]
    exact ⟨fun _=>.inr ⟨(h.col ha hk).1 h1,(h.rowK hb hk).1 h2⟩,fun _=>rfl⟩
   ·rw [if_neg (fun q=>e2 q.1),h.bit i b ha hb]
    have:(b < j) ↔ (b < j+1):=by omega
    simp only [this]
  ·rw [if_neg e,h.bit a b ha hb]
   have:(a < i∨a=i/\b < j) ↔ (a < i∨a=i/\b < j+1):=by omega
   simp only [this]
theorem WaI.no (h:WaI D n k i j Rs)(hi:i < n)(hj:j < n)(hk:k < n)(hno:¬ ((Rs.getD i []).getD k false=true/\(Rs.getD k []).getD j false=true)):WaI D n k i (j+1) Rs:=by
 refine ⟨h.len,h.row,fun a b ha hb=>?_⟩
 by_cases e:a=i/\b=j
 ·obtain ⟨rfl,rfl⟩:=e
  rw [h.bit a b ha hb,if_neg (by omega),if_pos (by omega)]
  refine ⟨.inl,fun q=>?_⟩
  rcases q with q | ⟨q1,q2⟩
  ·exact q
  ·exact absurd ⟨(h.col hi hk).2 q1,(h.rowK hj hk).2 q2⟩ hno
 ·rw [h.bit a b ha hb]
  have:(a < i∨a=i/\b < j) ↔ (a < i∨a=i/\b < j+1):=by omega
  simp only [this]
theorem WaI.next (h:WaI D n k i n Rs):WaI D n k (i+1) 0 Rs:=⟨h.len,h.row,fun a b ha hb=>by
 rw [h.bit a b ha hb]
 have:(a < i∨a=i/\b < n) ↔ (a < i+1∨a=i+1/\b < 0):=by omega
 simp only [this]⟩
theorem WaI.phase (h:WaI D n k n 0 Rs):WaI D n (k+1) 0 0 Rs:=⟨h.len,h.row,fun a b ha hb=>by
 rw [h.bit a b ha hb,if_pos (.inl ha),if_neg (by omega)]⟩
theorem WaI.start (hl:Rs.length=n)(hr:∀ a,a < n->(Rs.getD a []).length=n)(hb:∀ a b,a < n->b < n->((Rs.getD a []).getD b false=true ↔ D a b)):WaI D n 0 0 0 Rs:=⟨hl,hr,fun a b ha hb'=>by
 rw [hb a b ha hb',if_neg (by omega)]
 exact Iff.rfl⟩
theorem WaI.fin (h:WaI D n n 0 0 Rs)(hD:∀ a b,D a b->b < n){a b:Nat}(ha:a < n)(hb:b < n):(Rs.getD a []).getD b false=true ↔ Relation.TransGen D a b:=by
 rw [h.bit a b ha hb,if_neg (by omega)]
 exact ⟨pa_tr,pa_all hD⟩
end
end Go.Proofs.YtlfiohdhcmmjbaaGreatDoor
