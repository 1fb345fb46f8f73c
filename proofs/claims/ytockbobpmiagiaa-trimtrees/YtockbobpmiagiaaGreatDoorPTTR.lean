import Derived.Test.YtockbobpmiagiaaGreatDoorPTTP
import Derived.Test.YtockbobpmiagiaaGreatDoorPTM1ToTM3
namespace Go.Proofs.YtockbobpmiagiaaGreatDoor
set_option linter.unusedVariables false
open Go.RowKit Go.Shelf
theorem prod_mem {g:GV}{t:TV}(h0:0<=t.prod)(h1:t.prod < g.ps.length):g.ps.getD t.prod.toNat .none∈g.ps:=by
 have:t.prod.toNat < g.ps.length:=by omega
 simp [List.getD,this]
theorem RT.fruit {g:GV}{M:List Bool}(hM:MLst g.ps g.ns.length true M){t:TV}(h:RT g t):t.prod≠-1->M.getD (rootU g t).2.toNat false=true:=by
 induction h using RT.ind with
 | leaf t h1 h2 h3 h4=>intro q;exact absurd h1 q
 | node t h0 h1 h2 hk ih =>
  intro _
  rw [root_node h0 h1]
  refine hM.clo _ (prod_mem h0 h1) ?_
  unfold wU_
  rw [List.all_eq_true]
  intro s hs
  have hs':s∈(TV.kids t).map (rootU g):=by rw [h2];exact hs
  obtain ⟨k,hk',rfl⟩:=List.mem_map.1 hs'
  rcases AllP.here (hk k hk') with ⟨a,b,c,d⟩ | ⟨a,b,c⟩
  ·rw [root_leaf a b c]
   simp [wh1]
  ·have:=ih k hk' (by omega)
   unfold wh1
   rw [this]
   simp
theorem RT.reach {g:GV}{T N:List Bool}(hR:RLst g T N){t:TV}(h:RT g t):(t.prod≠-1->N.getD (rootU g t).2.toNat false=true)->(t.prod=-1->T.getD t.kind.toNat false=true)->∀ d,∀ y∈plT d t,(y.t.prod≠-1->N.getD (rootU g y.t).2.toNat false=true)/\(y.t.prod=-1->T.getD y.t.kind.toNat false=true):=by
 induction h using RT.ind with
 | leaf t h1 h2 h3 h4 =>
  intro a b d y hy
  rw [plT_eq,h4] at hy
  rcases List.mem_cons.1 hy with rfl | hy
  ·exact ⟨a,b⟩
  ·cases hy
 | node t h0 h1 h2 hk ih =>
  intro a b d y hy
  rw [plT_eq] at hy
  rcases List.mem_cons.1 hy with rfl | hy
  ·exact ⟨a,b⟩
  ·obtain ⟨k,hk',hy'⟩:=plL_in _ hy
   have hl:=a (by omega)
   rw [root_node h0 h1] at hl
   have hs:rootU g k∈rightU g t:=by rw [<- h2];exact List.mem_map_of_mem hk'
   have hi:=hR.clo _ (prod_mem h0 h1) hl _ hs
   rcases AllP.here (hk k hk') with ⟨a1,b1,c1,d1⟩ | ⟨a1,b1,c1⟩
   ·refine ih k hk' (fun q=>absurd a1 q) (fun _=>?_) (d+1) y hy'
    rw [root_leaf a1 b1 c1] at hi
    exact hi.1 rfl
   ·refine ih k hk' (fun _=>?_) (fun q=>by omega) (d+1) y hy'
    rw [root_node a1 b1] at hi ⊢
    exact hi.2 rfl
theorem lv_plL_nil {d:Int}:∀ {ks:List TV},lv (plL d ks)=[]->∀ k∈ks,lv (plT d k)=[]
 | [],_,k,hk=>by cases hk
 | x :: l,h,k,hk=>by
  rw [plL_cons,lv_append,List.append_eq_nil_iff] at h
  rcases List.mem_cons.1 hk with rfl | hk
  ·exact h.1
  ·exact lv_plL_nil h.2 k hk
theorem RT.van {g:GV}{N:List Bool}(hN:MLst g.ps g.ns.length false N){t:TV}(h:RT g t):∀ d,lv (plT d t)=[]->(rootU g t).1=2/\N.getD (rootU g t).2.toNat false=true:=by
 induction h using RT.ind with
 | leaf t h1 h2 h3 h4 =>
  intro d q
  rw [plT_eq,lv_cons,if_pos h1] at q
  cases q
 | node t h0 h1 h2 hk ih =>
  intro d q
  rw [plT_eq,lv_cons,if_neg (by show ¬ t.prod=-1;omega)] at q
  rw [root_node h0 h1]
  refine ⟨rfl,hN.clo _ (prod_mem h0 h1) ?_⟩
  unfold wU_
  rw [List.all_eq_true]
  intro s hs
  have hs':s∈(TV.kids t).map (rootU g):=by rw [h2];exact hs
  obtain ⟨k,hk',rfl⟩:=List.mem_map.1 hs'
  obtain ⟨r1,r2⟩:=ih k hk' (d+1) (lv_plL_nil q k hk')
  unfold wh1
  rw [r1,r2]
  simp
theorem lv_len_le {d:Int}:∀ {ks:List TV} {i:Nat} (hi:i < ks.length),(lv (plT d ks[i])).length<=(lv (plL d ks)).length
 | x :: l,0,_=>by rw [plL_cons,lv_append,List.length_append];simp
 | x :: l,i+1,h=>by
  have:=lv_len_le (d:=d) (ks:=l) (i:=i) (by simpa using h)
  rw [plL_cons,lv_append,List.length_append]
  simp only [List.getElem_cons_succ]
  omega
theorem lv_others {d:Int}:∀ {ks:List TV} {i:Nat} (hi:i < ks.length),(lv (plT d ks[i])).length=(lv (plL d ks)).length->∀ j (hj:j < ks.length),j≠i->lv (plT d ks[j])=[]
 | x :: l,0,_,h,0,_,hn=>absurd rfl hn
 | x :: l,0,hi,h,j+1,hj,hn=>by
  rw [plL_cons,lv_append,List.length_append] at h
  have h0:(lv (plL d l)).length=0:=by simp only [List.getElem_cons_zero] at h;omega
  exact lv_plL_nil (List.eq_nil_of_length_eq_zero h0) _ (List.getElem_mem _)
 | x :: l,i+1,hi,h,0,hj,hn=>by
  have h1:=lv_len_le (d:=d) (ks:=l) (i:=i) (by simpa using hi)
  rw [plL_cons,lv_append,List.length_append] at h
  simp only [List.getElem_cons_succ] at h
  exact List.eq_nil_of_length_eq_zero (by simp only [List.getElem_cons_zero];omega)
 | x :: l,i+1,hi,h,j+1,hj,hn=>by
  have hi':i < l.length:=by simpa using hi
  have hj':j < l.length:=by simpa using hj
  have h1:=lv_len_le (d:=d) (ks:=l) hi'
  rw [plL_cons,lv_append,List.length_append] at h
  simp only [List.getElem_cons_succ] at h ⊢
  exact lv_others hi' (by omega) j hj' (by omega)
theorem RT.alone {g:GV}{N:List Bool}(hN:MLst g.ps g.ns.length false N){t:TV}(h:RT g t)(h0:0<=t.prod){i:Nat}(hi:i < t.kids.length)(hp:t.kids[i].prod≠-1)(d:Int)(hl:(lv (plT (d+1) t.kids[i])).length=(lv (plT d t)).length):((rootU g t).2,(rootU g t.kids[i]).2)∈alU N g.ps:=by
 rcases AllP.here h with ⟨a,_⟩ | ⟨_,h1,h2⟩
 ·omega
 rw [plT_eq d t,lv_cons,if_neg (by show ¬ t.prod=-1;omega)] at hl
 have hlen:t.kids.length=(rightU g t).length:=by rw [<- h2,List.length_map]
 have hget:∀ j (hj:j < t.kids.length),(rightU g t).getD j (0,0)=rootU g t.kids[j]:=fun j hj=>by
  have e:(rightU g t)[j]?=((TV.kids t).map (rootU g))[j]?:=by rw [h2]
  rw [List.getD_eq_getElem?_getD,e,List.getElem?_map,List.getElem?_eq_getElem hj]
  rfl
 have hvan:∀ j (hj:j < t.kids.length),j≠i->(rootU g t.kids[j]).1=2/\N.getD (rootU g t.kids[j]).2.toNat false=true:=fun j hj hn=>RT.van hN (AllP.kid h _ (List.getElem_mem hj)) (d+1) (lv_others hi hl j hj hn)
 rw [root_node h0 h1]
 refine mem_alU.2 ⟨g.ps.getD t.prod.toNat .none,prod_mem h0 h1,i,by show i < (rightU g t).length;omega,?_,?_,?_,?_⟩
 ·show ((rightU g t).getD i (0,0)).1=2
  rw [hget i hi]
  rcases AllP.here (AllP.kid h _ (List.getElem_mem hi)) with ⟨a,_⟩ | ⟨a1,b1,_⟩
  ·exact absurd a hp
  ·rw [root_node a1 b1]
 ·unfold vanU
  rw [List.all_eq_true]
  intro s hs
  obtain ⟨j,hj,rfl⟩:=List.getElem_of_mem hs
  have hj2:j < t.kids.length/\j≠i:=by
   have:j < min i (rightU g t).length:=by simpa [rightU] using hj
   omega
  have e:((g.ps.getD t.prod.toNat .none).right.take i)[j]=rootU g t.kids[j]:=by
   have q:=hget j hj2.1
   rw [List.getD_eq_getElem?_getD,List.getElem?_eq_getElem (by omega:j < (rightU g t).length)] at q
   rw [List.getElem_take]
   exact q
  obtain ⟨r1,r2⟩:=hvan j hj2.1 hj2.2
  rw [e,r1,r2]
  simp
 ·unfold vanU
  rw [List.all_eq_true]
  intro s hs
  obtain ⟨j,hj,rfl⟩:=List.getElem_of_mem hs
  have hj2:i+1+j < t.kids.length/\i+1+j≠i:=by
   have:j < (rightU g t).length - (i+1):=by simpa [rightU] using hj
   omega
  have e:((g.ps.getD t.prod.toNat .none).right.drop (i+1))[j]=rootU g t.kids[i+1+j]:=by
   have q:=hget _ hj2.1
   rw [List.getD_eq_getElem?_getD,List.getElem?_eq_getElem (by omega:i+1+j < (rightU g t).length)] at q
   rw [List.getElem_drop]
   exact q
  obtain ⟨r1,r2⟩:=hvan _ hj2.1 hj2.2
  rw [e,r1,r2]
  simp
 ·show _=((g.ps.getD t.prod.toNat .none).left,((rightU g t).getD i (0,0)).2)
  rw [hget i hi]
theorem RT.edge {g:GV}{N:List Bool}(hN:MLst g.ps g.ns.length false N)(hl0:∀ p∈g.ps,0<=p.left){t:TV}(h:RT g t)(h0:0<=t.prod){i:Nat}(hi:i < t.kids.length)(hp:t.kids[i].prod≠-1)(d:Int)(hl:(lv (plT (d+1) t.kids[i])).length=(lv (plT d t)).length):EdE (alU N g.ps) (rootU g t).2.toNat (rootU g t.kids[i]).2.toNat:=by
 have ha:=RT.alone hN h h0 hi hp d hl
 have e1:(((rootU g t).2.toNat:Nat):Int)=(rootU g t).2:=by
  rcases AllP.here h with ⟨a,_⟩ | ⟨a1,b1,_⟩
  ·omega
  ·rw [root_node a1 b1]
   have:=hl0 _ (prod_mem a1 b1)
   exact Int.toNat_of_nonneg this
 have e2:(((rootU g t.kids[i]).2.toNat:Nat):Int)=(rootU g t.kids[i]).2:=by
  rcases AllP.here (AllP.kid h _ (List.getElem_mem hi)) with ⟨a,_⟩ | ⟨a1,b1,_⟩
  ·exact absurd a hp
  ·rw [root_node a1 b1]
   have:=hl0 _ (prod_mem a1 b1)
   exact Int.toNat_of_nonneg this
 unfold EdE
 rw [e1,e2]
 exact ha
end Go.Proofs.YtockbobpmiagiaaGreatDoor
