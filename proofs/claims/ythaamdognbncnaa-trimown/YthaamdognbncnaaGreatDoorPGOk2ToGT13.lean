import Derived.Test.YthaamdognbncnaaGreatDoorPPlainToGDec14
import Derived.Test.YthaamdognbncnaaGreatDoorPRegXToFThy2
import Derived.Shelf.SlicesQ.Reverse
import Derived.Shelf.SortM.Plain
import Derived.Shelf.SortM.SortNone
import Derived.Lib.SlKeysI
namespace Go.Proofs.YthaamdognbncnaaGreatDoor
set_option linter.unusedVariables false
set_option maxRecDepth 100000
set_option maxHeartbeats 16000000
open Go.RowKit
structure IsPerm (l:List Int):Prop where
 lo:∀ i,i < l.length->0<=l.getD i 0/\l.getD i 0 < l.length
 one:∀ i j,i < l.length->j < i->l.getD j 0≠l.getD i 0
theorem nat_fit:∀ (n:Nat) (l:List Nat),l.Nodup->(∀ x∈l,x < n)->l.length<=n
 | 0,l,_,h=>by
  cases l with
  | nil=>simp
  | cons a r=>exact absurd (h a (by simp)) (by omega)
 | n+1,l,hn,h=>by
  by_cases hm:n∈l
  ·have h1:=nat_fit n (l.erase n) (hn.erase n) (fun x hx=>by
    have h2:=h x (List.mem_of_mem_erase hx)
    have h3:x≠n:=fun e=>by subst e;exact (List.Nodup.not_mem_erase hn) hx
    omega)
   rw [List.length_erase_of_mem hm] at h1
   omega
  ·have h1:=nat_fit n l hn (fun x hx=>by
    have h2:=h x hx
    have h3:x≠n:=fun e=>hm (e ▸ hx)
    omega)
   omega
theorem IsPerm.nodup {l:List Int}(h:IsPerm l):(l.map Int.toNat).Nodup:=by
 rw [List.nodup_iff_pairwise_ne,List.pairwise_iff_getElem]
 intro i j hi hj hij
 simp at hi hj
 have h1:=h.lo i hi
 have h2:=h.lo j hj
 have h3:=h.one j i hj hij
 simp [List.getD,hi,hj] at h1 h2 h3
 simp
 omega
theorem IsPerm.all {l:List Int}(h:IsPerm l)(k:Nat)(hk:k < l.length):∃ i,i < l.length/\(l.getD i 0).toNat=k:=by
 by_cases hm:k∈l.map Int.toNat
 ·obtain ⟨x,hx,e⟩:=List.mem_map.1 hm
  obtain ⟨i,hi,rfl⟩:=List.getElem_of_mem hx
  exact ⟨i,hi,by simp [List.getD,hi,e]⟩
 ·have h1:=nat_fit l.length (k :: l.map Int.toNat) (List.nodup_cons.2 ⟨hm,h.nodup⟩) (fun x hx=>by
   rcases List.mem_cons.1 hx with rfl | hx
   ·exact hk
   ·obtain ⟨y,hy,rfl⟩:=List.mem_map.1 hx
    obtain ⟨i,hi,rfl⟩:=List.getElem_of_mem hy
    have:=h.lo i hi
    simp [List.getD,hi] at this
    omega)
  simp at h1
  omega
def RB (w:World)(b:Nat)(t:TypeId)(xs:List Value)(c s:Nat):Prop:=∃ cur,w.heap[b]?=some (.cells cur t (0,0))/\xs.length<=cur.size/\cur.toList.take xs.length=xs/\cur.size=c*s/\c<=maxLen
theorem RB.lt {w:World}{b:Nat}{t:TypeId}{xs:List Value}{c s:Nat}(h:RB w b t xs c s):b < w.heap.size:=by
 obtain ⟨cur,h1,_⟩:=h
 exact lt_of_block h1
theorem RB.kept {w w':World}{b:Nat}{t:TypeId}{xs:List Value}{c s:Nat}(h:RB w b t xs c s)(hb:w'.heap[b]?=w.heap[b]?):RB w' b t xs c s:=by
 obtain ⟨cur,h1,h2⟩:=h
 exact ⟨cur,hb.trans h1,h2⟩
theorem RB.later {w w':World}{b:Nat}{t:TypeId}{xs:List Value}{c s:Nat}(h:RB w b t xs c s)(hb:Below w.heap.size w w'):RB w' b t xs c s:=h.kept (hb.block b h.lt)
theorem RB.cell {w:World}{b:Nat}{t:TypeId}{xs:List Value}{c s:Nat}(h:RB w b t xs c s){i:Nat}{u:Value}(hi:xs[i]?=some u):w.cell? ⟨b,i,none⟩=some u:=by
 obtain ⟨cur,h1,h2,h3,_⟩:=h
 rw [cQa h1]
 have hlt:i < xs.length:=(List.getElem?_eq_some_iff.1 hi).1
 rw [<- h3,List.getElem?_take] at hi
 rw [if_pos hlt] at hi
 simpa using hi
theorem RB.free {w:World}{b:Nat}{t:TypeId}{xs:List Value}{c s:Nat}(h:RB w b t xs c s)(i:Nat):w.frozen? ⟨b,i,none⟩=false:=by
 obtain ⟨cur,h1,_⟩:=h
 simp [World.frozen?,h1]
theorem RB.set {w:World}{b:Nat}{t:TypeId}{xs:List Value}{c s:Nat}(h:RB w b t xs c s)(i:Nat)(u:Value):RB (w.setCell ⟨b,i,none⟩ u) b t (xs.set i u) c s:=by
 obtain ⟨cur,h1,h2,h3,h4,h5⟩:=h
 refine ⟨_,hSt h1 i u,by simpa using h2,?_,by simpa using h4,h5⟩
 rw [Array.toList_setIfInBounds,List.length_set,List.take_set,h3]
theorem RB.other {w:World}{b b':Nat}{t:TypeId}{xs:List Value}{c s:Nat}(h:RB w b t xs c s)(hne:b≠b')(i:Nat)(u:Value):RB (w.setCell ⟨b',i,none⟩ u) b t xs c s:=h.kept (Below.heap_setCell _ _ _ _ hne)
theorem RB.of_own {w:World}{base:Nat}{t:TypeId}{sz g n c:Nat}{xs:List Value}(h:w.ownsRow base t sz (.slice (some ⟨g,0,none⟩) n c) n xs):RB w g t xs c sz/\base<=g/\n<=c:=by
 obtain ⟨hl,h | ⟨g',cap,cur,e,h1,h2,h3,h4,h5,h6⟩⟩:=h
 ·exact absurd h.1 (by simp)
 ·simp only [Value.slice.injEq,Option.some.injEq,Addr.mk.injEq,true_and,and_true] at e
  obtain ⟨rfl,rfl⟩:=e
  exact ⟨⟨cur,h2,by rw [h5,hl];exact Nat.mul_le_mul_right _ h3,by rw [hl];exact h6,h5,h4⟩,h1,h3⟩
theorem RB.own {w:World}{t:TypeId}{sz g n c:Nat}{xs:List Value}(h:RB w g t xs c sz)(hl:xs.length=n*sz)(hn:n<=c):w.ownsRow 0 t sz (.slice (some ⟨g,0,none⟩) n c) n xs:=by
 obtain ⟨cur,h1,h2,h3,h4,h5⟩:=h
 exact ⟨hl,.inr ⟨g,c,cur,rfl,Nat.zero_le _,h1,hn,h5,h4,hl ▸ h3⟩⟩
def ablk (a:Option Addr):Nat:=match a with
 | some x=>x.block
 | none=>0
theorem proCells_set {l:List PV}{k:Nat}{q:PV}(hk:k < l.length):pCl (l.set k q)=(((pCl l).set (k*3) (.int .i64 q.left)).set (k*3+1) (.slice q.ra q.right.length q.rc)).set (k*3+2) (.int .i64 q.prec):=by
 induction l generalizing k with
 | nil=>simp at hk
 | cons a r ih =>
  cases k with
  | zero=>simp [pCl]
  | succ k =>
   have e1:∀ m:List PV,pCl (a :: m)=.int .i64 a.left :: .slice a.ra a.right.length a.rc :: .int .i64 a.prec :: pCl m:=fun m=>rfl
   rw [List.set_cons_succ,e1,e1,ih (by simpa using hk),show (k+1)*3=k*3+1+1+1 by omega,show k*3+1+1+1+1=(k*3+1)+1+1+1 by omega,show k*3+1+1+1+2=(k*3+2)+1+1+1 by omega]
   simp only [List.set_cons_succ]
theorem levCells_set {l:List LV}{k:Nat}{q:LV}(hk:k < l.length):levCells (l.set k q)=((levCells l).set (k*2) (.int .i64 q.assoc)).set (k*2+1) (.slice q.ta q.terms.length q.tc):=by
 induction l generalizing k with
 | nil=>simp at hk
 | cons a r ih =>
  cases k with
  | zero=>simp [levCells]
  | succ k =>
   have e1:∀ m:List LV,levCells (a :: m)=.int .i64 a.assoc :: .slice a.ta a.terms.length a.tc :: levCells m:=fun m=>rfl
   rw [List.set_cons_succ,e1,e1,ih (by simpa using hk),show (k+1)*2=k*2+1+1 by omega,show k*2+1+1+1=(k*2+1)+1+1 by omega]
   simp only [List.set_cons_succ]
theorem set_same {α:Type}{l:List α}{k:Nat}{x:α}(h:l[k]?=some x):l.set k x=l:=by
 obtain ⟨hk,rfl⟩:=List.getElem?_eq_some_iff.1 h
 exact List.set_getElem_self hk
theorem getD_set_eq {α:Type}{l:List α}{k:Nat}{q d:α}(hk:k < l.length):(l.set k q).getD k d=q:=by simp [List.getD,hk]
theorem getD_set_ne {α:Type}{l:List α}{k i:Nat}{q d:α}(h:i≠k):(l.set k q).getD i d=l.getD i d:=by
 simp only [List.getD,List.getElem?_set]
 rw [if_neg (fun e=>h e.symm)]
structure PM (B H:Nat)(w:World)(pb pc k:Nat)(l:List PV):Prop where
 row:RB w pb 68 (pCl l) pc 3
 lo:B<=pb/\pb < H
 each:∀ i,i < k->(l.getD i .none).right≠[]->(l.getD i .none).ra=some ⟨ablk (l.getD i .none).ra,0,none⟩/\(B<=ablk (l.getD i .none).ra/\ablk (l.getD i .none).ra < H)/\ablk (l.getD i .none).ra≠pb/\RB w (ablk (l.getD i .none).ra) 62 (sCl (l.getD i .none).right) (l.getD i .none).rc 2
 two:∀ i j,i < k->j < k->i≠j->(l.getD i .none).right≠[]->(l.getD j .none).right≠[]->ablk (l.getD i .none).ra≠ablk (l.getD j .none).ra
structure LMt (B H:Nat)(w:World)(pb pc k:Nat)(l:List LV):Prop where
 row:RB w pb 90 (levCells l) pc 2
 lo:B<=pb/\pb < H
 each:∀ i,i < k->(l.getD i .none).terms≠[]->(l.getD i .none).ta=some ⟨ablk (l.getD i .none).ta,0,none⟩/\(B<=ablk (l.getD i .none).ta/\ablk (l.getD i .none).ta < H)/\ablk (l.getD i .none).ta≠pb/\RB w (ablk (l.getD i .none).ta) 3 ((l.getD i .none).terms.map (.int .i64 ·)) (l.getD i .none).tc 1
 two:∀ i j,i < k->j < k->i≠j->(l.getD i .none).terms≠[]->(l.getD j .none).terms≠[]->ablk (l.getD i .none).ta≠ablk (l.getD j .none).ta
theorem PM.kept {B H:Nat}{w w':World}{pb pc k:Nat}{l:List PV}(h:PM B H w pb pc k l)(hb:∀ j,B<=j->j < H->w'.heap[j]?=w.heap[j]?):PM B H w' pb pc k l :=
 ⟨h.row.kept (hb _ h.lo.1 h.lo.2),h.lo,fun i hi hr=>⟨(h.each i hi hr).1,(h.each i hi hr).2.1,(h.each i hi hr).2.2.1,(h.each i hi hr).2.2.2.kept (hb _ (h.each i hi hr).2.1.1 (h.each i hi hr).2.1.2)⟩,h.two⟩
theorem LMt.kept {B H:Nat}{w w':World}{pb pc k:Nat}{l:List LV}(h:LMt B H w pb pc k l)(hb:∀ j,B<=j->j < H->w'.heap[j]?=w.heap[j]?):LMt B H w' pb pc k l :=
 ⟨h.row.kept (hb _ h.lo.1 h.lo.2),h.lo,fun i hi hr=>⟨(h.each i hi hr).1,(h.each i hi hr).2.1,(h.each i hi hr).2.2.1,(h.each i hi hr).2.2.2.kept (hb _ (h.each i hi hr).2.1.1 (h.each i hi hr).2.1.2)⟩,h.two⟩
theorem PM.mono {B H H':Nat}{w:World}{pb pc k:Nat}{l:List PV}(h:PM B H w pb pc k l)(hH:H<=H'):PM B H' w pb pc k l :=
 ⟨h.row,⟨h.lo.1,Nat.lt_of_lt_of_le h.lo.2 hH⟩,fun i hi hr=>⟨(h.each i hi hr).1,⟨(h.each i hi hr).2.1.1,Nat.lt_of_lt_of_le (h.each i hi hr).2.1.2 hH⟩,(h.each i hi hr).2.2⟩,h.two⟩
theorem LMt.mono {B H H':Nat}{w:World}{pb pc k:Nat}{l:List LV}(h:LMt B H w pb pc k l)(hH:H<=H'):LMt B H' w pb pc k l :=
 ⟨h.row,⟨h.lo.1,Nat.lt_of_lt_of_le h.lo.2 hH⟩,fun i hi hr=>⟨(h.each i hi hr).1,⟨(h.each i hi hr).2.1.1,Nat.lt_of_lt_of_le (h.each i hi hr).2.1.2 hH⟩,(h.each i hi hr).2.2⟩,h.two⟩
theorem PM.later {B H:Nat}{w w':World}{pb pc k:Nat}{l:List PV}(h:PM B H w pb pc k l)(hH:H<=w.heap.size)(hb:Below w.heap.size w w'):PM B H w' pb pc k l:=h.kept fun j _ hj=>hb.block j (Nat.lt_of_lt_of_le hj hH)
theorem LMt.later {B H:Nat}{w w':World}{pb pc k:Nat}{l:List LV}(h:LMt B H w pb pc k l)(hH:H<=w.heap.size)(hb:Below w.heap.size w w'):LMt B H w' pb pc k l:=h.kept fun j _ hj=>hb.block j (Nat.lt_of_lt_of_le hj hH)
theorem PM.push {B H:Nat}{w:World}{pb pc k:Nat}{l:List PV}(h:PM B H w pb pc k l)(hk:k < l.length)(a:Option Addr)(c:Nat)(H':Nat)(hH:H<=H')
  (hn:(l.getD k .none).right≠[]->∃ b,a=some ⟨b,0,none⟩/\H<=b/\b < H'/\RB w b 62 (sCl (l.getD k .none).right) c 2) :
  PM B H' (w.setCell ⟨pb,k*3+1,none⟩ (.slice a (l.getD k .none).right.length c)) pb pc (k+1) (l.set k { l.getD k .none with ra:=a,rc:=c }):=by
 have hg:=proCells_get l k hk
 have hcs:pCl (l.set k { l.getD k .none with ra:=a,rc:=c })=(pCl l).set (k*3+1) (.slice a (l.getD k .none).right.length c):=by
  rw [proCells_set hk,set_same hg.1,List.set_comm _ _ (by omega),set_same hg.2.2]
 have hB:=h.lo.1
 refine ⟨hcs ▸ h.row.set _ _,⟨h.lo.1,Nat.lt_of_lt_of_le h.lo.2 hH⟩,fun i hi hr=>?_,fun i j hi hj hij hri hrj=>?_⟩
 ·by_cases e:i=k
  ·subst e
   rw [getD_set_eq hk] at hr ⊢
   obtain ⟨b,rfl,h1,h2,h3⟩:=hn hr
   have hlo:=h.lo
   have hne:b≠pb:=by omega
   exact ⟨rfl,⟨by show B<=b;omega,h2⟩,hne,h3.other hne _ _⟩
  ·rw [getD_set_ne e] at hr ⊢
   obtain ⟨h1,h2,h3,h4⟩:=h.each i (by omega) hr
   exact ⟨h1,⟨h2.1,Nat.lt_of_lt_of_le h2.2 hH⟩,h3,h4.other h3 _ _⟩
 ·by_cases ei:i=k
  ·subst ei
   rw [getD_set_eq hk] at hri ⊢
   rw [getD_set_ne (Ne.symm hij)] at hrj ⊢
   obtain ⟨b,rfl,h1,_⟩:=hn hri
   have:=(h.each j (by omega) hrj).2.1.2
   show b≠_
   omega
  ·rw [getD_set_ne ei] at hri ⊢
   by_cases ej:j=k
   ·subst ej
    rw [getD_set_eq hk] at hrj ⊢
    obtain ⟨b,rfl,h1,_⟩:=hn hrj
    have:=(h.each i (by omega) hri).2.1.2
    show _≠b
    omega
   ·rw [getD_set_ne ej] at hrj ⊢
    exact h.two i j (by omega) (by omega) hij hri hrj
theorem LMt.push {B H:Nat}{w:World}{pb pc k:Nat}{l:List LV}(h:LMt B H w pb pc k l)(hk:k < l.length)(a:Option Addr)(c:Nat)(H':Nat)(hH:H<=H')
  (hn:(l.getD k .none).terms≠[]->∃ b,a=some ⟨b,0,none⟩/\H<=b/\b < H'/\RB w b 3 ((l.getD k .none).terms.map (.int .i64 ·)) c 1) :
  LMt B H' (w.setCell ⟨pb,k*2+1,none⟩ (.slice a (l.getD k .none).terms.length c)) pb pc (k+1) (l.set k { l.getD k .none with ta:=a,tc:=c }):=by
 have hg:=levCells_get l k hk
 have hcs:levCells (l.set k { l.getD k .none with ta:=a,tc:=c })=(levCells l).set (k*2+1) (.slice a (l.getD k .none).terms.length c):=by
  rw [levCells_set hk,set_same hg.1]
 have hB:=h.lo.1
 refine ⟨hcs ▸ h.row.set _ _,⟨h.lo.1,Nat.lt_of_lt_of_le h.lo.2 hH⟩,fun i hi hr=>?_,fun i j hi hj hij hri hrj=>?_⟩
 ·by_cases e:i=k
  ·subst e
   rw [getD_set_eq hk] at hr ⊢
   obtain ⟨b,rfl,h1,h2,h3⟩:=hn hr
   have hlo:=h.lo
   have hne:b≠pb:=by omega
   exact ⟨rfl,⟨by show B<=b;omega,h2⟩,hne,h3.other hne _ _⟩
  ·rw [getD_set_ne e] at hr ⊢
   obtain ⟨h1,h2,h3,h4⟩:=h.each i (by omega) hr
   exact ⟨h1,⟨h2.1,Nat.lt_of_lt_of_le h2.2 hH⟩,h3,h4.other h3 _ _⟩
 ·by_cases ei:i=k
  ·subst ei
   rw [getD_set_eq hk] at hri ⊢
   rw [getD_set_ne (Ne.symm hij)] at hrj ⊢
   obtain ⟨b,rfl,h1,_⟩:=hn hri
   have:=(h.each j (by omega) hrj).2.1.2
   show b≠_
   omega
  ·rw [getD_set_ne ei] at hri ⊢
   by_cases ej:j=k
   ·subst ej
    rw [getD_set_eq hk] at hrj ⊢
    obtain ⟨b,rfl,h1,_⟩:=hn hrj
    have:=(h.each i (by omega) hri).2.1.2
    show _≠b
    omega
   ·rw [getD_set_ne ej] at hrj ⊢
    exact h.two i j (by omega) (by omega) hij hri hrj
theorem PM.turn {B H:Nat}{w w':World}{pb pc k:Nat}{l:List PV}(h:PM B H w pb pc k l)(hkl:k<=l.length){i:Nat}(hi:i < k)(hr:(l.getD i .none).right≠[])(r:List (Int×Int))(hl:r.length=(l.getD i .none).right.length)
  (hb:∀ j,B<=j->j < H->j≠ablk (l.getD i .none).ra->w'.heap[j]?=w.heap[j]?) (hn:RB w' (ablk (l.getD i .none).ra) 62 (sCl r) (l.getD i .none).rc 2):PM B H w' pb pc k (l.set i { l.getD i .none with right:=r }):=by
 have hil:i < l.length:=by omega
 have hg:=proCells_get l i hil
 have hcs:pCl (l.set i { l.getD i .none with right:=r })=pCl l:=by
  rw [proCells_set hil,set_same hg.1]
  simp only [hl]
  rw [set_same hg.2.1,set_same hg.2.2]
 obtain ⟨q1,q2,q3,q4⟩:=h.each i hi hr
 have hrn:∀ j,j < k->j≠i->(l.getD j .none).right≠[]->ablk (l.getD j .none).ra≠ablk (l.getD i .none).ra:=fun j hj hji hrj=>h.two j i hj hi hji hrj hr
 refine ⟨hcs ▸ h.row.kept (hb _ h.lo.1 h.lo.2 (Ne.symm q3)),h.lo,fun j hj hrj=>?_,fun x y hx hy hxy hrx hry=>?_⟩
 ·by_cases e:j=i
  ·subst e
   rw [getD_set_eq hil]
   exact ⟨q1,q2,q3,hn⟩
  ·rw [getD_set_ne e] at hrj ⊢
   obtain ⟨h1,h2,h3,h4⟩:=h.each j hj hrj
   exact ⟨h1,h2,h3,h4.kept (hb _ h2.1 h2.2 (hrn j hj e hrj))⟩
 ·have hz:∀ z,z < k->((l.set i { l.getD i .none with right:=r }).getD z .none).right≠[]->((l.set i { l.getD i .none with right:=r }).getD z .none).ra=(l.getD z .none).ra/\(l.getD z .none).right≠[]:=fun z _ hrz=>by
   by_cases e:z=i
   ·subst e;rw [getD_set_eq hil];exact ⟨rfl,hr⟩
   ·rw [getD_set_ne e] at hrz ⊢;exact ⟨rfl,hrz⟩
  rw [(hz x hx hrx).1,(hz y hy hry).1]
  exact h.two x y hx hy hxy (hz x hx hrx).2 (hz y hy hry).2
theorem LMt.turn {B H:Nat}{w w':World}{pb pc k:Nat}{l:List LV}(h:LMt B H w pb pc k l)(hkl:k<=l.length){i:Nat}(hi:i < k)(hr:(l.getD i .none).terms≠[])(r:List Int)(hl:r.length=(l.getD i .none).terms.length)
  (hb:∀ j,B<=j->j < H->j≠ablk (l.getD i .none).ta->w'.heap[j]?=w.heap[j]?) (hn:RB w' (ablk (l.getD i .none).ta) 3 (r.map (.int .i64 ·)) (l.getD i .none).tc 1):LMt B H w' pb pc k (l.set i { l.getD i .none with terms:=r }):=by
 have hil:i < l.length:=by omega
 have hg:=levCells_get l i hil
 have hcs:levCells (l.set i { l.getD i .none with terms:=r })=levCells l:=by
  rw [levCells_set hil,set_same hg.1]
  simp only [hl]
  rw [set_same hg.2]
 obtain ⟨q1,q2,q3,q4⟩:=h.each i hi hr
 have hrn:∀ j,j < k->j≠i->(l.getD j .none).terms≠[]->ablk (l.getD j .none).ta≠ablk (l.getD i .none).ta:=fun j hj hji hrj=>h.two j i hj hi hji hrj hr
 refine ⟨hcs ▸ h.row.kept (hb _ h.lo.1 h.lo.2 (Ne.symm q3)),h.lo,fun j hj hrj=>?_,fun x y hx hy hxy hrx hry=>?_⟩
 ·by_cases e:j=i
  ·subst e
   rw [getD_set_eq hil]
   exact ⟨q1,q2,q3,hn⟩
  ·rw [getD_set_ne e] at hrj ⊢
   obtain ⟨h1,h2,h3,h4⟩:=h.each j hj hrj
   exact ⟨h1,h2,h3,h4.kept (hb _ h2.1 h2.2 (hrn j hj e hrj))⟩
 ·have hz:∀ z,z < k->((l.set i { l.getD i .none with terms:=r }).getD z .none).terms≠[]->((l.set i { l.getD i .none with terms:=r }).getD z .none).ta=(l.getD z .none).ta/\(l.getD z .none).terms≠[]:=fun z _ hrz=>by
   by_cases e:z=i
   ·subst e;rw [getD_set_eq hil];exact ⟨rfl,hr⟩
   ·rw [getD_set_ne e] at hrz ⊢;exact ⟨rfl,hrz⟩
  rw [(hz x hx hrx).1,(hz y hy hry).1]
  exact h.two x y hx hy hxy (hz x hx hrx).2 (hz y hy hry).2
theorem PM.left {B H:Nat}{w:World}{pb pc k:Nat}{l:List PV}(h:PM B H w pb pc k l){i:Nat}(hi:i < l.length)(x:Int) :
  PM B H (w.setCell ⟨pb,i*3,none⟩ (.int .i64 x)) pb pc k (l.set i { l.getD i .none with left:=x }):=by
 have hg:=proCells_get l i hi
 have hcs:pCl (l.set i { l.getD i .none with left:=x })=(pCl l).set (i*3) (.int .i64 x):=by
  rw [proCells_set hi]
  dsimp only
  rw [set_same (l:=(pCl l).set (i*3) (.int .i64 x)) (by rw [List.getElem?_set_ne (by omega)];exact hg.2.1),set_same (l:=(pCl l).set (i*3) (.int .i64 x)) (by rw [List.getElem?_set_ne (by omega)];exact hg.2.2)]
 have hz:∀ z,((l.set i { l.getD i .none with left:=x }).getD z .none).ra=(l.getD z .none).ra/\((l.set i { l.getD i .none with left:=x }).getD z .none).right=(l.getD z .none).right/\((l.set i { l.getD i .none with left:=x }).getD z .none).rc=(l.getD z .none).rc:=fun z=>by
  by_cases e:z=i
  ·subst e;rw [getD_set_eq hi];exact ⟨rfl,rfl,rfl⟩
  ·rw [getD_set_ne e];exact ⟨rfl,rfl,rfl⟩
 refine ⟨hcs ▸ h.row.set _ _,h.lo,fun j hj hr=>?_,fun a b ha hb hab hra hrb=>?_⟩
 ·rw [(hz j).2.1] at hr
  rw [(hz j).1,(hz j).2.1,(hz j).2.2]
  obtain ⟨h1,h2,h3,h4⟩:=h.each j hj hr
  exact ⟨h1,h2,h3,h4.other h3 _ _⟩
 ·rw [(hz a).1,(hz b).1]
  rw [(hz a).2.1] at hra
  rw [(hz b).2.1] at hrb
  exact h.two a b ha hb hab hra hrb
theorem PM.prec {B H:Nat}{w:World}{pb pc k:Nat}{l:List PV}(h:PM B H w pb pc k l){i:Nat}(hi:i < l.length)(x:Int) :
  PM B H (w.setCell ⟨pb,i*3+2,none⟩ (.int .i64 x)) pb pc k (l.set i { l.getD i .none with prec:=x }):=by
 have hg:=proCells_get l i hi
 have hcs:pCl (l.set i { l.getD i .none with prec:=x })=(pCl l).set (i*3+2) (.int .i64 x):=by
  rw [proCells_set hi]
  dsimp only
  rw [set_same hg.1,set_same hg.2.1]
 have hz:∀ z,((l.set i { l.getD i .none with prec:=x }).getD z .none).ra=(l.getD z .none).ra/\((l.set i { l.getD i .none with prec:=x }).getD z .none).right=(l.getD z .none).right/\((l.set i { l.getD i .none with prec:=x }).getD z .none).rc=(l.getD z .none).rc:=fun z=>by
  by_cases e:z=i
  ·subst e;rw [getD_set_eq hi];exact ⟨rfl,rfl,rfl⟩
  ·rw [getD_set_ne e];exact ⟨rfl,rfl,rfl⟩
 refine ⟨hcs ▸ h.row.set _ _,h.lo,fun j hj hr=>?_,fun a b ha hb hab hra hrb=>?_⟩
 ·rw [(hz j).2.1] at hr
  rw [(hz j).1,(hz j).2.1,(hz j).2.2]
  obtain ⟨h1,h2,h3,h4⟩:=h.each j hj hr
  exact ⟨h1,h2,h3,h4.other h3 _ _⟩
 ·rw [(hz a).1,(hz b).1]
  rw [(hz a).2.1] at hra
  rw [(hz b).2.1] at hrb
  exact h.two a b ha hb hab hra hrb
theorem symRow_of {w:World}{b c s:Nat}{l:List (Int×Int)}(h:RB w b 62 (sCl l) c s):SymRow w (some ⟨b,0,none⟩) l:=by
 intro _
 refine ⟨b,0,rfl,h.lt,fun i hi=>?_⟩
 obtain ⟨q1,q2⟩:=symCells_get l i hi
 have r1:=h.cell q1
 have r2:=h.cell q2
 exact ⟨by simpa using r1,by simpa [Nat.add_assoc] using r2⟩
theorem PM.at {B H:Nat}{w:World}{pb pc:Nat}{l:List PV}(h:PM B H w pb pc l.length l):PrRow w (some ⟨pb,0,none⟩) l:=by
 refine ⟨fun _=>⟨pb,0,rfl,h.row.lt,fun i hi=>?_⟩,fun p hp=>?_⟩
 ·obtain ⟨q1,q2,q3⟩:=proCells_get l i hi
  exact ⟨by simpa using h.row.cell q1,by simpa [Nat.add_assoc] using h.row.cell q2,by simpa [Nat.add_assoc] using h.row.cell q3⟩
 ·obtain ⟨i,hi,rfl⟩:=List.getElem_of_mem hp
  have e:l.getD i .none=l[i]:=by simp [List.getD,hi]
  intro hr
  have h2:=h.each i hi (by rw [e];exact hr)
  rw [e] at h2
  have h3:=symRow_of h2.2.2.2 hr
  rw [h2.1]
  exact h3
theorem inRow_of {w:World}{b c s:Nat}{l:List Int}(h:RB w b 3 (l.map (.int .i64 ·)) c s):InRow w (some ⟨b,0,none⟩) l:=by
 intro _
 refine ⟨b,0,rfl,h.lt,fun i hi=>?_⟩
 have r1:=h.cell (i:=i) (u:=.int .i64 (l.getD i 0)) (by simp [List.getD,hi])
 simpa using r1
theorem LMt.at {B H:Nat}{w:World}{pb pc:Nat}{l:List LV}(h:LMt B H w pb pc l.length l):LvRow w (some ⟨pb,0,none⟩) l:=by
 refine ⟨fun _=>⟨pb,0,rfl,h.row.lt,fun i hi=>?_⟩,fun p hp=>?_⟩
 ·obtain ⟨q1,q2⟩:=levCells_get l i hi
  exact ⟨by simpa using h.row.cell q1,by simpa [Nat.add_assoc] using h.row.cell q2⟩
 ·obtain ⟨i,hi,rfl⟩:=List.getElem_of_mem hp
  have e:l.getD i .none=l[i]:=by simp [List.getD,hi]
  intro hr
  have h2:=h.each i hi (by rw [e];exact hr)
  rw [e] at h2
  have h3:=inRow_of h2.2.2.2 hr
  rw [h2.1]
  exact h3
structure CBx (n0:Nat)(w0:World)(arr:Array Value)(w:World):Prop where
 box:w.heap[n0]?=some (.cells arr 26 (0,0))
 out:w.heap[n0+1]?=some (.cells #[.slice none 0 0,.slice none 0 0,.int .i64 0,.slice none 0 0,.slice none 0 0] 26 (0,0))
 bel:Below n0 w0 w
theorem CBx.later {n0:Nat}{w0 w w':World}{arr:Array Value}(h:CBx n0 w0 arr w)(hb:Below w.heap.size w w'):CBx n0 w0 arr w' :=
 ⟨(hb.block _ (lt_of_block h.box)).trans h.box,(hb.block _ (lt_of_block h.out)).trans h.out,h.bel.trans (hb.mono (Nat.le_of_lt (lt_of_block h.box)))⟩
theorem CBx.set {n0:Nat}{w0 w:World}{arr:Array Value}(h:CBx n0 w0 arr w)(i:Nat)(u:Value):CBx n0 w0 (arr.setIfInBounds i u) (w.setCell ⟨n0,i,none⟩ u) :=
 ⟨hSt h.box i u,(Below.heap_setCell _ _ _ _ (show n0+1≠n0 by omega)).trans h.out,h.bel.setCell (p:=⟨n0,i,none⟩) (Nat.le_refl _) u⟩
theorem CBx.put {n0:Nat}{w0 w:World}{arr:Array Value}(h:CBx n0 w0 arr w)(b i:Nat)(u:Value)(hb:n0+2<=b):CBx n0 w0 arr (w.setCell ⟨b,i,none⟩ u) :=
 ⟨(Below.heap_setCell _ _ _ _ (show n0≠b by omega)).trans h.box,(Below.heap_setCell _ _ _ _ (show n0+1≠b by omega)).trans h.out,h.bel.setCell (p:=⟨b,i,none⟩) (by show n0<=b;omega) u⟩
theorem alloc_at (w:World)(o:Obj):(w.alloc o).heap[w.heap.size]?=some o:=heap_alloc_new w o
structure MG (B:Nat)(w:World)(g:GV)(A H E pb lb tb nb:Nat):Prop where
 ord:B<=A/\A<=H/\H<=E/\E<=w.heap.size
 t:g.ta=some ⟨tb,0,none⟩/\RB w tb 9 (g.ts.map .string) g.tc 1/\(tb < A∨E<=tb)/\B<=tb
 n_:g.na=some ⟨nb,0,none⟩/\RB w nb 9 (g.ns.map .string) g.nc 1/\(nb < A∨E<=nb)/\B<=nb
 pa:g.pa=some ⟨pb,0,none⟩
 p:PM A H w pb g.pc g.ps.length g.ps
 pc:g.ps.length<=g.pc
 l:g.ls≠[]->g.la=some ⟨lb,0,none⟩/\LMt H E w lb g.lc g.ls.length g.ls
 tn:tb≠nb
open Go.RowKit Go.Shelf Go.Sort
theorem RB.holds {w:World}{b:Nat}{t:TypeId}{xs:List Value}{c s:Nat}(h:RB w b t xs c s):Holds id w b 0 xs.toArray:=fun j hj=>by
 have hj':j < xs.length:=by simpa using hj
 refine ⟨?_,h.free _⟩
 rw [Nat.zero_add,h.cell (i:=j) (u:=xs[j]) (List.getElem?_eq_getElem hj')]
 simp [hj']
theorem heap_put {w:World}{b n:Nat}{F:Array Value}{cur:Array Value}{t:TypeId}(hb:w.heap[b]?=some (.cells cur t (0,0))):(putRow id (Sort.ahead w n) b 0 F).heap[b]?=some (.cells (putCells id 0 F cur) t (0,0)):=by
 simp [putRow,mapBlock,Sort.ahead,Array.getElem?_modify,hb,onCells]
theorem RB.put {w:World}{b:Nat}{t:TypeId}{xs ys:List Value}{c s:Nat}(h:RB w b t xs c s)(n:Nat)(hl:ys.length=xs.length):RB (putRow id (Sort.ahead w n) b 0 ys.toArray) b t ys c s:=by
 obtain ⟨cur,h1,h2,_,h4,h5⟩:=h
 refine ⟨_,heap_put h1,by simp [putCells];omega,?_,by simpa [putCells] using h4,h5⟩
 apply List.ext_getElem?
 intro j
 by_cases hj:j < ys.length
 ·rw [List.getElem?_take_of_lt hj,Array.getElem?_toList]
  simp [putCells,hj,show j < cur.size by omega]
 ·rw [List.getElem?_take_eq_none (by omega),List.getElem?_eq_none (by omega)]
structure Turned (w w':World)(b:Nat):Prop where
 size:w.heap.size<=w'.heap.size
 other:∀ j,j < w.heap.size->j≠b->w'.heap[j]?=w.heap[j]?
 bel:∀ B,B<=w.heap.size->B<=b->Below B w w'
theorem MG.prods {B:Nat}{w w':World}{g:GV}{A H E pb lb tb nb:Nat}(h:MG B w g A H E pb lb tb nb)(hs:w.heap.size<=w'.heap.size)(hk:∀ j,j < w.heap.size->j < A∨H<=j->w'.heap[j]?=w.heap[j]?)(L:List PV)(hL:L.length=g.ps.length)(hp:PM A H w' pb g.pc L.length L):MG B w' { g with ps:=L } A H E pb lb tb nb:=by
 have ho:=h.ord
 refine ⟨⟨ho.1,ho.2.1,ho.2.2.1,by omega⟩,⟨h.t.1,h.t.2.1.kept (hk _ h.t.2.1.lt (by have:=h.t.2.2;omega)),h.t.2.2⟩,⟨h.n_.1,h.n_.2.1.kept (hk _ h.n_.2.1.lt (by have:=h.n_.2.2;omega)),h.n_.2.2⟩,h.pa,hp,by show L.length<=g.pc;rw [hL];exact h.pc,fun hl=>⟨(h.l hl).1,(h.l hl).2.kept fun j hj hj2=>hk j (by omega) (.inr hj)⟩,h.tn⟩
theorem MG.later {B:Nat}{w w':World}{g:GV}{A H E pb lb tb nb:Nat}(h:MG B w g A H E pb lb tb nb)(hb:Below w.heap.size w w'):MG B w' g A H E pb lb tb nb:=by
 have ho:=h.ord
 have hbs:=hb.size
 exact ⟨⟨ho.1,ho.2.1,ho.2.2.1,by omega⟩,⟨h.t.1,h.t.2.1.later hb,h.t.2.2⟩,⟨h.n_.1,h.n_.2.1.later hb,h.n_.2.2⟩,h.pa,h.p.later (by omega) hb,h.pc,fun hl=>⟨(h.l hl).1,(h.l hl).2.later ho.2.2.2 hb⟩,h.tn⟩
theorem strRow_of {w:World}{b c s:Nat}{l:List ByteArray}(h:RB w b 9 (l.map .string) c s):StrRow w (some ⟨b,0,none⟩) l:=by
 intro _
 refine ⟨b,0,rfl,h.lt,fun i hi=>?_⟩
 have r1:=h.cell (i:=i) (u:=.string (l.getD i ByteArray.empty)) (by simp [List.getD,hi])
 simpa using r1
theorem MG.at {B:Nat}{w:World}{g:GV}{A H E pb lb tb nb:Nat}(h:MG B w g A H E pb lb tb nb)(n:Nat)(tz:∀ s∈g.ts,s.size<=maxLen)(nz:∀ s∈g.ns,s.size<=maxLen)(tl:g.ts.length<=n)(nl:g.ns.length<=n)(pl:g.ps.length<=n)(ll:g.ls.length<=n)(rl:∀ p∈g.ps,p.right.length<=n)(vl:∀ p∈g.ls,p.terms.length<=n):GAt n w g:=by
 refine ⟨?_,?_,?_,?_,tz,nz,tl,nl,pl,ll,rl,vl⟩
 ·rw [h.t.1];exact strRow_of h.t.2.1
 ·rw [h.n_.1];exact strRow_of h.n_.2.1
 ·rw [h.pa];exact h.p.at
 ·by_cases hl:g.ls=[]
  ·rw [hl];exact ⟨fun e=>absurd rfl e,fun p hp=>by cases hp⟩
  ·rw [(h.l hl).1];exact (h.l hl).2.at
theorem MG.kept {B:Nat}{w w':World}{g:GV}{A H E pb lb tb nb:Nat}(h:MG B w g A H E pb lb tb nb)(hs:w.heap.size<=w'.heap.size)(hk:∀ j,B<=j->j < w.heap.size->w'.heap[j]?=w.heap[j]?):MG B w' g A H E pb lb tb nb:=by
 have ho:=h.ord
 exact ⟨⟨ho.1,ho.2.1,ho.2.2.1,by omega⟩,⟨h.t.1,h.t.2.1.kept (hk _ h.t.2.2.2 h.t.2.1.lt),h.t.2.2⟩,⟨h.n_.1,h.n_.2.1.kept (hk _ h.n_.2.2.2 h.n_.2.1.lt),h.n_.2.2⟩,h.pa,h.p.kept fun j hj hj2=>hk j (by omega) (by omega),h.pc,fun hl=>⟨(h.l hl).1,(h.l hl).2.kept fun j hj hj2=>hk j (by omega) (by omega)⟩,h.tn⟩
theorem MG.mono {B B':Nat}{w:World}{g:GV}{A H E pb lb tb nb:Nat}(h:MG B w g A H E pb lb tb nb)(hB:B'<=B):MG B' w g A H E pb lb tb nb:=by
 have ho:=h.ord
 have h1:=h.t.2.2.2
 have h2:=h.n_.2.2.2
 exact ⟨⟨by omega,ho.2⟩,⟨h.t.1,h.t.2.1,h.t.2.2.1,by omega⟩,⟨h.n_.1,h.n_.2.1,h.n_.2.2.1,by omega⟩,h.pa,h.p,h.pc,h.l,h.tn⟩
theorem CBx.five {n0:Nat}{w0 w:World}{arr:Array Value}(h:CBx n0 w0 arr w)(a b c d e:Value) :
  Below n0 w0 (((((w.setCell ⟨n0+1,0,none⟩ a).setCell ⟨n0+1,1,none⟩ b).setCell ⟨n0+1,2,none⟩ c).setCell ⟨n0+1,3,none⟩ d).setCell ⟨n0+1,4,none⟩ e)/\∀ j,j≠n0+1->(((((w.setCell ⟨n0+1,0,none⟩ a).setCell ⟨n0+1,1,none⟩ b).setCell ⟨n0+1,2,none⟩ c).setCell ⟨n0+1,3,none⟩ d).setCell ⟨n0+1,4,none⟩ e).heap[j]?=w.heap[j]?:=by
 refine ⟨((((h.bel.setCell (p:=⟨n0+1,0,none⟩) (by show n0<=n0+1;omega) _).setCell (p:=⟨n0+1,1,none⟩) (by show n0<=n0+1;omega) _).setCell (p:=⟨n0+1,2,none⟩) (by show n0<=n0+1;omega) _).setCell (p:=⟨n0+1,3,none⟩) (by show n0<=n0+1;omega) _).setCell (p:=⟨n0+1,4,none⟩) (by show n0<=n0+1;omega) _,fun j hj=>?_⟩
 rw [Below.heap_setCell _ _ _ _ hj,Below.heap_setCell _ _ _ _ hj,Below.heap_setCell _ _ _ _ hj,Below.heap_setCell _ _ _ _ hj,Below.heap_setCell _ _ _ _ hj]
theorem made_list (z:Value)(n:Nat):(madeCells #[z] n).toList=List.replicate n z:=toList_madeCells_one z n
theorem RB.made (w:World)(z:Value)(n:Nat)(t:TypeId)(hn:n<=maxLen):RB (w.alloc (.cells (madeCells #[z] n) t)) w.heap.size t (List.replicate n z) n 1:=by
 refine ⟨_,alloc_at w _,?_,?_,?_,hn⟩
 ·rw [List.length_replicate,<- Array.length_toList,made_list];simp
 ·rw [made_list,List.length_replicate,List.take_of_length_le (by simp)]
 ·rw [<- Array.length_toList,made_list];simp
open Go.RowKit Go.Shelf Go.Sort Go.Lib
theorem Turned.trans {w w1 w2:World}{b:Nat}(h:Turned w w1 b)(h':Turned w1 w2 b):Turned w w2 b :=
 ⟨Nat.le_trans h.size h'.size,fun j hj hne=>(h'.other j (Nat.lt_of_lt_of_le hj h.size) hne).trans (h.other j hj hne),fun B hB hb=>(h.bel B hB hb).trans (h'.bel B (Nat.le_trans hB h.size) hb)⟩
theorem Turned.of {w w':World}(b:Nat)(h:Below w.heap.size w w'):Turned w w' b:=⟨h.size,fun j hj _=>h.block j hj,fun _ hB _=>h.mono hB⟩
theorem Turned.set (w:World)(b i:Nat)(u:Value):Turned w (w.setCell ⟨b,i,none⟩ u) b :=
 ⟨by simp,fun _ _ hne=>Below.heap_setCell _ _ _ _ hne,fun B _ hb=>(Below.refl B w).setCell (p:=⟨b,i,none⟩) hb u⟩
theorem MG.names {B:Nat}{w:World}{g:GV}{A H E pb lb tb nb:Nat}(h:MG B w g A H E pb lb tb nb)(tb' nb' tc nc:Nat)(ts ns:List ByteArray)(st:Int)(h1:RB w tb' 9 (ts.map .string) tc 1)(h2:RB w nb' 9 (ns.map .string) nc 1)(e1:E<=tb')(e2:E<=nb')(e3:tb'≠nb'):MG B w { g with ta:=some ⟨tb',0,none⟩,tc:=tc,ts:=ts,na:=some ⟨nb',0,none⟩,nc:=nc,ns:=ns,start:=st } A H E pb lb tb' nb':=by
 have ho:=h.ord
 exact ⟨ho,⟨rfl,h1,.inr e1,by omega⟩,⟨rfl,h2,.inr e2,by omega⟩,h.pa,h.p,h.pc,h.l,e3⟩
theorem MG.levels {B:Nat}{w w':World}{g:GV}{A H E pb lb tb nb:Nat}(h:MG B w g A H E pb lb tb nb)(hs:w.heap.size<=w'.heap.size)(hk:∀ j,j < w.heap.size->j < H∨E<=j->w'.heap[j]?=w.heap[j]?)(L:List LV)(hL:L.length=g.ls.length)(hp:L≠[]->LMt H E w' lb g.lc L.length L):MG B w' { g with ls:=L } A H E pb lb tb nb:=by
 have ho:=h.ord
 refine ⟨⟨ho.1,ho.2.1,ho.2.2.1,by omega⟩,⟨h.t.1,h.t.2.1.kept (hk _ h.t.2.1.lt (by have:=h.t.2.2;omega)),h.t.2.2⟩,⟨h.n_.1,h.n_.2.1.kept (hk _ h.n_.2.1.lt (by have:=h.n_.2.2;omega)),h.n_.2.2⟩,h.pa,h.p.kept (fun j hj hj2=>hk j (by omega) (.inl hj2)),h.pc,fun hl=>⟨(h.l (fun e=>hl (by rw [e] at hL;exact List.eq_nil_of_length_eq_zero hL))).1,hp hl⟩,h.tn⟩
theorem prodOk_of {g:GV}(h:OkC g)(i:Nat)(hi:i < g.ps.length):(0<=(g.ps.getD i .none).left/\(g.ps.getD i .none).left < g.ns.length)/\(g.ps.getD i .none).right.length<=16/\(∀ s∈(g.ps.getD i .none).right,0<=s.2/\(s.1=1->s.2 < g.ts.length)/\(s.1≠1->s.2 < g.ns.length))/\((g.ps.getD i .none).prec≠-1->0<=(g.ps.getD i .none).prec/\(g.ps.getD i .none).prec < g.ts.length):=by
 refine ⟨h.left i hi,h.right i hi,fun s hs=>?_,fun hp=>?_⟩
 ·have:=h.inG i hi s hs
  unfold inG at this
  by_cases e1:s.1=1
  ·simp [e1,inT] at this
   exact ⟨this.1,fun _=>this.2,fun e=>absurd e1 e⟩
  ·by_cases e2:s.1=2
   ·simp [e2,inN] at this
    exact ⟨this.1,fun e=>absurd e e1,fun _=>this.2⟩
   ·simp [e1,e2] at this
 ·have:=h.prec i hi
  omega
theorem levOk_of {g:GV}(h:OkC g)(i:Nat)(hi:i < g.ls.length):(g.ls.getD i .none).terms≠[]/\(g.ls.getD i .none).terms.length<=64/\∀ n∈(g.ls.getD i .none).terms,0<=n/\n < g.ts.length:=by
 refine ⟨fun e=>?_,h.terms i hi,(h.level i hi).2.1⟩
 have:=h.ls i hi
 unfold lU_ at this
 rw [if_pos (by rw [e];simp)] at this
 cases this
end Go.Proofs.YthaamdognbncnaaGreatDoor
