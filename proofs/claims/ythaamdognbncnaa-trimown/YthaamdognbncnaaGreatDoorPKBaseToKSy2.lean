import Derived.Test.YthaamdognbncnaaGreatDoorPSGiven0ToHInt
namespace Go.Proofs.YthaamdognbncnaaGreatDoor
set_option linter.unusedVariables false
set_option maxRecDepth 100000
set_option maxHeartbeats 16000000
open Go.RowKit Go.Maps
structure LE where
 g:Nat
 n:Nat
 c:Nat
def LE.v (e:LE):Value:=.slice (some ⟨e.g,0,none⟩) e.n e.c
def marksC (mk:Nat->Nat->List Value)(i n:Nat):List Value:=(List.range n).flatMap (mk i)
section
variable {mk:Nat->Nat->List Value} {sz:Nat}
theorem marksC_succ (mk:Nat->Nat->List Value)(i n:Nat):marksC mk i (n+1)=marksC mk i n++mk i n:=by
 unfold marksC
 rw [List.range_succ,List.flatMap_append]
 simp
theorem marksC_len (h:∀ i k,(mk i k).length=sz)(i n:Nat):(marksC mk i n).length=n*sz:=by
 induction n with
 | zero=>simp [marksC]
 | succ n ih=>rw [marksC_succ,List.length_append,ih,h,Nat.succ_mul]
theorem marksC_get (h:∀ i k,(mk i k).length=sz)(i n k d:Nat)(hk:k < n)(hd:d < sz):(marksC mk i n)[k*sz+d]?=(mk i k)[d]?:=by
 induction n with
 | zero=>omega
 | succ n ih =>
  rw [marksC_succ]
  by_cases e:k < n
  ·have h1:(k+1)*sz<=n*sz:=Nat.mul_le_mul_right _ e
   rw [Nat.succ_mul] at h1
   rw [List.getElem?_append_left (by rw [marksC_len h];omega)]
   exact ih e
  ·obtain rfl:k=n:=by omega
   rw [List.getElem?_append_right (by rw [marksC_len h];omega),marksC_len h,Nat.add_sub_cancel_left]
theorem marksC_add (mk:Nat->Nat->List Value)(i n k:Nat):∃ ys,marksC mk i (n+k)=marksC mk i n++ys:=by
 induction k with
 | zero=>exact ⟨[],by simp⟩
 | succ k ih =>
  obtain ⟨ys,e⟩:=ih
  exact ⟨ys++mk i (n+k),by rw [<- Nat.add_assoc,marksC_succ,e,List.append_assoc]⟩
end
structure KFr (L:List LE)(w w':World):Prop where
 os:w'.os=w.os
 tape:w'.tape=w.tape
 output:w'.output=w.output
 size:w.heap.size<=w'.heap.size
 block:∀ k,k < w.heap.size->(∀ e∈L,e.g≠k)->w'.heap[k]?=w.heap[k]?
theorem KFr.trans {L:List LE}{w w1 w2:World}(h:KFr L w w1)(k:KFr L w1 w2):KFr L w w2 :=
 ⟨k.os.trans h.os,k.tape.trans h.tape,k.output.trans h.output,Nat.le_trans h.size k.size,fun z hz hn=>(k.block z (Nat.lt_of_lt_of_le hz h.size) hn).trans (h.block z hz hn)⟩
theorem KFr.ofBelow {L:List LE}{w w':World}(h:Below w.heap.size w w'):KFr L w w':=⟨h.os,h.tape,h.output,h.size,fun k hk _=>h.block k hk⟩
theorem KFr.refl (L:List LE)(w:World):KFr L w w:=KFr.ofBelow (Below.refl _ _)
theorem below_step {w w1 w2:World}(h:Below w.heap.size w w1)(k:Below w1.heap.size w1 w2):Below w.heap.size w w2:=h.trans (k.mono h.size)
theorem row_block {t:TypeId}{sz n:Nat}{w:World}{e:LE}{xs:List Value}(h:w.ownsRow 0 t sz e.v n xs):∃ cur,w.heap[e.g]?=some (.cells cur t (0,0))/\n=e.n/\e.n<=e.c/\e.c<=maxLen/\cur.size=e.c*sz/\cur.toList.take (e.n*sz)=xs:=by
 rcases h.2 with ⟨e1,_⟩ | ⟨g,cap,cur,e1,_,h1,h2,h3,h4,h5⟩
 ·simp [LE.v] at e1
 ·simp only [LE.v,Value.slice.injEq,Option.some.injEq,Addr.mk.injEq] at e1
  obtain ⟨⟨rfl,_,_⟩,rfl,rfl⟩:=e1
  exact ⟨cur,h1,rfl,h2,h3,h4,h5⟩
theorem row_of_block {t:TypeId}{sz:Nat}{w:World}{e:LE}{xs:List Value}{cur:Array Value}(hl:xs.length=e.n*sz)(h1:w.heap[e.g]?=some (.cells cur t (0,0)))(h2:e.n<=e.c)(h3:e.c<=maxLen)(h4:cur.size=e.c*sz)(h5:cur.toList.take (e.n*sz)=xs):w.ownsRow 0 t sz e.v e.n xs :=
 ⟨hl,.inr ⟨e.g,e.c,cur,rfl,Nat.zero_le _,h1,h2,h3,h4,h5⟩⟩
theorem row_set {t:TypeId}{sz:Nat}{w:World}{e:LE}{xs:List Value}(h:w.ownsRow 0 t sz e.v e.n xs)(m:Nat)(u:Value):(w.setCell ⟨e.g,m,none⟩ u).ownsRow 0 t sz e.v e.n (xs.set m u):=by
 obtain ⟨cur,h1,_,h2,h3,h4,h5⟩:=row_block h
 refine row_of_block (cur:=cur.setIfInBounds m u) (by rw [List.length_set];exact h.1) (hSt h1 m u) h2 h3 (by simpa using h4) ?_
 rw [Array.toList_setIfInBounds,List.take_set,h5]
theorem row_keptB {t:TypeId}{sz n:Nat}{w w':World}{v:Value}{xs:List Value}(h:w.ownsRow 0 t sz v n xs)(hb:∀ k,v.ownBlock=some k->w'.heap[k]?=w.heap[k]?):w'.ownsRow 0 t sz v n xs:=by
 refine ⟨h.1,?_⟩
 rcases h.2 with q | ⟨g,cap,cur,rfl,h1,h2,h3⟩
 ·exact .inl q
 ·exact .inr ⟨g,cap,cur,rfl,h1,(hb g rfl).trans h2,h3⟩
theorem row_later {t:TypeId}{sz n:Nat}{w w':World}{v:Value}{xs:List Value}(h:w.ownsRow 0 t sz v n xs)(hb:Below w.heap.size w w'):w'.ownsRow 0 t sz v n xs:=row_keptB h fun k hk=>hb.block k (World.ownsRow.lt h k hk).2
theorem take_set1 {xs:List Value}{k:Nat}{u:Value}(h:k < xs.length):(xs.set k u).take (k+1)=xs.take k++[u]:=by
 rw [List.take_succ_eq_append_getElem (by simpa using h),List.take_set_of_le (Nat.le_refl _)]
 simp
structure P1 (t:TypeId)(sz:Nat)(mk:Nat->Nat->List Value)(w0:World)(L:List LE)(i k:Nat)(w:World)(X:Nat->List Value):Prop where
 row:∀ j (h:j < L.length),w.ownsRow 0 t sz L[j].v L[j].n (X j)
 nd:∀ j j' (h:j < L.length) (h':j' < L.length),j≠j'->L[j].g≠L[j'].g
 pre:∀ j (h:j < L.length),j < i->X j=marksC mk j L[j].n
 cur:(X i).take (k*sz)=marksC mk i k
 fr:KFr L w0 w
def P1I (t:TypeId)(sz:Nat)(mk:Nat->Nat->List Value)(w0:World)(L:List LE)(i k:Nat)(w:World):Prop:=∃ X,P1 t sz mk w0 L i k w X
section
variable {t:TypeId} {sz:Nat} {mk:Nat->Nat->List Value} {w0 w w':World} {L:List LE} {i k:Nat}
theorem P1I.cell (h:P1I t sz mk w0 L i k w)(hi:i < L.length)(m:Nat)(hm:m < L[i].n*sz):∃ u,w.cell? ⟨L[i].g,m,none⟩=some u:=by
 obtain ⟨X,h⟩:=h
 obtain ⟨cur,h1,_,h2,h3,h4,h5⟩:=row_block (h.row i hi)
 have:m < cur.size:=by rw [h4];exact Nat.lt_of_lt_of_le hm (Nat.mul_le_mul_right _ h2)
 exact ⟨cur[m],by rw [cQa h1];simp [this]⟩
theorem P1I.free (h:P1I t sz mk w0 L i k w)(hi:i < L.length)(m:Nat):w.frozen? ⟨L[i].g,m,none⟩=false:=by
 obtain ⟨X,h⟩:=h
 obtain ⟨cur,h1,_⟩:=row_block (h.row i hi)
 simp [World.frozen?,h1]
theorem P1I.later (h:P1I t sz mk w0 L i k w)(hb:Below w.heap.size w w'):P1I t sz mk w0 L i k w':=by
 obtain ⟨X,h⟩:=h
 exact ⟨X,fun j hj=>row_later (h.row j hj) hb,h.nd,h.pre,h.cur,h.fr.trans (KFr.ofBelow hb)⟩
theorem setCell_fr (hi:i < L.length)(m:Nat)(u:Value):KFr L w (w.setCell ⟨L[i].g,m,none⟩ u) :=
 ⟨rfl,rfl,rfl,by simp [World.setCell],fun z _ hn=>Below.heap_setCell _ _ _ _ (fun e=>hn _ (List.getElem_mem hi) e.symm)⟩
theorem P1I.set1 (h:P1I t 1 mk w0 L i k w)(hi:i < L.length)(hk:k < L[i].n)(u:Value)(hu:mk i k=[u]):P1I t 1 mk w0 L i (k+1) (w.setCell ⟨L[i].g,k,none⟩ u):=by
 obtain ⟨X,h⟩:=h
 have hl:(X i).length=L[i].n*1:=(h.row i hi).1
 refine ⟨fun j=>if j=i then (X j).set k u else X j,fun j hj=>?_,h.nd,fun j hj hji=>?_,?_,h.fr.trans (setCell_fr hi _ _)⟩
 ·by_cases e:j=i
  ·subst e
   simp only [if_pos]
   exact row_set (h.row j hj) k u
  ·simp only [if_neg e]
   refine row_keptB (h.row j hj) fun z hz=>Below.heap_setCell _ _ _ _ (fun e2=>?_)
   simp [LE.v,Value.ownBlock] at hz
   exact h.nd j i hj hi e (hz.trans e2)
 ·simp only [if_neg (show ¬ j=i by omega)]
  exact h.pre j hj hji
 ·simp only [if_pos]
  have:=h.cur
  simp only [Nat.mul_one] at this ⊢
  rw [take_set1 (by omega),this,marksC_succ,hu]
theorem P1I.set2 (h:P1I t 2 mk w0 L i k w)(hi:i < L.length)(hk:k < L[i].n)(u v:Value)(hu:mk i k=[u,v]):P1I t 2 mk w0 L i (k+1) ((w.setCell ⟨L[i].g,k*2,none⟩ u).setCell ⟨L[i].g,k*2+1,none⟩ v):=by
 obtain ⟨X,h⟩:=h
 have hl:(X i).length=L[i].n*2:=(h.row i hi).1
 refine ⟨fun j=>if j=i then ((X j).set (k*2) u).set (k*2+1) v else X j,fun j hj=>?_,h.nd,fun j hj hji=>?_,?_,(h.fr.trans (setCell_fr hi _ _)).trans (setCell_fr hi _ _)⟩
 ·by_cases e:j=i
  ·subst e
   simp only [if_pos]
   exact row_set (row_set (h.row j hj) _ u) _ v
  ·simp only [if_neg e]
   have hne:∀ z,L[j].v.ownBlock=some z->z≠L[i].g:=fun z hz e2=>by
    simp [LE.v,Value.ownBlock] at hz
    exact h.nd j i hj hi e (hz.trans e2)
   exact row_keptB (row_keptB (h.row j hj) fun z hz=>Below.heap_setCell _ _ _ _ (hne z hz)) fun z hz=>Below.heap_setCell _ _ _ _ (hne z hz)
 ·simp only [if_neg (show ¬ j=i by omega)]
  exact h.pre j hj hji
 ·simp only [if_pos]
  rw [show (k+1)*2=k*2+1+1 by omega,take_set1 (by rw [List.length_set];omega),take_set1 (by omega),h.cur,marksC_succ,hu]
  simp
theorem P1I.next (h:P1I t sz mk w0 L i k w)(hi:i < L.length)(hk:k=L[i].n):P1I t sz mk w0 L (i+1) 0 w:=by
 obtain ⟨X,h⟩:=h
 refine ⟨X,h.row,h.nd,fun j hj hji=>?_,by simp [marksC],h.fr⟩
 by_cases e:j=i
 ·subst e
  have:=h.cur
  rw [hk,List.take_of_length_le (Nat.le_of_eq (h.row j hj).1)] at this
  exact this
 ·exact h.pre j hj (by omega)
theorem P1I.start {X:Nat->List Value}(h:∀ j (h:j < L.length),w.ownsRow 0 t sz L[j].v L[j].n (X j))(hnd:∀ j j' (h:j < L.length) (h':j' < L.length),j≠j'->L[j].g≠L[j'].g):P1I t sz mk w L 0 0 w :=
 ⟨X,h,hnd,fun j _ hj=>absurd hj (Nat.not_lt_zero j),by simp [marksC],KFr.refl _ _⟩
end
def CellsK (w:World)(g:Nat)(xs:List Value):Prop:=∀ j u,xs[j]?=some u->w.cell? ⟨g,j,none⟩=some u
theorem CellsK.kept {w w':World}{g:Nat}{xs:List Value}(h:CellsK w g xs)(hb:w'.heap[g]?=w.heap[g]?):CellsK w' g xs:=fun j u hu=>(World.cell?_of_block hb).trans (h j u hu)
theorem cellsK_own {t:TypeId}{sz n g:Nat}{w:World}{v:Value}{xs ys:List Value}(h:w.ownsRow 0 t sz v n (xs++ys))(hv:v.ownBlock=some g):CellsK w g xs:=by
 intro j u hu
 have:=World.ownsRow.cells h hv j u (by rw [List.getElem?_append_left (List.getElem?_eq_some_iff.1 hu).1];exact hu)
 rwa [aNn,Nat.zero_add] at this
structure App (w w':World)(v v':Value):Prop where
 go:(v'.ownBlock=v.ownBlock/\w.grownBy w' v.ownBlock)∨(v'.ownBlock=some w.heap.size/\Below w.heap.size w w')
theorem App.keep {w w':World}{v v':Value}(h:App w w' v v'){z:Nat}(hz:z < w.heap.size)(hn:v.ownBlock≠some z):w'.heap[z]?=w.heap[z]?:=by
 rcases h.go with ⟨_,g⟩ | ⟨_,b⟩
 ·exact g.block z hz (fun e=>hn e.symm)
 ·exact b.block z hz
theorem App.fr {L:List LE}{w w':World}{v v':Value}(h:App w w' v v')(hn:∀ z,v.ownBlock=some z->z < w.heap.size->∃ e∈L,e.g=z):KFr L w w':=by
 have hk:∀ z,z < w.heap.size->(∀ e∈L,e.g≠z)->w'.heap[z]?=w.heap[z]?:=fun z hz hne=>h.keep hz fun e=>by
  obtain ⟨x,hx,ex⟩:=hn z e hz
  exact hne x hx ex
 rcases h.go with ⟨_,g⟩ | ⟨_,b⟩
 ·exact ⟨g.os,g.tape,g.output,g.size,hk⟩
 ·exact ⟨b.os,b.tape,b.output,b.size,hk⟩
structure P2 (t:TypeId)(sz:Nat)(mk:Nat->Nat->List Value)(w1:World)(L:List LE)(gs:List Value)(lo:Nat)(w:World):Prop where
 len:gs.length<=L.length
 old:∀ j (h:j < L.length),CellsK w L[j].g (marksC mk j L[j].n)
 own:∀ j (h:j < L.length),lo<=j->w.ownsRow 0 t sz L[j].v L[j].n (marksC mk j L[j].n)
 new:∀ j (h:j < L.length) (h':j < gs.length),w.ownsRow 0 t sz gs[j] (L[j].n+40) (marksC mk j (L[j].n+40))
 blk:∀ j (h:j < L.length) (h':j < gs.length) k,gs[j].ownBlock=some k->k=L[j].g∨w1.heap.size<=k
 dis:∀ j j' (h:j < gs.length) (h':j' < gs.length) k,j≠j'->gs[j].ownBlock=some k->gs[j'].ownBlock≠some k
 nd:∀ j j' (h:j < L.length) (h':j' < L.length),j≠j'->L[j].g≠L[j'].g
 lt:∀ j (h:j < L.length),L[j].g < w1.heap.size
 fr:KFr L w1 w
structure P2g (t:TypeId)(sz:Nat)(mk:Nat->Nat->List Value)(w1:World)(L:List LE)(gs:List Value)(k:Nat)(g:Value)(w:World):Prop where
 p:P2 t sz mk w1 L gs (gs.length+1) w
 hi:gs.length < L.length
 cur:w.ownsRow 0 t sz g (L[gs.length].n+k) (marksC mk gs.length (L[gs.length].n+k))
 cblk:∀ z,g.ownBlock=some z->z=L[gs.length].g∨w1.heap.size<=z
 cdis:∀ j (h:j < gs.length) z,g.ownBlock=some z->gs[j].ownBlock≠some z
section
variable {t:TypeId} {sz:Nat} {mk:Nat->Nat->List Value} {w1 w w':World} {L:List LE} {gs:List Value} {lo k:Nat} {g g':Value}
theorem P2.later (h:P2 t sz mk w1 L gs lo w)(hb:Below w.heap.size w w'):P2 t sz mk w1 L gs lo w' :=
 ⟨h.len,fun j hj=>(h.old j hj).kept (hb.block _ (Nat.lt_of_lt_of_le (h.lt j hj) h.fr.size)),fun j hj hl=>row_later (h.own j hj hl) hb,fun j hj hl=>row_later (h.new j hj hl) hb,h.blk,h.dis,h.nd,h.lt,h.fr.trans (KFr.ofBelow hb)⟩
theorem P2g.later (h:P2g t sz mk w1 L gs k g w)(hb:Below w.heap.size w w'):P2g t sz mk w1 L gs k g w':=⟨h.p.later hb,h.hi,row_later h.cur hb,h.cblk,h.cdis⟩
theorem P2.start {w0:World}(h:P1I t sz mk w0 L L.length k w):P2 t sz mk w L [] 0 w:=by
 obtain ⟨X,h⟩:=h
 have hr:∀ j (h:j < L.length),w.ownsRow 0 t sz L[j].v L[j].n (marksC mk j L[j].n):=fun j hj=>by rw [<- h.pre j hj hj];exact h.row j hj
 refine ⟨Nat.zero_le _,fun j hj=>cellsK_own (ys:=[]) (by rw [List.append_nil];exact hr j hj) rfl,fun j hj _=>hr j hj,fun j _ hj=>absurd hj (Nat.not_lt_zero j),fun j _ hj=>absurd hj (Nat.not_lt_zero j),fun j _ hj=>absurd hj (Nat.not_lt_zero j),h.nd,fun j hj=>?_,KFr.refl _ _⟩
 obtain ⟨cur,h1,_⟩:=row_block (hr j hj)
 exact lt_of_block h1
theorem P2.begin (h:P2 t sz mk w1 L gs gs.length w)(hi:gs.length < L.length):P2g t sz mk w1 L gs 0 L[gs.length].v w:=by
 refine ⟨⟨h.len,h.old,fun j hj hl=>h.own j hj (by omega),h.new,h.blk,h.dis,h.nd,h.lt,h.fr⟩,hi,h.own _ hi (Nat.le_refl _),fun z hz=>.inl (by simp [LE.v,Value.ownBlock] at hz;exact hz.symm),fun j hj z hz he=>?_⟩
 simp [LE.v,Value.ownBlock] at hz
 rcases h.blk j (by omega) hj z he with r | r
 ·exact h.nd j gs.length (by omega) hi (by omega) (r.symm.trans hz.symm)
 ·have:=h.lt _ hi;omega
theorem P2g.app (h:P2g t sz mk w1 L gs k g w)(ha:App w w' g g')(ho:w'.ownsRow 0 t sz g' (L[gs.length]'h.hi |>.n |> (·+k+1)) (marksC mk gs.length ((L[gs.length]'h.hi).n+k)++mk gs.length ((L[gs.length]'h.hi).n+k))):P2g t sz mk w1 L gs (k+1) g' w':=by
 have ho2:w'.ownsRow 0 t sz g' ((L[gs.length]'h.hi).n+(k+1)) (marksC mk gs.length ((L[gs.length]'h.hi).n+(k+1))):=by rw [<- Nat.add_assoc,marksC_succ];exact ho
 have hin:∀ z,g.ownBlock=some z->z < w1.heap.size->z=(L[gs.length]'h.hi).g:=fun z hz hlt=>by
  rcases h.cblk z hz with r | r
  ·exact r
  ·omega
 refine ⟨⟨h.p.len,fun j hj=>?_,fun j hj hl=>?_,fun j hj hl=>?_,h.p.blk,h.p.dis,h.p.nd,h.p.lt,?_⟩,h.hi,ho2,fun z hz=>?_,fun j hj z hz he=>?_⟩
 ·have hlt:=Nat.lt_of_lt_of_le (h.p.lt j hj) h.p.fr.size
  by_cases e:g.ownBlock=some L[j].g
  ·have e2:=hin _ e (h.p.lt j hj)
   have e3:j=gs.length:=by
    by_cases e4:j=gs.length
    ·exact e4
    ·exact absurd e2 (h.p.nd j _ hj h.hi e4)
   subst e3
   rcases ha.go with ⟨r,_⟩ | ⟨_,b⟩
   ·obtain ⟨ys,ey⟩:=marksC_add mk gs.length (L[gs.length]'h.hi).n (k+1)
    rw [ey] at ho2
    exact cellsK_own ho2 (r.trans e)
   ·exact (h.p.old _ hj).kept (b.block _ hlt)
  ·exact (h.p.old j hj).kept (ha.keep hlt e)
 ·refine row_keptB (h.p.own j hj hl) fun z hz=>?_
  simp [LE.v,Value.ownBlock] at hz
  subst hz
  refine ha.keep (Nat.lt_of_lt_of_le (h.p.lt j hj) h.p.fr.size) fun e=>?_
  exact h.p.nd j _ hj h.hi (by omega) (hin _ e (h.p.lt j hj))
 ·refine row_keptB (h.p.new j hj hl) fun z hz=>?_
  exact ha.keep (World.ownsRow.lt (h.p.new j hj hl) z hz).2 fun e=>h.cdis j hl z e hz
 ·have hf:=h.p.fr
  have hk:∀ z,z < w1.heap.size->(∀ e∈L,e.g≠z)->w'.heap[z]?=w.heap[z]?:=fun z hz hne=>ha.keep (Nat.lt_of_lt_of_le hz hf.size) fun e=>hne _ (List.getElem_mem h.hi) (hin z e hz).symm
  rcases ha.go with ⟨_,q⟩ | ⟨_,q⟩
  ·exact ⟨q.os.trans hf.os,q.tape.trans hf.tape,q.output.trans hf.output,Nat.le_trans hf.size q.size,fun z hz hne=>(hk z hz hne).trans (hf.block z hz hne)⟩
  ·exact ⟨q.os.trans hf.os,q.tape.trans hf.tape,q.output.trans hf.output,Nat.le_trans hf.size q.size,fun z hz hne=>(hk z hz hne).trans (hf.block z hz hne)⟩
 ·rcases ha.go with ⟨r,_⟩ | ⟨r,_⟩
  ·exact h.cblk z (r ▸ hz)
  ·rw [hz] at r;simp at r;exact .inr (by have:=h.p.fr.size;omega)
 ·rcases ha.go with ⟨r,_⟩ | ⟨r,_⟩
  ·exact h.cdis j hj z (r ▸ hz) he
  ·rw [hz] at r;simp at r
   have:=(World.ownsRow.lt (h.p.new j (by have:=h.p.len;omega) hj) z he).2
   omega
theorem P2g.fin {tl:TypeId}{gv:Value}{ss:List Value}(h:P2g t sz mk w1 L gs 40 g w)(hl:HL tl w gv ss)(htl:t≠tl)(hlo:∀ z,gv.ownBlock=some z->w1.heap.size<=z)(hg:w.grownBy w' gv.ownBlock):P2 t sz mk w1 L (gs++[g]) (gs++[g]).length w':=by
 have hr:∀ v n xs,w.ownsRow 0 t sz v n xs->w'.ownsRow 0 t sz v n xs:=fun v n xs ho=>row_keptB ho fun z hz=>by
  refine hg.block z (World.ownsRow.lt ho z hz).2 ?_
  rcases ho.2 with ⟨rfl,_⟩ | ⟨b,cap,cur,rfl,_,hb,_⟩
  ·simp [Value.ownBlock] at hz
  ·simp [Value.ownBlock] at hz
   subst hz
   exact hl.ne hb htl
 have hf:=h.p.fr
 have hlen:(gs++[g]).length=gs.length+1:=by simp
 refine ⟨by rw [hlen];exact h.hi,fun j hj=>(h.p.old j hj).kept (hg.block _ (Nat.lt_of_lt_of_le (h.p.lt j hj) hf.size) fun e=>?_),fun j hj hj2=>hr _ _ _ (h.p.own j hj (by omega)),fun j hj hj2=>?_,fun j hj hj2 z hz=>?_,fun j j' hj hj' z hne hz hz'=>?_,h.p.nd,h.p.lt,⟨hg.os.trans hf.os,hg.tape.trans hf.tape,hg.output.trans hf.output,Nat.le_trans hf.size hg.size,fun z hz hne=>(hg.block z (Nat.lt_of_lt_of_le hz hf.size) fun e=>?_).trans (hf.block z hz hne)⟩⟩
 ·have:=hlo _ e.symm;have:=h.p.lt j hj;omega
 ·by_cases e:j < gs.length
  ·rw [List.getElem_append_left e]
   exact hr _ _ _ (h.p.new j hj e)
  ·obtain rfl:j=gs.length:=by omega
   simp only [List.getElem_concat_length]
   exact hr _ _ _ h.cur
 ·by_cases e:j < gs.length
  ·rw [List.getElem_append_left e] at hz
   exact h.p.blk j hj e z hz
  ·obtain rfl:j=gs.length:=by omega
   simp only [List.getElem_concat_length] at hz
   exact h.cblk z hz
 ·by_cases e:j < gs.length
  ·rw [List.getElem_append_left e] at hz
   by_cases e':j' < gs.length
   ·rw [List.getElem_append_left e'] at hz'
    exact h.p.dis j j' e e' z hne hz hz'
   ·obtain rfl:j'=gs.length:=by omega
    simp only [List.getElem_concat_length] at hz'
    exact h.cdis j e z hz' hz
  ·obtain rfl:j=gs.length:=by omega
   simp only [List.getElem_concat_length] at hz
   have e':j' < gs.length:=by omega
   rw [List.getElem_append_left e'] at hz'
   exact h.cdis j' e' z hz hz'
 ·have:=hlo _ e.symm;omega
theorem P2.look (h:P2 t sz mk w1 L gs lo w)(hm:∀ i k,(mk i k).length=sz)(j:Nat)(hj:j < L.length)(hj2:j < gs.length):∃ b c,gs[j]=.slice (some ⟨b,0,none⟩) (L[j].n+40) c/\∀ k,k < L[j].n+40->∀ d,d < sz->w.cell? ⟨b,k*sz+d,none⟩=(mk j k)[d]?:=by
 have ho:=h.new j hj hj2
 rcases ho.2 with ⟨_,h0⟩ | ⟨b,cap,cur,e,_,hb,_⟩
 ·omega
 ·refine ⟨b,cap,e,fun k hk d hd=>?_⟩
  have hu:d < (mk j k).length:=by rw [hm];exact hd
  have:=World.ownsRow.cells ho (g:=b) (by rw [e];rfl) (k*sz+d) (mk j k)[d] (by rw [marksC_get hm _ _ _ _ hk hd];simp [hu])
  rw [aNn,Nat.zero_add] at this
  rw [this];simp [hu]
theorem P2.lookOld (h:P2 t sz mk w1 L gs lo w)(hm:∀ i k,(mk i k).length=sz)(j:Nat)(hj:j < L.length):∀ k,k < L[j].n->∀ d,d < sz->w.cell? ⟨L[j].g,k*sz+d,none⟩=(mk j k)[d]?:=by
 intro k hk d hd
 have hu:d < (mk j k).length:=by rw [hm];exact hd
 rw [h.old j hj (k*sz+d) (mk j k)[d] (by rw [marksC_get hm _ _ _ _ hk hd];simp [hu])]
 simp [hu]
end
theorem run_row_append {tt t:TypeId}{i0:TypeInfo}{z0:Value}{sz by_:Nat}(hu:Tryz.prog.underlying tt=some (.slice t))(hi:Tryz.prog.info? t=some i0)(hz0:i0.zero=some z0)(hz1:i0.size=sz)(hz2:i0.bytes=by_)(hzc:z0.cells.size=sz)(h0:0 < sz)(hby:by_<=64)
  (w:World) (ty:TypeId) (v:Value) (n:Nat) (xs:List Value) (h:w.ownsRow 0 t sz v n xs) (b c:Nat) (ys:List Value) (hy:ys.length=sz) (hx:∀ j u,ys[j]?=some u->w.cell? ⟨b,j,none⟩=some u) (h1:∀ u∈ys,u.oneCell'=true) (hlen:n<=1000000000) :
  ∃ v' w',(Builtin.append_ #[tt,tt] ty #[v,.slice (some ⟨b,0,none⟩) 1 c]).run Tryz.prog w=.ok v' w'/\w'.ownsRow 0 t sz v' (n+1) (xs++ys)/\App w w' v v':=by
 have hnews:∀ j u,ys[j]?=some u->w.cell? ((⟨b,0,none⟩:Addr).add j)=some u:=by
  intro j u hu
  rw [aNn,Nat.zero_add]
  exact hx j u hu
 have hlim:(n+1)*by_<=140737488355328:=Nat.le_trans (Nat.mul_le_mul_left _ hby) (by omega)
 obtain ⟨v',w',hrun,hown,hgrow,hnil⟩:=run_append_own (P:=Tryz.prog) w 0 tt ty t i0 z0 sz by_ hu hi hz0 hz1 hz2 hzc h0 v n xs h ⟨b,0,none⟩ 1 c ys (by rw [Nat.one_mul];exact hy) hnews h1 (by unfold maxLen;omega) hlim (Nat.zero_le _)
 refine ⟨v',w',hrun,hown,⟨?_⟩⟩
 rcases h.2 with ⟨rfl,hn0⟩ | ⟨g,cap,cur,rfl,hbg,hg,hnc,hcm,hcs,htake⟩
 ·subst hn0
  obtain rfl:xs=[]:=List.eq_nil_of_length_eq_zero (by rw [h.1,Nat.zero_mul])
  have hr2:=run_append_nil (P:=Tryz.prog) w tt ty t i0 z0 hu hi hz0 ⟨b,0,none⟩ 1 c ys (by rw [hz1,Nat.one_mul];exact hy) hnews (by omega) (by omega) (by rw [hz2];omega)
  have e:=hrun.symm.trans hr2
  right
  simp only [Result.ok.injEq] at e
  rw [e.1,e.2]
  exact ⟨rfl,(Below.refl _ _).drew.alloc (Nat.le_refl _) _⟩
 ·by_cases hroom:n+1<=cap
  ·have hr2:=run_append_room (P:=Tryz.prog) w tt ty t i0 hu hi g n cap cur hg ⟨b,0,none⟩ 1 c ys (by rw [hz1,Nat.one_mul];exact hy) hnews h1 hroom (by rw [hz1,hcs,hy];have:(n+1)*sz<=cap*sz:=Nat.mul_le_mul_right _ hroom;rw [Nat.succ_mul] at this;exact this)
   have e:=hrun.symm.trans hr2
   simp only [Result.ok.injEq] at e
   left
   refine ⟨by rw [e.1];rfl,hgrow⟩
  ·have hr2:=run_append_grow (P:=Tryz.prog) w tt ty t i0 z0 hu hi hz0 ⟨g,0,none⟩ n cap xs (by rw [hz1];exact h.1) (World.ownsRow.cells h (g:=g) rfl) ⟨b,0,none⟩ 1 c ys (by rw [hz1,Nat.one_mul];exact hy) hnews (by omega) (by omega) (growslice_fits (by omega) (by rw [hz2];exact hlim))
   have e:=hrun.symm.trans hr2
   simp only [Result.ok.injEq] at e
   right
   rw [e.1,e.2]
   exact ⟨rfl,(Below.refl _ _).drew.alloc (Nat.le_refl _) _⟩
theorem wpList_row_append {tt t:TypeId}{i0:TypeInfo}{z0:Value}{sz by_:Nat}(hu:Tryz.prog.underlying tt=some (.slice t))(hi:Tryz.prog.info? t=some i0)(hz0:i0.zero=some z0)(hz1:i0.size=sz)(hz2:i0.bytes=by_)(hzc:z0.cells.size=sz)(h0:0 < sz)(hby:by_<=64)
  {ops:Array Oper} {rest:List Oper} {o:Oper} {a:Act} {Q:Exit->Act->World->Prop} {w:World} (hgd:o.guard=none) (s x:Operand)
  (ho:o.op=.call { callee:=.builtin .append,args:=#[s,x],argTypes:=#[tt,tt] })
  (v:Value) (n:Nat) (xs:List Value) (hs:a.eval s=v) (h:w.ownsRow 0 t sz v n xs) (b c:Nat) (ys:List Value) (hx:a.eval x=.slice (some ⟨b,0,none⟩) 1 c) (hy:ys.length=sz) (hc:∀ j u,ys[j]?=some u->w.cell? ⟨b,j,none⟩=some u) (h1:∀ u∈ys,u.oneCell'=true) (hlen:n<=1000000000)
  (hK:∀ v' w',w'.ownsRow 0 t sz v' (n+1) (xs++ys)->App w w' v v'->wpList Tryz.prog ops Q rest (a.put o.dst v') w'):wpList Tryz.prog ops Q (o :: rest) a w:=by
 refine wpList_plain hgd fun K hK'=>?_
 obtain ⟨v',w',hrun,h2,h3⟩:=run_row_append hu hi hz0 hz1 hz2 hzc h0 hby w o.type v n xs h b c ys hy hc h1 hlen
 unfold Oper.wp execOp
 simp only [ho,resolve,invoke,builtin,Sem.run_bind,Sem.run_pure,Result.andThen_ok,List.map_toArray,List.map_cons,List.map_nil,hs,hx,hrun]
 exact hK' _ _ (hK v' w' h2 h3)
section
variable {t:TypeId} {sz:Nat} {mk:Nat->Nat->List Value} {w0 w1 w w':World} {L:List LE} {gs:List Value} {i k lo eg en ec:Nat} {g g':Value}
theorem P1I.cellE (h:P1I t sz mk w0 L i k w)(he:L[i]?=some ⟨eg,en,ec⟩)(m:Nat)(hm:m < en*sz):∃ u,w.cell? ⟨eg,m,none⟩=some u:=by
 obtain ⟨hi,e⟩:=List.getElem?_eq_some_iff.1 he
 have:=h.cell hi m (by rw [e];exact hm)
 rwa [e] at this
theorem P1I.freeE (h:P1I t sz mk w0 L i k w)(he:L[i]?=some ⟨eg,en,ec⟩)(m:Nat):w.frozen? ⟨eg,m,none⟩=false:=by
 obtain ⟨hi,e⟩:=List.getElem?_eq_some_iff.1 he
 have:=h.free hi m
 rwa [e] at this
theorem P1I.set1E (h:P1I t 1 mk w0 L i k w)(he:L[i]?=some ⟨eg,en,ec⟩)(hk:k < en)(u:Value)(hu:mk i k=[u]):P1I t 1 mk w0 L i (k+1) (w.setCell ⟨eg,k,none⟩ u):=by
 obtain ⟨hi,e⟩:=List.getElem?_eq_some_iff.1 he
 have:=h.set1 hi (by rw [e];exact hk) u hu
 rwa [e] at this
theorem P1I.set2E (h:P1I t 2 mk w0 L i k w)(he:L[i]?=some ⟨eg,en,ec⟩)(hk:k < en)(u v:Value)(hu:mk i k=[u,v]):P1I t 2 mk w0 L i (k+1) ((w.setCell ⟨eg,k*2,none⟩ u).setCell ⟨eg,k*2+1,none⟩ v):=by
 obtain ⟨hi,e⟩:=List.getElem?_eq_some_iff.1 he
 have:=h.set2 hi (by rw [e];exact hk) u v hu
 rwa [e] at this
theorem P1I.nextE (h:P1I t sz mk w0 L i en w)(he:L[i]?=some ⟨eg,en,ec⟩):P1I t sz mk w0 L (i+1) 0 w:=by
 obtain ⟨hi,e⟩:=List.getElem?_eq_some_iff.1 he
 exact h.next hi (by rw [e])
theorem P1I.fr (h:P1I t sz mk w0 L i k w):KFr L w0 w:=by
 obtain ⟨X,h⟩:=h
 exact h.fr
theorem P2.beginE (h:P2 t sz mk w1 L gs gs.length w)(he:L[gs.length]?=some ⟨eg,en,ec⟩):P2g t sz mk w1 L gs 0 (.slice (some ⟨eg,0,none⟩) en ec) w:=by
 obtain ⟨hi,e⟩:=List.getElem?_eq_some_iff.1 he
 have:=h.begin hi
 rwa [e] at this
theorem P2g.curE (h:P2g t sz mk w1 L gs k g w)(he:L[gs.length]?=some ⟨eg,en,ec⟩):w.ownsRow 0 t sz g (en+k) (marksC mk gs.length (en+k)):=by
 obtain ⟨hi,e⟩:=List.getElem?_eq_some_iff.1 he
 have:=h.cur
 rwa [e] at this
theorem P2g.appE (h:P2g t sz mk w1 L gs k g w)(he:L[gs.length]?=some ⟨eg,en,ec⟩)(ha:App w w' g g')(ho:w'.ownsRow 0 t sz g' (en+k+1) (marksC mk gs.length (en+k)++mk gs.length (en+k))):P2g t sz mk w1 L gs (k+1) g' w':=by
 obtain ⟨hi,e⟩:=List.getElem?_eq_some_iff.1 he
 refine h.app ha ?_
 rw [e]
 exact ho
theorem P2.lookE (h:P2 t sz mk w1 L gs lo w)(hm:∀ i k,(mk i k).length=sz)(he:L[i]?=some ⟨eg,en,ec⟩)(hj2:i < gs.length):∃ b c,gs[i]?=some (.slice (some ⟨b,0,none⟩) (en+40) c)/\∀ k,k < en+40->∀ d,d < sz->w.cell? ⟨b,k*sz+d,none⟩=(mk i k)[d]?:=by
 obtain ⟨hi,e⟩:=List.getElem?_eq_some_iff.1 he
 obtain ⟨b,c,e1,e2⟩:=h.look hm i hi hj2
 rw [e] at e1 e2
 exact ⟨b,c,by rw [List.getElem?_eq_getElem hj2,e1],e2⟩
theorem P2.lookOldE (h:P2 t sz mk w1 L gs lo w)(hm:∀ i k,(mk i k).length=sz)(he:L[i]?=some ⟨eg,en,ec⟩):∀ k,k < en->∀ d,d < sz->w.cell? ⟨eg,k*sz+d,none⟩=(mk i k)[d]?:=by
 obtain ⟨hi,e⟩:=List.getElem?_eq_some_iff.1 he
 have:=h.lookOld hm i hi
 rwa [e] at this
theorem HL.setK {tl:TypeId}{lv:Value}{ss:List Value}(h:HL tl w lv ss)(hf:KFr L w w')(hn:∀ e∈L,some e.g≠lv.ownBlock):HL tl w' lv ss:=h.kept fun z hz=>hf.block z (h.lt z hz) fun e he e2=>hn e he (by rw [hz,e2])
theorem le_at {tl:TypeId}{lb ln lc:Nat}(h:HL tl w (.slice (some ⟨lb,0,none⟩) ln lc) (L.map LE.v)){i:Nat}(hi:i < L.length):∃ eg en ec,Hid (L[i]?=some ⟨eg,en,ec⟩)/\w.cell? ⟨lb,i,none⟩=some (.slice (some ⟨eg,0,none⟩) en ec):=by
 obtain ⟨g,c,e,hc⟩:=h.at i L[i].v (by simp [hi])
 simp only [Value.slice.injEq,Option.some.injEq,Addr.mk.injEq] at e
 obtain ⟨⟨rfl,_⟩,_⟩:=e
 exact ⟨L[i].g,L[i].n,L[i].c,by show _=_;simp [hi],hc⟩
theorem row_slice {n:Nat}{xs:List Value}(h:w.ownsRow 0 t sz g n xs):∃ a c,g=.slice a n c:=by
 rcases h.2 with ⟨rfl,rfl⟩ | ⟨b,cap,cur,rfl,_⟩
 ·exact ⟨none,0,rfl⟩
 ·exact ⟨_,_,rfl⟩
theorem HL.app {tl:TypeId}{gv:Value}{ss:List Value}{n:Nat}{xs:List Value}(h:HL tl w gv ss)(hc:w.ownsRow 0 t sz g n xs)(ht:t≠tl)(ha:App w w' g g'):HL tl w' gv ss:=h.kept fun z hz=>ha.keep (h.lt z hz) fun e=>by
 rcases hc.2 with ⟨rfl,_⟩ | ⟨b,cap,cur,rfl,_,hb,_⟩
 ·simp [Value.ownBlock] at e
 ·simp [Value.ownBlock] at e
  subst e
  exact h.ne hb ht hz.symm
theorem one_new (w:World)(x:Value)(t:TypeId):∀ j u,[x][j]?=some u->(w.alloc (.cells #[x] t)).cell? ⟨w.heap.size,j,none⟩=some u:=by
 intro j u hu
 rw [cQa (heap_alloc_new w _)]
 match j with
 | 0=>simp at hu ⊢;exact hu
 | j+1=>simp at hu
theorem two_new (w:World)(x y:Value)(t:TypeId):∀ j u,[x,y][j]?=some u->(w.alloc (.cells #[x,y] t)).cell? ⟨w.heap.size,j,none⟩=some u:=by
 intro j u hu
 rw [cQa (heap_alloc_new w _)]
 match j with
 | 0=>simp at hu ⊢;exact hu
 | 1=>simp at hu ⊢;exact hu
 | j+2=>simp at hu
end
def kUpdV (V:Nat->Value)(i:Nat)(v:Value):Nat->Value:=fun j=>if j=i then v else V j
def kUpdE (E:Nat->List LE)(i:Nat)(e:LE):Nat->List LE:=fun j=>if j=i then E j++[e] else E j
def kArr (V:Nat->Value):Array Value:=((List.range 16).map V).toArray
theorem kArr_get (V:Nat->Value){i:Nat}(hi:i < 16):(kArr V)[i]?=some (V i):=by simp [kArr,hi]
theorem kArr_set (V:Nat->Value){i:Nat}(v:Value):(kArr V).setIfInBounds i v=kArr (kUpdV V i v):=by
 unfold kArr
 apply Array.toList_inj.1
 simp only [Array.toList_setIfInBounds]
 apply List.ext_getElem
 ·simp
 ·intro k h1 h2
  simp only [List.getElem_set,List.getElem_map,List.getElem_range,kUpdV]
  by_cases e:i=k
  ·simp [e]
  ·have e':¬ k=i:=fun q=>e q.symm
   simp [e,e']
structure KT where
 te:Nat->TypeId
 sz:Nat->Nat
 tl:Nat->TypeId
structure KT.Ok (T:KT):Prop where
 qe:∀ i,45≠T.te i
 ql:∀ i,45≠T.tl i
 el:∀ i j,T.te i≠T.tl j
def KQ (T:KT)(w w':World):Prop:=w.heap.size<=w'.heap.size/\∀ (k:Nat) (C:Array Value) (t:TypeId),w.heap[k]?=some (.cells C t (0,0))->t≠45->(∀ i,t≠T.tl i)->w'.heap[k]?=w.heap[k]?
theorem KQ.refl (T:KT)(w:World):KQ T w w:=⟨Nat.le_refl _,fun _ _ _ _ _ _=>rfl⟩
theorem KQ.trans {T:KT}{a b c:World}(h:KQ T a b)(h':KQ T b c):KQ T a c:=⟨Nat.le_trans h.1 h'.1,fun k C t hk h1 h2=>by
 have e:=h.2 k C t hk h1 h2
 exact (h'.2 k C t (e.trans hk) h1 h2).trans e⟩
theorem KQ.of {T:KT}{a b:World}(h:Below a.heap.size a b):KQ T a b:=⟨h.size,fun k _ _ hk _ _=>h.block k (lt_of_block hk)⟩
theorem KQ.row {T:KT}{a b:World}(h:KQ T a b){t:TypeId}{sz n:Nat}{v:Value}{xs:List Value}(h1:t≠45)(h2:∀ i,t≠T.tl i)(ho:a.ownsRow 0 t sz v n xs):b.ownsRow 0 t sz v n xs:=by
 refine row_keptB ho fun k hk=>?_
 obtain ⟨cur,hb⟩:∃ cur,a.heap[k]?=some (.cells cur t (0,0)):=by
  rcases ho.2 with ⟨rfl,_⟩ | ⟨g,cap,cur,rfl,_,hb,_⟩
  ·simp [Value.ownBlock] at hk
  ·simp [Value.ownBlock] at hk
   subst hk
   exact ⟨cur,hb⟩
 exact h.2 k cur t hb h1 h2
structure KI (T:KT)(B:Nat)(w:World)(q:Nat)(V:Nat->Value)(E:Nat->List LE):Prop where
 hq:w.heap[q]?=some (.cells (kArr V) 45 (0,0))
 row:∀ i,HL (T.tl i) w (V i) ((E i).map LE.v)
 apart:∀ i j k,i≠j->(V i).ownBlock=some k->(V j).ownBlock≠some k
 own:∀ i,∃ X:Nat->List Value,∀ j (h:j < (E i).length),w.ownsRow 0 (T.te i) (T.sz i) (E i)[j].v (E i)[j].n (X j)
 nd:∀ i j j' (h:j < (E i).length) (h':j' < (E i).length),j≠j'->(E i)[j].g≠(E i)[j'].g
 loq:B<=q
 loV:∀ i k,(V i).ownBlock=some k->B<=k
 loE:∀ i,∀ e∈E i,B<=e.g
 size:B<=w.heap.size
section
variable {T:KT} {B:Nat} {w w':World} {q:Nat} {V:Nat->Value} {E:Nat->List LE}
theorem KI.cell (h:KI T B w q V E){i:Nat}(hi:i < 16):w.cell? ⟨q,i,none⟩=some (V i):=by
 simp only [World.cell?,h.hq]
 exact kArr_get V hi
theorem KI.ne (h:KI T B w q V E)(hT:T.Ok)(i:Nat):some q≠(V i).ownBlock:=(h.row i).ne h.hq (hT.ql i)
theorem KI.later (h:KI T B w q V E)(hb:Below w.heap.size w w'):KI T B w' q V E :=
 ⟨(hb.block q (lt_of_block h.hq)).trans h.hq,fun i=>(h.row i).later hb,h.apart,fun i=>by obtain ⟨X,hX⟩:=h.own i;exact ⟨X,fun j hj=>row_later (hX j hj) hb⟩,h.nd,h.loq,h.loV,h.loE,Nat.le_trans h.size hb.size⟩
theorem KI.lt (h:KI T B w q V E)(i:Nat):∀ e∈E i,e.g < w.heap.size:=by
 intro e he
 obtain ⟨j,hj,rfl⟩:=List.getElem_of_mem he
 obtain ⟨X,hX⟩:=h.own i
 obtain ⟨cur,h1,_⟩:=row_block (hX j hj)
 exact lt_of_block h1
theorem KI.store {i:Nat}{v':Value}{e:LE}{X:List Value}(hT:T.Ok)(h:KI T B w q V E)(hg:Grew w w' (V i) v')(hl:HL (T.tl i) w' v' ((E i).map LE.v++[e.v]))(he:w.ownsRow 0 (T.te i) (T.sz i) e.v e.n X)(hnew:∀ x∈E i,x.g≠e.g)(hlo:B<=e.g):KI T B (w'.setCell ⟨q,i,none⟩ v') q (kUpdV V i v') (kUpdE E i e)/\Below B w (w'.setCell ⟨q,i,none⟩ v'):=by
 have b:w'.heap[q]?=some (.cells (kArr V) 45 (0,0)):=(hg.grown.block q (lt_of_block h.hq) (h.ne hT i)).trans h.hq
 have rk:∀ j sz n v xs,w.ownsRow 0 (T.te j) sz v n xs->(w'.setCell ⟨q,i,none⟩ v').ownsRow 0 (T.te j) sz v n xs:=fun j sz n v xs ho=>row_keptB ho fun k hk=>by
  rcases ho.2 with ⟨rfl,_⟩ | ⟨g,cap,cur,rfl,_,hb,_⟩
  ·simp [Value.ownBlock] at hk
  ·simp [Value.ownBlock] at hk
   subst hk
   have n1:g≠q:=fun e=>by rw [e,h.hq] at hb;simp at hb;exact hT.qe j hb.2
   rw [Below.heap_setCell _ _ _ _ n1]
   exact hg.grown.block g (lt_of_block hb) ((h.row i).ne hb (hT.el j i))
 have mvd:∀ k,v'.ownBlock=some k->∀ j,j≠i->(V j).ownBlock≠some k:=fun k hk j hj hjk=>by
  rcases hg.moved with r | ⟨m,r,hm⟩
  ·exact h.apart j i k hj hjk (r ▸ hk)
  ·rw [hk] at r;have:=Option.some.inj r;have:=(h.row j).lt k hjk;omega
 have hlv:∀ k,v'.ownBlock=some k->B<=k:=fun k hk=>by
  rcases hg.moved with r | ⟨m,r,hm⟩
  ·exact h.loV i k (r ▸ hk)
  ·rw [hk] at r;have:=Option.some.inj r;have:=h.size;omega
 have hbel:Below B w (w'.setCell ⟨q,i,none⟩ v'):=((Below.refl B w).grown hg.grown h.size (h.loV i)).setCell h.loq _
 refine ⟨⟨by rw [hSt b,kArr_set],fun j=>?_,fun j j' k hne hk hk'=>?_,fun j=>?_,fun j x y hx hy hne=>?_,h.loq,fun j k hk=>?_,fun j x hx=>?_,?_⟩,hbel⟩
 ·unfold kUpdV kUpdE
  split
  ·rename_i e1
   subst e1
   rw [List.map_append,List.map_cons,List.map_nil]
   exact hl.kept fun k hk=>Below.heap_setCell _ _ _ _ (fun e=>hl.ne b (hT.ql j) (by rw [hk,e]))
  ·rename_i hj
   exact (h.row j).kept fun k hk=>by
    rw [Below.heap_setCell _ _ _ _ (fun e=>h.ne hT j (by rw [hk,e]))]
    exact hg.grown.block k ((h.row j).lt k hk) (fun e=>h.apart j i k hj hk e.symm)
 ·unfold kUpdV at hk hk'
  split at hk
  ·rename_i e1
   split at hk'
   ·rename_i e2;exact hne (e1.trans e2.symm)
   ·rename_i e2;exact mvd k hk j' e2 hk'
  ·rename_i e1
   split at hk'
   ·rename_i e2;exact mvd k hk' j e1 hk
   ·exact h.apart j j' k hne hk hk'
 ·obtain ⟨Y,hY⟩:=h.own j
  by_cases e1:j=i
  ·subst e1
   suffices hs:∀ L':List LE,L'=E j++[e]->∃ Z:Nat->List Value,∀ m (h:m < L'.length),(w'.setCell ⟨q,j,none⟩ v').ownsRow 0 (T.te j) (T.sz j) L'[m].v L'[m].n (Z m) from hs _ (if_pos rfl)
   rintro L' rfl
   refine ⟨fun m=>if m < (E j).length then Y m else X,fun m hm=>?_⟩
   by_cases e2:m < (E j).length
   ·simp only [if_pos e2,List.getElem_append_left e2]
    exact rk j _ _ _ _ (hY m e2)
   ·have e3:m=(E j).length:=by simp at hm;omega
    have e4:(E j++[e])[m]=e:=by simp [e3]
    simp only [if_neg e2,e4]
    exact rk j _ _ _ _ he
  ·refine ⟨Y,fun m hm=>?_⟩
   simp only [kUpdE,if_neg e1] at hm ⊢
   exact rk j _ _ _ _ (hY m hm)
 ·by_cases e1:j=i
  ·subst e1
   simp only [kUpdE,if_pos] at hx hy ⊢
   by_cases e2:x < (E j).length
   ·simp only [List.getElem_append_left e2]
    by_cases e3:y < (E j).length
    ·simp only [List.getElem_append_left e3]
     exact h.nd j x y e2 e3 hne
    ·obtain rfl:y=(E j).length:=by simp at hy;omega
     simp only [List.getElem_concat_length]
     exact hnew _ (List.getElem_mem e2)
   ·obtain rfl:x=(E j).length:=by simp at hx;omega
    have e3:y < (E j).length:=by simp at hy;omega
    simp only [List.getElem_append_left e3,List.getElem_concat_length]
    exact fun e4=>hnew _ (List.getElem_mem e3) e4.symm
  ·simp only [kUpdE,if_neg e1] at hx hy ⊢
   exact h.nd j x y hx hy hne
 ·unfold kUpdV at hk
  split at hk
  ·exact hlv k hk
  ·exact h.loV j k hk
 ·unfold kUpdE at hx
  split at hx
  ·rcases List.mem_append.1 hx with r | r
   ·exact h.loE j x r
   ·simp at r;subst r;exact hlo
  ·exact h.loE j x hx
 ·exact Nat.le_trans h.size hbel.size
theorem KI.storeQ {i:Nat}{v':Value}(hT:T.Ok)(h:KI T B w q V E)(hg:Grew w w' (V i) v'):KQ T w (w'.setCell ⟨q,i,none⟩ v') :=
 ⟨by simpa using hg.grown.size,fun k C t hk h1 h2=>by
  have n1:k≠q:=fun e=>by rw [e,h.hq] at hk;simp at hk;exact h1 hk.2.symm
  rw [Below.heap_setCell _ _ _ _ n1]
  exact hg.grown.block k (lt_of_block hk) ((h.row i).ne hk (h2 i))⟩
theorem KI.fr (hT:T.Ok)(h:KI T B w q V E){i:Nat}(hf:KFr (E i) w w'):Below B w w' :=
 ⟨hf.os,hf.tape,hf.output,hf.size,fun k hk=>hf.block k (Nat.lt_of_lt_of_le hk h.size) (fun e he e2=>by have:=h.loE i e he;omega)⟩
end
abbrev kNil:Value:=.slice none 0 0
theorem knew (T:KT)(w:World):KI T w.heap.size (w.alloc (.cells #[kNil,kNil,kNil,kNil,kNil,kNil,kNil,kNil,kNil,kNil,kNil,kNil,kNil,kNil,kNil,kNil] 45)) w.heap.size (fun _=>kNil) (fun _=>[]) :=
 ⟨heap_alloc_new w _,fun i=>HL.nil _ _,fun i j k _ hk=>(by simp [Value.ownBlock] at hk),fun i=>⟨fun _=>[],fun j hj=>absurd hj (Nat.not_lt_zero j)⟩,fun i j j' hj=>absurd hj (Nat.not_lt_zero j),Nat.le_refl _,fun i k hk=>(by simp [Value.ownBlock] at hk),fun i e he=>(by cases he),(bAl w _).size⟩
theorem apartnilBools (q:Nat)(a:Option Addr)(c:Nat)(w:World)(hq:w.cell? ⟨q,3,none⟩=some (.slice a 0 c)):Calls Tryz.prog 39 #[.pointer (some ⟨q,0,none⟩)] w fun e w'=>e=.returned (.bool true)/\w=w':=by
 go_enter Tryz.func39,Tryz.ntmps39
 go_wp2
 go_loop [4] (fun i=>i=.int .i64 0) (fun _=>0)
 case atStart=>rfl
 case round =>
  subst hrel
  go_wp2
  go_loop [7] (fun i=>i=.int .i64 0) (fun _=>0)
  case atStart=>rfl
  case round =>
   subst hrel
   go_wp2
   go_loop [10] (fun i=>i=.int .i64 0) (fun _=>0)
   case atStart=>rfl
   case round =>
    subst hrel
    go_wp2
    go_ret
    exact ⟨rfl,rfl⟩
theorem apartnilActions (q:Nat)(a:Option Addr)(c:Nat)(w:World)(hq:w.cell? ⟨q,6,none⟩=some (.slice a 0 c)):Calls Tryz.prog 42 #[.pointer (some ⟨q,0,none⟩)] w fun e w'=>e=.returned (.bool true)/\w=w':=by
 go_enter Tryz.func42,Tryz.ntmps42
 go_wp2
 go_loop [4] (fun i=>i=.int .i64 0) (fun _=>0)
 case atStart=>rfl
 case round =>
  subst hrel
  go_wp2
  go_loop [7] (fun i=>i=.int .i64 0) (fun _=>0)
  case atStart=>rfl
  case round =>
   subst hrel
   go_wp2
   go_loop [10] (fun i=>i=.int .i64 0) (fun _=>0)
   case atStart=>rfl
   case round =>
    subst hrel
    go_wp2
    go_ret
    exact ⟨rfl,rfl⟩
theorem apartnilEdges (q:Nat)(a:Option Addr)(c:Nat)(w:World)(hq:w.cell? ⟨q,7,none⟩=some (.slice a 0 c)):Calls Tryz.prog 43 #[.pointer (some ⟨q,0,none⟩)] w fun e w'=>e=.returned (.bool true)/\w=w':=by
 go_enter Tryz.func43,Tryz.ntmps43
 go_wp2
 go_loop [4] (fun i=>i=.int .i64 0) (fun _=>0)
 case atStart=>rfl
 case round =>
  subst hrel
  go_wp2
  go_loop [7] (fun i=>i=.int .i64 0) (fun _=>0)
  case atStart=>rfl
  case round =>
   subst hrel
   go_wp2
   go_loop [10] (fun i=>i=.int .i64 0) (fun _=>0)
   case atStart=>rfl
   case round =>
    subst hrel
    go_wp2
    go_ret
    exact ⟨rfl,rfl⟩
theorem apartnilPairs (q:Nat)(a:Option Addr)(c:Nat)(w:World)(hq:w.cell? ⟨q,8,none⟩=some (.slice a 0 c)):Calls Tryz.prog 44 #[.pointer (some ⟨q,0,none⟩)] w fun e w'=>e=.returned (.bool true)/\w=w':=by
 go_enter Tryz.func44,Tryz.ntmps44
 go_wp2
 go_loop [4] (fun i=>i=.int .i64 0) (fun _=>0)
 case atStart=>rfl
 case round =>
  subst hrel
  go_wp2
  go_loop [7] (fun i=>i=.int .i64 0) (fun _=>0)
  case atStart=>rfl
  case round =>
   subst hrel
   go_wp2
   go_loop [10] (fun i=>i=.int .i64 0) (fun _=>0)
   case atStart=>rfl
   case round =>
    subst hrel
    go_wp2
    go_ret
    exact ⟨rfl,rfl⟩
theorem apartnilTokens (q:Nat)(a:Option Addr)(c:Nat)(w:World)(hq:w.cell? ⟨q,9,none⟩=some (.slice a 0 c)):Calls Tryz.prog 45 #[.pointer (some ⟨q,0,none⟩)] w fun e w'=>e=.returned (.bool true)/\w=w':=by
 go_enter Tryz.func45,Tryz.ntmps45
 go_wp2
 go_loop [4] (fun i=>i=.int .i64 0) (fun _=>0)
 case atStart=>rfl
 case round =>
  subst hrel
  go_wp2
  go_loop [7] (fun i=>i=.int .i64 0) (fun _=>0)
  case atStart=>rfl
  case round =>
   subst hrel
   go_wp2
   go_loop [10] (fun i=>i=.int .i64 0) (fun _=>0)
   case atStart=>rfl
   case round =>
    subst hrel
    go_wp2
    go_ret
    exact ⟨rfl,rfl⟩
theorem apartnilItems (q:Nat)(a:Option Addr)(c:Nat)(w:World)(hq:w.cell? ⟨q,12,none⟩=some (.slice a 0 c)):Calls Tryz.prog 48 #[.pointer (some ⟨q,0,none⟩)] w fun e w'=>e=.returned (.bool true)/\w=w':=by
 go_enter Tryz.func48,Tryz.ntmps48
 go_wp2
 go_loop [4] (fun i=>i=.int .i64 0) (fun _=>0)
 case atStart=>rfl
 case round =>
  subst hrel
  go_wp2
  go_loop [7] (fun i=>i=.int .i64 0) (fun _=>0)
  case atStart=>rfl
  case round =>
   subst hrel
   go_wp2
   go_loop [11] (fun i=>i=.int .i64 0) (fun _=>0)
   case atStart=>rfl
   case round =>
    subst hrel
    go_wp2
    go_ret
    exact ⟨rfl,rfl⟩
theorem apartnilTrees (q:Nat)(a:Option Addr)(c:Nat)(w:World)(hq:w.cell? ⟨q,13,none⟩=some (.slice a 0 c)):Calls Tryz.prog 49 #[.pointer (some ⟨q,0,none⟩)] w fun e w'=>e=.returned (.bool true)/\w=w':=by
 go_enter Tryz.func49,Tryz.ntmps49
 go_wp2
 go_loop [4] (fun i=>i=.int .i64 0) (fun _=>0)
 case atStart=>rfl
 case round =>
  subst hrel
  go_wp2
  go_loop [7] (fun i=>i=.int .i64 0) (fun _=>0)
  case atStart=>rfl
  case round =>
   subst hrel
   go_wp2
   go_loop [11] (fun i=>i=.int .i64 0) (fun _=>0)
   case atStart=>rfl
   case round =>
    subst hrel
    go_wp2
    go_ret
    exact ⟨rfl,rfl⟩
theorem apartnilRows (q:Nat)(a:Option Addr)(c:Nat)(w:World)(hq:w.cell? ⟨q,14,none⟩=some (.slice a 0 c)):Calls Tryz.prog 50 #[.pointer (some ⟨q,0,none⟩)] w fun e w'=>e=.returned (.bool true)/\w=w':=by
 go_enter Tryz.func50,Tryz.ntmps50
 go_wp2
 go_loop [4] (fun i=>i=.int .i64 0) (fun _=>0)
 case atStart=>rfl
 case round =>
  subst hrel
  go_wp2
  go_loop [7] (fun i=>i=.int .i64 0) (fun _=>0)
  case atStart=>rfl
  case round =>
   subst hrel
   go_wp2
   go_loop [11] (fun i=>i=.int .i64 0) (fun _=>0)
   case atStart=>rfl
   case round =>
    subst hrel
    go_wp2
    go_ret
    exact ⟨rfl,rfl⟩
theorem apartnilConflicts (q:Nat)(a:Option Addr)(c:Nat)(w:World)(hq:w.cell? ⟨q,15,none⟩=some (.slice a 0 c)):Calls Tryz.prog 51 #[.pointer (some ⟨q,0,none⟩)] w fun e w'=>e=.returned (.bool true)/\w=w':=by
 go_enter Tryz.func51,Tryz.ntmps51
 go_wp2
 go_loop [4] (fun i=>i=.int .i64 0) (fun _=>0)
 case atStart=>rfl
 case round =>
  subst hrel
  go_wp2
  go_loop [7] (fun i=>i=.int .i64 0) (fun _=>0)
  case atStart=>rfl
  case round =>
   subst hrel
   go_wp2
   go_loop [11] (fun i=>i=.int .i64 0) (fun _=>0)
   case atStart=>rfl
   case round =>
    subst hrel
    go_wp2
    go_ret
    exact ⟨rfl,rfl⟩
theorem conv_mk (w:World)(a b x y:Int)(ha0:0<=a)(ha1:a<=255)(hb0:0<=b)(hb1:b<=255)(hx0:0<=x)(hx1:x<=255)(hy0:0<=y)(hy1:y<=255) :
  (convert 112 9 (.slice (some ⟨w.heap.size,0,none⟩) 5 5)).run Tryz.prog (w.alloc (.cells #[.int .u8 a,.int .u8 b,.int .u8 x,.int .u8 y,.int .u8 77] 5))=.ok (.string ⟨[UInt8.ofNat a.toNat,UInt8.ofNat b.toNat,UInt8.ofNat x.toNat,UInt8.ofNat y.toNat,77].toArray⟩) (w.alloc (.cells #[.int .u8 a,.int .u8 b,.int .u8 x,.int .u8 y,.int .u8 77] 5)):=by
 refine run_convert_bytes_back (P:=Tryz.prog) _ 112 9 5 ⟨w.heap.size,0,none⟩ 5 [UInt8.ofNat a.toNat,UInt8.ofNat b.toNat,UInt8.ofNat x.toNat,UInt8.ofNat y.toNat,77] Tryz.underlying112 Tryz.underlying5 Tryz.underlying9 ?_
 have hh:=heap_alloc_new w (.cells #[.int .u8 a,.int .u8 b,.int .u8 x,.int .u8 y,.int .u8 77] 5)
 intro j hj
 rw [aNn,cQa hh]
 match j,hj with
 | 0,_=>simp;omega
 | 1,_=>simp;omega
 | 2,_=>simp;omega
 | 3,_=>simp;omega
 | 4,_=>rfl
def markS (i k:Nat):ByteArray:=⟨[UInt8.ofNat ((i:Int) % 256).toNat,UInt8.ofNat ((i:Int) / 256 % 256).toNat,UInt8.ofNat ((k:Int) % 256).toNat,UInt8.ofNat ((k:Int) / 256 % 256).toNat,77].toArray⟩
def mkStr (i k:Nat):List Value:=[.string (markS i k)]
theorem markstr_ik (i k:Nat)(w:World)(hi:i<=140737488355400)(hk:k<=140737488355400) :
  Calls Tryz.prog 76 #[.int .i64 i,.int .i64 k] w fun e w'=>e=.returned (.string (markS i k))/\Below w.heap.size w w':=by
 have hrun:=conv_mk w ((i:Int) % 256) ((i:Int) / 256 % 256) ((k:Int) % 256) ((k:Int) / 256 % 256) (by omega) (by omega) (by omega) (by omega) (by omega) (by omega) (by omega) (by omega)
 go_enter Tryz.func76,Tryz.ntmps76
 go_wp2
 go_ret
 exact ⟨rfl,bAl w _⟩
theorem enter_mark (args:Array Value)(w:World):(callFunc 76 args).run Tryz.prog w=.ok (.enter 76 args) w:=by kernel_rfl
theorem step_mark {ops:Array Oper}{o:Oper}{a:Act}{w:World}{K:Act->World->Prop}{Q:Exit->Act->World->Prop}{E:Prop}
  (hg:o.guard=none) (x y:Operand) (hop:o.op=Op.call { callee:=Callee.value (Operand.func 76),args:=#[x,y],argTypes:=#[3,3] })
  (i k:Nat) (hx:a.eval x=.int .i64 i) (hy:a.eval y=.int .i64 k) (hi:i<=140737488355400) (hk:k<=140737488355400)
  (hK:∀ w',Below w.heap.size w w'->K (a.put o.dst (.string (markS i k))) w') :
  if Region.wanted o (yielded ops a.tmps)=true then Oper.wp Tryz.prog o a w K Q else E:=by
 have hw:Region.wanted o (yielded ops a.tmps)=true:=by simp [Region.wanted,hg]
 rw [if_pos hw]
 have hf:a.eval (Operand.func 76)=.func (.func 76) #[] #[]:=rfl
 have hcf:=enter_mark #[.int .i64 i,.int .i64 k] w
 have e:(execOp a.eval o).run Tryz.prog w=.ok (.enter 76 #[.int .i64 i,.int .i64 k]) w:=by
  simp [execOp,hop,resolve,invoke,hx,hy,hf,Deferred.ofValue,hcf]
 show o.upon Tryz.prog a K Q ((execOp a.eval o).run Tryz.prog w)
 rw [e,Oper.upon_enter]
 refine (markstr_ik i k w hi hk).mono ?_
 rintro e w' ⟨rfl,hb⟩
 exact hK w' hb
theorem infoSSK:SliceInfo 22:=sliceInfo_of (by kernel_rfl)
theorem mkStr_len:∀ i k,(mkStr i k).length=1:=fun _ _=>rfl
theorem apart_strings (q:Nat)(lv:Value)(L:List LE)(X:Nat->List Value)(w:World)(hq:w.cell? ⟨q,2,none⟩=some lv)(hl:HL 22 w lv (L.map LE.v))(hrow:∀ j (h:j < L.length),w.ownsRow 0 9 1 L[j].v L[j].n (X j))(hnd:∀ j j' (h:j < L.length) (h':j' < L.length),j≠j'->L[j].g≠L[j'].g)(hlen:L.length<=1000)(hn:∀ e∈L,e.n<=100000000) :
  Calls Tryz.prog 38 #[.pointer (some ⟨q,0,none⟩)] w fun e w'=>e=.returned (.bool true)/\KFr L w w':=by
 obtain ⟨i0,hi,hz0,hz1,hz2⟩:=infoStr_parts
 have PS:Hid (P1I 9 1 mkStr w L 0 0 w):=P1I.start hrow hnd
 have NE:Hid (∀ w',KFr L w w'->HL 22 w' lv (L.map LE.v)):=fun w' hf=>hl.setK hf fun e he=>by
  obtain ⟨j,hj,rfl⟩:=List.getElem_of_mem he
  obtain ⟨cur,h1,_⟩:=row_block (hrow j hj)
  exact hl.ne h1 (by decide)
 have HN:Hid (∀ {j eg en ec:Nat},L[j]?=some ⟨eg,en,ec⟩->en<=100000000):=fun {j eg en ec} he=>hn ⟨eg,en,ec⟩ (List.mem_of_getElem? he)
 have LT:Hid (∀ z,lv.ownBlock=some z->z < w.heap.size):=hl.lt
 obtain ⟨la,lc,rfl⟩:=hl.slice
 rw [List.length_map] at hq NE LT
 clear hrow hnd hn hl
 go_enter Tryz.func38,Tryz.ntmps38
 go_wp2
 go_loopw [4] (fun i wr=>∃ j:Nat,i=.int .i64 j/\j<=L.length/\P1I 9 1 mkStr w L j 0 wr) (fun i _=>L.length - (intOf i).toNat)
 case atStart=>exact ⟨0,rfl,Nat.zero_le _,PS.out⟩
 case round =>
  clear PS hq
  obtain ⟨j,rfl,hj,hP⟩:=hrel
  by_cases hlt:j < L.length
  ·have hL:=NE.out wr hP.fr
   obtain ⟨lb,rfl⟩:∃ lb,la=some ⟨lb,0,none⟩:=by
    obtain ⟨g,c,e,_⟩:=hL.at j L[j].v (by simp [hlt])
    simp only [Value.slice.injEq] at e
    exact ⟨g,e.1⟩
   obtain ⟨eg,en,ec,HE,hcl⟩:=le_at hL hlt
   have hen:=HN.out HE.out
   go_wp2
   obtain ⟨wo,rfl⟩:∃ wo:World,wo=wr:=⟨_,rfl⟩
   go_loopw [5] (fun k wr=>∃ m:Nat,k=.int .i64 m/\m<=en/\P1I 9 1 mkStr w L j m wr) (fun k _=>en - (intOf k).toNat)
   case atStart=>exact ⟨0,rfl,Nat.zero_le _,hP⟩
   case round =>
    clear hP hL hcl
    obtain ⟨m,rfl,hm,hP⟩:=hrel
    obtain ⟨_,_,_,HE2,hcl⟩:=le_at (NE.out wr hP.fr) hlt
    have:=HE.out.symm.trans HE2.out
    simp only [Option.some.injEq,LE.mk.injEq] at this
    obtain ⟨rfl,rfl,rfl⟩:=this
    clear HE2
    by_cases hlm:m < en
    ·have HP:Hid (P1I 9 1 mkStr w L j m wr):=hP
     have AF:Hid (∀ w4,Below wr.drew.heap.size wr.drew w4->(∃ u,w4.cell? ⟨eg,m,none⟩=some u)/\w4.frozen? ⟨eg,m,none⟩=false/\w4.cell? ⟨lb,j,none⟩=some (.slice (some ⟨eg,0,none⟩) en ec)):=fun w4 hb=>by
      have h4:=HP.out.later (below_step (Below.refl _ _).drew hb)
      refine ⟨h4.cellE HE.out m (by omega),h4.freeE HE.out m,?_⟩
      obtain ⟨_,_,_,HE2,hcl⟩:=le_at (NE.out w4 h4.fr) hlt
      have:=HE.out.symm.trans HE2.out
      simp only [Option.some.injEq,LE.mk.injEq] at this
      obtain ⟨rfl,rfl,rfl⟩:=this
      exact hcl
     obtain ⟨⟨u0,cu0⟩,fu0,_⟩:=AF.out wr.drew (Below.refl _ _)
     clear hP
     go_wp2
     go_region_law (first
      | (refine step_mark (by rfl) _ _ (by rfl) j m (by rfl) (by rfl) (by omega) (by omega) ?_;intro w4 hb4;obtain ⟨⟨u4,cu4⟩,fu4,cl4⟩:=AF.out w4 hb4))
     all_goals go_wp2
     all_goals
      go_roundw
      case rel=>exact ⟨m+1,by go_num,by omega,(HP.out.later (below_step (Below.refl _ _).drew hb4)).set1E HE.out hlm _ rfl⟩
      case measure=>simp [intOf];omega
    ·obtain rfl:m=en:=by omega
     go_wp2
     go_roundw
     case rel=>exact ⟨j+1,by go_num,by omega,hP.nextE HE.out⟩
     case measure=>simp [intOf];omega
  ·obtain rfl:j=L.length:=by omega
   have F1:Hid (KFr L w wr):=hP.fr
   have HP2:Hid (P2 9 1 mkStr wr L [] ([]:List Value).length wr):=P2.start hP
   have NE2:Hid (∀ w',KFr L wr w'->HL 22 w' (.slice la L.length lc) (L.map LE.v)):=fun w' hf=>NE.out w' (F1.out.trans hf)
   have INF:Hid (Tryz.prog.info? 9=some i0/\i0.zero=some (.string ⟨#[]⟩)/\i0.size=1/\i0.bytes=16):=⟨hi,hz0,hz1,hz2⟩
   clear hP NE LT hlt hj hi hz0 hz1 hz2
   go_wp2
   obtain ⟨w1,rfl⟩:∃ w1:World,w1=wr:=⟨_,rfl⟩
   go_loopw [6,7] (fun gr i wr=>∃ gs:List Value,i=.int .i64 gs.length/\P2 9 1 mkStr w1 L gs gs.length wr/\HL 22 wr gr gs/\(∀ z,gr.ownBlock=some z->w1.heap.size<=z)) (fun _ i _=>L.length - (intOf i).toNat)
   case atStart=>exact ⟨[],rfl,HP2.out,HL.nil _ _,fun z hz=>by simp [Value.ownBlock] at hz⟩
   case round =>
    clear HP2
    obtain ⟨gs,rfl,hP,hG,hlo'⟩:=hrel
    have hlo:Hid _:=hlo'
    clear hlo'
    obtain ⟨ga,gc,rfl⟩:=hG.slice
    by_cases hlt:gs.length < L.length
    ·have hL:=NE2.out wr hP.fr
     obtain ⟨lb,rfl⟩:∃ lb,la=some ⟨lb,0,none⟩:=by
      obtain ⟨g,c,e,_⟩:=hL.at gs.length L[gs.length].v (by simp [hlt])
      simp only [Value.slice.injEq] at e
      exact ⟨g,e.1⟩
     obtain ⟨eg,en,ec,HE,hcl⟩:=le_at hL hlt
     have hen:=HN.out HE.out
     have HB:Hid (P2g 9 1 mkStr w1 L gs 0 (.slice (some ⟨eg,0,none⟩) en ec) wr):=hP.beginE HE.out
     clear hP hL
     go_wp2
     obtain ⟨wo,rfl⟩:∃ wo:World,wo=wr:=⟨_,rfl⟩
     go_loopw [8,9] (fun g k wr=>∃ m:Nat,k=.int .i64 m/\m<=40/\P2g 9 1 mkStr w1 L gs m g wr/\HL 22 wr (.slice ga gs.length gc) gs) (fun _ k _=>40 - (intOf k).toNat)
     case atStart=>exact ⟨0,rfl,by omega,HB.out,hG⟩
     case round =>
      clear HB hG hcl
      obtain ⟨m,rfl,hm,hg',hG'⟩:=hrel
      have hg:Hid (P2g 9 1 mkStr w1 L gs m _ wr):=hg'
      have hG:Hid (HL 22 wr (.slice ga gs.length gc) gs):=hG'
      have hcur:Hid _:=hg'.curE HE.out
      obtain ⟨ca,cc,rfl⟩:=row_slice hcur.out
      clear hg' hG'
      by_cases hlm:m < 40
      ·go_wp2_with (first
        | (go_at_call 76;refine (markstr_ik gs.length (en+m) wr (by omega) (by omega)).mono ?_;rintro e w4 ⟨rfl,hb4⟩)
        | (at_builtin;refine wpList_row_append Tryz.underlying22 INF.out.1 INF.out.2.1 INF.out.2.2.1 INF.out.2.2.2 rfl (by decide) (by decide) rfl _ _ rfl _ (en+m) _ rfl (row_later (row_later hcur.out hb4) (bAl w4 _)) w4.heap.size 1 (mkStr gs.length (en+m)) rfl rfl (one_new w4 _ _) (by intro u hu;simp [mkStr] at hu;subst hu;rfl) (by omega) ?_;intro v5 w5 ho5 ha5))
       go_roundw
       case rel=>exact ⟨m+1,by go_num,by omega,(hg.out.later (below_step hb4 (bAl w4 _))).appE HE.out ha5 ho5,(hG.out.later (below_step hb4 (bAl w4 _))).app (row_later (row_later hcur.out hb4) (bAl w4 _)) (by decide) ha5⟩
       case measure=>simp [intOf];omega
      ·obtain rfl:m=40:=by omega
       go_wp2_with (at_builtin;refine wpList_hl_append Tryz.underlying30 infoSSK rfl _ _ rfl (.slice ga gs.length gc) gs rfl (hG.out.later (bAl wr _)) wr.heap.size 1 _ rfl (one_new wr _ _ 0 _ rfl) rfl (by omega) ?_;intro v6 w6 hl6 hg6)
       go_roundw
       case rel =>
        refine ⟨gs++[.slice ca (en+40) cc],by simp,(hg.out.later (bAl wr _)).fin (hG.out.later (bAl wr _)) (by decide) hlo.out hg6.grown,hl6,fun z hz=>?_⟩
        rcases hg6.moved with r | ⟨k,r,hk⟩
        ·exact hlo.out z (r ▸ hz)
        ·rw [hz] at r
         have:=Option.some.inj r
         have h1:=hg.out.p.fr.size
         have h2:wr.heap.size<=(wr.alloc (.cells #[.slice ca (en+40) cc] 22)).heap.size:=(bAl wr _).size
         omega
       case measure=>simp [intOf];omega
    ·have hlx:Hid (gs.length=L.length):=by have:=hP.len;show _=_;omega
     have F2:Hid (KFr L w wr):=F1.out.trans hP.fr
     have NE3:Hid (∀ w',Below wr.heap.size wr w'->HL 22 w' (.slice la L.length lc) (L.map LE.v)):=fun w' hf=>NE2.out w' (hP.fr.trans (KFr.ofBelow hf))
     have HP:Hid (∀ w',Below wr.heap.size wr w'->P2 9 1 mkStr w1 L gs gs.length w'):=fun w' hf=>hP.later hf
     have HG:Hid (∀ w',Below wr.heap.size wr w'->HL 22 w' (.slice ga gs.length gc) gs):=fun w' hf=>hG.later hf
     clear hP hG NE2 F1 hlo
     go_wp2
     clear hlt
     obtain ⟨w2,rfl⟩:∃ w2:World,w2=wr:=⟨_,rfl⟩
     go_loopw [10] (fun i wr=>∃ j:Nat,i=.int .i64 j/\j<=L.length/\Below w2.heap.size w2 wr) (fun i _=>L.length - (intOf i).toNat)
     case atStart=>exact ⟨0,rfl,Nat.zero_le _,Below.refl _ _⟩
     case round =>
      obtain ⟨j,rfl,hj,hb⟩:=hrel
      by_cases hlt:j < L.length
      ·have hL:=NE3.out wr hb
       obtain ⟨lb,rfl⟩:∃ lb,la=some ⟨lb,0,none⟩:=by
        obtain ⟨g,c,e,_⟩:=hL.at j L[j].v (by simp [hlt])
        simp only [Value.slice.injEq] at e
        exact ⟨g,e.1⟩
       obtain ⟨eg,en,ec,HE,_⟩:=le_at hL hlt
       have hen:=HN.out HE.out
       obtain ⟨xb,xc,hgs,_⟩:=(HP.out wr hb).lookE mkStr_len HE.out (by rw [hlx.out];exact hlt)
       obtain ⟨gb,gc',e,_⟩:=(HG.out wr hb).at j _ hgs
       simp only [Value.slice.injEq] at e
       obtain ⟨rfl,_,rfl⟩:=e
       have AF:Hid (∀ w',Below w2.heap.size w2 w'->w'.cell? ⟨lb,j,none⟩=some (.slice (some ⟨eg,0,none⟩) en ec)/\w'.cell? ⟨gb,j,none⟩=some (.slice (some ⟨xb,0,none⟩) (en+40) xc)/\(∀ m,m < en+40->w'.cell? ⟨xb,m,none⟩=some (.string (markS j m)))/\(∀ m,m < en->w'.cell? ⟨eg,m,none⟩=some (.string (markS j m)))):=fun w' hb'=>by
        obtain ⟨_,_,_,HE2,hcl⟩:=le_at (NE3.out w' hb') hlt
        have e2:=HE.out.symm.trans HE2.out
        simp only [Option.some.injEq,LE.mk.injEq] at e2
        obtain ⟨rfl,rfl,rfl⟩:=e2
        obtain ⟨xb2,xc2,hgs2,hnew⟩:=(HP.out w' hb').lookE mkStr_len HE.out (by rw [hlx.out];exact hlt)
        have e3:=hgs.symm.trans hgs2
        simp only [Option.some.injEq,Value.slice.injEq,Addr.mk.injEq] at e3
        obtain ⟨⟨rfl,_⟩,_,rfl⟩:=e3
        obtain ⟨gb2,gc2,e,hcg⟩:=(HG.out w' hb').at j _ hgs
        simp only [Value.slice.injEq,Option.some.injEq,Addr.mk.injEq] at e
        obtain ⟨⟨rfl,_⟩,_⟩:=e
        exact ⟨hcl,hcg,fun m hm=>by have:=hnew m hm 0 (by omega);simpa [mkStr] using this,fun m hm=>by have:=(HP.out w' hb').lookOldE mkStr_len HE.out m hm 0 (by omega);simpa [mkStr] using this⟩
       obtain ⟨k1,k2,_,_⟩:=AF.out wr hb
       have hjg:j < gs.length:=by rw [hlx.out];exact hlt
       clear hgs hL
       go_wp2
       obtain ⟨wo,rfl⟩:∃ wo:World,wo=wr:=⟨_,rfl⟩
       go_loopw [11] (fun k wr=>∃ m:Nat,k=.int .i64 m/\m<=en+40/\Below w2.heap.size w2 wr) (fun k _=>en+40 - (intOf k).toNat)
       case atStart=>exact ⟨0,rfl,Nat.zero_le _,hb⟩
       case round =>
        clear hb k1 k2
        obtain ⟨m,rfl,hm,hb⟩:=hrel
        obtain ⟨k1,k2,_,_⟩:=AF.out wr hb
        by_cases hlm:m < en+40
        ·have HC:Hid (∀ w4,Below wr.heap.size wr w4->_):=fun w4 hb4=>AF.out w4 (below_step hb hb4)
         have hd1:decide ((m:Int) < (en:Int)+40)=true:=by simp;omega
         have hbn:((markS j m).toList != (markS j m).toList)=false:=by simp
         by_cases hln:m < en
         ·go_wp2_with (go_at_call 76;refine (markstr_ik j m wr (by omega) (by omega)).mono ?_;rintro e w4 ⟨rfl,hb4⟩;obtain ⟨q1,q2,q3',q4'⟩:=HC.out w4 hb4;have q3:=q3' m hlm;have q4:=q4' m hln;clear q3' q4')
          go_roundw
          case rel=>exact ⟨m+1,by go_num,by omega,below_step hb hb4⟩
          case measure=>simp [intOf];omega
         ·go_wp2_with (go_at_call 76;refine (markstr_ik j m wr (by omega) (by omega)).mono ?_;rintro e w4 ⟨rfl,hb4⟩;obtain ⟨q1,q2,q3',q4'⟩:=HC.out w4 hb4;have q3:=q3' m hlm;clear q3' q4')
          go_roundw
          case rel=>exact ⟨m+1,by go_num,by omega,below_step hb hb4⟩
          case measure=>simp [intOf];omega
        ·go_wp2
         go_roundw
         case rel=>exact ⟨j+1,by go_num,by omega,hb⟩
         case measure=>simp [intOf];omega
      ·go_wp2
       go_ret
       exact ⟨rfl,F2.out.trans (KFr.ofBelow hb)⟩
def markB (i k:Nat):Int:=((i:Int)*31+(k:Int)*7+5) % 256
def mkByte (i k:Nat):List Value:=[.int .u8 (markB i k)]
theorem infoByte:(Tryz.prog.info? 5).map (fun i=>(i.zero,i.size,i.bytes))=some (some (.int .u8 0),1,1):=by kernel_rfl
theorem infoByte_parts:∃ i,Tryz.prog.info? 5=some i/\i.zero=some (.int .u8 0)/\i.size=1/\i.bytes=1:=by
 have h:=infoByte
 cases e:Tryz.prog.info? 5 with
 | none=>rw [e] at h;cases h
 | some i=>rw [e] at h;simp at h;exact ⟨i,rfl,h⟩
theorem markbyte_ik (i k:Nat)(w:World)(hi:i<=1000)(hk:k<=1000000000) :
  Calls Tryz.prog 74 #[.int .i64 i,.int .i64 k] w fun e w'=>e=.returned (.int .u8 (markB i k))/\w=w':=by
 go_enter Tryz.func74,Tryz.ntmps74
 go_wp2
 go_ret
 exact ⟨rfl,rfl⟩
theorem enter_markB (args:Array Value)(w:World):(callFunc 74 args).run Tryz.prog w=.ok (.enter 74 args) w:=by kernel_rfl
theorem step_markB {ops:Array Oper}{o:Oper}{a:Act}{w:World}{K:Act->World->Prop}{Q:Exit->Act->World->Prop}{E:Prop}
  (hg:o.guard=none) (x y:Operand) (hop:o.op=Op.call { callee:=Callee.value (Operand.func 74),args:=#[x,y],argTypes:=#[3,3] })
  (i k:Nat) (hx:a.eval x=.int .i64 i) (hy:a.eval y=.int .i64 k) (hi:i<=1000) (hk:k<=1000000000)
  (hK:K (a.put o.dst (.int .u8 (markB i k))) w) :
  if Region.wanted o (yielded ops a.tmps)=true then Oper.wp Tryz.prog o a w K Q else E:=by
 have hw:Region.wanted o (yielded ops a.tmps)=true:=by simp [Region.wanted,hg]
 rw [if_pos hw]
 have hf:a.eval (Operand.func 74)=.func (.func 74) #[] #[]:=rfl
 have hcf:=enter_markB #[.int .i64 i,.int .i64 k] w
 have e:(execOp a.eval o).run Tryz.prog w=.ok (.enter 74 #[.int .i64 i,.int .i64 k]) w:=by
  simp [execOp,hop,resolve,invoke,hx,hy,hf,Deferred.ofValue,hcf]
 show o.upon Tryz.prog a K Q ((execOp a.eval o).run Tryz.prog w)
 rw [e,Oper.upon_enter]
 refine (markbyte_ik i k w hi hk).mono ?_
 rintro e w' ⟨rfl,rfl⟩
 exact hK
theorem infoBYK:SliceInfo 112:=sliceInfo_of (by kernel_rfl)
theorem mkByte_len:∀ i k,(mkByte i k).length=1:=fun _ _=>rfl
theorem apart_bytes (q:Nat)(lv:Value)(L:List LE)(X:Nat->List Value)(w:World)(hq:w.cell? ⟨q,0,none⟩=some lv)(hl:HL 112 w lv (L.map LE.v))(hrow:∀ j (h:j < L.length),w.ownsRow 0 5 1 L[j].v L[j].n (X j))(hnd:∀ j j' (h:j < L.length) (h':j' < L.length),j≠j'->L[j].g≠L[j'].g)(hlen:L.length<=1000)(hn:∀ e∈L,e.n<=100000000) :
  Calls Tryz.prog 36 #[.pointer (some ⟨q,0,none⟩)] w fun e w'=>e=.returned (.bool true)/\KFr L w w':=by
 obtain ⟨i0,hi,hz0,hz1,hz2⟩:=infoByte_parts
 have PS:Hid (P1I 5 1 mkByte w L 0 0 w):=P1I.start hrow hnd
 have NE:Hid (∀ w',KFr L w w'->HL 112 w' lv (L.map LE.v)):=fun w' hf=>hl.setK hf fun e he=>by
  obtain ⟨j,hj,rfl⟩:=List.getElem_of_mem he
  obtain ⟨cur,h1,_⟩:=row_block (hrow j hj)
  exact hl.ne h1 (by decide)
 have HN:Hid (∀ {j eg en ec:Nat},L[j]?=some ⟨eg,en,ec⟩->en<=100000000):=fun {j eg en ec} he=>hn ⟨eg,en,ec⟩ (List.mem_of_getElem? he)
 have LT:Hid (∀ z,lv.ownBlock=some z->z < w.heap.size):=hl.lt
 obtain ⟨la,lc,rfl⟩:=hl.slice
 rw [List.length_map] at hq NE LT
 clear hrow hnd hn hl
 go_enter Tryz.func36,Tryz.ntmps36
 go_wp2
 go_loopw [4] (fun i wr=>∃ j:Nat,i=.int .i64 j/\j<=L.length/\P1I 5 1 mkByte w L j 0 wr) (fun i _=>L.length - (intOf i).toNat)
 case atStart=>exact ⟨0,rfl,Nat.zero_le _,PS.out⟩
 case round =>
  clear PS hq
  obtain ⟨j,rfl,hj,hP⟩:=hrel
  by_cases hlt:j < L.length
  ·have hL:=NE.out wr hP.fr
   obtain ⟨lb,rfl⟩:∃ lb,la=some ⟨lb,0,none⟩:=by
    obtain ⟨g,c,e,_⟩:=hL.at j L[j].v (by simp [hlt])
    simp only [Value.slice.injEq] at e
    exact ⟨g,e.1⟩
   obtain ⟨eg,en,ec,HE,hcl⟩:=le_at hL hlt
   have hen:=HN.out HE.out
   go_wp2
   obtain ⟨wo,rfl⟩:∃ wo:World,wo=wr:=⟨_,rfl⟩
   go_loopw [5] (fun k wr=>∃ m:Nat,k=.int .i64 m/\m<=en/\P1I 5 1 mkByte w L j m wr) (fun k _=>en - (intOf k).toNat)
   case atStart=>exact ⟨0,rfl,Nat.zero_le _,hP⟩
   case round =>
    clear hP hL hcl
    obtain ⟨m,rfl,hm,hP⟩:=hrel
    obtain ⟨_,_,_,HE2,hcl⟩:=le_at (NE.out wr hP.fr) hlt
    have:=HE.out.symm.trans HE2.out
    simp only [Option.some.injEq,LE.mk.injEq] at this
    obtain ⟨rfl,rfl,rfl⟩:=this
    clear HE2
    by_cases hlm:m < en
    ·have HP:Hid (P1I 5 1 mkByte w L j m wr):=hP
     have AF:Hid (∀ w4,Below wr.drew.heap.size wr.drew w4->(∃ u,w4.cell? ⟨eg,m,none⟩=some u)/\w4.frozen? ⟨eg,m,none⟩=false/\w4.cell? ⟨lb,j,none⟩=some (.slice (some ⟨eg,0,none⟩) en ec)):=fun w4 hb=>by
      have h4:=HP.out.later (below_step (Below.refl _ _).drew hb)
      refine ⟨h4.cellE HE.out m (by omega),h4.freeE HE.out m,?_⟩
      obtain ⟨_,_,_,HE2,hcl⟩:=le_at (NE.out w4 h4.fr) hlt
      have:=HE.out.symm.trans HE2.out
      simp only [Option.some.injEq,LE.mk.injEq] at this
      obtain ⟨rfl,rfl,rfl⟩:=this
      exact hcl
     obtain ⟨⟨u0,cu0⟩,fu0,cl0⟩:=AF.out wr.drew (Below.refl _ _)
     clear hP
     go_wp2
     go_region_law (first
      | (refine step_markB (by rfl) _ _ (by rfl) j m (by rfl) (by rfl) (by omega) (by omega) ?_))
     all_goals go_wp2
     all_goals
      go_roundw
      case rel=>exact ⟨m+1,by go_num,by omega,(HP.out.later (Below.refl _ _).drew).set1E HE.out hlm _ rfl⟩
      case measure=>simp [intOf];omega
    ·obtain rfl:m=en:=by omega
     go_wp2
     go_roundw
     case rel=>exact ⟨j+1,by go_num,by omega,hP.nextE HE.out⟩
     case measure=>simp [intOf];omega
  ·obtain rfl:j=L.length:=by omega
   have F1:Hid (KFr L w wr):=hP.fr
   have HP2:Hid (P2 5 1 mkByte wr L [] ([]:List Value).length wr):=P2.start hP
   have NE2:Hid (∀ w',KFr L wr w'->HL 112 w' (.slice la L.length lc) (L.map LE.v)):=fun w' hf=>NE.out w' (F1.out.trans hf)
   have INF:Hid (Tryz.prog.info? 5=some i0/\i0.zero=some (.int .u8 0)/\i0.size=1/\i0.bytes=1):=⟨hi,hz0,hz1,hz2⟩
   clear hP NE LT hlt hj hi hz0 hz1 hz2
   go_wp2
   obtain ⟨w1,rfl⟩:∃ w1:World,w1=wr:=⟨_,rfl⟩
   go_loopw [6,7] (fun gr i wr=>∃ gs:List Value,i=.int .i64 gs.length/\P2 5 1 mkByte w1 L gs gs.length wr/\HL 112 wr gr gs/\(∀ z,gr.ownBlock=some z->w1.heap.size<=z)) (fun _ i _=>L.length - (intOf i).toNat)
   case atStart=>exact ⟨[],rfl,HP2.out,HL.nil _ _,fun z hz=>by simp [Value.ownBlock] at hz⟩
   case round =>
    clear HP2
    obtain ⟨gs,rfl,hP,hG,hlo'⟩:=hrel
    have hlo:Hid _:=hlo'
    clear hlo'
    obtain ⟨ga,gc,rfl⟩:=hG.slice
    by_cases hlt:gs.length < L.length
    ·have hL:=NE2.out wr hP.fr
     obtain ⟨lb,rfl⟩:∃ lb,la=some ⟨lb,0,none⟩:=by
      obtain ⟨g,c,e,_⟩:=hL.at gs.length L[gs.length].v (by simp [hlt])
      simp only [Value.slice.injEq] at e
      exact ⟨g,e.1⟩
     obtain ⟨eg,en,ec,HE,hcl⟩:=le_at hL hlt
     have hen:=HN.out HE.out
     have HB:Hid (P2g 5 1 mkByte w1 L gs 0 (.slice (some ⟨eg,0,none⟩) en ec) wr):=hP.beginE HE.out
     clear hP hL
     go_wp2
     obtain ⟨wo,rfl⟩:∃ wo:World,wo=wr:=⟨_,rfl⟩
     go_loopw [8,9] (fun g k wr=>∃ m:Nat,k=.int .i64 m/\m<=40/\P2g 5 1 mkByte w1 L gs m g wr/\HL 112 wr (.slice ga gs.length gc) gs) (fun _ k _=>40 - (intOf k).toNat)
     case atStart=>exact ⟨0,rfl,by omega,HB.out,hG⟩
     case round =>
      clear HB hG hcl
      obtain ⟨m,rfl,hm,hg',hG'⟩:=hrel
      have hg:Hid (P2g 5 1 mkByte w1 L gs m _ wr):=hg'
      have hG:Hid (HL 112 wr (.slice ga gs.length gc) gs):=hG'
      have hcur:Hid _:=hg'.curE HE.out
      obtain ⟨ca,cc,rfl⟩:=row_slice hcur.out
      clear hg' hG'
      by_cases hlm:m < 40
      ·go_wp2_with (first
        | (go_at_call 74;refine (markbyte_ik gs.length (en+m) wr (by omega) (by omega)).mono ?_;rintro e w4 ⟨rfl,rfl⟩)
        | (at_builtin;refine wpList_row_append Tryz.underlying112 INF.out.1 INF.out.2.1 INF.out.2.2.1 INF.out.2.2.2 rfl (by decide) (by decide) rfl _ _ rfl _ (en+m) _ rfl (row_later hcur.out (bAl wr _)) wr.heap.size 1 (mkByte gs.length (en+m)) rfl rfl (one_new wr _ _) (by intro u hu;simp [mkByte] at hu;subst hu;rfl) (by omega) ?_;intro v5 w5 ho5 ha5))
       go_roundw
       case rel=>exact ⟨m+1,by go_num,by omega,(hg.out.later (bAl wr _)).appE HE.out ha5 ho5,(hG.out.later (bAl wr _)).app (row_later hcur.out (bAl wr _)) (by decide) ha5⟩
       case measure=>simp [intOf];omega
      ·obtain rfl:m=40:=by omega
       go_wp2_with (at_builtin;refine wpList_hl_append Tryz.underlying28 infoBYK rfl _ _ rfl (.slice ga gs.length gc) gs rfl (hG.out.later (bAl wr _)) wr.heap.size 1 _ rfl (one_new wr _ _ 0 _ rfl) rfl (by omega) ?_;intro v6 w6 hl6 hg6)
       go_roundw
       case rel =>
        refine ⟨gs++[.slice ca (en+40) cc],by simp,(hg.out.later (bAl wr _)).fin (hG.out.later (bAl wr _)) (by decide) hlo.out hg6.grown,hl6,fun z hz=>?_⟩
        rcases hg6.moved with r | ⟨k,r,hk⟩
        ·exact hlo.out z (r ▸ hz)
        ·rw [hz] at r
         have:=Option.some.inj r
         have h1:=hg.out.p.fr.size
         have h2:wr.heap.size<=(wr.alloc (.cells #[.slice ca (en+40) cc] 112)).heap.size:=(bAl wr _).size
         omega
       case measure=>simp [intOf];omega
    ·have hlx:Hid (gs.length=L.length):=by have:=hP.len;show _=_;omega
     have F2:Hid (KFr L w wr):=F1.out.trans hP.fr
     have NE3:Hid (∀ w',Below wr.heap.size wr w'->HL 112 w' (.slice la L.length lc) (L.map LE.v)):=fun w' hf=>NE2.out w' (hP.fr.trans (KFr.ofBelow hf))
     have HP:Hid (∀ w',Below wr.heap.size wr w'->P2 5 1 mkByte w1 L gs gs.length w'):=fun w' hf=>hP.later hf
     have HG:Hid (∀ w',Below wr.heap.size wr w'->HL 112 w' (.slice ga gs.length gc) gs):=fun w' hf=>hG.later hf
     clear hP hG NE2 F1 hlo
     go_wp2
     clear hlt
     obtain ⟨w2,rfl⟩:∃ w2:World,w2=wr:=⟨_,rfl⟩
     go_loopw [10] (fun i wr=>∃ j:Nat,i=.int .i64 j/\j<=L.length/\Below w2.heap.size w2 wr) (fun i _=>L.length - (intOf i).toNat)
     case atStart=>exact ⟨0,rfl,Nat.zero_le _,Below.refl _ _⟩
     case round =>
      obtain ⟨j,rfl,hj,hb⟩:=hrel
      by_cases hlt:j < L.length
      ·have hL:=NE3.out wr hb
       obtain ⟨lb,rfl⟩:∃ lb,la=some ⟨lb,0,none⟩:=by
        obtain ⟨g,c,e,_⟩:=hL.at j L[j].v (by simp [hlt])
        simp only [Value.slice.injEq] at e
        exact ⟨g,e.1⟩
       obtain ⟨eg,en,ec,HE,_⟩:=le_at hL hlt
       have hen:=HN.out HE.out
       obtain ⟨xb,xc,hgs,_⟩:=(HP.out wr hb).lookE mkByte_len HE.out (by rw [hlx.out];exact hlt)
       obtain ⟨gb,gc',e,_⟩:=(HG.out wr hb).at j _ hgs
       simp only [Value.slice.injEq] at e
       obtain ⟨rfl,_,rfl⟩:=e
       have AF:Hid (∀ w',Below w2.heap.size w2 w'->w'.cell? ⟨lb,j,none⟩=some (.slice (some ⟨eg,0,none⟩) en ec)/\w'.cell? ⟨gb,j,none⟩=some (.slice (some ⟨xb,0,none⟩) (en+40) xc)/\(∀ m,m < en+40->w'.cell? ⟨xb,m,none⟩=some (.int .u8 (markB j m)))/\(∀ m,m < en->w'.cell? ⟨eg,m,none⟩=some (.int .u8 (markB j m)))):=fun w' hb'=>by
        obtain ⟨_,_,_,HE2,hcl⟩:=le_at (NE3.out w' hb') hlt
        have e2:=HE.out.symm.trans HE2.out
        simp only [Option.some.injEq,LE.mk.injEq] at e2
        obtain ⟨rfl,rfl,rfl⟩:=e2
        obtain ⟨xb2,xc2,hgs2,hnew⟩:=(HP.out w' hb').lookE mkByte_len HE.out (by rw [hlx.out];exact hlt)
        have e3:=hgs.symm.trans hgs2
        simp only [Option.some.injEq,Value.slice.injEq,Addr.mk.injEq] at e3
        obtain ⟨⟨rfl,_⟩,_,rfl⟩:=e3
        obtain ⟨gb2,gc2,e,hcg⟩:=(HG.out w' hb').at j _ hgs
        simp only [Value.slice.injEq,Option.some.injEq,Addr.mk.injEq] at e
        obtain ⟨⟨rfl,_⟩,_⟩:=e
        exact ⟨hcl,hcg,fun m hm=>by have:=hnew m hm 0 (by omega);simpa [mkByte] using this,fun m hm=>by have:=(HP.out w' hb').lookOldE mkByte_len HE.out m hm 0 (by omega);simpa [mkByte] using this⟩
       obtain ⟨k1,k2,_,_⟩:=AF.out wr hb
       have hjg:j < gs.length:=by rw [hlx.out];exact hlt
       clear hgs hL
       go_wp2
       obtain ⟨wo,rfl⟩:∃ wo:World,wo=wr:=⟨_,rfl⟩
       go_loopw [11] (fun k wr=>∃ m:Nat,k=.int .i64 m/\m<=en+40/\Below w2.heap.size w2 wr) (fun k _=>en+40 - (intOf k).toNat)
       case atStart=>exact ⟨0,rfl,Nat.zero_le _,hb⟩
       case round =>
        clear hb k1 k2
        obtain ⟨m,rfl,hm,hb⟩:=hrel
        obtain ⟨k1,k2,_,_⟩:=AF.out wr hb
        by_cases hlm:m < en+40
        ·have HC:Hid (∀ w4,Below wr.heap.size wr w4->_):=fun w4 hb4=>AF.out w4 (below_step hb hb4)
         have hd1:decide ((m:Int) < (en:Int)+40)=true:=by simp;omega
         have hbn:((markB j m) != (markB j m))=false:=by simp
         by_cases hln:m < en
         ·go_wp2_with (go_at_call 74;refine (markbyte_ik j m wr (by omega) (by omega)).mono ?_;rintro e w4 ⟨rfl,rfl⟩;have hb4:Below wr.heap.size wr wr:=Below.refl _ _;obtain ⟨q1,q2,q3',q4'⟩:=HC.out wr hb4;have q3:=q3' m hlm;have q4:=q4' m hln;clear q3' q4')
          go_roundw
          case rel=>exact ⟨m+1,by go_num,by omega,below_step hb hb4⟩
          case measure=>simp [intOf];omega
         ·go_wp2_with (go_at_call 74;refine (markbyte_ik j m wr (by omega) (by omega)).mono ?_;rintro e w4 ⟨rfl,rfl⟩;have hb4:Below wr.heap.size wr wr:=Below.refl _ _;obtain ⟨q1,q2,q3',q4'⟩:=HC.out wr hb4;have q3:=q3' m hlm;clear q3' q4')
          go_roundw
          case rel=>exact ⟨m+1,by go_num,by omega,below_step hb hb4⟩
          case measure=>simp [intOf];omega
        ·go_wp2
         go_roundw
         case rel=>exact ⟨j+1,by go_num,by omega,hb⟩
         case measure=>simp [intOf];omega
      ·go_wp2
       go_ret
       exact ⟨rfl,F2.out.trans (KFr.ofBelow hb)⟩
def markI (i k:Nat):Int:=-1 - 100003*((i:Int)+1) - 7*(k:Int)
def mkInt (i k:Nat):List Value:=[.int .i64 (markI i k)]
theorem infoIntK:(Tryz.prog.info? 3).map (fun i=>(i.zero,i.size,i.bytes))=some (some (.int .i64 0),1,8):=by kernel_rfl
theorem infoIntK_parts:∃ i,Tryz.prog.info? 3=some i/\i.zero=some (.int .i64 0)/\i.size=1/\i.bytes=8:=by
 have h:=infoIntK
 cases e:Tryz.prog.info? 3 with
 | none=>rw [e] at h;cases h
 | some i=>rw [e] at h;simp at h;exact ⟨i,rfl,h⟩
theorem markint_ik (i k:Nat)(w:World)(hi:i<=100000000)(hk:k<=1000000000) :
  Calls Tryz.prog 75 #[.int .i64 i,.int .i64 k] w fun e w'=>e=.returned (.int .i64 (markI i k))/\w=w':=by
 go_enter Tryz.func75,Tryz.ntmps75
 go_wp2
 go_ret
 exact ⟨rfl,rfl⟩
theorem enter_markI (args:Array Value)(w:World):(callFunc 75 args).run Tryz.prog w=.ok (.enter 75 args) w:=by kernel_rfl
theorem step_markI {ops:Array Oper}{o:Oper}{a:Act}{w:World}{K:Act->World->Prop}{Q:Exit->Act->World->Prop}{E:Prop}
  (hg:o.guard=none) (x y:Operand) (hop:o.op=Op.call { callee:=Callee.value (Operand.func 75),args:=#[x,y],argTypes:=#[3,3] })
  (i k:Nat) (hx:a.eval x=.int .i64 i) (hy:a.eval y=.int .i64 k) (hi:i<=100000000) (hk:k<=1000000000)
  (hK:K (a.put o.dst (.int .i64 (markI i k))) w) :
  if Region.wanted o (yielded ops a.tmps)=true then Oper.wp Tryz.prog o a w K Q else E:=by
 have hw:Region.wanted o (yielded ops a.tmps)=true:=by simp [Region.wanted,hg]
 rw [if_pos hw]
 have hf:a.eval (Operand.func 75)=.func (.func 75) #[] #[]:=rfl
 have hcf:=enter_markI #[.int .i64 i,.int .i64 k] w
 have e:(execOp a.eval o).run Tryz.prog w=.ok (.enter 75 #[.int .i64 i,.int .i64 k]) w:=by
  simp [execOp,hop,resolve,invoke,hx,hy,hf,Deferred.ofValue,hcf]
 show o.upon Tryz.prog a K Q ((execOp a.eval o).run Tryz.prog w)
 rw [e,Oper.upon_enter]
 refine (markint_ik i k w hi hk).mono ?_
 rintro e w' ⟨rfl,rfl⟩
 exact hK
theorem infoINK:SliceInfo 47:=sliceInfo_of (by kernel_rfl)
theorem mkInt_len:∀ i k,(mkInt i k).length=1:=fun _ _=>rfl
theorem apart_ints (q:Nat)(lv:Value)(L:List LE)(X:Nat->List Value)(w:World)(hq:w.cell? ⟨q,1,none⟩=some lv)(hl:HL 47 w lv (L.map LE.v))(hrow:∀ j (h:j < L.length),w.ownsRow 0 3 1 L[j].v L[j].n (X j))(hnd:∀ j j' (h:j < L.length) (h':j' < L.length),j≠j'->L[j].g≠L[j'].g)(hlen:L.length<=100000000)(hn:∀ e∈L,e.n<=100000000) :
  Calls Tryz.prog 37 #[.pointer (some ⟨q,0,none⟩)] w fun e w'=>e=.returned (.bool true)/\KFr L w w':=by
 obtain ⟨i0,hi,hz0,hz1,hz2⟩:=infoIntK_parts
 have PS:Hid (P1I 3 1 mkInt w L 0 0 w):=P1I.start hrow hnd
 have NE:Hid (∀ w',KFr L w w'->HL 47 w' lv (L.map LE.v)):=fun w' hf=>hl.setK hf fun e he=>by
  obtain ⟨j,hj,rfl⟩:=List.getElem_of_mem he
  obtain ⟨cur,h1,_⟩:=row_block (hrow j hj)
  exact hl.ne h1 (by decide)
 have HN:Hid (∀ {j eg en ec:Nat},L[j]?=some ⟨eg,en,ec⟩->en<=100000000):=fun {j eg en ec} he=>hn ⟨eg,en,ec⟩ (List.mem_of_getElem? he)
 have LT:Hid (∀ z,lv.ownBlock=some z->z < w.heap.size):=hl.lt
 obtain ⟨la,lc,rfl⟩:=hl.slice
 rw [List.length_map] at hq NE LT
 clear hrow hnd hn hl
 go_enter Tryz.func37,Tryz.ntmps37
 go_wp2
 go_loopw [4] (fun i wr=>∃ j:Nat,i=.int .i64 j/\j<=L.length/\P1I 3 1 mkInt w L j 0 wr) (fun i _=>L.length - (intOf i).toNat)
 case atStart=>exact ⟨0,rfl,Nat.zero_le _,PS.out⟩
 case round =>
  clear PS hq
  obtain ⟨j,rfl,hj,hP⟩:=hrel
  by_cases hlt:j < L.length
  ·have hL:=NE.out wr hP.fr
   obtain ⟨lb,rfl⟩:∃ lb,la=some ⟨lb,0,none⟩:=by
    obtain ⟨g,c,e,_⟩:=hL.at j L[j].v (by simp [hlt])
    simp only [Value.slice.injEq] at e
    exact ⟨g,e.1⟩
   obtain ⟨eg,en,ec,HE,hcl⟩:=le_at hL hlt
   have hen:=HN.out HE.out
   go_wp2
   obtain ⟨wo,rfl⟩:∃ wo:World,wo=wr:=⟨_,rfl⟩
   go_loopw [5] (fun k wr=>∃ m:Nat,k=.int .i64 m/\m<=en/\P1I 3 1 mkInt w L j m wr) (fun k _=>en - (intOf k).toNat)
   case atStart=>exact ⟨0,rfl,Nat.zero_le _,hP⟩
   case round =>
    clear hP hL hcl
    obtain ⟨m,rfl,hm,hP⟩:=hrel
    obtain ⟨_,_,_,HE2,hcl⟩:=le_at (NE.out wr hP.fr) hlt
    have:=HE.out.symm.trans HE2.out
    simp only [Option.some.injEq,LE.mk.injEq] at this
    obtain ⟨rfl,rfl,rfl⟩:=this
    clear HE2
    by_cases hlm:m < en
    ·have HP:Hid (P1I 3 1 mkInt w L j m wr):=hP
     have AF:Hid (∀ w4,Below wr.drew.heap.size wr.drew w4->(∃ u,w4.cell? ⟨eg,m,none⟩=some u)/\w4.frozen? ⟨eg,m,none⟩=false/\w4.cell? ⟨lb,j,none⟩=some (.slice (some ⟨eg,0,none⟩) en ec)):=fun w4 hb=>by
      have h4:=HP.out.later (below_step (Below.refl _ _).drew hb)
      refine ⟨h4.cellE HE.out m (by omega),h4.freeE HE.out m,?_⟩
      obtain ⟨_,_,_,HE2,hcl⟩:=le_at (NE.out w4 h4.fr) hlt
      have:=HE.out.symm.trans HE2.out
      simp only [Option.some.injEq,LE.mk.injEq] at this
      obtain ⟨rfl,rfl,rfl⟩:=this
      exact hcl
     obtain ⟨⟨u0,cu0⟩,fu0,cl0⟩:=AF.out wr.drew (Below.refl _ _)
     clear hP
     go_wp2
     go_region_law (first
      | (refine step_markI (by rfl) _ _ (by rfl) j m (by rfl) (by rfl) (by omega) (by omega) ?_))
     all_goals go_wp2
     all_goals
      go_roundw
      case rel=>exact ⟨m+1,by go_num,by omega,(HP.out.later (Below.refl _ _).drew).set1E HE.out hlm _ rfl⟩
      case measure=>simp [intOf];omega
    ·obtain rfl:m=en:=by omega
     go_wp2
     go_roundw
     case rel=>exact ⟨j+1,by go_num,by omega,hP.nextE HE.out⟩
     case measure=>simp [intOf];omega
  ·obtain rfl:j=L.length:=by omega
   have F1:Hid (KFr L w wr):=hP.fr
   have HP2:Hid (P2 3 1 mkInt wr L [] ([]:List Value).length wr):=P2.start hP
   have NE2:Hid (∀ w',KFr L wr w'->HL 47 w' (.slice la L.length lc) (L.map LE.v)):=fun w' hf=>NE.out w' (F1.out.trans hf)
   have INF:Hid (Tryz.prog.info? 3=some i0/\i0.zero=some (.int .i64 0)/\i0.size=1/\i0.bytes=8):=⟨hi,hz0,hz1,hz2⟩
   clear hP NE LT hlt hj hi hz0 hz1 hz2
   go_wp2
   obtain ⟨w1,rfl⟩:∃ w1:World,w1=wr:=⟨_,rfl⟩
   go_loopw [6,7] (fun gr i wr=>∃ gs:List Value,i=.int .i64 gs.length/\P2 3 1 mkInt w1 L gs gs.length wr/\HL 47 wr gr gs/\(∀ z,gr.ownBlock=some z->w1.heap.size<=z)) (fun _ i _=>L.length - (intOf i).toNat)
   case atStart=>exact ⟨[],rfl,HP2.out,HL.nil _ _,fun z hz=>by simp [Value.ownBlock] at hz⟩
   case round =>
    clear HP2
    obtain ⟨gs,rfl,hP,hG,hlo'⟩:=hrel
    have hlo:Hid _:=hlo'
    clear hlo'
    obtain ⟨ga,gc,rfl⟩:=hG.slice
    by_cases hlt:gs.length < L.length
    ·have hL:=NE2.out wr hP.fr
     obtain ⟨lb,rfl⟩:∃ lb,la=some ⟨lb,0,none⟩:=by
      obtain ⟨g,c,e,_⟩:=hL.at gs.length L[gs.length].v (by simp [hlt])
      simp only [Value.slice.injEq] at e
      exact ⟨g,e.1⟩
     obtain ⟨eg,en,ec,HE,hcl⟩:=le_at hL hlt
     have hen:=HN.out HE.out
     have HB:Hid (P2g 3 1 mkInt w1 L gs 0 (.slice (some ⟨eg,0,none⟩) en ec) wr):=hP.beginE HE.out
     clear hP hL
     go_wp2
     obtain ⟨wo,rfl⟩:∃ wo:World,wo=wr:=⟨_,rfl⟩
     go_loopw [8,9] (fun g k wr=>∃ m:Nat,k=.int .i64 m/\m<=40/\P2g 3 1 mkInt w1 L gs m g wr/\HL 47 wr (.slice ga gs.length gc) gs) (fun _ k _=>40 - (intOf k).toNat)
     case atStart=>exact ⟨0,rfl,by omega,HB.out,hG⟩
     case round =>
      clear HB hG hcl
      obtain ⟨m,rfl,hm,hg',hG'⟩:=hrel
      have hg:Hid (P2g 3 1 mkInt w1 L gs m _ wr):=hg'
      have hG:Hid (HL 47 wr (.slice ga gs.length gc) gs):=hG'
      have hcur:Hid _:=hg'.curE HE.out
      obtain ⟨ca,cc,rfl⟩:=row_slice hcur.out
      clear hg' hG'
      by_cases hlm:m < 40
      ·go_wp2_with (first
        | (go_at_call 75;refine (markint_ik gs.length (en+m) wr (by omega) (by omega)).mono ?_;rintro e w4 ⟨rfl,rfl⟩)
        | (at_builtin;refine wpList_row_append Tryz.underlying47 INF.out.1 INF.out.2.1 INF.out.2.2.1 INF.out.2.2.2 rfl (by decide) (by decide) rfl _ _ rfl _ (en+m) _ rfl (row_later hcur.out (bAl wr _)) wr.heap.size 1 (mkInt gs.length (en+m)) rfl rfl (one_new wr _ _) (by intro u hu;simp [mkInt] at hu;subst hu;rfl) (by omega) ?_;intro v5 w5 ho5 ha5))
       go_roundw
       case rel=>exact ⟨m+1,by go_num,by omega,(hg.out.later (bAl wr _)).appE HE.out ha5 ho5,(hG.out.later (bAl wr _)).app (row_later hcur.out (bAl wr _)) (by decide) ha5⟩
       case measure=>simp [intOf];omega
      ·obtain rfl:m=40:=by omega
       go_wp2_with (at_builtin;refine wpList_hl_append Tryz.underlying29 infoINK rfl _ _ rfl (.slice ga gs.length gc) gs rfl (hG.out.later (bAl wr _)) wr.heap.size 1 _ rfl (one_new wr _ _ 0 _ rfl) rfl (by omega) ?_;intro v6 w6 hl6 hg6)
       go_roundw
       case rel =>
        refine ⟨gs++[.slice ca (en+40) cc],by simp,(hg.out.later (bAl wr _)).fin (hG.out.later (bAl wr _)) (by decide) hlo.out hg6.grown,hl6,fun z hz=>?_⟩
        rcases hg6.moved with r | ⟨k,r,hk⟩
        ·exact hlo.out z (r ▸ hz)
        ·rw [hz] at r
         have:=Option.some.inj r
         have h1:=hg.out.p.fr.size
         have h2:wr.heap.size<=(wr.alloc (.cells #[.slice ca (en+40) cc] 47)).heap.size:=(bAl wr _).size
         omega
       case measure=>simp [intOf];omega
    ·have hlx:Hid (gs.length=L.length):=by have:=hP.len;show _=_;omega
     have F2:Hid (KFr L w wr):=F1.out.trans hP.fr
     have NE3:Hid (∀ w',Below wr.heap.size wr w'->HL 47 w' (.slice la L.length lc) (L.map LE.v)):=fun w' hf=>NE2.out w' (hP.fr.trans (KFr.ofBelow hf))
     have HP:Hid (∀ w',Below wr.heap.size wr w'->P2 3 1 mkInt w1 L gs gs.length w'):=fun w' hf=>hP.later hf
     have HG:Hid (∀ w',Below wr.heap.size wr w'->HL 47 w' (.slice ga gs.length gc) gs):=fun w' hf=>hG.later hf
     clear hP hG NE2 F1 hlo
     go_wp2
     clear hlt
     obtain ⟨w2,rfl⟩:∃ w2:World,w2=wr:=⟨_,rfl⟩
     go_loopw [10] (fun i wr=>∃ j:Nat,i=.int .i64 j/\j<=L.length/\Below w2.heap.size w2 wr) (fun i _=>L.length - (intOf i).toNat)
     case atStart=>exact ⟨0,rfl,Nat.zero_le _,Below.refl _ _⟩
     case round =>
      obtain ⟨j,rfl,hj,hb⟩:=hrel
      by_cases hlt:j < L.length
      ·have hL:=NE3.out wr hb
       obtain ⟨lb,rfl⟩:∃ lb,la=some ⟨lb,0,none⟩:=by
        obtain ⟨g,c,e,_⟩:=hL.at j L[j].v (by simp [hlt])
        simp only [Value.slice.injEq] at e
        exact ⟨g,e.1⟩
       obtain ⟨eg,en,ec,HE,_⟩:=le_at hL hlt
       have hen:=HN.out HE.out
       obtain ⟨xb,xc,hgs,_⟩:=(HP.out wr hb).lookE mkInt_len HE.out (by rw [hlx.out];exact hlt)
       obtain ⟨gb,gc',e,_⟩:=(HG.out wr hb).at j _ hgs
       simp only [Value.slice.injEq] at e
       obtain ⟨rfl,_,rfl⟩:=e
       have AF:Hid (∀ w',Below w2.heap.size w2 w'->w'.cell? ⟨lb,j,none⟩=some (.slice (some ⟨eg,0,none⟩) en ec)/\w'.cell? ⟨gb,j,none⟩=some (.slice (some ⟨xb,0,none⟩) (en+40) xc)/\(∀ m,m < en+40->w'.cell? ⟨xb,m,none⟩=some (.int .i64 (markI j m)))/\(∀ m,m < en->w'.cell? ⟨eg,m,none⟩=some (.int .i64 (markI j m)))):=fun w' hb'=>by
        obtain ⟨_,_,_,HE2,hcl⟩:=le_at (NE3.out w' hb') hlt
        have e2:=HE.out.symm.trans HE2.out
        simp only [Option.some.injEq,LE.mk.injEq] at e2
        obtain ⟨rfl,rfl,rfl⟩:=e2
        obtain ⟨xb2,xc2,hgs2,hnew⟩:=(HP.out w' hb').lookE mkInt_len HE.out (by rw [hlx.out];exact hlt)
        have e3:=hgs.symm.trans hgs2
        simp only [Option.some.injEq,Value.slice.injEq,Addr.mk.injEq] at e3
        obtain ⟨⟨rfl,_⟩,_,rfl⟩:=e3
        obtain ⟨gb2,gc2,e,hcg⟩:=(HG.out w' hb').at j _ hgs
        simp only [Value.slice.injEq,Option.some.injEq,Addr.mk.injEq] at e
        obtain ⟨⟨rfl,_⟩,_⟩:=e
        exact ⟨hcl,hcg,fun m hm=>by have:=hnew m hm 0 (by omega);simpa [mkInt] using this,fun m hm=>by have:=(HP.out w' hb').lookOldE mkInt_len HE.out m hm 0 (by omega);simpa [mkInt] using this⟩
       obtain ⟨k1,k2,_,_⟩:=AF.out wr hb
       have hjg:j < gs.length:=by rw [hlx.out];exact hlt
       clear hgs hL
       go_wp2
       obtain ⟨wo,rfl⟩:∃ wo:World,wo=wr:=⟨_,rfl⟩
       go_loopw [11] (fun k wr=>∃ m:Nat,k=.int .i64 m/\m<=en+40/\Below w2.heap.size w2 wr) (fun k _=>en+40 - (intOf k).toNat)
       case atStart=>exact ⟨0,rfl,Nat.zero_le _,hb⟩
       case round =>
        clear hb k1 k2
        obtain ⟨m,rfl,hm,hb⟩:=hrel
        obtain ⟨k1,k2,_,_⟩:=AF.out wr hb
        by_cases hlm:m < en+40
        ·have HC:Hid (∀ w4,Below wr.heap.size wr w4->_):=fun w4 hb4=>AF.out w4 (below_step hb hb4)
         have hd1:decide ((m:Int) < (en:Int)+40)=true:=by simp;omega
         have hbn:((markI j m) != (markI j m))=false:=by simp
         by_cases hln:m < en
         ·go_wp2_with (go_at_call 75;refine (markint_ik j m wr (by omega) (by omega)).mono ?_;rintro e w4 ⟨rfl,rfl⟩;have hb4:Below wr.heap.size wr wr:=Below.refl _ _;obtain ⟨q1,q2,q3',q4'⟩:=HC.out wr hb4;have q3:=q3' m hlm;have q4:=q4' m hln;clear q3' q4')
          go_roundw
          case rel=>exact ⟨m+1,by go_num,by omega,below_step hb hb4⟩
          case measure=>simp [intOf];omega
         ·go_wp2_with (go_at_call 75;refine (markint_ik j m wr (by omega) (by omega)).mono ?_;rintro e w4 ⟨rfl,rfl⟩;have hb4:Below wr.heap.size wr wr:=Below.refl _ _;obtain ⟨q1,q2,q3',q4'⟩:=HC.out wr hb4;have q3:=q3' m hlm;clear q3' q4')
          go_roundw
          case rel=>exact ⟨m+1,by go_num,by omega,below_step hb hb4⟩
          case measure=>simp [intOf];omega
        ·go_wp2
         go_roundw
         case rel=>exact ⟨j+1,by go_num,by omega,hb⟩
         case measure=>simp [intOf];omega
      ·go_wp2
       go_ret
       exact ⟨rfl,F2.out.trans (KFr.ofBelow hb)⟩
def markN (i k:Nat):Int:=-1 - 100003*((i:Int)+1) - 7*(k:Int)
def mkSym (i k:Nat):List Value:=[.int .i64 0,.int .i64 (markN i k)]
theorem marksym_ik (i k:Nat)(w:World)(hi:i<=100000000)(hk:k<=1000000000) :
  Calls Tryz.prog 78 #[.int .i64 i,.int .i64 k] w fun e w'=>e=.returned (.agg #[.int .i64 0,.int .i64 (markN i k)])/\Below w.heap.size w w':=by
 go_enter Tryz.func78,Tryz.ntmps78
 go_wp2
 go_returns
 exact ⟨rfl,by go_grown⟩
theorem enter_markY (args:Array Value)(w:World):(callFunc 78 args).run Tryz.prog w=.ok (.enter 78 args) w:=by kernel_rfl
theorem step_markY {ops:Array Oper}{o:Oper}{a:Act}{w:World}{K:Act->World->Prop}{Q:Exit->Act->World->Prop}{E:Prop}
  (hg:o.guard=none) (x y:Operand) (hop:o.op=Op.call { callee:=Callee.value (Operand.func 78),args:=#[x,y],argTypes:=#[3,3] })
  (i k:Nat) (hx:a.eval x=.int .i64 i) (hy:a.eval y=.int .i64 k) (hi:i<=100000000) (hk:k<=1000000000)
  (hK:∀ w',Below w.heap.size w w'->K (a.put o.dst (.agg #[.int .i64 0,.int .i64 (markN i k)])) w') :
  if Region.wanted o (yielded ops a.tmps)=true then Oper.wp Tryz.prog o a w K Q else E:=by
 have hw:Region.wanted o (yielded ops a.tmps)=true:=by simp [Region.wanted,hg]
 rw [if_pos hw]
 have hf:a.eval (Operand.func 78)=.func (.func 78) #[] #[]:=rfl
 have hcf:=enter_markY #[.int .i64 i,.int .i64 k] w
 have e:(execOp a.eval o).run Tryz.prog w=.ok (.enter 78 #[.int .i64 i,.int .i64 k]) w:=by
  simp [execOp,hop,resolve,invoke,hx,hy,hf,Deferred.ofValue,hcf]
 show o.upon Tryz.prog a K Q ((execOp a.eval o).run Tryz.prog w)
 rw [e,Oper.upon_enter]
 refine (marksym_ik i k w hi hk).mono ?_
 rintro e w' ⟨rfl,hb⟩
 exact hK w' hb
theorem infoSYK:SliceInfo 51:=sliceInfo_of (by kernel_rfl)
theorem mkSym_len:∀ i k,(mkSym i k).length=2:=fun _ _=>rfl
theorem apart_syms (q:Nat)(lv:Value)(L:List LE)(X:Nat->List Value)(w:World)(hq:w.cell? ⟨q,4,none⟩=some lv)(hl:HL 51 w lv (L.map LE.v))(hrow:∀ j (h:j < L.length),w.ownsRow 0 62 2 L[j].v L[j].n (X j))(hnd:∀ j j' (h:j < L.length) (h':j' < L.length),j≠j'->L[j].g≠L[j'].g)(hlen:L.length<=100000000)(hn:∀ e∈L,e.n<=100000000) :
  Calls Tryz.prog 40 #[.pointer (some ⟨q,0,none⟩)] w fun e w'=>e=.returned (.bool true)/\KFr L w w':=by
 obtain ⟨i0,hi,hz0,hz1,hz2⟩:=infoSym_parts
 have PS:Hid (P1I 62 2 mkSym w L 0 0 w):=P1I.start hrow hnd
 have NE:Hid (∀ w',KFr L w w'->HL 51 w' lv (L.map LE.v)):=fun w' hf=>hl.setK hf fun e he=>by
  obtain ⟨j,hj,rfl⟩:=List.getElem_of_mem he
  obtain ⟨cur,h1,_⟩:=row_block (hrow j hj)
  exact hl.ne h1 (by decide)
 have HN:Hid (∀ {j eg en ec:Nat},L[j]?=some ⟨eg,en,ec⟩->en<=100000000):=fun {j eg en ec} he=>hn ⟨eg,en,ec⟩ (List.mem_of_getElem? he)
 have LT:Hid (∀ z,lv.ownBlock=some z->z < w.heap.size):=hl.lt
 obtain ⟨la,lc,rfl⟩:=hl.slice
 rw [List.length_map] at hq NE LT
 clear hrow hnd hn hl
 go_enter Tryz.func40,Tryz.ntmps40
 go_wp2
 go_loopw [4] (fun i wr=>∃ j:Nat,i=.int .i64 j/\j<=L.length/\P1I 62 2 mkSym w L j 0 wr) (fun i _=>L.length - (intOf i).toNat)
 case atStart=>exact ⟨0,rfl,Nat.zero_le _,PS.out⟩
 case round =>
  clear PS hq
  obtain ⟨j,rfl,hj,hP⟩:=hrel
  by_cases hlt:j < L.length
  ·have hL:=NE.out wr hP.fr
   obtain ⟨lb,rfl⟩:∃ lb,la=some ⟨lb,0,none⟩:=by
    obtain ⟨g,c,e,_⟩:=hL.at j L[j].v (by simp [hlt])
    simp only [Value.slice.injEq] at e
    exact ⟨g,e.1⟩
   obtain ⟨eg,en,ec,HE,hcl⟩:=le_at hL hlt
   have hen:=HN.out HE.out
   go_wp2
   obtain ⟨wo,rfl⟩:∃ wo:World,wo=wr:=⟨_,rfl⟩
   go_loopw [5] (fun k wr=>∃ m:Nat,k=.int .i64 m/\m<=en/\P1I 62 2 mkSym w L j m wr) (fun k _=>en - (intOf k).toNat)
   case atStart=>exact ⟨0,rfl,Nat.zero_le _,hP⟩
   case round =>
    clear hP hL hcl
    obtain ⟨m,rfl,hm,hP⟩:=hrel
    obtain ⟨_,_,_,HE2,hcl⟩:=le_at (NE.out wr hP.fr) hlt
    have:=HE.out.symm.trans HE2.out
    simp only [Option.some.injEq,LE.mk.injEq] at this
    obtain ⟨rfl,rfl,rfl⟩:=this
    clear HE2
    by_cases hlm:m < en
    ·have HP:Hid (P1I 62 2 mkSym w L j m wr):=hP
     have AF:Hid (∀ w4,Below wr.drew.heap.size wr.drew w4->(∃ u,w4.cell? ⟨eg,m*2,none⟩=some u)/\(∃ u,w4.cell? ⟨eg,m*2+1,none⟩=some u)/\w4.frozen? ⟨eg,m*2,none⟩=false/\w4.frozen? ⟨eg,m*2+1,none⟩=false/\w4.cell? ⟨lb,j,none⟩=some (.slice (some ⟨eg,0,none⟩) en ec)):=fun w4 hb=>by
      have h4:=HP.out.later (below_step (Below.refl _ _).drew hb)
      refine ⟨h4.cellE HE.out _ (by omega),h4.cellE HE.out _ (by omega),h4.freeE HE.out _,h4.freeE HE.out _,?_⟩
      obtain ⟨_,_,_,HE2,hcl⟩:=le_at (NE.out w4 h4.fr) hlt
      have:=HE.out.symm.trans HE2.out
      simp only [Option.some.injEq,LE.mk.injEq] at this
      obtain ⟨rfl,rfl,rfl⟩:=this
      exact hcl
     obtain ⟨⟨u0,cu0⟩,⟨v0,cv0⟩,fu0,fv0,_⟩:=AF.out wr.drew (Below.refl _ _)
     clear hP
     go_wp2
     go_region_law (first
      | (refine step_markY (by rfl) _ _ (by rfl) j m (by rfl) (by rfl) (by omega) (by omega) ?_;intro w4 hb4;obtain ⟨⟨u4,cu4⟩,⟨v4,cv4⟩,fu4,fv4,cl4⟩:=AF.out w4 hb4))
     all_goals go_wp2
     all_goals
      go_roundw
      case rel=>exact ⟨m+1,by go_num,by omega,(HP.out.later (below_step (Below.refl _ _).drew hb4)).set2E HE.out hlm _ _ rfl⟩
      case measure=>simp [intOf];omega
    ·obtain rfl:m=en:=by omega
     go_wp2
     go_roundw
     case rel=>exact ⟨j+1,by go_num,by omega,hP.nextE HE.out⟩
     case measure=>simp [intOf];omega
  ·obtain rfl:j=L.length:=by omega
   have F1:Hid (KFr L w wr):=hP.fr
   have HP2:Hid (P2 62 2 mkSym wr L [] ([]:List Value).length wr):=P2.start hP
   have NE2:Hid (∀ w',KFr L wr w'->HL 51 w' (.slice la L.length lc) (L.map LE.v)):=fun w' hf=>NE.out w' (F1.out.trans hf)
   have INF:Hid (Tryz.prog.info? 62=some i0/\i0.zero=some (.agg #[.int .i64 0,.int .i64 0])/\i0.size=2/\i0.bytes=16):=⟨hi,hz0,hz1,hz2⟩
   clear hP NE LT hlt hj hi hz0 hz1 hz2
   go_wp2
   obtain ⟨w1,rfl⟩:∃ w1:World,w1=wr:=⟨_,rfl⟩
   go_loopw [6,7] (fun gr i wr=>∃ gs:List Value,i=.int .i64 gs.length/\P2 62 2 mkSym w1 L gs gs.length wr/\HL 51 wr gr gs/\(∀ z,gr.ownBlock=some z->w1.heap.size<=z)) (fun _ i _=>L.length - (intOf i).toNat)
   case atStart=>exact ⟨[],rfl,HP2.out,HL.nil _ _,fun z hz=>by simp [Value.ownBlock] at hz⟩
   case round =>
    clear HP2
    obtain ⟨gs,rfl,hP,hG,hlo'⟩:=hrel
    have hlo:Hid _:=hlo'
    clear hlo'
    obtain ⟨ga,gc,rfl⟩:=hG.slice
    by_cases hlt:gs.length < L.length
    ·have hL:=NE2.out wr hP.fr
     obtain ⟨lb,rfl⟩:∃ lb,la=some ⟨lb,0,none⟩:=by
      obtain ⟨g,c,e,_⟩:=hL.at gs.length L[gs.length].v (by simp [hlt])
      simp only [Value.slice.injEq] at e
      exact ⟨g,e.1⟩
     obtain ⟨eg,en,ec,HE,hcl⟩:=le_at hL hlt
     have hen:=HN.out HE.out
     have HB:Hid (P2g 62 2 mkSym w1 L gs 0 (.slice (some ⟨eg,0,none⟩) en ec) wr):=hP.beginE HE.out
     clear hP hL
     go_wp2
     obtain ⟨wo,rfl⟩:∃ wo:World,wo=wr:=⟨_,rfl⟩
     go_loopw [8,9] (fun g k wr=>∃ m:Nat,k=.int .i64 m/\m<=40/\P2g 62 2 mkSym w1 L gs m g wr/\HL 51 wr (.slice ga gs.length gc) gs) (fun _ k _=>40 - (intOf k).toNat)
     case atStart=>exact ⟨0,rfl,by omega,HB.out,hG⟩
     case round =>
      clear HB hG hcl
      obtain ⟨m,rfl,hm,hg',hG'⟩:=hrel
      have hg:Hid (P2g 62 2 mkSym w1 L gs m _ wr):=hg'
      have hG:Hid (HL 51 wr (.slice ga gs.length gc) gs):=hG'
      have hcur:Hid _:=hg'.curE HE.out
      obtain ⟨ca,cc,rfl⟩:=row_slice hcur.out
      clear hg' hG'
      by_cases hlm:m < 40
      ·go_wp2_with (first
        | (go_at_call 78;refine (marksym_ik gs.length (en+m) wr (by omega) (by omega)).mono ?_;rintro e w4 ⟨rfl,hb4⟩)
        | (at_builtin;refine wpList_row_append Tryz.underlying51 INF.out.1 INF.out.2.1 INF.out.2.2.1 INF.out.2.2.2 rfl (by decide) (by decide) rfl _ _ rfl _ (en+m) _ rfl (row_later (row_later hcur.out hb4) (bAl w4 _)) w4.heap.size 1 (mkSym gs.length (en+m)) rfl rfl (two_new w4 _ _ _) (by intro u hu;simp [mkSym] at hu;rcases hu with rfl | rfl<;>rfl) (by omega) ?_;intro v5 w5 ho5 ha5))
       go_roundw
       case rel=>exact ⟨m+1,by go_num,by omega,(hg.out.later (below_step hb4 (bAl w4 _))).appE HE.out ha5 ho5,(hG.out.later (below_step hb4 (bAl w4 _))).app (row_later (row_later hcur.out hb4) (bAl w4 _)) (by decide) ha5⟩
       case measure=>simp [intOf];omega
      ·obtain rfl:m=40:=by omega
       go_wp2_with (at_builtin;refine wpList_hl_append Tryz.underlying32 infoSYK rfl _ _ rfl (.slice ga gs.length gc) gs rfl (hG.out.later (bAl wr _)) wr.heap.size 1 _ rfl (one_new wr _ _ 0 _ rfl) rfl (by omega) ?_;intro v6 w6 hl6 hg6)
       go_roundw
       case rel =>
        refine ⟨gs++[.slice ca (en+40) cc],by simp,(hg.out.later (bAl wr _)).fin (hG.out.later (bAl wr _)) (by decide) hlo.out hg6.grown,hl6,fun z hz=>?_⟩
        rcases hg6.moved with r | ⟨k,r,hk⟩
        ·exact hlo.out z (r ▸ hz)
        ·rw [hz] at r
         have:=Option.some.inj r
         have h1:=hg.out.p.fr.size
         have h2:wr.heap.size<=(wr.alloc (.cells #[.slice ca (en+40) cc] 51)).heap.size:=(bAl wr _).size
         omega
       case measure=>simp [intOf];omega
    ·have hlx:Hid (gs.length=L.length):=by have:=hP.len;show _=_;omega
     have F2:Hid (KFr L w wr):=F1.out.trans hP.fr
     have NE3:Hid (∀ w',Below wr.heap.size wr w'->HL 51 w' (.slice la L.length lc) (L.map LE.v)):=fun w' hf=>NE2.out w' (hP.fr.trans (KFr.ofBelow hf))
     have HP:Hid (∀ w',Below wr.heap.size wr w'->P2 62 2 mkSym w1 L gs gs.length w'):=fun w' hf=>hP.later hf
     have HG:Hid (∀ w',Below wr.heap.size wr w'->HL 51 w' (.slice ga gs.length gc) gs):=fun w' hf=>hG.later hf
     clear hP hG NE2 F1 hlo
     go_wp2
     clear hlt
     obtain ⟨w2,rfl⟩:∃ w2:World,w2=wr:=⟨_,rfl⟩
     go_loopw [10] (fun i wr=>∃ j:Nat,i=.int .i64 j/\j<=L.length/\Below w2.heap.size w2 wr) (fun i _=>L.length - (intOf i).toNat)
     case atStart=>exact ⟨0,rfl,Nat.zero_le _,Below.refl _ _⟩
     case round =>
      obtain ⟨j,rfl,hj,hb⟩:=hrel
      by_cases hlt:j < L.length
      ·have hL:=NE3.out wr hb
       obtain ⟨lb,rfl⟩:∃ lb,la=some ⟨lb,0,none⟩:=by
        obtain ⟨g,c,e,_⟩:=hL.at j L[j].v (by simp [hlt])
        simp only [Value.slice.injEq] at e
        exact ⟨g,e.1⟩
       obtain ⟨eg,en,ec,HE,_⟩:=le_at hL hlt
       have hen:=HN.out HE.out
       obtain ⟨xb,xc,hgs,_⟩:=(HP.out wr hb).lookE mkSym_len HE.out (by rw [hlx.out];exact hlt)
       obtain ⟨gb,gc',e,_⟩:=(HG.out wr hb).at j _ hgs
       simp only [Value.slice.injEq] at e
       obtain ⟨rfl,_,rfl⟩:=e
       have AF:Hid (∀ w',Below w2.heap.size w2 w'->w'.cell? ⟨lb,j,none⟩=some (.slice (some ⟨eg,0,none⟩) en ec)/\w'.cell? ⟨gb,j,none⟩=some (.slice (some ⟨xb,0,none⟩) (en+40) xc)/\(∀ m,m < en+40->w'.cell? ⟨xb,m*2,none⟩=some (.int .i64 0)/\w'.cell? ⟨xb,m*2+1,none⟩=some (.int .i64 (markN j m)))/\(∀ m,m < en->w'.cell? ⟨eg,m*2,none⟩=some (.int .i64 0)/\w'.cell? ⟨eg,m*2+1,none⟩=some (.int .i64 (markN j m)))):=fun w' hb'=>by
        obtain ⟨_,_,_,HE2,hcl⟩:=le_at (NE3.out w' hb') hlt
        have e2:=HE.out.symm.trans HE2.out
        simp only [Option.some.injEq,LE.mk.injEq] at e2
        obtain ⟨rfl,rfl,rfl⟩:=e2
        obtain ⟨xb2,xc2,hgs2,hnew⟩:=(HP.out w' hb').lookE mkSym_len HE.out (by rw [hlx.out];exact hlt)
        have e3:=hgs.symm.trans hgs2
        simp only [Option.some.injEq,Value.slice.injEq,Addr.mk.injEq] at e3
        obtain ⟨⟨rfl,_⟩,_,rfl⟩:=e3
        obtain ⟨gb2,gc2,e,hcg⟩:=(HG.out w' hb').at j _ hgs
        simp only [Value.slice.injEq,Option.some.injEq,Addr.mk.injEq] at e
        obtain ⟨⟨rfl,_⟩,_⟩:=e
        exact ⟨hcl,hcg,fun m hm=>⟨by have:=hnew m hm 0 (by omega);simpa [mkSym] using this,by have:=hnew m hm 1 (by omega);simpa [mkSym] using this⟩,fun m hm=>⟨by have:=(HP.out w' hb').lookOldE mkSym_len HE.out m hm 0 (by omega);simpa [mkSym] using this,by have:=(HP.out w' hb').lookOldE mkSym_len HE.out m hm 1 (by omega);simpa [mkSym] using this⟩⟩
       obtain ⟨k1,k2,_,_⟩:=AF.out wr hb
       have hjg:j < gs.length:=by rw [hlx.out];exact hlt
       clear hgs hL
       go_wp2
       obtain ⟨wo,rfl⟩:∃ wo:World,wo=wr:=⟨_,rfl⟩
       go_loopw [11] (fun k wr=>∃ m:Nat,k=.int .i64 m/\m<=en+40/\Below w2.heap.size w2 wr) (fun k _=>en+40 - (intOf k).toNat)
       case atStart=>exact ⟨0,rfl,Nat.zero_le _,hb⟩
       case round =>
        clear hb k1 k2
        obtain ⟨m,rfl,hm,hb⟩:=hrel
        obtain ⟨k1,k2,_,_⟩:=AF.out wr hb
        by_cases hlm:m < en+40
        ·skip
         have hd1:decide ((m:Int) < (en:Int)+40)=true:=by simp;omega
         go_wp2_with (go_at_call 78;refine (marksym_ik j m wr (by omega) (by omega)).mono ?_;rintro e w4 ⟨rfl,hb4⟩)
         have hbW:=below_step (below_step hb hb4) (bAl w4 (.cells #[.int .i64 0,.int .i64 (markN j m)] 62))
         have hw0:=two_new w4 (.int .i64 0) (.int .i64 (markN j m)) 62 0 _ rfl
         have hw1:=two_new w4 (.int .i64 0) (.int .i64 (markN j m)) 62 1 _ rfl
         generalize w4.alloc (.cells #[.int .i64 0,.int .i64 (markN j m)] 62)=W at *
         generalize w4.heap.size=wc at *
         obtain ⟨q1,q2,q3',q4'⟩:=AF.out W hbW
         obtain ⟨q3,q5⟩:=q3' m hlm
         have hbn:(markN j m == markN j m)=true:=by simp
         clear q3' k1 k2
         by_cases hln:m < en
         ·obtain ⟨q6,q7⟩:=q4' m hln
          clear q4'
          generalize markN j m=mn at *
          have hx1:(m:Int) < (en:Int)+40:=by omega
          have hx2:¬ ((en:Int)+40<=(m:Int)):=by omega
          have hx3:¬ (en+40<=m):=by omega
          go_quiet (fail)
          go_wp2
          go_roundw
          case rel=>exact ⟨m+1,by go_num,by omega,bDn hbW _⟩
          case measure=>simp [intOf];omega
         ·clear q4'
          generalize markN j m=mn at *
          go_quiet (fail)
          go_wp2
          go_roundw
          case rel=>exact ⟨m+1,by go_num,by omega,bDn hbW _⟩
          case measure=>simp [intOf];omega
        ·go_wp2
         go_roundw
         case rel=>exact ⟨j+1,by go_num,by omega,hb⟩
         case measure=>simp [intOf];omega
      ·go_wp2
       go_ret
       exact ⟨rfl,F2.out.trans (KFr.ofBelow hb)⟩
end Go.Proofs.YthaamdognbncnaaGreatDoor
