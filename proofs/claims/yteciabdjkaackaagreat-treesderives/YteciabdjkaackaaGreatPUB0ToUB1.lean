import Derived.Test.YteciabdjkaackaaGreatPTL1ToUS1
namespace Go.Proofs.YteciabdjkaackaaGreat
set_option linter.unusedVariables false
open Go.RowKit
def bldG:List (Int×Int×ByteArray×Nat)->List TV
 | []=>[]
 | g :: r=>TV.mk g.1 g.2.1 g.2.2.1 none 0 ((bldG r).take g.2.2.2) :: (bldG r).drop g.2.2.2
def wfG:List (Int×Int×ByteArray×Nat)->Prop
 | []=>True
 | g :: r=>g.2.2.2<=(bldG r).length/\wfG r
def sgs (t:TV):List (Int×Int×ByteArray×Nat):=(preT t).map sgV
def sgL8 (l:List TV):List (Int×Int×ByteArray×Nat):=l.flatMap sgs
theorem sgs_eq (t:TV):sgs t=sgV t :: sgL8 t.kids:=by
 unfold sgs sgL8
 rw [preT_eq,List.map_cons]
 unfold preL
 rw [List.map_flatMap]
 rfl
theorem samL_nil:samL [] []:=⟨rfl,fun i h=>by simp at h⟩
theorem samL_cons {a b:TV}{X Y:List TV}(h:samV a b)(g:samL X Y):samL (a :: X) (b :: Y):=samL_app (X:=[a]) (Y:=[b]) (samL_one h) g
theorem bld_tree (t:TV):∀ r,(∃ t',bldG (sgs t++r)=t' :: bldG r/\samV t' t)/\(wfG r->wfG (sgs t++r)):=by
 induction t using TV.ind with
 | _ t ih =>
  have hL:∀ l:List TV,(∀ x∈l,x∈t.kids)->∀ r,(∃ l',bldG (sgL8 l++r)=l'++bldG r/\samL l' l)/\(wfG r->wfG (sgL8 l++r)):=fun l=>by
   induction l with
   | nil=>exact fun _ r=>⟨⟨[],rfl,samL_nil⟩,fun h=>h⟩
   | cons a l il =>
    intro hm r
    obtain ⟨⟨l',q1,q2⟩,q3⟩:=il (fun x hx=>hm x (List.mem_cons_of_mem _ hx)) r
    obtain ⟨⟨a',p1,p2⟩,p3⟩:=ih a (hm a (List.mem_cons_self ..)) (sgL8 l++r)
    have e:sgL8 (a :: l)++r=sgs a++(sgL8 l++r):=by
     unfold sgL8
     rw [List.flatMap_cons,List.append_assoc]
    rw [e,p1,q1]
    exact ⟨⟨a' :: l',rfl,samL_cons p2 q2⟩,fun h=>p3 (q3 h)⟩
  intro r
  obtain ⟨⟨l',q1,q2⟩,q3⟩:=hL t.kids (fun x hx=>hx) r
  have e:sgs t++r=sgV t :: (sgL8 t.kids++r):=by rw [sgs_eq];rfl
  have hn:(sgV t).2.2.2=l'.length:=q2.1.symm
  refine ⟨⟨TV.mk t.prod t.kind t.tx none 0 l',?_,?_⟩,fun h=>?_⟩
  ·rw [e]
   show TV.mk t.prod t.kind t.tx none 0 ((bldG (sgL8 t.kids++r)).take (sgV t).2.2.2) :: (bldG (sgL8 t.kids++r)).drop (sgV t).2.2.2=_
   rw [q1,hn,List.take_left,List.drop_left]
  ·refine (samV_iff _ _).2 ⟨?_,fun i h h'=>q2.2 i h h'⟩
   show (t.prod,t.kind,t.tx,l'.length)=(t.prod,t.kind,t.tx,t.kids.length)
   rw [q2.1]
  ·rw [e]
   refine ⟨?_,q3 h⟩
   rw [hn,q1,List.length_append]
   exact Nat.le_add_right _ _
theorem bld_one (t:TV):(∃ t',bldG (sgs t)=[t']/\samV t' t)/\wfG (sgs t):=by
 obtain ⟨⟨t',q1,q2⟩,q3⟩:=bld_tree t []
 rw [List.append_nil] at q1 q3
 exact ⟨⟨t',q1,q2⟩,q3 trivial⟩
theorem wf_drop:∀ (l:List (Int×Int×ByteArray×Nat)) (i:Nat),wfG l->wfG (l.drop i)
 | _,0,h=>h
 | [],_+1,h=>h
 | _ :: l,i+1,h=>wf_drop l i h.2
theorem tro_krow {w:World}{a:Option Addr}{n c:Nat}{l:List TV}(h:TRo w (.slice a n c) l):n=l.length/\KRow w a l:=by
 obtain ⟨a',c',e,_⟩:=RO.len h
 simp only [Value.slice.injEq] at e
 obtain ⟨rfl,rfl,rfl⟩:=e
 refine ⟨rfl,fun hne=>?_⟩
 obtain ⟨b,cb,e,-,-⟩:=RO.cell (f:=trCells) (k:=4) (fun _=>rfl) h (List.length_pos_iff.2 hne)
 simp only [Value.slice.injEq,true_and] at e
 obtain ⟨rfl,rfl⟩:=e
 refine ⟨b,0,rfl,h.lt b rfl,fun i hi=>?_⟩
 obtain ⟨b',c',e,_,hc⟩:=RO.cell (f:=trCells) (k:=4) (fun _=>rfl) h hi
 simp only [Value.slice.injEq,Option.some.injEq,Addr.mk.injEq,true_and,and_true] at e
 obtain ⟨rfl,rfl⟩:=e
 have c0:=hc 0 (by omega)
 have c1:=hc 1 (by omega)
 have c2:=hc 2 (by omega)
 have c3:=hc 3 (by omega)
 simp only [trCells,List.getElem?_cons_zero,List.getElem?_cons_succ,Nat.add_zero] at c0 c1 c2 c3
 have eg:l.getD i TV.none=l[i]:=by simp [List.getD,hi]
 rw [eg,Nat.zero_add]
 exact ⟨c0,c1,c2,c3⟩
theorem tat_kept {w w':World}{x:TV}(h:TAt w x)(hk:∀ a∈adsL (kidsA x),w'.heap[a.1]?=w.heap[a.1]?)(hs:w.heap.size<=w'.heap.size):TAt w' x:=keep_at x 0 0 h fun a ha=>⟨Nat.lt_of_lt_of_le (kids_lt h ha) hs,fun j _=>World.cell?_of_block (hk a ha)⟩
theorem kidF_blk {b o:Nat}{x:Nat×Nat×TV}:∀ {i:Nat} {l:List TV},x∈kidF b o i l->x.1=b
 | _,[],h=>by cases h
 | i,k :: l,h=>by
  rcases List.mem_cons.1 h with rfl | h
  ·rfl
  ·exact kidF_blk h
theorem ads_node {p k:Int}{x:ByteArray}{ao:Option Addr}{c:Nat}{l:List TV}{a:Nat×Nat}(h:a∈adsL (kidsA (TV.mk p k x ao c l))):(l≠[]/\a.1=(kadr (TV.mk p k x ao c l)).1)∨∃ y∈l,a∈adsL (kidsA y):=by
 obtain ⟨z,hz,ha⟩:=List.mem_flatMap.1 h
 have h1:=kidF_mem hz
 have h2:=kidF_blk hz
 rw [adsT_eq] at ha
 rcases List.mem_cons.1 ha with rfl | ha
 ·exact .inl ⟨List.ne_nil_of_mem h1,h2⟩
 ·exact .inr ⟨_,h1,ha⟩
structure BuK (w:World)(b5:Nat)(p k:Int)(x:ByteArray)(S K:List TV)(vs vk:Value)(wr:World):Prop where
 bel:Below w.heap.size w wr
 z:wr.heap[w.heap.size]?=some zTree
 s:TRo wr vs S
 kk:TRo wr vk K
 bx:wr.heap[b5]?=some (.cells #[.int .i64 p,.int .i64 k,.string x,vk] 26)
 so:∀ j,vs.ownBlock=some j->w.heap.size < j/\j≠b5
 ko:∀ j,vk.ownBlock=some j->w.heap.size < j/\j≠b5/\vs.ownBlock≠some j
 bg:w.heap.size < b5
 ta:∀ y,y∈S∨y∈K->TAt wr y
 na:∀ y,y∈S∨y∈K->∀ a∈adsL (kidsA y),w.heap.size < a.1/\a.1≠b5/\vs.ownBlock≠some a.1/\vk.ownBlock≠some a.1
structure BuS (w:World)(S:List TV)(vs:Value)(wr:World):Prop where
 bel:Below w.heap.size w wr
 z:wr.heap[w.heap.size]?=some zTree
 s:TRo wr vs S
 so:∀ j,vs.ownBlock=some j->w.heap.size < j
 ta:∀ y∈S,TAt wr y
 na:∀ y∈S,∀ a∈adsL (kidsA y),w.heap.size < a.1/\vs.ownBlock≠some a.1
section
variable {w wr w' w1 w4:World} {b5:Nat} {p k:Int} {x:ByteArray} {S K:List TV} {vs vk v':Value}
theorem BuS.later (h:BuS w S vs wr)(hb:Below wr.heap.size wr w'):BuS w S vs w':=⟨h.bel.trans (hb.mono h.bel.size),(hb.block _ (lt_of_block h.z)).trans h.z,h.s.later hb,h.so,fun y hy=>(h.ta y hy).later hb,h.na⟩
theorem BuS.begin (h:BuS w S vs wr)(hb:Below wr.heap.size wr w')(h5:wr.heap.size<=b5)(hx:w'.heap[b5]?=some (.cells #[.int .i64 p,.int .i64 k,.string x,.slice none 0 0] 26)):BuK w b5 p k x S [] vs (.slice none 0 0) w':=by
 have h':=h.later hb
 have hz:=h.bel.size
 have hl:=lt_of_block h.z
 refine ⟨h'.bel,h'.z,h'.s,RO.nil _,hx,fun j hj=>⟨h.so j hj,?_⟩,fun j hj=>by simp [Value.ownBlock] at hj,by omega,fun y hy=>h'.ta y (by simpa using hy),fun y hy a ha=>?_⟩
 ·have:=h.s.lt j hj;omega
 ·have hy:y∈S:=by simpa using hy
  have q1:=h.na y hy a ha
  have q2:=kids_lt (h.ta y hy) ha
  exact ⟨q1.1,by omega,q1.2,by simp [Value.ownBlock]⟩
theorem BuK.take {b c n:Nat}{y:TV}(h:BuK w b5 p k x (S++[y]) K (.slice (some ⟨b,0,none⟩) n c) vk wr)(hs:TRo wr (.slice (some ⟨b,0,none⟩) S.length c) S)(hb:Below wr.heap.size wr w1)(hg:Grew w1 w4 vk v')(hi:TRo w4 v' (K++[y])) :
  BuK w b5 p k x S (K++[y]) (.slice (some ⟨b,0,none⟩) S.length c) v' (w4.setCell ⟨b5,3,none⟩ v'):=by
 have hz:=hb.size
 have hgs:=hg.grown.size
 have ho:∀ j,j≠b5->(w4.setCell ⟨b5,3,none⟩ v').heap[j]?=w4.heap[j]?:=fun j hj=>Below.heap_setCell _ _ _ _ hj
 have hsz:(w4.setCell ⟨b5,3,none⟩ v').heap.size=w4.heap.size:=by simp [World.setCell]
 have hl5:=lt_of_block h.bx
 have hlz:=lt_of_block h.z
 have kp:∀ j,j < wr.heap.size->vk.ownBlock≠some j->w4.heap[j]?=wr.heap[j]?:=fun j hj hn=>(hg.grown.block j (by omega) (fun e=>hn e.symm)).trans (hb.block j hj)
 have hk5:vk.ownBlock≠some b5:=fun e=>(h.ko _ e).2.1 rfl
 have hkz:vk.ownBlock≠some w.heap.size:=fun e=>by have:=(h.ko _ e).1;omega
 have hbs:(Value.slice (some ⟨b,0,none⟩) S.length c).ownBlock=some b:=rfl
 have hbn:(Value.slice (some ⟨b,0,none⟩) n c).ownBlock=some b:=rfl
 have hkb:vk.ownBlock≠some b:=fun e=>(h.ko _ e).2.2 hbn
 have hlb:b < wr.heap.size:=hs.lt b rfl
 obtain ⟨hsb,hb5⟩:=h.so b hbn
 have hv':∀ j,v'.ownBlock=some j->w.heap.size < j/\j≠b5/\j≠b:=fun j hj=>by
  rcases hg.moved with q | ⟨i,q,hq⟩
  ·rw [q] at hj
   obtain ⟨q1,q2,q3⟩:=h.ko j hj
   exact ⟨q1,q2,fun e=>q3 (by rw [e];exact hbn)⟩
  ·rw [q] at hj
   simp at hj
   have:=h.bg
   omega
 have hna:∀ u,u∈S∨u∈K++[y]->u∈S++[y]∨u∈K:=fun u hu=>by
  simp only [List.mem_append,List.mem_singleton] at hu ⊢
  rcases hu with hu | hu | hu
  ·exact .inl (.inl hu)
  ·exact .inr hu
  ·exact .inl (.inr hu)
 have keep:∀ u,u∈S∨u∈K++[y]->∀ a∈adsL (kidsA u),(w4.setCell ⟨b5,3,none⟩ v').heap[a.1]?=wr.heap[a.1]?:=fun u hu a ha=>by
  obtain ⟨q1,q2,q3,q4⟩:=h.na u (hna u hu) a ha
  exact (ho _ q2).trans (kp _ (kids_lt (h.ta u (hna u hu)) ha) q4)
 refine ⟨?_,(ho _ (by have:=h.bg;omega)).trans ((kp _ hlz hkz).trans h.z),hs.kept (fun j hj=>?_),hi.kept (fun j hj=>ho j (hv' j hj).2.1),?_,fun j hj=>?_,fun j hj=>?_,h.bg,fun u hu=>tat_kept (h.ta u (hna u hu)) (keep u hu) (by omega),fun u hu a ha=>?_⟩
 ·exact (((h.bel.trans (hb.mono h.bel.size)).grown hg.grown (Nat.le_trans h.bel.size hz) (fun j hj=>Nat.le_of_lt (h.ko j hj).1))).setCell (p:=⟨b5,3,none⟩) (by show w.heap.size<=b5;have:=h.bg;omega) _
 ·rw [hbs] at hj;cases hj
  exact (ho _ hb5).trans (kp _ hlb hkb)
 ·have e5:w4.heap[b5]?=some (.cells #[.int .i64 p,.int .i64 k,.string x,vk] 26):=(kp _ hl5 hk5).trans h.bx
  exact heap_setCell_same w4 b5 3 _ _ _ e5
 ·rw [hbs] at hj;cases hj
  exact ⟨hsb,hb5⟩
 ·obtain ⟨q1,q2,q3⟩:=hv' j hj
  exact ⟨q1,q2,fun e=>by rw [hbs] at e;cases e;exact q3 rfl⟩
 ·obtain ⟨q1,q2,q3,q4⟩:=h.na u (hna u hu) a ha
  have q5:=kids_lt (h.ta u (hna u hu)) ha
  refine ⟨q1,q2,fun e=>q3 (by rw [hbn];rw [hbs] at e;exact e),fun e=>?_⟩
  rcases hg.moved with q | ⟨i,q,hq⟩
  ·rw [q] at e;exact q4 e
  ·rw [q] at e
   simp at e
   omega
theorem BuK.fold {ka:Option Addr}{kc:Nat}(h:BuK w b5 p k x S K vs (.slice ka K.length kc) wr)(hb:Below wr.heap.size wr w1)(hg:Grew w1 w4 vs v')(hi:TRo w4 v' (S++[TV.mk p k x ka kc K])):BuS w (S++[TV.mk p k x ka kc K]) v' w4:=by
 have hz:=hb.size
 have hgs:=hg.grown.size
 have kp:∀ j,j < wr.heap.size->vs.ownBlock≠some j->w4.heap[j]?=wr.heap[j]?:=fun j hj hn=>(hg.grown.block j (by omega) (fun e=>hn e.symm)).trans (hb.block j hj)
 have hvz:vs.ownBlock≠some w.heap.size:=fun e=>by have:=(h.so _ e).1;omega
 have hv':∀ j,v'.ownBlock=some j->w.heap.size < j/\(j < wr.heap.size->vs.ownBlock=some j):=fun j hj=>by
  rcases hg.moved with q | ⟨i,q,hq⟩
  ·rw [q] at hj
   exact ⟨(h.so j hj).1,fun _=>hj⟩
  ·rw [q] at hj
   simp at hj
   have:=h.bel.size
   have:=lt_of_block h.z
   exact ⟨by omega,fun hlt=>by omega⟩
 have keep:∀ u,u∈S∨u∈K->TAt w4 u:=fun u hu=>tat_kept (h.ta u hu) (fun a ha=>kp _ (kids_lt (h.ta u hu) ha) (h.na u hu a ha).2.2.1) (by omega)
 have hkk:TRo w4 (.slice ka K.length kc) K:=h.kk.kept fun j hj=>kp j (h.kk.lt j hj) (h.ko j hj).2.2
 have nu:∀ u,u∈S∨u∈K->∀ a∈adsL (kidsA u),w.heap.size < a.1/\v'.ownBlock≠some a.1:=fun u hu a ha=>by
  obtain ⟨q1,q2,q3,q4⟩:=h.na u hu a ha
  exact ⟨q1,fun e=>q3 ((hv' _ e).2 (kids_lt (h.ta u hu) ha))⟩
 refine ⟨(h.bel.trans (hb.mono h.bel.size)).grown hg.grown (Nat.le_trans h.bel.size hz) (fun j hj=>Nat.le_of_lt (h.so j hj).1),(kp _ (lt_of_block h.z) hvz).trans h.z,hi,fun j hj=>(hv' j hj).1,fun u hu=>?_,fun u hu=>?_⟩
 ·rcases List.mem_append.1 hu with hu | hu
  ·exact keep u (.inl hu)
  ·obtain rfl:=List.mem_singleton.1 hu
   exact TAt.mk _ (tro_krow hkk).2 fun y hy=>keep y (.inr hy)
 ·rcases List.mem_append.1 hu with hu | hu
  ·exact nu u (.inl hu)
  ·obtain rfl:=List.mem_singleton.1 hu
   intro a ha
   rcases ads_node ha with ⟨hne,e⟩ | ⟨y,hy,ha⟩
   ·obtain ⟨b,off,hka,hlt,-⟩:=(tro_krow h.kk).2 hne
    have e2:(kadr (TV.mk p k x ka kc K)).1=b:=by
     show (kadr (TV.mk p k x ka kc K)).1=b
     unfold kadr
     show (match ka with | some ad=>(ad.block,ad.off) | none=>(0,0)).1=b
     rw [hka]
    have ho:(Value.slice ka K.length kc).ownBlock=some b:=by rw [hka];rfl
    obtain ⟨q1,q2,q3⟩:=h.ko b ho
    rw [e,e2]
    exact ⟨q1,fun e3=>q3 ((hv' _ e3).2 hlt)⟩
   ·exact nu y (.inr hy) a ha
end
end Go.Proofs.YteciabdjkaackaaGreat
