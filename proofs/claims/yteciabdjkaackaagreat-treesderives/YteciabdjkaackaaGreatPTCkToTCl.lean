import Derived.Test.YteciabdjkaackaaGreatPTC4ToTW7
namespace Go.Proofs.YteciabdjkaackaaGreat
set_option linter.unusedVariables false
open Go.RowKit
def ckP (g:GV)(P:List SP):List SP:=P.flatMap fun x=>ckT g x.s x.u x.t
def duP (P:List SP):List (Int×Int):=((P.filter (·.u)).map (·.s)).reverse
theorem ckP_cons (g:GV)(x:SP)(P:List SP)(hd:x.d=0):ckP g (x :: P)=x :: ckP g (ckK (rightU g x.t) x.t.kids++P):=by
 unfold ckP
 rw [List.flatMap_cons,ckT_eq,List.flatMap_append]
 obtain ⟨t,d,s,u⟩:=x
 dsimp only at hd ⊢
 subst hd
 rfl
theorem ckK_u:∀ (r:List (Int×Int)) (l:List TV),∀ x∈ckK r l,x.u=true/\x.d=0
 | _,[],x,h=>by simp [ckK] at h
 | r,t :: l,x,h=>by
  simp only [ckK,List.mem_cons] at h
  rcases h with rfl | h
  ·exact ⟨rfl,rfl⟩
  ·exact ckK_u _ _ x h
theorem ckK_t:∀ (r:List (Int×Int)) (l:List TV),(ckK r l).map (·.t)=l
 | _,[]=>rfl
 | r,t :: l=>by simp [ckK,ckK_t r.tail l]
theorem ckK_s:∀ (r:List (Int×Int)) (l:List TV),r.length=l.length->(ckK r l).map (·.s)=r
 | [],[],_=>rfl
 | s :: r,t :: l,h=>by
  have:=ckK_s r l (by simpa using h)
  simp [ckK,this]
theorem duP_kids (r:List (Int×Int))(l:List TV)(h:r.length=l.length)(P:List SP):duP (ckK r l++P)=duP P++r.reverse:=by
 have e:(ckK r l).filter (·.u)=ckK r l:=List.filter_eq_self.2 fun x hx=>(ckK_u r l x hx).1
 unfold duP
 rw [List.filter_append,e,List.map_append,List.reverse_append,ckK_s r l h]
theorem preP_kids (r:List (Int×Int))(l:List TV)(P:List SP):(ckK r l++P).flatMap (fun x=>preT x.t)=preL l++P.flatMap (fun x=>preT x.t):=by
 rw [List.flatMap_append]
 congr 1
 have:(ckK r l).flatMap (fun x=>preT x.t)=((ckK r l).map (·.t)).flatMap preT:=by rw [List.flatMap_map]
 rw [this,ckK_t]
 rfl
theorem duP_len (P:List SP):(duP P).length<=(P.flatMap fun x=>preT x.t).length:=by
 unfold duP
 rw [List.length_reverse,List.length_map]
 refine Nat.le_trans (List.length_filter_le _ _) ?_
 induction P with
 | nil=>exact Nat.le_refl _
 | cons x P ih =>
  rw [List.flatMap_cons,List.length_append,preT_len,szT_eq,List.length_cons]
  omega
abbrev eBox (x:Int):Obj:=.cells #[.int .i64 x] 42
structure KSt (w0:World)(g:GV)(p0 q0:Nat)(t0:TV)(b:Nat)(D:List EV)(w:World):Prop where
 bel:Below w0.heap.size w0 w
 yn:w0.heap.size<=b
 gb:w.heap[b]?=some (gBox g)
 eb:w.heap[b+1]?=some (eBox 0)
 pb:w.heap[b+2]?=some (iBox ((enE D).length:Int))
 th:∃ R P v,D++R=evT p0 q0 t0/\enE R=P.flatMap (fun x=>preT x.t)/\(∀ x∈P,x.d=0)/\(∀ x∈P.tail,x.u=true)/\(∀ x∈P.head?,x.u=decide (0 < (enE D).length))/\runU g (ckP g P) (enE D).length=runU g (ckT g (0,0) false t0) 0 /\
  w.heap[b+3]?=some (.cells #[v] 100)/\w.ownsRow w0.heap.size 82 2 v (duP P).length (sCl (duP P))
theorem KSt.still {w0:World}{g:GV}{p0 q0:Nat}{t0:TV}{b:Nat}{D:List EV}{w w':World}(h:KSt w0 g p0 q0 t0 b D w)(hn:NoStp w0.heap.size w w'):KSt w0 g p0 q0 t0 b D w':=by
 obtain ⟨R,P,v,a1,a2,a3,a4,a4',a5,a6,a7⟩:=h.th
 refine ⟨hn.bel h.bel,h.yn,hn.keep _ _ h.gb (fun ⟨_,s⟩=>not_stp (by decide) s),hn.keep _ _ h.eb (fun ⟨_,s⟩=>not_stp (by decide) s),hn.keep _ _ h.pb (fun ⟨_,s⟩=>not_stp (by decide) s),R,P,v,a1,a2,a3,a4,a4',a5,hn.keep _ _ a6 (fun ⟨_,s⟩=>not_stp (by decide) s),a7.1,?_⟩
 rcases a7.2 with q | ⟨gg,cap,cur,rfl,h1,h2,h3⟩
 ·exact .inl q
 ·exact .inr ⟨gg,cap,cur,rfl,h1,hn.keep _ _ h2 (fun ⟨_,s⟩=>not_stp (by decide) s),h3⟩
structure KFn (w0:World)(g:GV)(t0:TV)(b:Nat)(w:World):Prop where
 bel:Below w0.heap.size w0 w
 fa:∃ (e:Int) (n:Nat),runU g (ckT g (0,0) false t0) 0=(e,n)/\w.heap[b+1]?=some (eBox e)/\w.heap[b+2]?=some (iBox (n:Int))
theorem kst_head {p0 q0:Nat}{t0:TV}{D R R2:List EV}{P:List SP}{p q:Nat}{t:TV}(h1:D++R=evT p0 q0 t0)(h2:D++⟨true,p,q,t⟩ :: R2=evT p0 q0 t0)(h3:enE R=P.flatMap (fun x=>preT x.t)):∃ x P',P=x :: P'/\x.t=t/\enE R2=preL t.kids++P'.flatMap (fun x=>preT x.t):=by
 have e:R=⟨true,p,q,t⟩ :: R2:=List.append_cancel_left (h1.trans h2.symm)
 rw [e,<- List.singleton_append,enE_app,enE_in] at h3
 cases P with
 | nil=>simp at h3
 | cons x P' =>
  rw [List.flatMap_cons,preT_eq,List.singleton_append,List.cons_append] at h3
  simp only [List.cons.injEq] at h3
  obtain ⟨e1,e2⟩:=h3
  exact ⟨x,P',rfl,e1.symm,by rw [e2,<- e1]⟩
theorem runU_bad {g:GV}{x:SP}{l:List SP}{n:Nat}(h:erU g x≠0):runU g (x :: l) n=(erU g x,n):=by rw [runU,if_pos h]
theorem runU_good {g:GV}{x:SP}{l:List SP}{n:Nat}(h:erU g x=0):runU g (x :: l) n=runU g l (n+1):=by rw [runU,if_neg (by simpa using h)]
theorem al_root {g:GV}{t:TV}(h:alTU g t=0):(t.prod=-1∨(0<=t.prod/\t.prod < g.ps.length))/\rtU g t=rootU g t/\(t.prod=-1->t.kids=[])/\(t.prod≠-1->(rightU g t).length=t.kids.length):=by
 by_cases hp:t.prod=-1
 ·rw [alU_leaf hp] at h
  by_cases hi:inT g t.kind=true
  ·rw [if_pos hi] at h
   have hi':0<=t.kind/\t.kind < g.ts.length:=of_decide_eq_true hi
   refine ⟨.inl hp,?_,fun _=>?_,fun q=>absurd hp q⟩
   ·rw [rtU_leaf hp,root_leaf hp hi'.1 hi'.2]
   ·by_cases hk:t.kids.length=0
    ·exact List.eq_nil_of_length_eq_zero hk
    ·rw [if_neg hk] at h;cases h
  ·rw [if_neg hi] at h;cases h
 ·by_cases hr:0<=t.prod/\t.prod < g.ps.length
  ·rw [alU_node hp hr] at h
   by_cases hq:t.kind=0/\t.tx.toList=[]/\t.kids.length=(rightU g t).length
   ·refine ⟨.inr hr,?_,fun q=>absurd q hp,fun _=>hq.2.2.symm⟩
    rw [root_node hr.1 hr.2]
    unfold rtU
    rw [if_neg hp]
   ·rw [if_neg hq] at h;cases h
  ·rw [alU_far hp hr] at h;cases h
def enA (D:List EV):List (Nat×Nat×TV):=(D.filter (·.en)).map fun x=>(x.p,x.q,x.t)
theorem enA_app (D R:List EV):enA (D++R)=enA D++enA R:=by simp [enA]
theorem enA_in (p q:Nat)(t:TV):enA [⟨true,p,q,t⟩]=[(p,q,t)]:=rfl
theorem enA_out (p q:Nat)(t:TV):enA [⟨false,p,q,t⟩]=[]:=rfl
theorem onStp_box {N:Nat}{wb w:World}{b:Nat}{cs:Array Value}{ty:TypeId}{v:Value}(h:OnStp N wb w)(hb:w.heap[b]?=some (.cells cs ty))(ht:(ty == 131)=false):OnStp N wb (w.setCell ⟨b,0,none⟩ v):=by
 refine ⟨?_,fun j o hj hN hs=>?_⟩
 ·have h3:(w.setCell ⟨b,0,none⟩ v).heap.size=w.heap.size:=by simp [World.setCell]
  have:=h.size
  omega
 ·have h1:=h.keep j o hj hN hs
  rw [Below.heap_setCell _ _ _ _ (show j≠b from fun e=>?_),h1]
  subst e
  rw [hb] at h1
  cases h1
  exact not_stp ht hs
structure KW (w0 wb:World)(g:GV)(b:Nat)(e n:Int)(v:Value)(L:List (Int×Int))(w:World):Prop where
 bel:Below w0.heap.size w0 w
 yn:w0.heap.size<=b
 gb:w.heap[b]?=some (gBox g)
 eb:w.heap[b+1]?=some (eBox e)
 pb:w.heap[b+2]?=some (iBox n)
 db:w.heap[b+3]?=some (.cells #[v] 100)
 row:w.ownsRow w0.heap.size 82 2 v L.length (sCl L)
 on:OnStp w0.heap.size wb w
section
variable {w0 wb w w':World} {g:GV} {b:Nat} {e n:Int} {v:Value} {L:List (Int×Int)}
theorem row_keep {N:Nat}(h:w.ownsRow N 82 2 v L.length (sCl L))(hk:∀ (j:Nat) (cs:Array Value),w.heap[j]?=some (.cells cs 82)->w'.heap[j]?=some (.cells cs 82)):w'.ownsRow N 82 2 v L.length (sCl L):=by
 refine ⟨h.1,?_⟩
 rcases h.2 with q | ⟨gg,cap,cur,rfl,h1,h2,h3⟩
 ·exact .inl q
 ·exact .inr ⟨gg,cap,cur,rfl,h1,hk _ _ h2,h3⟩
theorem KW.later (h:KW w0 wb g b e n v L w)(hb:Below w.heap.size w w'):KW w0 wb g b e n v L w':=by
 have k:∀ (j:Nat) (o:Obj),w.heap[j]?=some o->w'.heap[j]?=some o:=fun j o q=>(hb.block _ (lt_of_block q)).trans q
 exact ⟨h.bel.trans (hb.mono h.bel.size),h.yn,k _ _ h.gb,k _ _ h.eb,k _ _ h.pb,k _ _ h.db,row_keep h.row (fun j cs q=>k _ _ q),h.on.trans (below_onStp hb)⟩
theorem KW.setE (h:KW w0 wb g b e n v L w)(y:Int):KW w0 wb g b y n v L (w.setCell ⟨b+1,0,none⟩ (.int .i64 y)) :=
 ⟨h.bel.setCell (p:=⟨b+1,0,none⟩) (Nat.le_trans h.yn (Nat.le_add_right _ _)) _,h.yn,ib_ne h.gb (by omega) _,heap_setCell_same w (b+1) 0 _ _ _ h.eb,ib_ne h.pb (by omega) _,ib_ne h.db (by omega) _,row_keep h.row (fun j cs q=>ib_ne q (fun e=>by subst e;have:=h.eb;rw [q] at this;simp at this) _),onStp_box h.on h.eb (by decide)⟩
theorem KW.setP (h:KW w0 wb g b e n v L w)(y:Int):KW w0 wb g b e y v L (w.setCell ⟨b+2,0,none⟩ (.int .i64 y)) :=
 ⟨h.bel.setCell (p:=⟨b+2,0,none⟩) (Nat.le_trans h.yn (Nat.le_add_right _ _)) _,h.yn,ib_ne h.gb (by omega) _,ib_ne h.eb (by omega) _,heap_setCell_same w (b+2) 0 _ _ _ h.pb,ib_ne h.db (by omega) _,row_keep h.row (fun j cs q=>ib_ne q (fun e=>by subst e;have:=h.pb;rw [q] at this;simp at this) _),onStp_box h.on h.pb (by decide)⟩
theorem KW.setD (h:KW w0 wb g b e n v L w){v':Value}{L':List (Int×Int)}(hr:w.ownsRow w0.heap.size 82 2 v' L'.length (sCl L')):KW w0 wb g b e n v' L' (w.setCell ⟨b+3,0,none⟩ v') :=
 ⟨h.bel.setCell (p:=⟨b+3,0,none⟩) (Nat.le_trans h.yn (Nat.le_add_right _ _)) _,h.yn,ib_ne h.gb (by omega) _,ib_ne h.eb (by omega) _,ib_ne h.pb (by omega) _,heap_setCell_same w (b+3) 0 _ _ _ h.db,row_keep hr (fun j cs q=>ib_ne q (fun e=>by subst e;have:=h.db;rw [q] at this;simp at this) _),onStp_box h.on h.db (by decide)⟩
theorem KW.fr (h:KW w0 wb g b e n v L w){v':Value}{L':List (Int×Int)}(hb:Below w0.heap.size w w')(hf:FrS w w')(hr:w'.ownsRow w0.heap.size 82 2 v' L'.length (sCl L')):KW w0 wb g b e n v' L' (w'.setCell ⟨b+3,0,none⟩ v')/\w'.heap[b+3]?=some (.cells #[v] 100):=by
 have ns:∀ {cs:Array Value} {t:TypeId} {fz:Nat×Nat},(t == 82)=false->¬ SymTy (.cells cs t fz):=fun ht ⟨_,_,e⟩=>by
  simp only [Obj.cells.injEq] at e
  rw [e.2.1] at ht
  simp at ht
 have hd:w'.heap[b+3]?=some (.cells #[v] 100):=hf _ _ h.db (ns (by decide))
 have hbl:Below w0.heap.size w0 w':=h.bel.trans hb
 refine ⟨⟨hbl.setCell (p:=⟨b+3,0,none⟩) (Nat.le_trans h.yn (Nat.le_add_right _ _)) _,h.yn,ib_ne (hf _ _ h.gb (ns (by decide))) (by omega) _,ib_ne (hf _ _ h.eb (ns (by decide))) (by omega) _,ib_ne (hf _ _ h.pb (ns (by decide))) (by omega) _,heap_setCell_same w' (b+3) 0 _ _ _ hd,row_keep hr (fun j cs q=>ib_ne q (fun e=>by subst e;rw [q] at hd;simp at hd) _),onStp_box (h.on.trans ⟨hb.size,fun j o q _ s=>hf j o q (fun ⟨_,_,e⟩=>?_)⟩) hd (by decide)⟩,hd⟩
 obtain ⟨_,_,e'⟩:=s
 rw [e'] at e
 simp at e
end
end Go.Proofs.YteciabdjkaackaaGreat
