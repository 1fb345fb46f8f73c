import Derived.Test.YteciabdjkaackaaGreatPUB2
import Derived.Test.YteciabdjkaackaaGreatPTB18ToTB20
namespace Go.Proofs.YteciabdjkaackaaGreat
set_option linter.unusedVariables false
open Go.RowKit
structure BvK (w:World)(b5:Nat)(p k:Int)(x:ByteArray)(S K:List TV)(vs vk:Value)(wr:World):Prop where
 bel:Below w.heap.size w wr
 s:TRo wr vs S
 kk:TRo wr vk K
 bx:wr.heap[b5]?=some (.cells #[.int .i64 p,.int .i64 k,.string x,vk] 26)
 so:∀ j,vs.ownBlock=some j->w.heap.size<=j/\j≠b5
 ko:∀ j,vk.ownBlock=some j->w.heap.size<=j/\j≠b5/\vs.ownBlock≠some j
 bg:w.heap.size<=b5
 ta:∀ y,y∈S∨y∈K->TAt wr y
 na:∀ y,y∈S∨y∈K->∀ a∈adsL (kidsA y),w.heap.size<=a.1/\a.1≠b5/\vs.ownBlock≠some a.1/\vk.ownBlock≠some a.1
structure BvS (w:World)(S:List TV)(vs:Value)(wr:World):Prop where
 bel:Below w.heap.size w wr
 s:TRo wr vs S
 so:∀ j,vs.ownBlock=some j->w.heap.size<=j
 ta:∀ y∈S,TAt wr y
 na:∀ y∈S,∀ a∈adsL (kidsA y),w.heap.size<=a.1/\vs.ownBlock≠some a.1
section
variable {w wr w' w1 w4:World} {b5:Nat} {p k:Int} {x:ByteArray} {S K:List TV} {vs vk v':Value}
theorem BvS.later (h:BvS w S vs wr)(hb:Below wr.heap.size wr w'):BvS w S vs w':=⟨h.bel.trans (hb.mono h.bel.size),h.s.later hb,h.so,fun y hy=>(h.ta y hy).later hb,h.na⟩
theorem BvS.begin (h:BvS w S vs wr)(hb:Below wr.heap.size wr w')(h5:wr.heap.size<=b5)(hx:w'.heap[b5]?=some (.cells #[.int .i64 p,.int .i64 k,.string x,.slice none 0 0] 26)):BvK w b5 p k x S [] vs (.slice none 0 0) w':=by
 have h':=h.later hb
 have hz:=h.bel.size
 refine ⟨h'.bel,h'.s,RO.nil _,hx,fun j hj=>⟨h.so j hj,?_⟩,fun j hj=>by simp [Value.ownBlock] at hj,by omega,fun y hy=>h'.ta y (by simpa using hy),fun y hy a ha=>?_⟩
 ·have:=h.s.lt j hj;omega
 ·have hy:y∈S:=by simpa using hy
  have q1:=h.na y hy a ha
  have q2:=kids_lt (h.ta y hy) ha
  exact ⟨q1.1,by omega,q1.2,by simp [Value.ownBlock]⟩
theorem BvK.take {X:List TV}{vt:Value}(h:BvK w b5 p k x (S++X) K vs vk wr)(hvt:vt.ownBlock=vs.ownBlock)(hs:TRo wr vt S)(hb:Below wr.heap.size wr w1)(hg:Grew w1 w4 vk v')(hi:TRo w4 v' (K++X)) :
  BvK w b5 p k x S (K++X) vt v' (w4.setCell ⟨b5,3,none⟩ v'):=by
 have hz:=hb.size
 have hgs:=hg.grown.size
 have ho:∀ j,j≠b5->(w4.setCell ⟨b5,3,none⟩ v').heap[j]?=w4.heap[j]?:=fun j hj=>Below.heap_setCell _ _ _ _ hj
 have hsz:(w4.setCell ⟨b5,3,none⟩ v').heap.size=w4.heap.size:=by simp [World.setCell]
 have hl5:=lt_of_block h.bx
 have kp:∀ j,j < wr.heap.size->vk.ownBlock≠some j->w4.heap[j]?=wr.heap[j]?:=fun j hj hn=>(hg.grown.block j (by omega) (fun e=>hn e.symm)).trans (hb.block j hj)
 have hk5:vk.ownBlock≠some b5:=fun e=>(h.ko _ e).2.1 rfl
 have hv':∀ j,v'.ownBlock=some j->w.heap.size<=j/\j≠b5/\vs.ownBlock≠some j:=fun j hj=>by
  rcases hg.moved with q | ⟨i,q,hq⟩
  ·rw [q] at hj
   exact h.ko j hj
  ·rw [q] at hj
   simp at hj
   have:=h.bg
   have hbs:=h.bel.size
   refine ⟨by omega,by omega,fun e=>?_⟩
   have:=h.s.lt j e
   omega
 have hna:∀ u,u∈S∨u∈K++X->u∈S++X∨u∈K:=fun u hu=>by
  simp only [List.mem_append] at hu ⊢
  rcases hu with hu | hu | hu
  ·exact .inl (.inl hu)
  ·exact .inr hu
  ·exact .inl (.inr hu)
 have keep:∀ u,u∈S∨u∈K++X->∀ a∈adsL (kidsA u),(w4.setCell ⟨b5,3,none⟩ v').heap[a.1]?=wr.heap[a.1]?:=fun u hu a ha=>by
  obtain ⟨q1,q2,q3,q4⟩:=h.na u (hna u hu) a ha
  exact (ho _ q2).trans (kp _ (kids_lt (h.ta u (hna u hu)) ha) q4)
 refine ⟨?_,hs.kept (fun j hj=>?_),hi.kept (fun j hj=>ho j (hv' j hj).2.1),?_,fun j hj=>?_,fun j hj=>?_,h.bg,fun u hu=>tat_kept (h.ta u (hna u hu)) (keep u hu) (by omega),fun u hu a ha=>?_⟩
 ·exact (((h.bel.trans (hb.mono h.bel.size)).grown hg.grown (Nat.le_trans h.bel.size hz) (fun j hj=>(h.ko j hj).1))).setCell (p:=⟨b5,3,none⟩) (by show w.heap.size<=b5;exact h.bg) _
 ·have hj':=hj
  rw [hvt] at hj
  have q:=h.so j hj
  exact (ho _ q.2).trans (kp _ (hs.lt j hj') (fun e=>(h.ko j e).2.2 hj))
 ·have e5:w4.heap[b5]?=some (.cells #[.int .i64 p,.int .i64 k,.string x,vk] 26):=(kp _ hl5 hk5).trans h.bx
  exact heap_setCell_same w4 b5 3 _ _ _ e5
 ·rw [hvt] at hj
  exact h.so j hj
 ·obtain ⟨q1,q2,q3⟩:=hv' j hj
  exact ⟨q1,q2,fun e=>by rw [hvt] at e;exact q3 e⟩
 ·obtain ⟨q1,q2,q3,q4⟩:=h.na u (hna u hu) a ha
  have q5:=kids_lt (h.ta u (hna u hu)) ha
  refine ⟨q1,q2,fun e=>q3 (by rw [<- hvt];exact e),fun e=>?_⟩
  rcases hg.moved with q | ⟨i,q,hq⟩
  ·rw [q] at e;exact q4 e
  ·rw [q] at e
   simp at e
   omega
theorem BvK.fold {ka:Option Addr}{kc:Nat}(h:BvK w b5 p k x S K vs (.slice ka K.length kc) wr)(hb:Below wr.heap.size wr w1)(hg:Grew w1 w4 vs v')(hi:TRo w4 v' (S++[TV.mk p k x ka kc K])):BvS w (S++[TV.mk p k x ka kc K]) v' w4:=by
 have hz:=hb.size
 have hgs:=hg.grown.size
 have kp:∀ j,j < wr.heap.size->vs.ownBlock≠some j->w4.heap[j]?=wr.heap[j]?:=fun j hj hn=>(hg.grown.block j (by omega) (fun e=>hn e.symm)).trans (hb.block j hj)
 have hv':∀ j,v'.ownBlock=some j->w.heap.size<=j/\(j < wr.heap.size->vs.ownBlock=some j):=fun j hj=>by
  rcases hg.moved with q | ⟨i,q,hq⟩
  ·rw [q] at hj
   exact ⟨(h.so j hj).1,fun _=>hj⟩
  ·rw [q] at hj
   simp at hj
   have:=h.bel.size
   exact ⟨by omega,fun hlt=>by omega⟩
 have keep:∀ u,u∈S∨u∈K->TAt w4 u:=fun u hu=>tat_kept (h.ta u hu) (fun a ha=>kp _ (kids_lt (h.ta u hu) ha) (h.na u hu a ha).2.2.1) (by omega)
 have hkk:TRo w4 (.slice ka K.length kc) K:=h.kk.kept fun j hj=>kp j (h.kk.lt j hj) (h.ko j hj).2.2
 have nu:∀ u,u∈S∨u∈K->∀ a∈adsL (kidsA u),w.heap.size<=a.1/\v'.ownBlock≠some a.1:=fun u hu a ha=>by
  obtain ⟨q1,q2,q3,q4⟩:=h.na u hu a ha
  exact ⟨q1,fun e=>q3 ((hv' _ e).2 (kids_lt (h.ta u hu) ha))⟩
 refine ⟨(h.bel.trans (hb.mono h.bel.size)).grown hg.grown (Nat.le_trans h.bel.size hz) (fun j hj=>(h.so j hj).1),hi,fun j hj=>(hv' j hj).1,fun u hu=>?_,fun u hu=>?_⟩
 ·rcases List.mem_append.1 hu with hu | hu
  ·exact keep u (.inl hu)
  ·obtain rfl:=List.mem_singleton.1 hu
   exact TAt.mk _ (tro_krow hkk).2 fun y hy=>keep y (.inr hy)
 ·rcases List.mem_append.1 hu with hu | hu
  ·exact nu u (.inl hu)
  ·obtain rfl:=List.mem_singleton.1 hu
   intro a ha
   rcases ads_node ha with ⟨hne,e⟩ | ⟨y,hy,ha⟩
   ·obtain ⟨b,off,hka,hlt,-⟩:=(tro_krow h.kk).2 hne
    have e2:(kadr (TV.mk p k x ka kc K)).1=b:=by
     show (kadr (TV.mk p k x ka kc K)).1=b
     unfold kadr
     show (match ka with | some ad=>(ad.block,ad.off) | none=>(0,0)).1=b
     rw [hka]
    have ho:(Value.slice ka K.length kc).ownBlock=some b:=by rw [hka];rfl
    obtain ⟨q1,q2,q3⟩:=h.ko b ho
    rw [e,e2]
    exact ⟨q1,fun e3=>q3 ((hv' _ e3).2 hlt)⟩
   ·exact nu y (.inr hy) a ha
end
theorem BvK.later {w wr w':World}{b5:Nat}{p k:Int}{x:ByteArray}{S K:List TV}{vs vk:Value}(h:BvK w b5 p k x S K vs vk wr)(hb:Below wr.heap.size wr w'):BvK w b5 p k x S K vs vk w' :=
 ⟨h.bel.trans (hb.mono h.bel.size),h.s.later hb,h.kk.later hb,(hb.block _ (lt_of_block h.bx)).trans h.bx,h.so,h.ko,h.bg,fun y hy=>(h.ta y hy).later hb,h.na⟩
theorem samL_splitV {A B C D:List TV}(h:samL (A++B) (C++D))(hl:A.length=C.length):samL A C/\samL B D:=by
 have h1:=h.1
 rw [List.length_append,List.length_append] at h1
 refine ⟨⟨hl,fun i p q=>?_⟩,⟨by omega,fun i p q=>?_⟩⟩
 ·have:=h.2 i (by rw [List.length_append];omega) (by rw [List.length_append];omega)
  rwa [List.getElem_append_left p,List.getElem_append_left q] at this
 ·have:=h.2 (A.length+i) (by rw [List.length_append];omega) (by rw [List.length_append];omega)
  rw [List.getElem_append_right (by omega),List.getElem_append_right (by omega)] at this
  simpa [hl] using this
theorem mir_stack {S st:List TV}(p k:Int)(x:ByteArray){n:Nat}(h:samL S (st.reverse.map mirT))(hn:n<=st.length):∃ S' X,S=S'++X/\X.length=n/\S'.length=st.length - n/\∀ ka kc,samL (S'++[TV.mk p k x ka kc X]) ((TV.mk p k x none 0 (st.take n) :: st.drop n).reverse.map mirT):=by
 have hl:S.length=st.length:=by have:=h.1;simpa using this
 have e:st.reverse.map mirT=(st.drop n).reverse.map mirT++(st.take n).reverse.map mirT:=by
  rw [<- List.map_append,<- List.reverse_append,List.take_append_drop]
 rw [e,<- List.take_append_drop (st.length - n) S] at h
 obtain ⟨h1,h2⟩:=samL_splitV h (by simp;omega)
 refine ⟨S.take (st.length - n),S.drop (st.length - n),(List.take_append_drop _ _).symm,by simp;omega,by simp;omega,fun ka kc=>?_⟩
 rw [List.reverse_cons,List.map_append]
 refine samL_app h1 (samL_one ?_)
 show samV _ (mirT (TV.mk p k x none 0 (st.take n)))
 rw [mirT_eq]
 have e2:((TV.mk p k x none 0 (st.take n)).kids.map mirT).reverse=(st.take n).reverse.map mirT:=by
  rw [List.map_reverse]
  rfl
 rw [e2]
 refine (samV_iff _ _).2 ⟨?_,fun i a b=>h2.2 i a b⟩
 show (p,k,x,(S.drop (st.length - n)).length)=(p,k,x,((st.take n).reverse.map mirT).length)
 rw [h2.1]
theorem stk_fro {w0:World}{a:Option Addr}{c:Nat}{S X:List TV}(h:TRo w0 (.slice a (S++X).length c) (S++X)):∃ ao cc,(∀ w:World,(Instr.slice 24 (.slice a (S++X).length c) (some (.int .i64 (S.length:Int))) none none).run Tryz.prog w=.ok (.slice ao X.length cc) w)/\(X≠[]->∃ b off,ao=some ⟨b,off,none⟩/\∀ j u,(X.flatMap trCells)[j]?=some u->w0.cell? ⟨b,off+j,none⟩=some u):=by
 by_cases hX:X=[]
 ·subst hX
  obtain ⟨a',c',e,hc,-,h0,h1⟩:=RO.pre (f:=trCells) (k:=4) (fun _=>rfl) h
  simp only [Value.slice.injEq,true_and] at e
  obtain ⟨rfl,rfl⟩:=e
  rw [List.append_nil] at hc ⊢
  obtain ⟨i0,hinf,_,hz1,_⟩:=infoTree_parts
  have hu:Tryz.prog.underlying 24=some (.slice (Tryz.prog.elem 24)):=by kernel_rfl
  have he:Tryz.prog.elem 24=26:=by kernel_rfl
  have hr:=fun w=>run_slice_l (P:=Tryz.prog) (w:=w) 24 a S.length c hu .i64 (S.length:Int) (by omega) (by omega)
  cases a with
  | none =>
   have hc0:=h0 rfl
   have hs0:S.length=0:=by omega
   refine ⟨none,0,fun w=>?_,fun q=>absurd rfl q⟩
   rw [hr w,he]
   simp [sizeOf,typeInfo,hinf,hz1,hs0,hc0]
   try unfold sliced
   try simp
  | some ad =>
   rw [h1 ad rfl] at *
   by_cases hne:c=S.length
   ·refine ⟨some ⟨ad.block,0,none⟩,c - S.length,fun w=>?_,fun q=>absurd rfl q⟩
    rw [hr w,he]
    simp [sizeOf,typeInfo,hinf,hz1]
    unfold sliced
    simp [hne]
   ·refine ⟨some ⟨ad.block,S.length*4,none⟩,c - S.length,fun w=>?_,fun q=>absurd rfl q⟩
    rw [hr w,he]
    simp [sizeOf,typeInfo,hinf,hz1]
    unfold sliced
    simp [hne,aNn]
 ·obtain ⟨b,c',e,hc,hk⟩:=tail_row h hX
  simp only [Value.slice.injEq,true_and] at e
  obtain ⟨rfl,rfl⟩:=e
  refine ⟨some ⟨b,S.length*4,none⟩,c - S.length,fun w=>?_,fun _=>hk.src hX⟩
  have hp:=List.length_pos_iff.2 hX
  have:=slice_froTr b c (S++X).length S.length (by rw [List.length_append];omega) hc w
  rw [this,List.length_append,Nat.add_sub_cancel_left]
section
variable {α:Type} {τ σ:TypeId} {k:Nat} {f:α->List Value}
theorem step_ro_catV (r:RK τ σ k f){ops:Array Oper}{o:Oper}{a:Act}{w:World}{K:Act->World->Prop}{Q:Exit->Act->World->Prop}{E:Prop}
  (hg:o.guard=none) (s x:Operand) (hop:o.op=Op.call { callee:=Callee.builtin Builtin.append,args:=#[s,x],argTypes:=#[σ,σ] })
  (v:Value) (l:List α) (hs:a.eval s=v) (h:RO τ k f w v l) (ao:Option Addr) (c n:Nat) (xs:List α) (hn:xs.length=n) (hx:a.eval x=.slice ao n c) (hy:xs≠[]->∃ b off,ao=some ⟨b,off,none⟩/\∀ j u,(xs.flatMap f)[j]?=some u->w.cell? ⟨b,off+j,none⟩=some u) (hlen:l.length+xs.length<=1000000000)
  (hK:∀ a' n' c' w',RO τ k f w' (.slice a' n' c') (l++xs)->Grew w w' v (.slice a' n' c')->K (a.put o.dst (.slice a' n' c')) w') :
  if Region.wanted o (yielded ops a.tmps)=true then Oper.wp Tryz.prog o a w K Q else E:=by
 subst hn
 have hw:Region.wanted o (yielded ops a.tmps)=true:=by simp [Region.wanted,hg]
 rw [if_pos hw]
 obtain ⟨a',n',c',w',hrun,r1,r2⟩:=run_ro_cat r w o.type v l h ao c xs hy hlen
 unfold Oper.wp
 simp [execOp,hop,resolve,invoke,builtin,hs,hx,hrun,Result.andThen]
 exact hK a' n' c' w' r1 r2
end
end Go.Proofs.YteciabdjkaackaaGreat
