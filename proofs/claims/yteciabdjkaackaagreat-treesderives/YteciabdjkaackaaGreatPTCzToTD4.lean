import Derived.Test.YteciabdjkaackaaGreatPTCpToTCy
namespace Go.Proofs.YteciabdjkaackaaGreat
set_option linter.unusedVariables false
open Go.RowKit
theorem not_stpT {cs:Array Value}:¬ Stp (.cells cs 26):=not_stp (by decide)
theorem row_krow {w w':World}{n b c:Nat}{l:List TV}(h:w.ownsRow n 26 4 (.slice (some ⟨b,0,none⟩) l.length c) l.length (l.flatMap trCells))(hne:l≠[])(hk:w'.heap[b]?=w.heap[b]?)(hs:w.heap.size<=w'.heap.size):KRow w' (some ⟨b,0,none⟩) l/\∃ cs,w'.heap[b]?=some (.cells cs 26):=by
 rcases h.2 with ⟨e,_⟩ | ⟨g,cap,cur,e,h1,h2,h3,h4,h5,h6⟩
 ·cases e
 ·cases e
  have hg:w'.heap[b]?=some (.cells cur 26):=by rw [hk];exact h2
  refine ⟨fun _=>⟨b,0,rfl,lt_of_block hg,fun i hi=>?_⟩,cur,hg⟩
  have eg:l.getD i .none=l[i]:=by simp [List.getD,hi]
  have hc:∀ j,j < 4->w'.cell? ⟨b,0+i*4+j,none⟩=(trCells l[i])[j]?:=fun j hj=>by
   rw [cQa hg,<- fm_get (k:=4) (fun _=>rfl) l i hi j hj,<- h6,Nat.zero_add]
   rw [List.getElem?_take,if_pos (by omega)]
   simp
  rw [eg]
  have c0:=hc 0 (by omega)
  have c1:=hc 1 (by omega)
  have c2:=hc 2 (by omega)
  have c3:=hc 3 (by omega)
  exact ⟨c0,c1,c2,c3⟩
theorem nu_set:∀ (π:List Nat) (t u:TV),okP π t->nuP π (setAt π t u)=nuP π t
 | [],_,_,_=>rfl
 | i :: π,t,u,⟨hi,hp⟩=>by
  have e:∀ k,(t.sk (t.kids.set i k)).kids.take i=t.kids.take i:=fun k=>by
   show (t.kids.set i k).take i=_
   rw [List.take_set,List.set_eq_of_length_le (by simp;omega)]
  rw [setAt,nuP,nuP,kid_set hi,e,nu_set π _ u hp]
structure OwT (N:Nat)(w:World)(T:TV):Prop where
 ta:TAt w T
 cn:∀ a,(adsL (kidsA T)).count a<=1
 ty:∀ a∈adsL (kidsA T),N<=a.1/\a.2 % 4=0/\∃ cs,w.heap[a.1]?=some (.cells cs 26)
structure CpG where
 T:TV
 m:Nat
 π:List Nat
 n:Nat
 d:Nat
set_option maxRecDepth 100000 in
set_option maxHeartbeats 2000000 in
theorem walk_C {γ:Type}{N:Nat}{I:γ->List PA->World->Prop}{μ:γ->Nat}{Post:World->Prop}{E:FuncId}{ec:Array Value}(hC:WkC N I μ Post E 77 ec #[])(b0 o0:Nat)(w:World)(hN:N<=w.heap.size)
  (h0:Calls Tryz.prog E (#[.pointer (some ⟨b0,o0,none⟩)]++ec) w fun e w'=>∃ r,e=.returned (.bool r)/\w.heap.size<=w'.heap.size/\(r=true->∃ x,I x [(b0,o0,0)] w')/\(r=false->Post w')) :
  Calls Tryz.prog 44 #[.pointer (some ⟨b0,o0,none⟩),fnV E ec] w fun e w'=>e=.returned (.tuple #[])/\Post w':=by
 have CW:Hid (Calls Tryz.prog 34 #[.pointer (some ⟨b0,o0,none⟩),fnV E ec,fnV 77 #[]] w fun e w'=>e=.returned (.tuple #[])/\Post w'):=walkAround_W hC b0 o0 w hN h0
 clear hC hN h0
 go_enter Tryz.func44,Tryz.ntmps44
 go_wp2_with (go_at_call 34;refine CW.out.mono ?_;rintro e w1 ⟨rfl,h1⟩;have R:Hid (Post w1):=h1;clear h1)
 refine bodyPost_end (results_none rfl _ _ _) rfl ?_
 exact ⟨rfl,R.out⟩
theorem kids_lt {w:World}{t:TV}(ht:TAt w t){a:Nat×Nat}(ha:a∈adsL (kidsA t)):a.1 < w.heap.size:=by
 obtain ⟨x,hx,hxa⟩:=List.mem_flatMap.1 ha
 obtain ⟨i,hi,rfl⟩:=List.getElem_of_mem hx
 have hi':i < t.kids.length:=by rw [<- kidF_len (kadr t).1 (kadr t).2 0 t.kids];exact hi
 obtain ⟨b,off,e,hb⟩:=krow_kid ht.row hi'
 have h:=kidsA_get e hi'
 rw [List.getElem?_eq_getElem hi] at h
 rw [Option.some.inj h] at hxa
 exact ads_lt hb (ht.kid _ (List.getElem_mem hi')) hxa
abbrev zTree:Obj:=.cells #[.int .i64 0,.int .i64 0,.string ByteArray.empty,.slice none 0 0] 26
abbrev set4 (w:World)(b o:Nat)(t:TV):World:=(((w.setCell ⟨b,o,none⟩ (.int .i64 t.prod)).setCell ⟨b,o+1,none⟩ (.int .i64 t.kind)).setCell ⟨b,o+2,none⟩ (.string t.tx)).setCell ⟨b,o+3,none⟩ (.slice t.ka t.kids.length t.kc)
theorem set4_size (w:World)(b o:Nat)(t:TV):(set4 w b o t).heap.size=w.heap.size:=by simp [set4,World.setCell]
theorem set4_other (w:World)(b o:Nat)(t:TV)(j:Nat)(h:j≠b):(set4 w b o t).heap[j]?=w.heap[j]?:=by
 unfold set4
 rw [Below.heap_setCell _ _ _ _ h,Below.heap_setCell _ _ _ _ h,Below.heap_setCell _ _ _ _ h,Below.heap_setCell _ _ _ _ h]
theorem set4_ty {w:World}{b:Nat}(o:Nat)(t:TV){cs:Array Value}{ty:TypeId}(h:w.heap[b]?=some (.cells cs ty)):∃ cs',(set4 w b o t).heap[b]?=some (.cells cs' ty) :=
 ⟨_,heap_setCell_same _ b (o+3) _ _ _ (heap_setCell_same _ b (o+2) _ _ _ (heap_setCell_same _ b (o+1) _ _ _ (heap_setCell_same w b o _ _ _ h)))⟩
theorem set4_tbx {w:World}{b o:Nat}(t:TV){v0 v1 v2 v3:Value}(h0:w.cell? ⟨b,o,none⟩=some v0)(h1:w.cell? ⟨b,o+1,none⟩=some v1)(h2:w.cell? ⟨b,o+2,none⟩=some v2)(h3:w.cell? ⟨b,o+3,none⟩=some v3)(hl:b < w.heap.size):TBx (set4 w b o t) b o t:=by
 have n:∀ i j:Nat,i≠j->(⟨b,o+i,none⟩:Addr)≠⟨b,o+j,none⟩:=fun i j h e=>by simp only [Addr.mk.injEq,and_true,true_and] at e;omega
 have ot:∀ (w:World) (i j:Nat) (v:Value),i≠j->(w.setCell ⟨b,o+i,none⟩ v).cell? ⟨b,o+j,none⟩=w.cell? ⟨b,o+j,none⟩:=fun w i j v h=>World.cell?_setCell_other _ _ _ _ (n i j h)
 have ot0:∀ (w:World) (j:Nat) (v:Value),0≠j->(w.setCell ⟨b,o,none⟩ v).cell? ⟨b,o+j,none⟩=w.cell? ⟨b,o+j,none⟩:=fun w j v h=>ot w 0 j v h
 have ot1:∀ (w:World) (j:Nat) (v:Value),0≠j->(w.setCell ⟨b,o+j,none⟩ v).cell? ⟨b,o,none⟩=w.cell? ⟨b,o,none⟩:=fun w j v h=>ot w j 0 v h.symm
 unfold set4
 refine ⟨by simpa [World.setCell] using hl,?_,?_,?_,?_⟩
 ·rw [ot1 _ 3 _ (by omega),ot1 _ 2 _ (by omega),ot1 _ 1 _ (by omega)]
  exact World.cell?_setCell_same _ _ _ h0
 ·rw [ot _ 3 1 _ (by omega),ot _ 2 1 _ (by omega)]
  exact World.cell?_setCell_same _ _ _ ((ot0 _ 1 _ (by omega)).trans h1)
 ·rw [ot _ 3 2 _ (by omega)]
  exact World.cell?_setCell_same _ _ _ ((ot _ 1 2 _ (by omega)).trans ((ot0 _ 2 _ (by omega)).trans h2))
 ·exact World.cell?_setCell_same _ _ _ ((ot _ 2 3 _ (by omega)).trans ((ot _ 1 3 _ (by omega)).trans ((ot0 _ 3 _ (by omega)).trans h3)))
theorem set4_below {n:Nat}{w0 w:World}(h:Below n w0 w){b:Nat}(o:Nat)(t:TV)(hb:n<=b):Below n w0 (set4 w b o t) :=
 (((h.setCell (p:=⟨b,o,none⟩) hb _).setCell (p:=⟨b,o+1,none⟩) hb _).setCell (p:=⟨b,o+2,none⟩) hb _).setCell (p:=⟨b,o+3,none⟩) hb _
theorem OwT.kept {N:Nat}{w w':World}{T:TV}(h:OwT N w T)(hk:∀ a∈adsL (kidsA T),w'.heap[a.1]?=w.heap[a.1]?)(hs:w.heap.size<=w'.heap.size):OwT N w' T :=
 ⟨keep_at T 0 0 h.ta fun a ha=>⟨Nat.lt_of_lt_of_le (kids_lt h.ta ha) hs,fun j _=>World.cell?_of_block (hk a ha)⟩,h.cn,fun a ha=>by rw [hk a ha];exact h.ty a ha⟩
theorem OwT.mono {N N':Nat}{w:World}{T:TV}(h:OwT N w T)(hn:N'<=N):OwT N' w T:=⟨h.ta,h.cn,fun a ha=>⟨Nat.le_trans hn (h.ty a ha).1,(h.ty a ha).2⟩⟩
theorem OwT.later {N:Nat}{w w':World}{T:TV}(h:OwT N w T)(hb:Below w.heap.size w w'):OwT N w' T:=h.kept (fun _ ha=>hb.block _ (kids_lt h.ta ha)) hb.size
theorem z_cells {w:World}{b:Nat}(h:w.heap[b]?=some zTree):w.cell? ⟨b,0,none⟩=some (.int .i64 0)/\w.cell? ⟨b,1,none⟩=some (.int .i64 0)/\w.cell? ⟨b,2,none⟩=some (.string ByteArray.empty)/\w.cell? ⟨b,3,none⟩=some (.slice none 0 0)/\w.frozen? ⟨b,0,none⟩=false/\w.frozen? ⟨b,1,none⟩=false/\w.frozen? ⟨b,2,none⟩=false/\w.frozen? ⟨b,3,none⟩=false :=
 ⟨(cQa h).trans rfl,(cQa h).trans rfl,(cQa h).trans rfl,(cQa h).trans rfl,by simp [World.frozen?,h],by simp [World.frozen?,h],by simp [World.frozen?,h],by simp [World.frozen?,h]⟩
theorem samV_symm (a:TV):∀ b,samV a b->samV b a:=by
 induction a using TV.ind with
 | _ a ih =>
  intro b h
  obtain ⟨h1,h2⟩:=(samV_iff a b).1 h
  exact (samV_iff b a).2 ⟨h1.symm,fun i hi hi'=>ih _ (List.getElem_mem hi') _ (h2 i hi' hi)⟩
theorem step_storeO {ops:Array Oper}{o:Oper}{a:Act}{w:World}{K:Act->World->Prop}{Q:Exit->Act->World->Prop}{E:Prop}(hg:o.guard=none)(ty:TypeId)(x y:Operand)(hop:o.op=.store ty x y)(b off:Nat)(cells:Array Value)(hx:a.eval x=.pointer (some ⟨b,off,none⟩))(hy:a.eval y=.agg cells)
  (ht:w.there b off cells.size) (hi:(Tryz.prog.info? ty).map (·.size)=some cells.size) (h1:cells.all (·.oneCell')=true) (hK:K (a.put o.dst undef) (w.setCells b off cells.toList)):if Region.wanted o (yielded ops a.tmps)=true then Oper.wp Tryz.prog o a w K Q else E:=by
 have hw:Region.wanted o (yielded ops a.tmps)=true:=by simp [Region.wanted,hg]
 rw [if_pos hw]
 exact wp_store_mid ty x y hop b off cells hx hy ht hi h1 hK
end Go.Proofs.YteciabdjkaackaaGreat
