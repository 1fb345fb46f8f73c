import Derived.Test.YteciabdjkaackaaGreatPSGiven0ToHInt
import Derived.Test.YteciabdjkaackaaGreatPPlainToGDec14
namespace Go.Proofs.YteciabdjkaackaaGreat
set_option linter.unusedVariables false
open Go.RowKit
def tyG:Nat->TypeId:=fun i=>if i < 2 then 95 else if i < 4 then 55 else if i < 6 then 59 else if i < 8 then 98 else 100
def OkT (t:TypeId):Prop:=t≠38/\t≠95/\t≠55/\t≠59/\t≠98/\t≠100
theorem OkT.ty {t:TypeId}(h:OkT t):t≠38/\∀ i,t≠tyG i:=⟨h.1,fun i=>by
 unfold tyG
 split
 ·exact h.2.1
 ·split
  ·exact h.2.2.1
  ·split
   ·exact h.2.2.2.1
   ·split
    ·exact h.2.2.2.2.1
    ·exact h.2.2.2.2.2⟩
theorem tyG_q:∀ i,38≠tyG i:=fun i=>by
 unfold tyG
 split
 ·decide
 ·split
  ·decide
  ·split
   ·decide
   ·split<;>decide
theorem okT_int:OkT 3:=by unfold OkT;decide
theorem okT_str:OkT 9:=by unfold OkT;decide
theorem okT_sym:OkT 82:=by unfold OkT;decide
theorem okT_prod:OkT 116:=by unfold OkT;decide
theorem okT_lev:OkT 120:=by unfold OkT;decide
theorem okT_gram:OkT 63:=by unfold OkT;decide
structure Oth (w w':World):Prop where
 size:w.heap.size<=w'.heap.size
 blk:∀ (b:Nat) (C:Array Value) (t:TypeId),w.heap[b]?=some (.cells C t (0,0))->OkT t->w'.heap[b]?=w.heap[b]?
theorem Oth.trans {w w1 w2:World}(h:Oth w w1)(k:Oth w1 w2):Oth w w2:=⟨Nat.le_trans h.size k.size,fun b C t hb ht=>(k.blk b C t ((h.blk b C t hb ht).trans hb) ht).trans (h.blk b C t hb ht)⟩
theorem Oth.ofBelow {w w':World}(h:Below w.heap.size w w'):Oth w w':=⟨h.size,fun b _ _ hb _=>h.block b (lt_of_block hb)⟩
def TB (w:World)(g:Nat)(xs:List ByteArray):Prop:=∃ zs:List ByteArray,w.heap[g]?=some (.cells (zs.map Value.string).toArray 9 (0,0))/\zs.take xs.length=xs
def YB (w:World)(g:Nat)(xs:List (Int×Int)):Prop:=∃ zs:List (Int×Int),w.heap[g]?=some (.cells (sCl zs).toArray 82 (0,0))/\zs.take xs.length=xs
def NB (w:World)(g:Nat)(xs:List Int):Prop:=∃ zs:List Int,w.heap[g]?=some (.cells (zs.map (Value.int .i64 ·)).toArray 3 (0,0))/\zs.take xs.length=xs
theorem TB.oth {w w':World}{g:Nat}{xs:List ByteArray}(h:TB w g xs)(ho:Oth w w'):TB w' g xs:=by obtain ⟨zs,h1,h2⟩:=h;exact ⟨zs,(ho.blk _ _ _ h1 okT_str).trans h1,h2⟩
theorem YB.oth {w w':World}{g:Nat}{xs:List (Int×Int)}(h:YB w g xs)(ho:Oth w w'):YB w' g xs:=by obtain ⟨zs,h1,h2⟩:=h;exact ⟨zs,(ho.blk _ _ _ h1 okT_sym).trans h1,h2⟩
theorem NB.oth {w w':World}{g:Nat}{xs:List Int}(h:NB w g xs)(ho:Oth w w'):NB w' g xs:=by obtain ⟨zs,h1,h2⟩:=h;exact ⟨zs,(ho.blk _ _ _ h1 okT_int).trans h1,h2⟩
theorem take_getD {α:Type}{zs xs:List α}{d:α}(h:zs.take xs.length=xs){i:Nat}(hi:i < xs.length):i < zs.length/\xs.getD i d=zs.getD i d:=by
 have hz:i < zs.length:=by have:=congrArg List.length h;simp at this;omega
 refine ⟨hz,?_⟩
 rw [<- h]
 simp [List.getD,hi]
theorem TB.row {w:World}{g:Nat}{xs:List ByteArray}(h:TB w g xs):StrRow w (some ⟨g,0,none⟩) xs:=by
 obtain ⟨zs,h1,h2⟩:=h
 refine fun _=>⟨g,0,rfl,lt_of_block h1,fun i hi=>?_⟩
 obtain ⟨hz,e⟩:=take_getD (d:=ByteArray.empty) h2 hi
 rw [Nat.zero_add,cQa h1,e]
 simp [List.getD,hz]
theorem NB.row {w:World}{g:Nat}{xs:List Int}(h:NB w g xs):InRow w (some ⟨g,0,none⟩) xs:=by
 obtain ⟨zs,h1,h2⟩:=h
 refine fun _=>⟨g,0,rfl,lt_of_block h1,fun i hi=>?_⟩
 obtain ⟨hz,e⟩:=take_getD (d:=(0:Int)) h2 hi
 rw [Nat.zero_add,cQa h1,e]
 simp [List.getD,hz]
theorem YB.row {w:World}{g:Nat}{xs:List (Int×Int)}(h:YB w g xs):SymRow w (some ⟨g,0,none⟩) xs:=by
 obtain ⟨zs,h1,h2⟩:=h
 exact FullS.rowTake ⟨h1⟩ h2
structure StG (E:Nat->List HE):Prop where
 int:∀ e∈E 1,e.t=3/\e.sz=1/\∃ zs:List Int,e.cs=zs.map (Value.int .i64 ·)
 str:∀ e∈E 2,e.t=9/\e.sz=1/\∃ zs:List ByteArray,e.cs=zs.map Value.string
 sym:∀ e∈E 4,e.t=82/\e.sz=2/\∃ zs:List (Int×Int),e.cs=sCl zs
 no:∀ κ,κ≠1->κ≠2->κ≠4->E κ=[]
structure HG (B:Nat)(w0 w:World)(q:Nat)(V:Nat->Value)(E:Nat->List HE)(n1 n2 n4:Nat):Prop where
 inv:HInv w q V tyG E
 lo:∀ i k,(V i).ownBlock=some k->B<=k
 q:B<=q
 bel:Below B w0 w
 sz:B<=w.heap.size
 st:StG E
 l1:(E 1).length=n1
 l2:(E 2).length=n2
 l4:(E 4).length=n4
section
variable {B:Nat} {w0 w w':World} {q:Nat} {V:Nat->Value} {E:Nat->List HE} {n1 n2 n4:Nat}
theorem HG.later (h:HG B w0 w q V E n1 n2 n4)(hb:Below w.heap.size w w'):HG B w0 w' q V E n1 n2 n4:=⟨h.inv.later hb,h.lo,h.q,h.bel.trans (hb.mono h.sz),Nat.le_trans h.sz hb.size,h.st,h.l1,h.l2,h.l4⟩
theorem HG.kept (h:HG B w0 w q V E n1 n2 n4)(hs:w.heap.size<=w'.heap.size)(hb:Below B w w')(hk:∀ (k:Nat) (C:Array Value) (t:TypeId),w.heap[k]?=some (.cells C t (0,0))->t≠116->t≠120->t≠63->w'.heap[k]?=w.heap[k]?):HG B w0 w' q V E n1 n2 n4:=by
 have ent:∀ κ,∀ e∈E κ,e.t≠116/\e.t≠120/\e.t≠63:=fun κ e he=>by
  by_cases k1:κ=1
  ·subst k1;rw [(h.st.int e he).1];decide
  by_cases k2:κ=2
  ·subst k2;rw [(h.st.str e he).1];decide
  by_cases k4:κ=4
  ·subst k4;rw [(h.st.sym e he).1];decide
  rw [h.st.no κ k1 k2 k4] at he;cases he
 have tyn:∀ i,tyG i≠116/\tyG i≠120/\tyG i≠63:=fun i=>by
  unfold tyG
  split
  ·decide
  ·split
   ·decide
   ·split
    ·decide
    ·split<;>decide
 refine ⟨⟨(hk _ _ _ h.inv.hq (by decide) (by decide) (by decide)).trans h.inv.hq,fun i=>?_,h.inv.apart,fun κ e he=>(h.inv.at_ κ e he).keptBy fun k C hC=>hk k C _ hC (ent κ e he).1 (ent κ e he).2.1 (ent κ e he).2.2,h.inv.tq,h.inv.te,h.inv.nl⟩,h.lo,h.q,h.bel.trans hb,Nat.le_trans h.sz hs,h.st,h.l1,h.l2,h.l4⟩
 exact row_kept (h.inv.row i) fun k C _ hC=>hk k C _ hC (tyn i).1 (tyn i).2.1 (tyn i).2.2
theorem hg_oth {V':Nat->Value}(h:HInv w q V tyG E)(hf:HF w w' q V V'):Oth w w':=⟨hf.size,fun b C t hb ht=>h.other hf hb ht.ty⟩
theorem upd_same (E:Nat->List HE)(κ:Nat)(x:HE):updE E κ x κ=E κ++[x]:=by simp [updE]
theorem upd_other (E:Nat->List HE){κ j:Nat}(x:HE)(h:j≠κ):updE E κ x j=E j:=by simp [updE,h]
theorem lo_then {V':Nat->Value}(hf:HF w w' q V V')(hs:B<=w.heap.size)(hl:∀ i k,(V i).ownBlock=some k->B<=k):∀ i k,(V' i).ownBlock=some k->B<=k:=fun i k hk=>by
 rcases hf.mv i k hk with r | r
 ·exact hl i k r
 ·omega
structure HGOut (B:Nat)(w0 w w':World)(q:Nat)(n1 n2 n4:Nat):Prop where
 ex:∃ V' E',HG B w0 w' q V' E' n1 n2 n4
 oth:Oth w w'
 bel:Below B w w'
theorem hg_str (h:HG B w0 w q V E n1 n2 n4)(hE:n2<=4900000000000)(ao:Option Addr)(cap:Nat)(xs:List ByteArray)(hl:xs.length<=8796093022000)(hsz:∀ s∈xs,s.size<=maxLen)(hr:StrRow w ao xs) :
  Calls Tryz.prog 63 #[.pointer (some ⟨q,0,none⟩),.slice ao xs.length cap] w fun e w'=>e=.returned (.slice (some ⟨w.heap.size,0,none⟩) xs.length (xs.length+3))/\HGOut B w0 w w' q n1 (n2+1) n4/\TB w' w.heap.size xs:=by
 refine (hstrings q V tyG E ao _ cap xs w rfl (by omega) hsz hr h.inv (by have:=h.l2;omega) rfl rfl okT_str.ty).mono ?_
 rintro e w' ⟨rfl,V',x,hI,hg,ht,hz,⟨zs,hc,hk⟩,hf⟩
 have hb:=hf.below h.sz h.q h.lo
 refine ⟨rfl,⟨⟨V',updE E 2 x,hI,lo_then hf h.sz h.lo,h.q,h.bel.trans hb,Nat.le_trans h.sz hf.size,⟨fun e he=>?_,fun e he=>?_,fun e he=>?_,fun κ k1 k2 k4=>?_⟩,by rw [upd_other _ _ (by decide)];exact h.l1,by rw [upd_same];simp [h.l2],by rw [upd_other _ _ (by decide)];exact h.l4⟩,hg_oth h.inv hf,hb⟩,?_⟩
 ·rw [upd_other _ _ (by decide)] at he;exact h.st.int e he
 ·rw [upd_same] at he
  rcases List.mem_append.1 he with r | r
  ·exact h.st.str e r
  ·simp at r;subst r;exact ⟨ht,hz,zs,hc⟩
 ·rw [upd_other _ _ (by decide)] at he;exact h.st.sym e he
 ·rw [upd_other _ _ k2];exact h.st.no κ k1 k2 k4
 ·have ha:=(hI.at_ 2 x (by rw [upd_same];simp)).hg
  rw [hc,ht,hg] at ha
  exact ⟨zs,ha,hk⟩
theorem hg_sym (h:HG B w0 w q V E n1 n2 n4)(hE:n4<=4900000000000)(ao:Option Addr)(cap:Nat)(xs:List (Int×Int))(hl:xs.length<=8796093022000)(hr:SymRow w ao xs) :
  Calls Tryz.prog 64 #[.pointer (some ⟨q,0,none⟩),.slice ao xs.length cap] w fun e w'=>e=.returned (.slice (some ⟨w.heap.size,0,none⟩) xs.length (xs.length+3))/\HGOut B w0 w w' q n1 n2 (n4+1)/\YB w' w.heap.size xs:=by
 refine (hsyms q V tyG E ao _ cap xs w rfl (by omega) hr h.inv (by have:=h.l4;omega) rfl rfl okT_sym.ty).mono ?_
 rintro e w' ⟨rfl,V',x,hI,hg,ht,hz,⟨zs,hc,hk⟩,hf⟩
 have hb:=hf.below h.sz h.q h.lo
 refine ⟨rfl,⟨⟨V',updE E 4 x,hI,lo_then hf h.sz h.lo,h.q,h.bel.trans hb,Nat.le_trans h.sz hf.size,⟨fun e he=>?_,fun e he=>?_,fun e he=>?_,fun κ k1 k2 k4=>?_⟩,by rw [upd_other _ _ (by decide)];exact h.l1,by rw [upd_other _ _ (by decide)];exact h.l2,by rw [upd_same];simp [h.l4]⟩,hg_oth h.inv hf,hb⟩,?_⟩
 ·rw [upd_other _ _ (by decide)] at he;exact h.st.int e he
 ·rw [upd_other _ _ (by decide)] at he;exact h.st.str e he
 ·rw [upd_same] at he
  rcases List.mem_append.1 he with r | r
  ·exact h.st.sym e r
  ·simp at r;subst r;exact ⟨ht,hz,zs,hc⟩
 ·rw [upd_other _ _ k4];exact h.st.no κ k1 k2 k4
 ·have ha:=(hI.at_ 4 x (by rw [upd_same];simp)).hg
  rw [hc,ht,hg] at ha
  exact ⟨zs,ha,hk⟩
theorem hg_intF (h:HG B w0 w q V E n1 n2 n4)(hE:n1<=4900000000000)(ao:Option Addr)(cap:Nat)(xs:List Int)(hl:xs.length<=17592186044000)(hr:InRow w ao xs) :
  Calls Tryz.prog 26 #[.pointer (some ⟨q,0,none⟩),.slice ao xs.length cap] w fun e w'=>e=.returned (.slice (some ⟨w.heap.size,0,none⟩) xs.length (xs.length+3))/\(∃ V' E',HG B w0 w' q V' E' (n1+1) n2 n4/\HF w w' q V V')/\Oth w w'/\Below B w w'/\NB w' w.heap.size xs:=by
 refine (hints q V tyG E ao _ cap xs w rfl (by omega) hr h.inv (by have:=h.l1;omega) rfl rfl okT_int.ty).mono ?_
 rintro e w' ⟨rfl,V',x,hI,hg,ht,hz,⟨zs,hc,hk⟩,hf⟩
 have hb:=hf.below h.sz h.q h.lo
 refine ⟨rfl,⟨V',updE E 1 x,⟨hI,lo_then hf h.sz h.lo,h.q,h.bel.trans hb,Nat.le_trans h.sz hf.size,⟨fun e he=>?_,fun e he=>?_,fun e he=>?_,fun κ k1 k2 k4=>?_⟩,by rw [upd_same];simp [h.l1],by rw [upd_other _ _ (by decide)];exact h.l2,by rw [upd_other _ _ (by decide)];exact h.l4⟩,hf⟩,hg_oth h.inv hf,hb,?_⟩
 ·rw [upd_same] at he
  rcases List.mem_append.1 he with r | r
  ·exact h.st.int e r
  ·simp at r;subst r;exact ⟨ht,hz,zs,hc⟩
 ·rw [upd_other _ _ (by decide)] at he;exact h.st.str e he
 ·rw [upd_other _ _ (by decide)] at he;exact h.st.sym e he
 ·rw [upd_other _ _ k1];exact h.st.no κ k1 k2 k4
 ·have ha:=(hI.at_ 1 x (by rw [upd_same];simp)).hg
  rw [hc,ht,hg] at ha
  exact ⟨zs,ha,hk⟩
theorem hg_int (h:HG B w0 w q V E n1 n2 n4)(hE:n1<=4900000000000)(ao:Option Addr)(cap:Nat)(xs:List Int)(hl:xs.length<=17592186044000)(hr:InRow w ao xs) :
  Calls Tryz.prog 26 #[.pointer (some ⟨q,0,none⟩),.slice ao xs.length cap] w fun e w'=>e=.returned (.slice (some ⟨w.heap.size,0,none⟩) xs.length (xs.length+3))/\HGOut B w0 w w' q (n1+1) n2 n4/\NB w' w.heap.size xs :=
 (hg_intF h hE ao cap xs hl hr).mono fun _ _ ⟨e1,⟨V',E',k,_⟩,o,hb,nb⟩=>⟨e1,⟨⟨V',E',k⟩,o,hb⟩,nb⟩
end
theorem run_py_append (w:World)(ty:TypeId)(v:Value)(l:List PV)(h:PY w v l)(b c:Nat)(q:PV)(hy:∀ j u,[.int .i64 q.left,.slice q.ra q.right.length q.rc,.int .i64 q.prec][j]?=some u->w.cell? ⟨b,j,none⟩=some u)(hlen:l.length<=3518437208780) :
  ∃ a' n' c' w',(Builtin.append_ #[60,60] ty #[v,.slice (some ⟨b,0,none⟩) 1 c]).run Tryz.prog w=.ok (.slice a' n' c') w'/\PY w' (.slice a' n' c') (l++[q])/\Grew w w' v (.slice a' n' c'):=by
 obtain ⟨i0,hi,hz0,hz1,hz2⟩:=infoPro_parts
 obtain ⟨v',w',hrun,hown,hgrow,_,hmv⟩:=run_append_own_at (P:=Tryz.prog) (w:=w) 0 60 ty 116 i0 (.agg #[.int .i64 0,.slice none 0 0,.int .i64 0]) 3 40 Tryz.underlying60 hi hz0 hz1 hz2 rfl (by decide) v l.length (pCl l) h ⟨b,0,none⟩ 1 c [.int .i64 q.left,.slice q.ra q.right.length q.rc,.int .i64 q.prec] (by simp) (fun j u hu=>by rw [aNn,Nat.zero_add];exact hy j u hu) (fun u hu=>by simp at hu;rcases hu with rfl | rfl | rfl<;>rfl) (by unfold maxLen;omega) (by omega) (Nat.zero_le _)
 have h6:PY w' v' (l++[q]):=by
  unfold PY
  have e:pCl (l++[q])=pCl l++[.int .i64 q.left,.slice q.ra q.right.length q.rc,.int .i64 q.prec]:=by simp [pCl]
  rw [e]
  simpa using hown
 obtain ⟨a',c',rfl⟩:=PY.len h6
 exact ⟨_,_,_,w',hrun,h6,⟨hgrow,hmv.imp id fun e=>⟨_,e,Nat.le_refl _⟩⟩⟩
theorem step_py_append {ops:Array Oper}{o:Oper}{a:Act}{w:World}{K:Act->World->Prop}{Q:Exit->Act->World->Prop}{E:Prop}
  (hg:o.guard=none) (s x:Operand) (hop:o.op=Op.call { callee:=Callee.builtin Builtin.append,args:=#[s,x],argTypes:=#[60,60] })
  (v:Value) (l:List PV) (hs:a.eval s=v) (h:PY w v l) (b c:Nat) (q:PV) (hx:a.eval x=.slice (some ⟨b,0,none⟩) 1 c) (hy:∀ j u,[.int .i64 q.left,.slice q.ra q.right.length q.rc,.int .i64 q.prec][j]?=some u->w.cell? ⟨b,j,none⟩=some u) (hlen:l.length<=3518437208780)
  (hK:∀ a' n' c' w',PY w' (.slice a' n' c') (l++[q])->Grew w w' v (.slice a' n' c')->K (a.put o.dst (.slice a' n' c')) w') :
  if Region.wanted o (yielded ops a.tmps)=true then Oper.wp Tryz.prog o a w K Q else E:=by
 have hw:Region.wanted o (yielded ops a.tmps)=true:=by simp [Region.wanted,hg]
 rw [if_pos hw]
 obtain ⟨a',n',c',w',hrun,r1,r2⟩:=run_py_append w o.type v l h b c q hy hlen
 unfold Oper.wp
 simp [execOp,hop,resolve,invoke,builtin,hs,hx,hrun,Result.andThen]
 exact hK a' n' c' w' r1 r2
theorem run_ly_append (w:World)(ty:TypeId)(v:Value)(l:List LV)(h:LY w v l)(b c:Nat)(q:LV)(hy:∀ j u,[.int .i64 q.assoc,.slice q.ta q.terms.length q.tc][j]?=some u->w.cell? ⟨b,j,none⟩=some u)(hlen:l.length<=4398046510976) :
  ∃ a' n' c' w',(Builtin.append_ #[61,61] ty #[v,.slice (some ⟨b,0,none⟩) 1 c]).run Tryz.prog w=.ok (.slice a' n' c') w'/\LY w' (.slice a' n' c') (l++[q])/\Grew w w' v (.slice a' n' c'):=by
 obtain ⟨i0,hi,hz0,hz1,hz2⟩:=infoLev_parts
 obtain ⟨v',w',hrun,hown,hgrow,_,hmv⟩:=run_append_own_at (P:=Tryz.prog) (w:=w) 0 61 ty 120 i0 (.agg #[.int .i64 0,.slice none 0 0]) 2 32 Tryz.underlying61 hi hz0 hz1 hz2 rfl (by decide) v l.length (levCells l) h ⟨b,0,none⟩ 1 c [.int .i64 q.assoc,.slice q.ta q.terms.length q.tc] (by simp) (fun j u hu=>by rw [aNn,Nat.zero_add];exact hy j u hu) (fun u hu=>by simp at hu;rcases hu with rfl | rfl<;>rfl) (by unfold maxLen;omega) (by omega) (Nat.zero_le _)
 have h6:LY w' v' (l++[q]):=by
  unfold LY
  have e:levCells (l++[q])=levCells l++[.int .i64 q.assoc,.slice q.ta q.terms.length q.tc]:=by simp [levCells]
  rw [e]
  simpa using hown
 obtain ⟨a',c',rfl⟩:=LY.len h6
 exact ⟨_,_,_,w',hrun,h6,⟨hgrow,hmv.imp id fun e=>⟨_,e,Nat.le_refl _⟩⟩⟩
theorem step_ly_append {ops:Array Oper}{o:Oper}{a:Act}{w:World}{K:Act->World->Prop}{Q:Exit->Act->World->Prop}{E:Prop}
  (hg:o.guard=none) (s x:Operand) (hop:o.op=Op.call { callee:=Callee.builtin Builtin.append,args:=#[s,x],argTypes:=#[61,61] })
  (v:Value) (l:List LV) (hs:a.eval s=v) (h:LY w v l) (b c:Nat) (q:LV) (hx:a.eval x=.slice (some ⟨b,0,none⟩) 1 c) (hy:∀ j u,[.int .i64 q.assoc,.slice q.ta q.terms.length q.tc][j]?=some u->w.cell? ⟨b,j,none⟩=some u) (hlen:l.length<=4398046510976)
  (hK:∀ a' n' c' w',LY w' (.slice a' n' c') (l++[q])->Grew w w' v (.slice a' n' c')->K (a.put o.dst (.slice a' n' c')) w') :
  if Region.wanted o (yielded ops a.tmps)=true then Oper.wp Tryz.prog o a w K Q else E:=by
 have hw:Region.wanted o (yielded ops a.tmps)=true:=by simp [Region.wanted,hg]
 rw [if_pos hw]
 obtain ⟨a',n',c',w',hrun,r1,r2⟩:=run_ly_append w o.type v l h b c q hy hlen
 unfold Oper.wp
 simp [execOp,hop,resolve,invoke,builtin,hs,hx,hrun,Result.andThen]
 exact hK a' n' c' w' r1 r2
theorem PY.oth {w w':World}{v:Value}{l:List PV}(h:PY w v l)(ho:Oth w w'):PY w' v l:=row_kept h fun k C _ hC=>ho.blk k C _ hC okT_prod
theorem LY.oth {w w':World}{v:Value}{l:List LV}(h:LY w v l)(ho:Oth w w'):LY w' v l:=row_kept h fun k C _ hC=>ho.blk k C _ hC okT_lev
theorem run_syms {o:Oper}{a:Act}{t0 t1:TypeId}{v0 v1:Value}{x0 x1:Operand}(hop:o.op=Op.call { callee:=Callee.value (Operand.func 64),args:=#[x0,x1],argTypes:=#[t0,t1] })(h0:a.eval x0=v0)(h1:a.eval x1=v1)(w:World):(execOp a.eval o).run Tryz.prog w=.ok (.enter 64 #[v0,v1]) w:=by
 have hf:a.eval (Operand.func 64)=.func (.func 64) #[] #[]:=rfl
 simp [execOp,hop,resolve,invoke,h0,h1,hf,Deferred.ofValue]
theorem run_ints {o:Oper}{a:Act}{t0 t1:TypeId}{v0 v1:Value}{x0 x1:Operand}(hop:o.op=Op.call { callee:=Callee.value (Operand.func 26),args:=#[x0,x1],argTypes:=#[t0,t1] })(h0:a.eval x0=v0)(h1:a.eval x1=v1)(w:World):(execOp a.eval o).run Tryz.prog w=.ok (.enter 26 #[v0,v1]) w:=by
 have hf:a.eval (Operand.func 26)=.func (.func 26) #[] #[]:=rfl
 simp [execOp,hop,resolve,invoke,h0,h1,hf,Deferred.ofValue]
abbrev zG:Obj:=.cells #[.slice none 0 0,.slice none 0 0,.int .i64 0,.slice none 0 0,.slice none 0 0] 63
abbrev oG (g:GV)(t0 n0:Nat)(pa:Option Addr)(pn pc:Nat)(la:Option Addr)(ln lc:Nat):Obj:=.cells #[.slice (some ⟨t0,0,none⟩) g.ts.length (g.ts.length+3),.slice (some ⟨n0,0,none⟩) g.ns.length (g.ns.length+3),.int .i64 g.start,.slice pa pn pc,.slice la ln lc] 63
def RaC (x:PV)(b:Nat):Prop:=x.ra=some ⟨b,0,none⟩/\x.right.length<=x.rc
structure GW (B:Nat)(w0 w:World)(q m1 m2 m4:Nat)(g:GV)(p t0 n0:Nat)(P:List PV)(L:List LV)(pa:Option Addr)(pc:Nat)(la:Option Addr)(lc:Nat)(wr:World):Prop where
 hg:∃ V E,HG B w0 wr q V E m1 m2 m4
 box:wr.heap[w.heap.size]?=some (gBox g)
 res:wr.heap[w.heap.size+1]?=some zG
 out:wr.heap[p]?=some (oG g t0 n0 pa P.length pc la L.length lc)
 tb:TB wr t0 g.ts
 nb:TB wr n0 g.ns
 py:PY wr (.slice pa P.length pc) P
 plo:∀ k,(Value.slice pa P.length pc).ownBlock=some k->w.heap.size<=k
 pe:∀ x∈P,∃ b,RaC x b/\YB wr b x.right
 ly:LY wr (.slice la L.length lc) L
 llo:∀ k,(Value.slice la L.length lc).ownBlock=some k->w.heap.size<=k
 le:∀ x∈L,∃ b,x.ta=some ⟨b,0,none⟩/\NB wr b x.terms
 bel:Below B w wr
 sz:w.heap.size<=wr.heap.size
 Bw:B<=w.heap.size
 pB:w.heap.size<=p
 ot:Oth w wr
 p0:w.heap.size≠p
 p1:w.heap.size+1≠p
theorem py_ne {w:World}{v:Value}{l:List PV}(h:PY w v l){b:Nat}{C:Array Value}{t:TypeId}{fz:Nat×Nat}(hb:w.heap[b]?=some (.cells C t fz))(ht:t≠116):some b≠v.ownBlock:=by
 rcases h.2 with ⟨rfl,_⟩ | ⟨g,cap,cur,rfl,h1,h2,h3⟩
 ·simp [Value.ownBlock]
 ·intro e
  simp only [Value.ownBlock,Option.some.injEq] at e
  subst e
  rw [h2] at hb
  simp at hb
  exact ht hb.2.1.symm
theorem ly_ne {w:World}{v:Value}{l:List LV}(h:LY w v l){b:Nat}{C:Array Value}{t:TypeId}{fz:Nat×Nat}(hb:w.heap[b]?=some (.cells C t fz))(ht:t≠120):some b≠v.ownBlock:=by
 rcases h.2 with ⟨rfl,_⟩ | ⟨g,cap,cur,rfl,h1,h2,h3⟩
 ·simp [Value.ownBlock]
 ·intro e
  simp only [Value.ownBlock,Option.some.injEq] at e
  subst e
  rw [h2] at hb
  simp at hb
  exact ht hb.2.1.symm
theorem grew_belowB {B:Nat}{w w':World}{v v':Value}(hB:B<=w.heap.size)(hv:∀ k,v.ownBlock=some k->B<=k)(g:Grew w w' v v'):Below B w w'/\∀ k,v'.ownBlock=some k->B<=k:=by
 refine ⟨⟨g.grown.os,g.grown.tape,g.grown.output,g.grown.size,fun k hk=>g.grown.block k (by omega) (fun e=>by have:=hv k e.symm;omega)⟩,fun k hk=>?_⟩
 rcases g.moved with r | ⟨m,r,hm⟩
 ·exact hv k (r ▸ hk)
 ·rw [hk] at r;have:=Option.some.inj r;omega
section
variable {B:Nat} {w0 w:World} {q m1 m2 m4:Nat} {g:GV} {p t0 n0:Nat} {P:List PV} {L:List LV} {pa:Option Addr} {pc:Nat} {la:Option Addr} {lc:Nat} {wr w':World}
theorem GW.given {k1 k2 k4:Nat}(h:GW B w0 w q m1 m2 m4 g p t0 n0 P L pa pc la lc wr)(o:HGOut B w0 wr w' q k1 k2 k4):GW B w0 w q k1 k2 k4 g p t0 n0 P L pa pc la lc w' :=
 ⟨o.ex,(o.oth.blk _ _ _ h.box okT_gram).trans h.box,(o.oth.blk _ _ _ h.res okT_gram).trans h.res,(o.oth.blk _ _ _ h.out okT_gram).trans h.out,h.tb.oth o.oth,h.nb.oth o.oth,h.py.oth o.oth,h.plo,fun x hx=>by obtain ⟨b,e,y⟩:=h.pe x hx;exact ⟨b,e,y.oth o.oth⟩,h.ly.oth o.oth,h.llo,fun x hx=>by obtain ⟨b,e,y⟩:=h.le x hx;exact ⟨b,e,y.oth o.oth⟩,h.bel.trans o.bel,Nat.le_trans h.sz o.oth.size,h.Bw,h.pB,h.ot.trans o.oth,h.p0,h.p1⟩
theorem GW.later (h:GW B w0 w q m1 m2 m4 g p t0 n0 P L pa pc la lc wr)(hb:Below wr.heap.size wr w'):GW B w0 w q m1 m2 m4 g p t0 n0 P L pa pc la lc w':=by
 obtain ⟨V,E,hv⟩:=h.hg
 exact h.given ⟨⟨V,E,hv.later hb⟩,Oth.ofBelow hb,hb.mono (Nat.le_trans h.Bw h.sz)⟩
theorem GW.prod {x:PV}{a':Option Addr}{n' c':Nat}(h:GW B w0 w q m1 m2 m4 g p t0 n0 P L pa pc la lc wr)(hy:PY w' (.slice a' n' c') (P++[x]))(hG:Grew wr w' (.slice pa P.length pc) (.slice a' n' c'))(hx:∃ b,RaC x b/\YB wr b x.right) :
  GW B w0 w q m1 m2 m4 g p t0 n0 (P++[x]) L a' c' la lc (w'.setCell ⟨p,3,none⟩ (.slice a' n' c')):=by
 obtain ⟨V,E,hv⟩:=h.hg
 obtain ⟨hb,hlo⟩:=grew_belowB h.sz h.plo hG
 have hn:n'=(P++[x]).length:=by obtain ⟨a2,c2,e⟩:=PY.len hy;simp only [Value.slice.injEq] at e;exact e.2.1
 subst hn
 have kb:∀ (k:Nat) (C:Array Value) (t:TypeId),wr.heap[k]?=some (.cells C t (0,0))->t≠116->w'.heap[k]?=wr.heap[k]?:=fun k C t hk ht=>hG.grown.block k (lt_of_block hk) (py_ne h.py hk ht)
 have hout:=(kb _ _ _ h.out (by decide)).trans h.out
 have kp:∀ (k:Nat) (C:Array Value) (t:TypeId),wr.heap[k]?=some (.cells C t (0,0))->t≠116->t≠63->(w'.setCell ⟨p,3,none⟩ (.slice a' (P++[x]).length c')).heap[k]?=wr.heap[k]?:=fun k C t hk ht hg'=>by
  have e:=kb k C t hk ht
  rw [Below.heap_setCell _ _ _ _ (fun e2=>by subst e2;rw [h.out] at hk;simp at hk;exact hg' hk.2.symm)]
  exact e
 have hs:wr.heap.size<=(w'.setCell ⟨p,3,none⟩ (.slice a' (P++[x]).length c')).heap.size:=by have:=hG.grown.size;simpa [World.setCell] using this
 have hbw:Below w.heap.size wr (w'.setCell ⟨p,3,none⟩ (.slice a' (P++[x]).length c')):=hb.setCell h.pB _
 have hbs:=hbw.mono h.Bw
 have hot:Oth w (w'.setCell ⟨p,3,none⟩ (.slice a' (P++[x]).length c')):=⟨Nat.le_trans h.sz hs,fun b C t hb ht=>(hbw.block b (lt_of_block hb)).trans (h.ot.blk b C t hb ht)⟩
 refine ⟨⟨V,E,hv.kept hs hbs fun k C t hk h1 _ h3=>kp k C t hk h1 h3⟩,?_,?_,?_,?_,?_,?_,hlo,?_,?_,h.llo,?_,h.bel.trans hbs,Nat.le_trans h.sz hs,h.Bw,h.pB,hot,h.p0,h.p1⟩
 ·rw [Below.heap_setCell _ _ _ _ h.p0];exact (kb _ _ _ h.box (by decide)).trans h.box
 ·rw [Below.heap_setCell _ _ _ _ h.p1];exact (kb _ _ _ h.res (by decide)).trans h.res
 ·exact hSt hout _ _
 ·obtain ⟨zs,z1,z2⟩:=h.tb;exact ⟨zs,(kp _ _ _ z1 (by decide) (by decide)).trans z1,z2⟩
 ·obtain ⟨zs,z1,z2⟩:=h.nb;exact ⟨zs,(kp _ _ _ z1 (by decide) (by decide)).trans z1,z2⟩
 ·exact row_kept hy fun k C _ hk=>Below.heap_setCell _ _ _ _ (fun e2=>by subst e2;rw [hout] at hk;simp at hk)
 ·intro y hy'
  rcases List.mem_append.1 hy' with r | r
  ·obtain ⟨b,e,zs,z1,z2⟩:=h.pe y r;exact ⟨b,e,zs,(kp _ _ _ z1 (by decide) (by decide)).trans z1,z2⟩
  ·simp at r;subst r
   obtain ⟨b,e,zs,z1,z2⟩:=hx;exact ⟨b,e,zs,(kp _ _ _ z1 (by decide) (by decide)).trans z1,z2⟩
 ·exact row_kept h.ly fun k C _ hk=>kp k C _ hk (by decide) (by decide)
 ·intro y hy'
  obtain ⟨b,e,zs,z1,z2⟩:=h.le y hy';exact ⟨b,e,zs,(kp _ _ _ z1 (by decide) (by decide)).trans z1,z2⟩
theorem GW.lev {x:LV}{a':Option Addr}{n' c':Nat}(h:GW B w0 w q m1 m2 m4 g p t0 n0 P L pa pc la lc wr)(hy:LY w' (.slice a' n' c') (L++[x]))(hG:Grew wr w' (.slice la L.length lc) (.slice a' n' c'))(hx:∃ b,x.ta=some ⟨b,0,none⟩/\NB wr b x.terms) :
  GW B w0 w q m1 m2 m4 g p t0 n0 P (L++[x]) pa pc a' c' (w'.setCell ⟨p,4,none⟩ (.slice a' n' c')):=by
 obtain ⟨V,E,hv⟩:=h.hg
 obtain ⟨hb,hlo⟩:=grew_belowB h.sz h.llo hG
 have hn:n'=(L++[x]).length:=by obtain ⟨a2,c2,e⟩:=LY.len hy;simp only [Value.slice.injEq] at e;exact e.2.1
 subst hn
 have kb:∀ (k:Nat) (C:Array Value) (t:TypeId),wr.heap[k]?=some (.cells C t (0,0))->t≠120->w'.heap[k]?=wr.heap[k]?:=fun k C t hk ht=>hG.grown.block k (lt_of_block hk) (ly_ne h.ly hk ht)
 have hout:=(kb _ _ _ h.out (by decide)).trans h.out
 have kp:∀ (k:Nat) (C:Array Value) (t:TypeId),wr.heap[k]?=some (.cells C t (0,0))->t≠120->t≠63->(w'.setCell ⟨p,4,none⟩ (.slice a' (L++[x]).length c')).heap[k]?=wr.heap[k]?:=fun k C t hk ht hg'=>by
  have e:=kb k C t hk ht
  rw [Below.heap_setCell _ _ _ _ (fun e2=>by subst e2;rw [h.out] at hk;simp at hk;exact hg' hk.2.symm)]
  exact e
 have hs:wr.heap.size<=(w'.setCell ⟨p,4,none⟩ (.slice a' (L++[x]).length c')).heap.size:=by have:=hG.grown.size;simpa [World.setCell] using this
 have hbw:Below w.heap.size wr (w'.setCell ⟨p,4,none⟩ (.slice a' (L++[x]).length c')):=hb.setCell h.pB _
 have hbs:=hbw.mono h.Bw
 have hot:Oth w (w'.setCell ⟨p,4,none⟩ (.slice a' (L++[x]).length c')):=⟨Nat.le_trans h.sz hs,fun b C t hb ht=>(hbw.block b (lt_of_block hb)).trans (h.ot.blk b C t hb ht)⟩
 refine ⟨⟨V,E,hv.kept hs hbs fun k C t hk _ h2 h3=>kp k C t hk h2 h3⟩,?_,?_,?_,?_,?_,?_,h.plo,?_,?_,hlo,?_,h.bel.trans hbs,Nat.le_trans h.sz hs,h.Bw,h.pB,hot,h.p0,h.p1⟩
 ·rw [Below.heap_setCell _ _ _ _ h.p0];exact (kb _ _ _ h.box (by decide)).trans h.box
 ·rw [Below.heap_setCell _ _ _ _ h.p1];exact (kb _ _ _ h.res (by decide)).trans h.res
 ·exact hSt hout _ _
 ·obtain ⟨zs,z1,z2⟩:=h.tb;exact ⟨zs,(kp _ _ _ z1 (by decide) (by decide)).trans z1,z2⟩
 ·obtain ⟨zs,z1,z2⟩:=h.nb;exact ⟨zs,(kp _ _ _ z1 (by decide) (by decide)).trans z1,z2⟩
 ·exact row_kept h.py fun k C _ hk=>kp k C _ hk (by decide) (by decide)
 ·intro y hy'
  obtain ⟨b,e,zs,z1,z2⟩:=h.pe y hy';exact ⟨b,e,zs,(kp _ _ _ z1 (by decide) (by decide)).trans z1,z2⟩
 ·exact row_kept hy fun k C _ hk=>Below.heap_setCell _ _ _ _ (fun e2=>by subst e2;rw [hout] at hk;simp at hk)
 ·intro y hy'
  rcases List.mem_append.1 hy' with r | r
  ·obtain ⟨b,e,zs,z1,z2⟩:=h.le y r;exact ⟨b,e,zs,(kp _ _ _ z1 (by decide) (by decide)).trans z1,z2⟩
  ·simp at r;subst r
   obtain ⟨b,e,zs,z1,z2⟩:=hx;exact ⟨b,e,zs,(kp _ _ _ z1 (by decide) (by decide)).trans z1,z2⟩
theorem GW.app {x:PV}{o:Obj}(h:GW B w0 w q m1 m2 m4 g p t0 n0 P L pa pc la lc wr)(hx:∃ b,RaC x b/\YB wr b x.right)(a':Option Addr)(n' c':Nat)(w4:World)(hy:PY w4 (.slice a' n' c') (P++[x]))(hG:Grew (wr.alloc o) w4 (.slice pa P.length pc) (.slice a' n' c')) :
  w4.cell? ⟨p,3,none⟩=some (.slice pa P.length pc)/\w4.frozen? ⟨p,3,none⟩=false/\GW B w0 w q m1 m2 m4 g p t0 n0 (P++[x]) L a' c' la lc (w4.setCell ⟨p,3,none⟩ (.slice a' n' c'))/\Below B w w4/\w4.heap[w.heap.size]?=some (gBox g):=by
 have h3:=h.later (bAl wr o)
 have k4:w4.heap[p]?=some (oG g t0 n0 pa P.length pc la L.length lc):=(hG.grown.block _ (lt_of_block h3.out) (py_ne h3.py h3.out (by decide))).trans h3.out
 refine ⟨(cQa k4).trans rfl,by simp [World.frozen?,k4],h3.prod hy hG ?_,h3.bel.trans ((grew_belowB h3.sz h3.plo hG).1.mono h3.Bw),(hG.grown.block _ (lt_of_block h3.box) (py_ne h3.py h3.box (by decide))).trans h3.box⟩
 obtain ⟨b,e,y⟩:=hx
 exact ⟨b,e,y.oth (Oth.ofBelow (bAl wr o))⟩
theorem GW.appL {x:LV}{o:Obj}(h:GW B w0 w q m1 m2 m4 g p t0 n0 P L pa pc la lc wr)(hx:∃ b,x.ta=some ⟨b,0,none⟩/\NB wr b x.terms)(a':Option Addr)(n' c':Nat)(w4:World)(hy:LY w4 (.slice a' n' c') (L++[x]))(hG:Grew (wr.alloc o) w4 (.slice la L.length lc) (.slice a' n' c')) :
  w4.cell? ⟨p,4,none⟩=some (.slice la L.length lc)/\w4.frozen? ⟨p,4,none⟩=false/\GW B w0 w q m1 m2 m4 g p t0 n0 P (L++[x]) pa pc a' c' (w4.setCell ⟨p,4,none⟩ (.slice a' n' c'))/\Below B w w4/\w4.heap[w.heap.size]?=some (gBox g):=by
 have h3:=h.later (bAl wr o)
 have k4:w4.heap[p]?=some (oG g t0 n0 pa P.length pc la L.length lc):=(hG.grown.block _ (lt_of_block h3.out) (ly_ne h3.ly h3.out (by decide))).trans h3.out
 refine ⟨(cQa k4).trans rfl,by simp [World.frozen?,k4],h3.lev hy hG ?_,h3.bel.trans ((grew_belowB h3.sz h3.llo hG).1.mono h3.Bw),(hG.grown.block _ (lt_of_block h3.box) (ly_ne h3.ly h3.box (by decide))).trans h3.box⟩
 obtain ⟨b,e,y⟩:=hx
 exact ⟨b,e,y.oth (Oth.ofBelow (bAl wr o))⟩
theorem new_cells3 (w:World)(a b c:Value)(t:TypeId):∀ j u,[a,b,c][j]?=some u->(w.alloc (.cells #[a,b,c] t)).cell? ⟨w.heap.size,j,none⟩=some u:=fun j u hu=>by
 rw [cQa (heap_alloc_new w _)]
 simpa using hu
theorem new_cells2 (w:World)(a b:Value)(t:TypeId):∀ j u,[a,b][j]?=some u->(w.alloc (.cells #[a,b] t)).cell? ⟨w.heap.size,j,none⟩=some u:=fun j u hu=>by
 rw [cQa (heap_alloc_new w _)]
 simpa using hu
end
end Go.Proofs.YteciabdjkaackaaGreat
