import Derived.Test.YtlfiohdhcmmjbaaGreatDoorPSGiven0ToHInt
import Derived.Test.YtlfiohdhcmmjbaaGreatDoorPPlainToGDec14
import Derived.Test.YtlfiohdhcmmjbaaGreatDoorPRegXToFThy2
namespace Go.Proofs.YtlfiohdhcmmjbaaGreatDoor
set_option linter.unusedVariables false
set_option maxRecDepth 100000
set_option maxHeartbeats 16000000
open Go.RowKit
def tyG:Nat->TypeId:=fun i=>if i < 2 then 89 else if i < 4 then 41 else if i < 6 then 22 else if i < 8 then 83 else 47
def OkT (t:TypeId):Prop:=t≠39/\t≠89/\t≠41/\t≠22/\t≠83/\t≠47
theorem OkT.ty {t:TypeId}(h:OkT t):t≠39/\∀ i,t≠tyG i:=⟨h.1,fun i=>by
 unfold tyG
 split
 ·exact h.2.1
 ·split
  ·exact h.2.2.1
  ·split
   ·exact h.2.2.2.1
   ·split
    ·exact h.2.2.2.2.1
    ·exact h.2.2.2.2.2⟩
theorem tyG_q:∀ i,39≠tyG i:=fun i=>by
 unfold tyG
 split
 ·decide
 ·split
  ·decide
  ·split
   ·decide
   ·split<;>decide
theorem okT_int:OkT 3:=by unfold OkT;decide
theorem okT_str:OkT 9:=by unfold OkT;decide
theorem okT_sym:OkT 54:=by unfold OkT;decide
theorem okT_prod:OkT 71:=by unfold OkT;decide
theorem okT_lev:OkT 78:=by unfold OkT;decide
theorem okT_gram:OkT 26:=by unfold OkT;decide
structure Oth (w w':World):Prop where
 size:w.heap.size<=w'.heap.size
 blk:∀ (b:Nat) (C:Array Value) (t:TypeId),w.heap[b]?=some (.cells C t (0,0))->OkT t->w'.heap[b]?=w.heap[b]?
theorem Oth.trans {w w1 w2:World}(h:Oth w w1)(k:Oth w1 w2):Oth w w2:=⟨Nat.le_trans h.size k.size,fun b C t hb ht=>(k.blk b C t ((h.blk b C t hb ht).trans hb) ht).trans (h.blk b C t hb ht)⟩
theorem Oth.ofBelow {w w':World}(h:Below w.heap.size w w'):Oth w w':=⟨h.size,fun b _ _ hb _=>h.block b (lt_of_block hb)⟩
def TB (w:World)(g:Nat)(xs:List ByteArray):Prop:=∃ zs:List ByteArray,w.heap[g]?=some (.cells (zs.map Value.string).toArray 9 (0,0))/\zs.take xs.length=xs
def YB (w:World)(g:Nat)(xs:List (Int×Int)):Prop:=∃ zs:List (Int×Int),w.heap[g]?=some (.cells (sCl zs).toArray 54 (0,0))/\zs.take xs.length=xs
def NB (w:World)(g:Nat)(xs:List Int):Prop:=∃ zs:List Int,w.heap[g]?=some (.cells (zs.map (Value.int .i64 ·)).toArray 3 (0,0))/\zs.take xs.length=xs
theorem TB.oth {w w':World}{g:Nat}{xs:List ByteArray}(h:TB w g xs)(ho:Oth w w'):TB w' g xs:=by obtain ⟨zs,h1,h2⟩:=h;exact ⟨zs,(ho.blk _ _ _ h1 okT_str).trans h1,h2⟩
theorem YB.oth {w w':World}{g:Nat}{xs:List (Int×Int)}(h:YB w g xs)(ho:Oth w w'):YB w' g xs:=by obtain ⟨zs,h1,h2⟩:=h;exact ⟨zs,(ho.blk _ _ _ h1 okT_sym).trans h1,h2⟩
theorem NB.oth {w w':World}{g:Nat}{xs:List Int}(h:NB w g xs)(ho:Oth w w'):NB w' g xs:=by obtain ⟨zs,h1,h2⟩:=h;exact ⟨zs,(ho.blk _ _ _ h1 okT_int).trans h1,h2⟩
theorem take_getD {α:Type}{zs xs:List α}{d:α}(h:zs.take xs.length=xs){i:Nat}(hi:i < xs.length):i < zs.length/\xs.getD i d=zs.getD i d:=by
 have hz:i < zs.length:=by have:=congrArg List.length h;simp at this;omega
 refine ⟨hz,?_⟩
 rw [<- h]
 simp [List.getD,hi]
theorem TB.row {w:World}{g:Nat}{xs:List ByteArray}(h:TB w g xs):StrRow w (some ⟨g,0,none⟩) xs:=by
 obtain ⟨zs,h1,h2⟩:=h
 refine fun _=>⟨g,0,rfl,lt_of_block h1,fun i hi=>?_⟩
 obtain ⟨hz,e⟩:=take_getD (d:=ByteArray.empty) h2 hi
 rw [Nat.zero_add,cQa h1,e]
 simp [List.getD,hz]
theorem NB.row {w:World}{g:Nat}{xs:List Int}(h:NB w g xs):InRow w (some ⟨g,0,none⟩) xs:=by
 obtain ⟨zs,h1,h2⟩:=h
 refine fun _=>⟨g,0,rfl,lt_of_block h1,fun i hi=>?_⟩
 obtain ⟨hz,e⟩:=take_getD (d:=(0:Int)) h2 hi
 rw [Nat.zero_add,cQa h1,e]
 simp [List.getD,hz]
theorem YB.row {w:World}{g:Nat}{xs:List (Int×Int)}(h:YB w g xs):SymRow w (some ⟨g,0,none⟩) xs:=by
 obtain ⟨zs,h1,h2⟩:=h
 exact FullS.rowTake ⟨h1⟩ h2
structure StG (E:Nat->List HE):Prop where
 int:∀ e∈E 1,e.t=3/\e.sz=1/\∃ zs:List Int,e.cs=zs.map (Value.int .i64 ·)
 str:∀ e∈E 2,e.t=9/\e.sz=1/\∃ zs:List ByteArray,e.cs=zs.map Value.string
 sym:∀ e∈E 4,e.t=54/\e.sz=2/\∃ zs:List (Int×Int),e.cs=sCl zs
 no:∀ κ,κ≠1->κ≠2->κ≠4->E κ=[]
structure HG (B:Nat)(w0 w:World)(q:Nat)(V:Nat->Value)(E:Nat->List HE)(n1 n2 n4:Nat):Prop where
 inv:HInv w q V tyG E
 lo:∀ i k,(V i).ownBlock=some k->B<=k
 q:B<=q
 bel:Below B w0 w
 sz:B<=w.heap.size
 st:StG E
 l1:(E 1).length=n1
 l2:(E 2).length=n2
 l4:(E 4).length=n4
section
variable {B:Nat} {w0 w w':World} {q:Nat} {V:Nat->Value} {E:Nat->List HE} {n1 n2 n4:Nat}
theorem HG.later (h:HG B w0 w q V E n1 n2 n4)(hb:Below w.heap.size w w'):HG B w0 w' q V E n1 n2 n4:=⟨h.inv.later hb,h.lo,h.q,h.bel.trans (hb.mono h.sz),Nat.le_trans h.sz hb.size,h.st,h.l1,h.l2,h.l4⟩
theorem HG.kept (h:HG B w0 w q V E n1 n2 n4)(hs:w.heap.size<=w'.heap.size)(hb:Below B w w')(hk:∀ (k:Nat) (C:Array Value) (t:TypeId),w.heap[k]?=some (.cells C t (0,0))->t≠71->t≠78->t≠26->w'.heap[k]?=w.heap[k]?):HG B w0 w' q V E n1 n2 n4:=by
 have ent:∀ κ,∀ e∈E κ,e.t≠71/\e.t≠78/\e.t≠26:=fun κ e he=>by
  by_cases k1:κ=1
  ·subst k1;rw [(h.st.int e he).1];decide
  by_cases k2:κ=2
  ·subst k2;rw [(h.st.str e he).1];decide
  by_cases k4:κ=4
  ·subst k4;rw [(h.st.sym e he).1];decide
  rw [h.st.no κ k1 k2 k4] at he;cases he
 have tyn:∀ i,tyG i≠71/\tyG i≠78/\tyG i≠26:=fun i=>by
  unfold tyG
  split
  ·decide
  ·split
   ·decide
   ·split
    ·decide
    ·split<;>decide
 refine ⟨⟨(hk _ _ _ h.inv.hq (by decide) (by decide) (by decide)).trans h.inv.hq,fun i=>?_,h.inv.apart,fun κ e he=>(h.inv.at_ κ e he).keptBy fun k C hC=>hk k C _ hC (ent κ e he).1 (ent κ e he).2.1 (ent κ e he).2.2,h.inv.tq,h.inv.te⟩,h.lo,h.q,h.bel.trans hb,Nat.le_trans h.sz hs,h.st,h.l1,h.l2,h.l4⟩
 exact row_kept (h.inv.row i) fun k C _ hC=>hk k C _ hC (tyn i).1 (tyn i).2.1 (tyn i).2.2
theorem hg_oth {V':Nat->Value}(h:HInv w q V tyG E)(hf:HF w w' q V V'):Oth w w':=⟨hf.size,fun b C t hb ht=>h.other hf hb ht.ty⟩
theorem upd_same (E:Nat->List HE)(κ:Nat)(x:HE):updE E κ x κ=E κ++[x]:=by simp [updE]
theorem upd_other (E:Nat->List HE){κ j:Nat}(x:HE)(h:j≠κ):updE E κ x j=E j:=by simp [updE,h]
theorem lo_then {V':Nat->Value}(hf:HF w w' q V V')(hs:B<=w.heap.size)(hl:∀ i k,(V i).ownBlock=some k->B<=k):∀ i k,(V' i).ownBlock=some k->B<=k:=fun i k hk=>by
 rcases hf.mv i k hk with r | r
 ·exact hl i k r
 ·omega
structure HGOut (B:Nat)(w0 w w':World)(q:Nat)(n1 n2 n4:Nat):Prop where
 ex:∃ V' E',HG B w0 w' q V' E' n1 n2 n4
 oth:Oth w w'
 bel:Below B w w'
theorem hg_str (h:HG B w0 w q V E n1 n2 n4)(hE:n2<=4900000000000)(ao:Option Addr)(cap:Nat)(xs:List ByteArray)(hl:xs.length<=8796093022000)(hsz:∀ s∈xs,s.size<=maxLen)(hr:StrRow w ao xs) :
  Calls Tryz.prog 29 #[.pointer (some ⟨q,0,none⟩),.slice ao xs.length cap] w fun e w'=>e=.returned (.slice (some ⟨w.heap.size,0,none⟩) xs.length (xs.length+3))/\HGOut B w0 w w' q n1 (n2+1) n4/\TB w' w.heap.size xs:=by
 refine (hstrings q V tyG E ao _ cap xs w rfl (by omega) hsz hr h.inv (by have:=h.l2;omega) rfl rfl okT_str.ty).mono ?_
 rintro e w' ⟨rfl,V',x,hI,hg,ht,hz,⟨zs,hc,hk⟩,hf⟩
 have hb:=hf.below h.sz h.q h.lo
 refine ⟨rfl,⟨⟨V',updE E 2 x,hI,lo_then hf h.sz h.lo,h.q,h.bel.trans hb,Nat.le_trans h.sz hf.size,⟨fun e he=>?_,fun e he=>?_,fun e he=>?_,fun κ k1 k2 k4=>?_⟩,by rw [upd_other _ _ (by decide)];exact h.l1,by rw [upd_same];simp [h.l2],by rw [upd_other _ _ (by decide)];exact h.l4⟩,hg_oth h.inv hf,hb⟩,?_⟩
 ·rw [upd_other _ _ (by decide)] at he;exact h.st.int e he
 ·rw [upd_same] at he
  rcases List.mem_append.1 he with r | r
  ·exact h.st.str e r
  ·simp at r;subst r;exact ⟨ht,hz,zs,hc⟩
 ·rw [upd_other _ _ (by decide)] at he;exact h.st.sym e he
 ·rw [upd_other _ _ k2];exact h.st.no κ k1 k2 k4
 ·have ha:=(hI.at_ 2 x (by rw [upd_same];simp)).hg
  rw [hc,ht,hg] at ha
  exact ⟨zs,ha,hk⟩
theorem hg_sym (h:HG B w0 w q V E n1 n2 n4)(hE:n4<=4900000000000)(ao:Option Addr)(cap:Nat)(xs:List (Int×Int))(hl:xs.length<=8796093022000)(hr:SymRow w ao xs) :
  Calls Tryz.prog 30 #[.pointer (some ⟨q,0,none⟩),.slice ao xs.length cap] w fun e w'=>e=.returned (.slice (some ⟨w.heap.size,0,none⟩) xs.length (xs.length+3))/\HGOut B w0 w w' q n1 n2 (n4+1)/\YB w' w.heap.size xs:=by
 refine (hsyms q V tyG E ao _ cap xs w rfl (by omega) hr h.inv (by have:=h.l4;omega) rfl rfl okT_sym.ty).mono ?_
 rintro e w' ⟨rfl,V',x,hI,hg,ht,hz,⟨zs,hc,hk⟩,hf⟩
 have hb:=hf.below h.sz h.q h.lo
 refine ⟨rfl,⟨⟨V',updE E 4 x,hI,lo_then hf h.sz h.lo,h.q,h.bel.trans hb,Nat.le_trans h.sz hf.size,⟨fun e he=>?_,fun e he=>?_,fun e he=>?_,fun κ k1 k2 k4=>?_⟩,by rw [upd_other _ _ (by decide)];exact h.l1,by rw [upd_other _ _ (by decide)];exact h.l2,by rw [upd_same];simp [h.l4]⟩,hg_oth h.inv hf,hb⟩,?_⟩
 ·rw [upd_other _ _ (by decide)] at he;exact h.st.int e he
 ·rw [upd_other _ _ (by decide)] at he;exact h.st.str e he
 ·rw [upd_same] at he
  rcases List.mem_append.1 he with r | r
  ·exact h.st.sym e r
  ·simp at r;subst r;exact ⟨ht,hz,zs,hc⟩
 ·rw [upd_other _ _ k4];exact h.st.no κ k1 k2 k4
 ·have ha:=(hI.at_ 4 x (by rw [upd_same];simp)).hg
  rw [hc,ht,hg] at ha
  exact ⟨zs,ha,hk⟩
theorem hg_intF (h:HG B w0 w q V E n1 n2 n4)(hE:n1<=4900000000000)(ao:Option Addr)(cap:Nat)(xs:List Int)(hl:xs.length<=17592186044000)(hr:InRow w ao xs) :
  Calls Tryz.prog 31 #[.pointer (some ⟨q,0,none⟩),.slice ao xs.length cap] w fun e w'=>e=.returned (.slice (some ⟨w.heap.size,0,none⟩) xs.length (xs.length+3))/\(∃ V' E',HG B w0 w' q V' E' (n1+1) n2 n4/\HF w w' q V V')/\Oth w w'/\Below B w w'/\NB w' w.heap.size xs:=by
 refine (hints q V tyG E ao _ cap xs w rfl (by omega) hr h.inv (by have:=h.l1;omega) rfl rfl okT_int.ty).mono ?_
 rintro e w' ⟨rfl,V',x,hI,hg,ht,hz,⟨zs,hc,hk⟩,hf⟩
 have hb:=hf.below h.sz h.q h.lo
 refine ⟨rfl,⟨V',updE E 1 x,⟨hI,lo_then hf h.sz h.lo,h.q,h.bel.trans hb,Nat.le_trans h.sz hf.size,⟨fun e he=>?_,fun e he=>?_,fun e he=>?_,fun κ k1 k2 k4=>?_⟩,by rw [upd_same];simp [h.l1],by rw [upd_other _ _ (by decide)];exact h.l2,by rw [upd_other _ _ (by decide)];exact h.l4⟩,hf⟩,hg_oth h.inv hf,hb,?_⟩
 ·rw [upd_same] at he
  rcases List.mem_append.1 he with r | r
  ·exact h.st.int e r
  ·simp at r;subst r;exact ⟨ht,hz,zs,hc⟩
 ·rw [upd_other _ _ (by decide)] at he;exact h.st.str e he
 ·rw [upd_other _ _ (by decide)] at he;exact h.st.sym e he
 ·rw [upd_other _ _ k1];exact h.st.no κ k1 k2 k4
 ·have ha:=(hI.at_ 1 x (by rw [upd_same];simp)).hg
  rw [hc,ht,hg] at ha
  exact ⟨zs,ha,hk⟩
theorem hg_int (h:HG B w0 w q V E n1 n2 n4)(hE:n1<=4900000000000)(ao:Option Addr)(cap:Nat)(xs:List Int)(hl:xs.length<=17592186044000)(hr:InRow w ao xs) :
  Calls Tryz.prog 31 #[.pointer (some ⟨q,0,none⟩),.slice ao xs.length cap] w fun e w'=>e=.returned (.slice (some ⟨w.heap.size,0,none⟩) xs.length (xs.length+3))/\HGOut B w0 w w' q (n1+1) n2 n4/\NB w' w.heap.size xs :=
 (hg_intF h hE ao cap xs hl hr).mono fun _ _ ⟨e1,⟨V',E',k,_⟩,o,hb,nb⟩=>⟨e1,⟨⟨V',E',k⟩,o,hb⟩,nb⟩
end
theorem run_py_append (w:World)(ty:TypeId)(v:Value)(l:List PV)(h:PY w v l)(b c:Nat)(q:PV)(hy:∀ j u,[.int .i64 q.left,.slice q.ra q.right.length q.rc,.int .i64 q.prec][j]?=some u->w.cell? ⟨b,j,none⟩=some u)(hlen:l.length<=3518437208780) :
  ∃ a' n' c' w',(Builtin.append_ #[23,23] ty #[v,.slice (some ⟨b,0,none⟩) 1 c]).run Tryz.prog w=.ok (.slice a' n' c') w'/\PY w' (.slice a' n' c') (l++[q])/\Grew w w' v (.slice a' n' c'):=by
 obtain ⟨i0,hi,hz0,hz1,hz2⟩:=infoPro_parts
 obtain ⟨v',w',hrun,hown,hgrow,_,hmv⟩:=run_append_own_at (P:=Tryz.prog) (w:=w) 0 23 ty 71 i0 (.agg #[.int .i64 0,.slice none 0 0,.int .i64 0]) 3 40 Tryz.underlying23 hi hz0 hz1 hz2 rfl (by decide) v l.length (pCl l) h ⟨b,0,none⟩ 1 c [.int .i64 q.left,.slice q.ra q.right.length q.rc,.int .i64 q.prec] (by simp) (fun j u hu=>by rw [aNn,Nat.zero_add];exact hy j u hu) (fun u hu=>by simp at hu;rcases hu with rfl | rfl | rfl<;>rfl) (by unfold maxLen;omega) (by omega) (Nat.zero_le _)
 have h6:PY w' v' (l++[q]):=by
  unfold PY
  have e:pCl (l++[q])=pCl l++[.int .i64 q.left,.slice q.ra q.right.length q.rc,.int .i64 q.prec]:=by simp [pCl]
  rw [e]
  simpa using hown
 obtain ⟨a',c',rfl⟩:=PY.len h6
 exact ⟨_,_,_,w',hrun,h6,⟨hgrow,hmv.imp id fun e=>⟨_,e,Nat.le_refl _⟩⟩⟩
theorem step_py_append {ops:Array Oper}{o:Oper}{a:Act}{w:World}{K:Act->World->Prop}{Q:Exit->Act->World->Prop}{E:Prop}
  (hg:o.guard=none) (s x:Operand) (hop:o.op=Op.call { callee:=Callee.builtin Builtin.append,args:=#[s,x],argTypes:=#[23,23] })
  (v:Value) (l:List PV) (hs:a.eval s=v) (h:PY w v l) (b c:Nat) (q:PV) (hx:a.eval x=.slice (some ⟨b,0,none⟩) 1 c) (hy:∀ j u,[.int .i64 q.left,.slice q.ra q.right.length q.rc,.int .i64 q.prec][j]?=some u->w.cell? ⟨b,j,none⟩=some u) (hlen:l.length<=3518437208780)
  (hK:∀ a' n' c' w',PY w' (.slice a' n' c') (l++[q])->Grew w w' v (.slice a' n' c')->K (a.put o.dst (.slice a' n' c')) w') :
  if Region.wanted o (yielded ops a.tmps)=true then Oper.wp Tryz.prog o a w K Q else E:=by
 have hw:Region.wanted o (yielded ops a.tmps)=true:=by simp [Region.wanted,hg]
 rw [if_pos hw]
 obtain ⟨a',n',c',w',hrun,r1,r2⟩:=run_py_append w o.type v l h b c q hy hlen
 unfold Oper.wp
 simp [execOp,hop,resolve,invoke,builtin,hs,hx,hrun,Result.andThen]
 exact hK a' n' c' w' r1 r2
theorem run_ly_append (w:World)(ty:TypeId)(v:Value)(l:List LV)(h:LY w v l)(b c:Nat)(q:LV)(hy:∀ j u,[.int .i64 q.assoc,.slice q.ta q.terms.length q.tc][j]?=some u->w.cell? ⟨b,j,none⟩=some u)(hlen:l.length<=4398046510976) :
  ∃ a' n' c' w',(Builtin.append_ #[24,24] ty #[v,.slice (some ⟨b,0,none⟩) 1 c]).run Tryz.prog w=.ok (.slice a' n' c') w'/\LY w' (.slice a' n' c') (l++[q])/\Grew w w' v (.slice a' n' c'):=by
 obtain ⟨i0,hi,hz0,hz1,hz2⟩:=infoLev_parts
 obtain ⟨v',w',hrun,hown,hgrow,_,hmv⟩:=run_append_own_at (P:=Tryz.prog) (w:=w) 0 24 ty 78 i0 (.agg #[.int .i64 0,.slice none 0 0]) 2 32 Tryz.underlying24 hi hz0 hz1 hz2 rfl (by decide) v l.length (levCells l) h ⟨b,0,none⟩ 1 c [.int .i64 q.assoc,.slice q.ta q.terms.length q.tc] (by simp) (fun j u hu=>by rw [aNn,Nat.zero_add];exact hy j u hu) (fun u hu=>by simp at hu;rcases hu with rfl | rfl<;>rfl) (by unfold maxLen;omega) (by omega) (Nat.zero_le _)
 have h6:LY w' v' (l++[q]):=by
  unfold LY
  have e:levCells (l++[q])=levCells l++[.int .i64 q.assoc,.slice q.ta q.terms.length q.tc]:=by simp [levCells]
  rw [e]
  simpa using hown
 obtain ⟨a',c',rfl⟩:=LY.len h6
 exact ⟨_,_,_,w',hrun,h6,⟨hgrow,hmv.imp id fun e=>⟨_,e,Nat.le_refl _⟩⟩⟩
theorem step_ly_append {ops:Array Oper}{o:Oper}{a:Act}{w:World}{K:Act->World->Prop}{Q:Exit->Act->World->Prop}{E:Prop}
  (hg:o.guard=none) (s x:Operand) (hop:o.op=Op.call { callee:=Callee.builtin Builtin.append,args:=#[s,x],argTypes:=#[24,24] })
  (v:Value) (l:List LV) (hs:a.eval s=v) (h:LY w v l) (b c:Nat) (q:LV) (hx:a.eval x=.slice (some ⟨b,0,none⟩) 1 c) (hy:∀ j u,[.int .i64 q.assoc,.slice q.ta q.terms.length q.tc][j]?=some u->w.cell? ⟨b,j,none⟩=some u) (hlen:l.length<=4398046510976)
  (hK:∀ a' n' c' w',LY w' (.slice a' n' c') (l++[q])->Grew w w' v (.slice a' n' c')->K (a.put o.dst (.slice a' n' c')) w') :
  if Region.wanted o (yielded ops a.tmps)=true then Oper.wp Tryz.prog o a w K Q else E:=by
 have hw:Region.wanted o (yielded ops a.tmps)=true:=by simp [Region.wanted,hg]
 rw [if_pos hw]
 obtain ⟨a',n',c',w',hrun,r1,r2⟩:=run_ly_append w o.type v l h b c q hy hlen
 unfold Oper.wp
 simp [execOp,hop,resolve,invoke,builtin,hs,hx,hrun,Result.andThen]
 exact hK a' n' c' w' r1 r2
theorem PY.oth {w w':World}{v:Value}{l:List PV}(h:PY w v l)(ho:Oth w w'):PY w' v l:=row_kept h fun k C _ hC=>ho.blk k C _ hC okT_prod
theorem LY.oth {w w':World}{v:Value}{l:List LV}(h:LY w v l)(ho:Oth w w'):LY w' v l:=row_kept h fun k C _ hC=>ho.blk k C _ hC okT_lev
theorem run_syms {o:Oper}{a:Act}{t0 t1:TypeId}{v0 v1:Value}{x0 x1:Operand}(hop:o.op=Op.call { callee:=Callee.value (Operand.func 30),args:=#[x0,x1],argTypes:=#[t0,t1] })(h0:a.eval x0=v0)(h1:a.eval x1=v1)(w:World):(execOp a.eval o).run Tryz.prog w=.ok (.enter 30 #[v0,v1]) w:=by
 have hf:a.eval (Operand.func 30)=.func (.func 30) #[] #[]:=rfl
 simp [execOp,hop,resolve,invoke,h0,h1,hf,Deferred.ofValue]
theorem run_ints {o:Oper}{a:Act}{t0 t1:TypeId}{v0 v1:Value}{x0 x1:Operand}(hop:o.op=Op.call { callee:=Callee.value (Operand.func 31),args:=#[x0,x1],argTypes:=#[t0,t1] })(h0:a.eval x0=v0)(h1:a.eval x1=v1)(w:World):(execOp a.eval o).run Tryz.prog w=.ok (.enter 31 #[v0,v1]) w:=by
 have hf:a.eval (Operand.func 31)=.func (.func 31) #[] #[]:=rfl
 simp [execOp,hop,resolve,invoke,h0,h1,hf,Deferred.ofValue]
abbrev zG:Obj:=.cells #[.slice none 0 0,.slice none 0 0,.int .i64 0,.slice none 0 0,.slice none 0 0] 26
abbrev oG (g:GV)(t0 n0:Nat)(pa:Option Addr)(pn pc:Nat)(la:Option Addr)(ln lc:Nat):Obj:=.cells #[.slice (some ⟨t0,0,none⟩) g.ts.length (g.ts.length+3),.slice (some ⟨n0,0,none⟩) g.ns.length (g.ns.length+3),.int .i64 g.start,.slice pa pn pc,.slice la ln lc] 26
def RaC (x:PV)(b:Nat):Prop:=x.ra=some ⟨b,0,none⟩/\x.right.length<=x.rc
structure GW (B:Nat)(w0 w:World)(q m1 m2 m4:Nat)(g:GV)(p t0 n0:Nat)(P:List PV)(L:List LV)(pa:Option Addr)(pc:Nat)(la:Option Addr)(lc:Nat)(wr:World):Prop where
 hg:∃ V E,HG B w0 wr q V E m1 m2 m4
 box:wr.heap[w.heap.size]?=some (gBox g)
 res:wr.heap[w.heap.size+1]?=some zG
 out:wr.heap[p]?=some (oG g t0 n0 pa P.length pc la L.length lc)
 tb:TB wr t0 g.ts
 nb:TB wr n0 g.ns
 py:PY wr (.slice pa P.length pc) P
 plo:∀ k,(Value.slice pa P.length pc).ownBlock=some k->w.heap.size<=k
 pe:∀ x∈P,∃ b,RaC x b/\YB wr b x.right
 ly:LY wr (.slice la L.length lc) L
 llo:∀ k,(Value.slice la L.length lc).ownBlock=some k->w.heap.size<=k
 le:∀ x∈L,∃ b,x.ta=some ⟨b,0,none⟩/\NB wr b x.terms
 bel:Below B w wr
 sz:w.heap.size<=wr.heap.size
 Bw:B<=w.heap.size
 pB:w.heap.size<=p
 ot:Oth w wr
 p0:w.heap.size≠p
 p1:w.heap.size+1≠p
theorem py_ne {w:World}{v:Value}{l:List PV}(h:PY w v l){b:Nat}{C:Array Value}{t:TypeId}{fz:Nat×Nat}(hb:w.heap[b]?=some (.cells C t fz))(ht:t≠71):some b≠v.ownBlock:=by
 rcases h.2 with ⟨rfl,_⟩ | ⟨g,cap,cur,rfl,h1,h2,h3⟩
 ·simp [Value.ownBlock]
 ·intro e
  simp only [Value.ownBlock,Option.some.injEq] at e
  subst e
  rw [h2] at hb
  simp at hb
  exact ht hb.2.1.symm
theorem ly_ne {w:World}{v:Value}{l:List LV}(h:LY w v l){b:Nat}{C:Array Value}{t:TypeId}{fz:Nat×Nat}(hb:w.heap[b]?=some (.cells C t fz))(ht:t≠78):some b≠v.ownBlock:=by
 rcases h.2 with ⟨rfl,_⟩ | ⟨g,cap,cur,rfl,h1,h2,h3⟩
 ·simp [Value.ownBlock]
 ·intro e
  simp only [Value.ownBlock,Option.some.injEq] at e
  subst e
  rw [h2] at hb
  simp at hb
  exact ht hb.2.1.symm
theorem grew_belowB {B:Nat}{w w':World}{v v':Value}(hB:B<=w.heap.size)(hv:∀ k,v.ownBlock=some k->B<=k)(g:Grew w w' v v'):Below B w w'/\∀ k,v'.ownBlock=some k->B<=k:=by
 refine ⟨⟨g.grown.os,g.grown.tape,g.grown.output,g.grown.size,fun k hk=>g.grown.block k (by omega) (fun e=>by have:=hv k e.symm;omega)⟩,fun k hk=>?_⟩
 rcases g.moved with r | ⟨m,r,hm⟩
 ·exact hv k (r ▸ hk)
 ·rw [hk] at r;have:=Option.some.inj r;omega
section
variable {B:Nat} {w0 w:World} {q m1 m2 m4:Nat} {g:GV} {p t0 n0:Nat} {P:List PV} {L:List LV} {pa:Option Addr} {pc:Nat} {la:Option Addr} {lc:Nat} {wr w':World}
theorem GW.given {k1 k2 k4:Nat}(h:GW B w0 w q m1 m2 m4 g p t0 n0 P L pa pc la lc wr)(o:HGOut B w0 wr w' q k1 k2 k4):GW B w0 w q k1 k2 k4 g p t0 n0 P L pa pc la lc w' :=
 ⟨o.ex,(o.oth.blk _ _ _ h.box okT_gram).trans h.box,(o.oth.blk _ _ _ h.res okT_gram).trans h.res,(o.oth.blk _ _ _ h.out okT_gram).trans h.out,h.tb.oth o.oth,h.nb.oth o.oth,h.py.oth o.oth,h.plo,fun x hx=>by obtain ⟨b,e,y⟩:=h.pe x hx;exact ⟨b,e,y.oth o.oth⟩,h.ly.oth o.oth,h.llo,fun x hx=>by obtain ⟨b,e,y⟩:=h.le x hx;exact ⟨b,e,y.oth o.oth⟩,h.bel.trans o.bel,Nat.le_trans h.sz o.oth.size,h.Bw,h.pB,h.ot.trans o.oth,h.p0,h.p1⟩
theorem GW.later (h:GW B w0 w q m1 m2 m4 g p t0 n0 P L pa pc la lc wr)(hb:Below wr.heap.size wr w'):GW B w0 w q m1 m2 m4 g p t0 n0 P L pa pc la lc w':=by
 obtain ⟨V,E,hv⟩:=h.hg
 exact h.given ⟨⟨V,E,hv.later hb⟩,Oth.ofBelow hb,hb.mono (Nat.le_trans h.Bw h.sz)⟩
theorem GW.prod {x:PV}{a':Option Addr}{n' c':Nat}(h:GW B w0 w q m1 m2 m4 g p t0 n0 P L pa pc la lc wr)(hy:PY w' (.slice a' n' c') (P++[x]))(hG:Grew wr w' (.slice pa P.length pc) (.slice a' n' c'))(hx:∃ b,RaC x b/\YB wr b x.right) :
  GW B w0 w q m1 m2 m4 g p t0 n0 (P++[x]) L a' c' la lc (w'.setCell ⟨p,3,none⟩ (.slice a' n' c')):=by
 obtain ⟨V,E,hv⟩:=h.hg
 obtain ⟨hb,hlo⟩:=grew_belowB h.sz h.plo hG
 have hn:n'=(P++[x]).length:=by obtain ⟨a2,c2,e⟩:=PY.len hy;simp only [Value.slice.injEq] at e;exact e.2.1
 subst hn
 have kb:∀ (k:Nat) (C:Array Value) (t:TypeId),wr.heap[k]?=some (.cells C t (0,0))->t≠71->w'.heap[k]?=wr.heap[k]?:=fun k C t hk ht=>hG.grown.block k (lt_of_block hk) (py_ne h.py hk ht)
 have hout:=(kb _ _ _ h.out (by decide)).trans h.out
 have kp:∀ (k:Nat) (C:Array Value) (t:TypeId),wr.heap[k]?=some (.cells C t (0,0))->t≠71->t≠26->(w'.setCell ⟨p,3,none⟩ (.slice a' (P++[x]).length c')).heap[k]?=wr.heap[k]?:=fun k C t hk ht hg'=>by
  have e:=kb k C t hk ht
  rw [Below.heap_setCell _ _ _ _ (fun e2=>by subst e2;rw [h.out] at hk;simp at hk;exact hg' hk.2.symm)]
  exact e
 have hs:wr.heap.size<=(w'.setCell ⟨p,3,none⟩ (.slice a' (P++[x]).length c')).heap.size:=by have:=hG.grown.size;simpa [World.setCell] using this
 have hbw:Below w.heap.size wr (w'.setCell ⟨p,3,none⟩ (.slice a' (P++[x]).length c')):=hb.setCell h.pB _
 have hbs:=hbw.mono h.Bw
 have hot:Oth w (w'.setCell ⟨p,3,none⟩ (.slice a' (P++[x]).length c')):=⟨Nat.le_trans h.sz hs,fun b C t hb ht=>(hbw.block b (lt_of_block hb)).trans (h.ot.blk b C t hb ht)⟩
 refine ⟨⟨V,E,hv.kept hs hbs fun k C t hk h1 _ h3=>kp k C t hk h1 h3⟩,?_,?_,?_,?_,?_,?_,hlo,?_,?_,h.llo,?_,h.bel.trans hbs,Nat.le_trans h.sz hs,h.Bw,h.pB,hot,h.p0,h.p1⟩
 ·rw [Below.heap_setCell _ _ _ _ h.p0];exact (kb _ _ _ h.box (by decide)).trans h.box
 ·rw [Below.heap_setCell _ _ _ _ h.p1];exact (kb _ _ _ h.res (by decide)).trans h.res
 ·exact hSt hout _ _
 ·obtain ⟨zs,z1,z2⟩:=h.tb;exact ⟨zs,(kp _ _ _ z1 (by decide) (by decide)).trans z1,z2⟩
 ·obtain ⟨zs,z1,z2⟩:=h.nb;exact ⟨zs,(kp _ _ _ z1 (by decide) (by decide)).trans z1,z2⟩
 ·exact row_kept hy fun k C _ hk=>Below.heap_setCell _ _ _ _ (fun e2=>by subst e2;rw [hout] at hk;simp at hk)
 ·intro y hy'
  rcases List.mem_append.1 hy' with r | r
  ·obtain ⟨b,e,zs,z1,z2⟩:=h.pe y r;exact ⟨b,e,zs,(kp _ _ _ z1 (by decide) (by decide)).trans z1,z2⟩
  ·simp at r;subst r
   obtain ⟨b,e,zs,z1,z2⟩:=hx;exact ⟨b,e,zs,(kp _ _ _ z1 (by decide) (by decide)).trans z1,z2⟩
 ·exact row_kept h.ly fun k C _ hk=>kp k C _ hk (by decide) (by decide)
 ·intro y hy'
  obtain ⟨b,e,zs,z1,z2⟩:=h.le y hy';exact ⟨b,e,zs,(kp _ _ _ z1 (by decide) (by decide)).trans z1,z2⟩
theorem GW.lev {x:LV}{a':Option Addr}{n' c':Nat}(h:GW B w0 w q m1 m2 m4 g p t0 n0 P L pa pc la lc wr)(hy:LY w' (.slice a' n' c') (L++[x]))(hG:Grew wr w' (.slice la L.length lc) (.slice a' n' c'))(hx:∃ b,x.ta=some ⟨b,0,none⟩/\NB wr b x.terms) :
  GW B w0 w q m1 m2 m4 g p t0 n0 P (L++[x]) pa pc a' c' (w'.setCell ⟨p,4,none⟩ (.slice a' n' c')):=by
 obtain ⟨V,E,hv⟩:=h.hg
 obtain ⟨hb,hlo⟩:=grew_belowB h.sz h.llo hG
 have hn:n'=(L++[x]).length:=by obtain ⟨a2,c2,e⟩:=LY.len hy;simp only [Value.slice.injEq] at e;exact e.2.1
 subst hn
 have kb:∀ (k:Nat) (C:Array Value) (t:TypeId),wr.heap[k]?=some (.cells C t (0,0))->t≠78->w'.heap[k]?=wr.heap[k]?:=fun k C t hk ht=>hG.grown.block k (lt_of_block hk) (ly_ne h.ly hk ht)
 have hout:=(kb _ _ _ h.out (by decide)).trans h.out
 have kp:∀ (k:Nat) (C:Array Value) (t:TypeId),wr.heap[k]?=some (.cells C t (0,0))->t≠78->t≠26->(w'.setCell ⟨p,4,none⟩ (.slice a' (L++[x]).length c')).heap[k]?=wr.heap[k]?:=fun k C t hk ht hg'=>by
  have e:=kb k C t hk ht
  rw [Below.heap_setCell _ _ _ _ (fun e2=>by subst e2;rw [h.out] at hk;simp at hk;exact hg' hk.2.symm)]
  exact e
 have hs:wr.heap.size<=(w'.setCell ⟨p,4,none⟩ (.slice a' (L++[x]).length c')).heap.size:=by have:=hG.grown.size;simpa [World.setCell] using this
 have hbw:Below w.heap.size wr (w'.setCell ⟨p,4,none⟩ (.slice a' (L++[x]).length c')):=hb.setCell h.pB _
 have hbs:=hbw.mono h.Bw
 have hot:Oth w (w'.setCell ⟨p,4,none⟩ (.slice a' (L++[x]).length c')):=⟨Nat.le_trans h.sz hs,fun b C t hb ht=>(hbw.block b (lt_of_block hb)).trans (h.ot.blk b C t hb ht)⟩
 refine ⟨⟨V,E,hv.kept hs hbs fun k C t hk _ h2 h3=>kp k C t hk h2 h3⟩,?_,?_,?_,?_,?_,?_,h.plo,?_,?_,hlo,?_,h.bel.trans hbs,Nat.le_trans h.sz hs,h.Bw,h.pB,hot,h.p0,h.p1⟩
 ·rw [Below.heap_setCell _ _ _ _ h.p0];exact (kb _ _ _ h.box (by decide)).trans h.box
 ·rw [Below.heap_setCell _ _ _ _ h.p1];exact (kb _ _ _ h.res (by decide)).trans h.res
 ·exact hSt hout _ _
 ·obtain ⟨zs,z1,z2⟩:=h.tb;exact ⟨zs,(kp _ _ _ z1 (by decide) (by decide)).trans z1,z2⟩
 ·obtain ⟨zs,z1,z2⟩:=h.nb;exact ⟨zs,(kp _ _ _ z1 (by decide) (by decide)).trans z1,z2⟩
 ·exact row_kept h.py fun k C _ hk=>kp k C _ hk (by decide) (by decide)
 ·intro y hy'
  obtain ⟨b,e,zs,z1,z2⟩:=h.pe y hy';exact ⟨b,e,zs,(kp _ _ _ z1 (by decide) (by decide)).trans z1,z2⟩
 ·exact row_kept hy fun k C _ hk=>Below.heap_setCell _ _ _ _ (fun e2=>by subst e2;rw [hout] at hk;simp at hk)
 ·intro y hy'
  rcases List.mem_append.1 hy' with r | r
  ·obtain ⟨b,e,zs,z1,z2⟩:=h.le y r;exact ⟨b,e,zs,(kp _ _ _ z1 (by decide) (by decide)).trans z1,z2⟩
  ·simp at r;subst r
   obtain ⟨b,e,zs,z1,z2⟩:=hx;exact ⟨b,e,zs,(kp _ _ _ z1 (by decide) (by decide)).trans z1,z2⟩
theorem GW.app {x:PV}{o:Obj}(h:GW B w0 w q m1 m2 m4 g p t0 n0 P L pa pc la lc wr)(hx:∃ b,RaC x b/\YB wr b x.right)(a':Option Addr)(n' c':Nat)(w4:World)(hy:PY w4 (.slice a' n' c') (P++[x]))(hG:Grew (wr.alloc o) w4 (.slice pa P.length pc) (.slice a' n' c')) :
  w4.cell? ⟨p,3,none⟩=some (.slice pa P.length pc)/\w4.frozen? ⟨p,3,none⟩=false/\GW B w0 w q m1 m2 m4 g p t0 n0 (P++[x]) L a' c' la lc (w4.setCell ⟨p,3,none⟩ (.slice a' n' c'))/\Below B w w4/\w4.heap[w.heap.size]?=some (gBox g):=by
 have h3:=h.later (bAl wr o)
 have k4:w4.heap[p]?=some (oG g t0 n0 pa P.length pc la L.length lc):=(hG.grown.block _ (lt_of_block h3.out) (py_ne h3.py h3.out (by decide))).trans h3.out
 refine ⟨(cQa k4).trans rfl,by simp [World.frozen?,k4],h3.prod hy hG ?_,h3.bel.trans ((grew_belowB h3.sz h3.plo hG).1.mono h3.Bw),(hG.grown.block _ (lt_of_block h3.box) (py_ne h3.py h3.box (by decide))).trans h3.box⟩
 obtain ⟨b,e,y⟩:=hx
 exact ⟨b,e,y.oth (Oth.ofBelow (bAl wr o))⟩
theorem GW.appL {x:LV}{o:Obj}(h:GW B w0 w q m1 m2 m4 g p t0 n0 P L pa pc la lc wr)(hx:∃ b,x.ta=some ⟨b,0,none⟩/\NB wr b x.terms)(a':Option Addr)(n' c':Nat)(w4:World)(hy:LY w4 (.slice a' n' c') (L++[x]))(hG:Grew (wr.alloc o) w4 (.slice la L.length lc) (.slice a' n' c')) :
  w4.cell? ⟨p,4,none⟩=some (.slice la L.length lc)/\w4.frozen? ⟨p,4,none⟩=false/\GW B w0 w q m1 m2 m4 g p t0 n0 P (L++[x]) pa pc a' c' (w4.setCell ⟨p,4,none⟩ (.slice a' n' c'))/\Below B w w4/\w4.heap[w.heap.size]?=some (gBox g):=by
 have h3:=h.later (bAl wr o)
 have k4:w4.heap[p]?=some (oG g t0 n0 pa P.length pc la L.length lc):=(hG.grown.block _ (lt_of_block h3.out) (ly_ne h3.ly h3.out (by decide))).trans h3.out
 refine ⟨(cQa k4).trans rfl,by simp [World.frozen?,k4],h3.lev hy hG ?_,h3.bel.trans ((grew_belowB h3.sz h3.llo hG).1.mono h3.Bw),(hG.grown.block _ (lt_of_block h3.box) (ly_ne h3.ly h3.box (by decide))).trans h3.box⟩
 obtain ⟨b,e,y⟩:=hx
 exact ⟨b,e,y.oth (Oth.ofBelow (bAl wr o))⟩
theorem new_cells3 (w:World)(a b c:Value)(t:TypeId):∀ j u,[a,b,c][j]?=some u->(w.alloc (.cells #[a,b,c] t)).cell? ⟨w.heap.size,j,none⟩=some u:=fun j u hu=>by
 rw [cQa (heap_alloc_new w _)]
 simpa using hu
theorem new_cells2 (w:World)(a b:Value)(t:TypeId):∀ j u,[a,b][j]?=some u->(w.alloc (.cells #[a,b] t)).cell? ⟨w.heap.size,j,none⟩=some u:=fun j u hu=>by
 rw [cQa (heap_alloc_new w _)]
 simpa using hu
end
theorem pro_get:∀ (l:List PV) (i:Nat),i < l.length->(pCl l)[i*3]?=some (.int .i64 (l.getD i .none).left)/\(pCl l)[i*3+1]?=some (.slice (l.getD i .none).ra (l.getD i .none).right.length (l.getD i .none).rc)/\(pCl l)[i*3+2]?=some (.int .i64 (l.getD i .none).prec)
 | [],i,h=>by simp at h
 | q :: r,0,_=>by simp [pCl]
 | q :: r,i+1,h=>by
  have:=pro_get r i (by simpa using h)
  have e:pCl (q :: r)=.int .i64 q.left :: .slice q.ra q.right.length q.rc :: .int .i64 q.prec :: pCl r:=rfl
  rw [e,show (i+1)*3=i*3+1+1+1 by omega]
  simpa using this
theorem lev_get:∀ (l:List LV) (i:Nat),i < l.length->(levCells l)[i*2]?=some (.int .i64 (l.getD i .none).assoc)/\(levCells l)[i*2+1]?=some (.slice (l.getD i .none).ta (l.getD i .none).terms.length (l.getD i .none).tc)
 | [],i,h=>by simp at h
 | q :: r,0,_=>by simp [levCells]
 | q :: r,i+1,h=>by
  have:=lev_get r i (by simpa using h)
  have e:levCells (q :: r)=.int .i64 q.assoc :: .slice q.ta q.terms.length q.tc :: levCells r:=rfl
  rw [e,show (i+1)*2=i*2+1+1 by omega]
  simpa using this
theorem k_next {X w':World}{b:Nat}{C:Array Value}(o:Oth X w')(h:X.heap[b]?=some (.cells C 26 (0,0))):w'.heap[b]?=some (.cells C 26 (0,0)):=(o.blk _ _ _ h okT_gram).trans h
theorem newO3 (w:World)(o1 o2 o3:Obj):(((w.alloc o1).alloc o2).alloc o3).drew.heap[w.heap.size+1+1]?=some o3:=by
 have h:=heap_alloc_new ((w.alloc o1).alloc o2) o3
 have e:((w.alloc o1).alloc o2).heap.size=w.heap.size+1+1:=by simp
 rw [e] at h
 exact h
theorem keepS {g:GV}{b:Nat}{wr:World}(h:wr.heap[b]?=some (gBox g)):wr.cell? ⟨b,0,none⟩=some (.slice g.ta g.ts.length g.tc)/\wr.cell? ⟨b,1,none⟩=some (.slice g.na g.ns.length g.nc)/\wr.cell? ⟨b,2,none⟩=some (.int .i64 g.start) :=
 ⟨(cQa h).trans rfl,(cQa h).trans rfl,(cQa h).trans rfl⟩
theorem set5 {w:World}{b p:Nat}{o:Obj}(hn:b≠p)(h:w.heap[b]?=some o)(i0 i1 i2 i3 i4:Nat)(v0 v1 v2 v3 v4:Value):(((((w.setCell ⟨p,i0,none⟩ v0).setCell ⟨p,i1,none⟩ v1).setCell ⟨p,i2,none⟩ v2).setCell ⟨p,i3,none⟩ v3).setCell ⟨p,i4,none⟩ v4).heap[b]?=some o:=by
 rw [Below.heap_setCell _ _ _ _ hn,Below.heap_setCell _ _ _ _ hn,Below.heap_setCell _ _ _ _ hn,Below.heap_setCell _ _ _ _ hn,Below.heap_setCell _ _ _ _ hn]
 exact h
theorem alloc_size1 (w:World)(o:Obj):(w.alloc o).heap.size=w.heap.size+1:=by simp
structure GX (w:World)(x:GV):Prop where
 t:∃ b,x.ta=some ⟨b,0,none⟩/\TB w b x.ts
 n:∃ b,x.na=some ⟨b,0,none⟩/\TB w b x.ns
 p:PY w (.slice x.pa x.ps.length x.pc) x.ps
 pe:∀ p∈x.ps,∃ b,RaC p b/\YB w b p.right
 l:LY w (.slice x.la x.ls.length x.lc) x.ls
 le:∀ p∈x.ls,∃ b,p.ta=some ⟨b,0,none⟩/\NB w b p.terms
theorem PY.at {w:World}{a:Option Addr}{n c:Nat}{l:List PV}(hr:PY w (.slice a n c) l)(he:∀ p∈l,SymRow w p.ra p.right):PrRow w a l:=by
 refine ⟨fun hne=>?_,he⟩
 rcases hr.2 with ⟨e,h0⟩ | ⟨g,cap,cur,e,h1,h2,h3⟩
 ·exact absurd (List.eq_nil_of_length_eq_zero h0) hne
 ·have hc:=fun j x hx=>World.ownsRow.cells hr (g:=g) (by rw [e];rfl) j x hx
  cases e
  refine ⟨g,0,rfl,lt_of_block h2,fun i hi=>?_⟩
  obtain ⟨q1,q2,q3⟩:=pro_get l i hi
  have r1:=hc _ _ q1
  have r2:=hc _ _ q2
  have r3:=hc _ _ q3
  rw [aNn] at r1 r2 r3
  exact ⟨by simpa using r1,by simpa [Nat.add_assoc] using r2,by simpa [Nat.add_assoc] using r3⟩
theorem LY.at {w:World}{a:Option Addr}{n c:Nat}{l:List LV}(hr:LY w (.slice a n c) l)(he:∀ p∈l,InRow w p.ta p.terms):LvRow w a l:=by
 refine ⟨fun hne=>?_,he⟩
 rcases hr.2 with ⟨e,h0⟩ | ⟨g,cap,cur,e,h1,h2,h3⟩
 ·exact absurd (List.eq_nil_of_length_eq_zero h0) hne
 ·have hc:=fun j x hx=>World.ownsRow.cells hr (g:=g) (by rw [e];rfl) j x hx
  cases e
  refine ⟨g,0,rfl,lt_of_block h2,fun i hi=>?_⟩
  obtain ⟨q1,q2⟩:=lev_get l i hi
  have r1:=hc _ _ q1
  have r2:=hc _ _ q2
  rw [aNn] at r1 r2
  exact ⟨by simpa using r1,by simpa [Nat.add_assoc] using r2⟩
theorem PY.cap {w:World}{a:Option Addr}{n c:Nat}{l:List PV}(h:PY w (.slice a n c) l):l.length<=c:=by
 rcases h.2 with ⟨e,h0⟩ | ⟨g,cap,cur,e,h1,h2,h3,h4⟩
 ·omega
 ·cases e;omega
theorem GX.at {w:World}{n:Nat}{g x:GV}(h:GX w x)(hs:SameG g x){w0:World}(hg:GAt n w0 g):GAt n w x/\x.ps.length<=x.pc:=by
 have hp:x.ps.length=g.ps.length:=by simpa using congrArg List.length hs.ps
 have hl:x.ls.length=g.ls.length:=by simpa using congrArg List.length hs.ls
 obtain ⟨tb,te,tt⟩:=h.t
 obtain ⟨nb,ne,nt⟩:=h.n
 refine ⟨⟨te ▸ tt.row,ne ▸ nt.row,h.p.at fun p hp=>?_,h.l.at fun p hp=>?_,?_,?_,by rw [hs.ts];exact hg.tl,by rw [hs.ns];exact hg.nl,by rw [hp];exact hg.pl,by rw [hl];exact hg.ll,?_,?_⟩,h.p.cap⟩
 ·obtain ⟨b,e,y⟩:=h.pe p hp;rw [e.1];exact y.row
 ·obtain ⟨b,e,y⟩:=h.le p hp;rw [e];exact y.row
 ·rw [hs.ts];exact hg.tz
 ·rw [hs.ns];exact hg.nz
 ·intro p hp'
  have:p.core∈g.ps.map PV.core:=hs.ps ▸ List.mem_map_of_mem hp'
  obtain ⟨q,hq,e⟩:=List.mem_map.1 this
  have e':q.right=p.right:=congrArg (·.2.1) e
  rw [<- e'];exact hg.rl q hq
 ·intro p hp'
  have:p.core∈g.ls.map LV.core:=hs.ls ▸ List.mem_map_of_mem hp'
  obtain ⟨q,hq,e⟩:=List.mem_map.1 this
  have e':q.terms=p.terms:=congrArg (·.2) e
  rw [<- e'];exact hg.vl q hq
theorem GX.later {w w':World}{x:GV}(h:GX w x)(hb:Below w.heap.size w w'):GX w' x :=
 ⟨by obtain ⟨b,e,y⟩:=h.t;exact ⟨b,e,y.oth (Oth.ofBelow hb)⟩,by obtain ⟨b,e,y⟩:=h.n;exact ⟨b,e,y.oth (Oth.ofBelow hb)⟩,h.p.later hb,fun p hp=>by obtain ⟨b,e,y⟩:=h.pe p hp;exact ⟨b,e,y.oth (Oth.ofBelow hb)⟩,h.l.later hb,fun p hp=>by obtain ⟨b,e,y⟩:=h.le p hp;exact ⟨b,e,y.oth (Oth.ofBelow hb)⟩⟩
theorem drew_size (w:World):w.drew.heap.size=w.heap.size:=rfl
theorem set5_block {w:World}{p:Nat}(h:w.heap[p]?=some zG)(v0 v1 v2 v3 v4:Value):(((((w.setCell ⟨p,0,none⟩ v0).setCell ⟨p,1,none⟩ v1).setCell ⟨p,2,none⟩ v2).setCell ⟨p,3,none⟩ v3).setCell ⟨p,4,none⟩ v4).heap[p]?=some (.cells #[v0,v1,v2,v3,v4] 26):=hSt (hSt (hSt (hSt (hSt h 0 v0) 1 v1) 2 v2) 3 v3) 4 v4
theorem GW.fin {B:Nat}{w0 w:World}{q m1 m2 m4:Nat}{g:GV}{p t0 n0:Nat}{P:List PV}{L:List LV}{pa:Option Addr}{pc:Nat}{la:Option Addr}{lc:Nat}{wr:World}(h:GW B w0 w q m1 m2 m4 g p t0 n0 P L pa pc la lc wr)(v0 v1 v2 v3 v4:Value) :
  GX (((((wr.setCell ⟨w.heap.size+1,0,none⟩ v0).setCell ⟨w.heap.size+1,1,none⟩ v1).setCell ⟨w.heap.size+1,2,none⟩ v2).setCell ⟨w.heap.size+1,3,none⟩ v3).setCell ⟨w.heap.size+1,4,none⟩ v4) ⟨some ⟨t0,0,none⟩,g.ts.length+3,g.ts,some ⟨n0,0,none⟩,g.ns.length+3,g.ns,g.start,pa,pc,P,la,lc,L⟩ /\
  HGOut B w0 w (((((wr.setCell ⟨w.heap.size+1,0,none⟩ v0).setCell ⟨w.heap.size+1,1,none⟩ v1).setCell ⟨w.heap.size+1,2,none⟩ v2).setCell ⟨w.heap.size+1,3,none⟩ v3).setCell ⟨w.heap.size+1,4,none⟩ v4) q m1 m2 m4:=by
 have hb:Below w.heap.size wr (((((wr.setCell ⟨w.heap.size+1,0,none⟩ v0).setCell ⟨w.heap.size+1,1,none⟩ v1).setCell ⟨w.heap.size+1,2,none⟩ v2).setCell ⟨w.heap.size+1,3,none⟩ v3).setCell ⟨w.heap.size+1,4,none⟩ v4) :=
  (((((Below.refl _ _).setCell (Nat.le_succ _) _).setCell (Nat.le_succ _) _).setCell (Nat.le_succ _) _).setCell (Nat.le_succ _) _).setCell (Nat.le_succ _) _
 have kk:∀ (k:Nat) (C:Array Value) (t:TypeId),wr.heap[k]?=some (.cells C t (0,0))->t≠26->(((((wr.setCell ⟨w.heap.size+1,0,none⟩ v0).setCell ⟨w.heap.size+1,1,none⟩ v1).setCell ⟨w.heap.size+1,2,none⟩ v2).setCell ⟨w.heap.size+1,3,none⟩ v3).setCell ⟨w.heap.size+1,4,none⟩ v4).heap[k]?=some (.cells C t (0,0)):=fun k C t hk ht =>
  set5 (fun e=>by subst e;rw [h.res] at hk;simp at hk;exact ht hk.2.symm) hk _ _ _ _ _ _ _ _ _ _
 obtain ⟨V,E,hv⟩:=h.hg
 refine ⟨⟨⟨t0,rfl,?_⟩,⟨n0,rfl,?_⟩,?_,?_,?_,?_⟩,⟨⟨V,E,hv.kept hb.size (hb.mono h.Bw) fun k C t hk _ _ h3=>(kk k C t hk h3).trans hk.symm⟩,⟨Nat.le_trans h.sz hb.size,fun b C t hb2 ht=>(hb.block b (lt_of_block hb2)).trans (h.ot.blk b C t hb2 ht)⟩,h.bel.trans (hb.mono h.Bw)⟩⟩
 ·obtain ⟨zs,z1,z2⟩:=h.tb;exact ⟨zs,kk _ _ _ z1 (by decide),z2⟩
 ·obtain ⟨zs,z1,z2⟩:=h.nb;exact ⟨zs,kk _ _ _ z1 (by decide),z2⟩
 ·exact row_kept h.py fun k C _ hk=>(kk k C _ hk (by decide)).trans hk.symm
 ·intro x hx
  obtain ⟨b,e,zs,z1,z2⟩:=h.pe x hx;exact ⟨b,e,zs,kk _ _ _ z1 (by decide),z2⟩
 ·exact row_kept h.ly fun k C _ hk=>(kk k C _ hk (by decide)).trans hk.symm
 ·intro x hx
  obtain ⟨b,e,zs,z1,z2⟩:=h.le x hx;exact ⟨b,e,zs,kk _ _ _ z1 (by decide),z2⟩
theorem gw_new {B:Nat}{w0 w w2:World}{q m1 m2 m4:Nat}{V:Nat->Value}{E:Nat->List HE}{g:GV}{t0 n0:Nat}(hv:HG B w0 w2 q V E m1 m2 m4)(box:w2.heap[w.heap.size]?=some (gBox g))(res:w2.heap[w.heap.size+1]?=some zG)(tb:TB w2 t0 g.ts)(nb:TB w2 n0 g.ns)(bel:Below B w w2)(Bw:B<=w.heap.size)(ot:Oth w w2)(hz:w.heap.size+1 < w2.heap.size) :
  GW B w0 w q m1 m2 m4 g w2.heap.size t0 n0 [] [] none 0 none 0 (w2.alloc (oG g t0 n0 none 0 0 none 0 0)):=by
 have hb:=bAl w2 (oG g t0 n0 none 0 0 none 0 0)
 have o:=Oth.ofBelow hb
 refine ⟨⟨V,E,hv.later hb⟩,(o.blk _ _ _ box okT_gram).trans box,(o.blk _ _ _ res okT_gram).trans res,heap_alloc_new _ _,tb.oth o,nb.oth o,PY.nil _,fun k hk=>by simp [Value.ownBlock] at hk,fun x hx=>(by cases hx),LY.nil _,fun k hk=>by simp [Value.ownBlock] at hk,fun x hx=>(by cases hx),bel.trans (hb.mono (by omega)),by rw [alloc_size1];omega,Bw,by omega,ot.trans o,by omega,by omega⟩
theorem gw_set {B:Nat}{w0 w w2:World}{q m1 m2 m4:Nat}{V:Nat->Value}{E:Nat->List HE}{g:GV}{p t0 n0:Nat}(hv:HG B w0 w2 q V E m1 m2 m4)(box:w2.heap[w.heap.size]?=some (gBox g))(res:w2.heap[w.heap.size+1]?=some zG)(tb:TB w2 t0 g.ts)(nb:TB w2 n0 g.ns)(bel:Below B w w2)(Bw:B<=w.heap.size)(ot:Oth w w2)(hz:w.heap.size+1 < w2.heap.size)(hp:w2.heap[p]?=some zG)(hpw:w.heap.size+1 < p) :
  GW B w0 w q m1 m2 m4 g p t0 n0 [] [] none 0 none 0 (((((w2.setCell ⟨p,0,none⟩ (.slice (some ⟨t0,0,none⟩) g.ts.length (g.ts.length+3))).setCell ⟨p,1,none⟩ (.slice (some ⟨n0,0,none⟩) g.ns.length (g.ns.length+3))).setCell ⟨p,2,none⟩ (.int .i64 g.start)).setCell ⟨p,3,none⟩ (.slice none 0 0)).setCell ⟨p,4,none⟩ (.slice none 0 0)):=by
 have hb:Below w.heap.size w2 (((((w2.setCell ⟨p,0,none⟩ (.slice (some ⟨t0,0,none⟩) g.ts.length (g.ts.length+3))).setCell ⟨p,1,none⟩ (.slice (some ⟨n0,0,none⟩) g.ns.length (g.ns.length+3))).setCell ⟨p,2,none⟩ (.int .i64 g.start)).setCell ⟨p,3,none⟩ (.slice none 0 0)).setCell ⟨p,4,none⟩ (.slice none 0 0)) :=
  (((((Below.refl _ _).setCell (by show _<=p;omega) _).setCell (by show _<=p;omega) _).setCell (by show _<=p;omega) _).setCell (by show _<=p;omega) _).setCell (by show _<=p;omega) _
 have kk:∀ (k:Nat) (o:Obj),k≠p->w2.heap[k]?=some o->(((((w2.setCell ⟨p,0,none⟩ (.slice (some ⟨t0,0,none⟩) g.ts.length (g.ts.length+3))).setCell ⟨p,1,none⟩ (.slice (some ⟨n0,0,none⟩) g.ns.length (g.ns.length+3))).setCell ⟨p,2,none⟩ (.int .i64 g.start)).setCell ⟨p,3,none⟩ (.slice none 0 0)).setCell ⟨p,4,none⟩ (.slice none 0 0)).heap[k]?=some o:=fun k o hk ho=>set5 hk ho _ _ _ _ _ _ _ _ _ _
 have kt:∀ (k:Nat) (C:Array Value) (t:TypeId),w2.heap[k]?=some (.cells C t (0,0))->t≠26->k≠p:=fun k C t hk ht e=>by subst e;rw [hp] at hk;simp at hk;exact ht hk.2.symm
 refine ⟨⟨V,E,hv.kept hb.size (hb.mono Bw) fun k C t hk _ _ h3=>(kk k _ (kt k C t hk h3) hk).trans hk.symm⟩,kk _ _ (by omega) box,kk _ _ (by omega) res,set5_block hp _ _ _ _ _,?_,?_,PY.nil _,fun k hk=>by simp [Value.ownBlock] at hk,fun x hx=>(by cases hx),LY.nil _,fun k hk=>by simp [Value.ownBlock] at hk,fun x hx=>(by cases hx),bel.trans (hb.mono Bw),Nat.le_trans (by omega) hb.size,Bw,by omega,⟨Nat.le_trans ot.size hb.size,fun b C t hb2 ht=>(hb.block b (lt_of_block hb2)).trans (ot.blk b C t hb2 ht)⟩,by omega,by omega⟩
 ·obtain ⟨zs,z1,z2⟩:=tb;exact ⟨zs,kk _ _ (kt _ _ _ z1 (by decide)) z1,z2⟩
 ·obtain ⟨zs,z1,z2⟩:=nb;exact ⟨zs,kk _ _ (kt _ _ _ z1 (by decide)) z1,z2⟩
set_option linter.unusedSimpArgs false in
theorem hg_gram {B:Nat}{w0 w:World}{q:Nat}{V:Nat->Value}{E:Nat->List HE}{n1 n2 n4:Nat}(h:HG B w0 w q V E n1 n2 n4)(h1:n1<=100000000000)(h2:n2<=100000000000)(h4:n4<=100000000000)(g:GV)(hfi:GFine g)(hg:∀ wr,Below B w wr->GAt 140737488355328 wr g) :
  Calls Tryz.prog 7 #[.pointer (some ⟨q,0,none⟩),g.val] w fun e w'=>∃ x:GV,e=.returned x.val/\SameG g x/\GX w' x/\HGOut B w0 w w' q (n1+g.ls.length) (n2+2) (n4+g.ps.length):=by
 have hbx:Below w.heap.size w ((w.alloc (gBox g)).alloc (.cells #[.slice none 0 0,.slice none 0 0,.int .i64 0,.slice none 0 0,.slice none 0 0] 26)):=(bAl w _).alloc (bAl w _).size _
 have hsz:=h.sz
 have hA:Hid (∀ wr,Below ((w.alloc (gBox g)).alloc (.cells #[.slice none 0 0,.slice none 0 0,.int .i64 0,.slice none 0 0,.slice none 0 0] 26)).heap.size ((w.alloc (gBox g)).alloc (.cells #[.slice none 0 0,.slice none 0 0,.int .i64 0,.slice none 0 0,.slice none 0 0] 26)) wr->HG B w0 wr q V E n1 n2 n4/\GAt 140737488355328 wr g/\Below B w wr):=fun wr hb=>by
  have b1:=hbx.trans (hb.mono hbx.size)
  exact ⟨h.later b1,hg wr (b1.mono hsz),b1.mono hsz⟩
 have HGA:Hid (∀ wr,Below B w wr->GAt 140737488355328 wr g):=hg
 have hk0:((w.alloc (gBox g)).alloc (.cells #[.slice none 0 0,.slice none 0 0,.int .i64 0,.slice none 0 0,.slice none 0 0] 26)).heap[w.heap.size]?=some (gBox g):=((bAl (w.alloc (gBox g)) _).block _ (lt_of_block (heap_alloc_new w (gBox g)))).trans (heap_alloc_new w (gBox g))
 have hk1:((w.alloc (gBox g)).alloc (.cells #[.slice none 0 0,.slice none 0 0,.int .i64 0,.slice none 0 0,.slice none 0 0] 26)).heap[w.heap.size+1]?=some (.cells #[.slice none 0 0,.slice none 0 0,.int .i64 0,.slice none 0 0,.slice none 0 0] 26):=by
  have:=heap_alloc_new (w.alloc (gBox g)) (.cells #[.slice none 0 0,.slice none 0 0,.int .i64 0,.slice none 0 0,.slice none 0 0] 26)
  rw [alloc_size1] at this
  exact this
 have K0:Hid (∀ wr,Below ((w.alloc (gBox g)).alloc (.cells #[.slice none 0 0,.slice none 0 0,.int .i64 0,.slice none 0 0,.slice none 0 0] 26)).heap.size ((w.alloc (gBox g)).alloc (.cells #[.slice none 0 0,.slice none 0 0,.int .i64 0,.slice none 0 0,.slice none 0 0] 26)) wr->wr.heap[w.heap.size]?=some (gBox g)/\wr.heap[w.heap.size+1]?=some (.cells #[.slice none 0 0,.slice none 0 0,.int .i64 0,.slice none 0 0,.slice none 0 0] 26)):=fun wr hb=>⟨(hb.block _ (lt_of_block hk0)).trans hk0,(hb.block _ (lt_of_block hk1)).trans hk1⟩
 have HT:Hid ((∀ s∈g.ts,s.size<=maxLen)/\(∀ s∈g.ns,s.size<=maxLen)/\g.ts.length<=8796093022000/\g.ns.length<=8796093022000):=⟨(hg w (Below.refl _ _)).tz,(hg w (Below.refl _ _)).nz,hfi.tl,hfi.nl⟩
 have HFI:Hid (GFine g):=hfi
 have GD1:Hid True:=trivial
 have K1:Hid True:=trivial
 have K2:Hid True:=trivial
 have hn0:w.heap.size≠w.heap.size+1+1:=by omega
 have hn1:Hid True:=trivial
 clear h hg hbx hk0 hk1 hfi
 go_enter Tryz.func7,Tryz.ntmps7
 go_wp2
 rename_i Q' K hK
 have KEY:∀ (p t0 n0:Nat) (wr:World) (s8 s9 s10 s11 s12 s13 s14 s15 s16 s17 s18:Value),GW B w0 w q n1 (n2+1+1) n4 g p t0 n0 [] [] none 0 none 0 wr->K { tmps:=#[.pointer (some ⟨q,0,none⟩),g.val,undef,.pointer (some ⟨w.heap.size,0,none⟩),.pointer (some ⟨w.heap.size+1,0,none⟩),.pointer (some ⟨p,0,none⟩),undef,undef,s8,s9,s10,s11,s12,s13,s14,s15,s16,s17,s18,undef,undef,undef,undef,undef,undef,undef,undef,undef,undef,undef,undef,undef,undef,undef,undef,undef,undef,undef,undef,undef,undef,undef,undef,undef,undef,undef,undef,undef,undef,undef,undef,undef,undef,undef,undef,undef,undef,undef,undef,undef,undef,undef,undef,undef,undef,undef,undef,undef,undef,undef,undef,undef,undef,undef,undef,undef,undef,undef,undef,undef],defers:=[] } wr:=by
  intro p t0 n0 wr s8 s9 s10 s11 s12 s13 s14 s15 s16 s17 s18 hW
  refine hK _ _ ?_
  go_wp2
  go_loopw [6] (fun z wr=>∃ (P:List PV) (pa:Option Addr) (pc:Nat),P.length<=g.ps.length/\z=.int .i64 P.length/\P.map PV.core=(g.ps.take P.length).map PV.core/\GW B w0 w q n1 (n2+1+1) (n4+P.length) g p t0 n0 P [] pa pc none 0 wr) (fun z _=>g.ps.length - (intOf z).toNat)
  case atStart=>exact ⟨[],none,0,Nat.zero_le _,rfl,rfl,hW⟩
  case round =>
   clear hW
   obtain ⟨P,pa,pc,hP,rfl,hcore,hW⟩:=hrel
   have GWr:Hid (GW B w0 w q n1 (n2+1+1) (n4+P.length) g p t0 n0 P [] pa pc none 0 wr):=hW
   have b3:wr.cell? ⟨w.heap.size,3,none⟩=some (.slice g.pa g.ps.length g.pc):=(cQa hW.box).trans rfl
   have o3:wr.cell? ⟨p,3,none⟩=some (.slice pa P.length pc):=(cQa hW.out).trans rfl
   have ga:=HGA.out wr hW.bel
   have hpl:=HFI.out.pl
   by_cases hlt:P.length < g.ps.length
   ·obtain ⟨pb,po,hpa,_,hpc⟩:=ga.p.cells (by intro e;rw [e] at hlt;simp at hlt)
    have KP:Hid (∀ w',Below B w w'->w'.heap[w.heap.size]?=some (gBox g)->w'.cell? ⟨w.heap.size,3,none⟩=some (.slice (some ⟨pb,po,none⟩) g.ps.length g.pc)/\w'.cell? ⟨pb,po+P.length*3,none⟩=some (.int .i64 (g.ps.getD P.length .none).left)/\w'.cell? ⟨pb,po+P.length*3+1,none⟩=some (.slice (g.ps.getD P.length .none).ra (g.ps.getD P.length .none).right.length (g.ps.getD P.length .none).rc)/\w'.cell? ⟨pb,po+P.length*3+2,none⟩=some (.int .i64 (g.ps.getD P.length .none).prec)):=fun w' hb hbx=>by
     obtain ⟨b2,o2,e2,_,hc2⟩:=(HGA.out w' hb).p.cells (by intro e;rw [e] at hlt;simp at hlt)
     rw [hpa] at e2
     simp only [Option.some.injEq,Addr.mk.injEq,and_true] at e2
     obtain ⟨rfl,rfl⟩:=e2
     refine ⟨?_,(hc2 _ hlt).1,(hc2 _ hlt).2.1,(hc2 _ hlt).2.2⟩
     rw [cQa hbx,<- hpa]
     rfl
    have hmem:g.ps.getD P.length .none∈g.ps:=by simp [List.getD,hlt]
    have hrow:=ga.p.rows _ hmem
    have hrl:=HFI.out.rl _ hmem
    have CORE:Hid (∀ y:PV,y.core=(g.ps.getD P.length .none).core->(P++[y]).map PV.core=(g.ps.take (P++[y]).length).map PV.core):=fun y hy=>by
     rw [List.length_append,List.length_singleton,List.take_succ_eq_append_getElem hlt,List.map_append,List.map_append,hcore]
     simp [hy,List.getD,hlt]
    obtain ⟨p0,p1,p2⟩:=hpc _ hlt
    rw [hpa] at b3
    obtain ⟨V',E',hv⟩:=hW.hg
    have HV:Hid (HG B w0 wr q V' E' n1 (n2+1+1) (n4+P.length)):=hv
    clear hpc hmem hcore hv ga hW hpa
    generalize g.ps.getD P.length .none=x at *
    obtain ⟨pl,pra,prc,pr,pp⟩:=x
    simp only at p0 p1 p2 hrow hrl KP
    have HR:Hid (SymRow wr pra pr):=hrow
    have HPL:Hid (P.length<=3518437208780):=by show _<=_;omega
    have G3:Hid True:=trivial
    have K4:Hid True:=trivial
    have G5:Hid True:=trivial
    clear hrow
    go_wp2
    refine wp_region_x (S:=SX 26 (fun w'=>w'.cell? ⟨w.heap.size,3,none⟩=some (.slice (some ⟨pb,po,none⟩) g.ps.length g.pc)/\w'.cell? ⟨pb,po+P.length*3,none⟩=some (.int .i64 pl)/\w'.cell? ⟨pb,po+P.length*3+1,none⟩=some (.slice pra pr.length prc)/\w'.cell? ⟨pb,po+P.length*3+2,none⟩=some (.int .i64 pp)) (fun w'=>w'.cell? ⟨p,3,none⟩=some (.slice pa P.length pc))) (by kernel_rfl) ?_
    have hs0:Hid ((fun w'=>w'.cell? ⟨w.heap.size,3,none⟩=some (.slice (some ⟨pb,po,none⟩) g.ps.length g.pc)/\w'.cell? ⟨pb,po+P.length*3,none⟩=some (.int .i64 pl)/\w'.cell? ⟨pb,po+P.length*3+1,none⟩=some (.slice pra pr.length prc)/\w'.cell? ⟨pb,po+P.length*3+2,none⟩=some (.int .i64 pp)) wr.drew):=KP.out _ (GWr.out.later (by go_grown)).bel (GWr.out.later (by go_grown)).box
    have hs1:Hid ((fun w'=>w'.cell? ⟨p,3,none⟩=some (.slice pa P.length pc)) wr.drew):=o3
    refine wtT (m:=26) (i:=0) (v:=?_) rfl (Or.inl ⟨by rfl,?_⟩) (SX.both hs0.out hs1.out) ?_
    rotate_left
    ·(intro w hSw;(try dsimp only at hSw);go_simp;try (with_reducible rfl))
    (try simp only [Act.put,lsA,lsZ,lsN])
    refine wtT (m:=26) (i:=1) (v:=?_) rfl (Or.inl ⟨by rfl,?_⟩) (SX.both hs0.out hs1.out) ?_
    rotate_left
    ·(intro w hSw;(try dsimp only at hSw);go_simp;try (with_reducible rfl))
    (try simp only [Act.put,lsA,lsZ,lsN])
    refine wtT (m:=26) (i:=2) (v:=?_) rfl (Or.inl ⟨by rfl,?_⟩) (SX.both hs0.out hs1.out) ?_
    rotate_left
    ·(intro w hSw;(try dsimp only at hSw);go_simp;try (with_reducible rfl))
    (try simp only [Act.put,lsA,lsZ,lsN])
    refine wtT (m:=26) (i:=3) (v:=?_) rfl (Or.inl ⟨by rfl,?_⟩) (SX.both hs0.out hs1.out) ?_
    rotate_left
    ·(intro w hSw;(try dsimp only at hSw);go_simp;try (with_reducible rfl))
    (try simp only [Act.put,lsA,lsZ,lsN])
    refine wtT (m:=26) (i:=4) (v:=?_) rfl (Or.inl ⟨by rfl,?_⟩) (SX.both hs0.out hs1.out) ?_
    rotate_left
    ·(intro w hSw;(try dsimp only at hSw);go_simp;try (with_reducible rfl))
    (try simp only [Act.put,lsA,lsZ,lsN])
    refine wtT (m:=26) (i:=5) (v:=?_) rfl (Or.inl ⟨by rfl,?_⟩) (SX.both hs0.out hs1.out) ?_
    rotate_left
    ·(intro w hSw;(try dsimp only at hSw);go_simp;try (with_reducible rfl))
    (try simp only [Act.put,lsA,lsZ,lsN])
    refine wtT (m:=26) (i:=6) (v:=?_) rfl (Or.inl ⟨by rfl,?_⟩) (SX.both hs0.out hs1.out) ?_
    rotate_left
    ·(intro w hSw;(try dsimp only at hSw);go_simp;try (with_reducible rfl))
    (try simp only [Act.put,lsA,lsZ,lsN])
    refine wtT (m:=26) (i:=7) (v:=?_) rfl (Or.inl ⟨by rfl,?_⟩) (SX.both hs0.out hs1.out) ?_
    rotate_left
    ·(intro w hSw;(try dsimp only at hSw);go_simp;try (with_reducible rfl))
    (try simp only [Act.put,lsA,lsZ,lsN])
    refine wtT (m:=26) (i:=8) (v:=?_) rfl (Or.inl ⟨by rfl,?_⟩) (SX.both hs0.out hs1.out) ?_
    rotate_left
    ·(intro w hSw;(try dsimp only at hSw);go_simp;try (with_reducible rfl))
    (try simp only [Act.put,lsA,lsZ,lsN])
    refine wtT (m:=26) (i:=9) (v:=?_) rfl (Or.inl ⟨by rfl,?_⟩) (SX.both hs0.out hs1.out) ?_
    rotate_left
    ·(intro w hSw;(try dsimp only at hSw);go_simp;try (with_reducible rfl))
    (try simp only [Act.put,lsA,lsZ,lsN])
    refine wtT (m:=26) (i:=10) (v:=?_) rfl (Or.inl ⟨by rfl,?_⟩) (SX.both hs0.out hs1.out) ?_
    rotate_left
    ·(intro w hSw;(try dsimp only at hSw);go_simp;try (with_reducible rfl))
    (try simp only [Act.put,lsA,lsZ,lsN])
    refine wtT (m:=26) (i:=11) (v:=?_) rfl (Or.inl ⟨by rfl,?_⟩) (SX.both hs0.out hs1.out) ?_
    rotate_left
    ·(intro w hSw;(try dsimp only at hSw);go_simp;try (with_reducible rfl))
    (try simp only [Act.put,lsA,lsZ,lsN])
    refine wtT (m:=26) (i:=12) (v:=?_) rfl (Or.inl ⟨by rfl,?_⟩) (SX.both hs0.out hs1.out) ?_
    rotate_left
    ·(intro w hSw;(try dsimp only at hSw);go_simp;try (with_reducible rfl))
    (try simp only [Act.put,lsA,lsZ,lsN])
    refine wtT (m:=26) (i:=13) (v:=?_) rfl (Or.inl ⟨by rfl,?_⟩) (SX.both hs0.out hs1.out) ?_
    rotate_left
    ·(intro w hSw;(try dsimp only at hSw);go_simp;try (with_reducible rfl))
    (try simp only [Act.put,lsA,lsZ,lsN])
    refine wtT (m:=26) (i:=14) (v:=?_) rfl (Or.inl ⟨by rfl,?_⟩) (SX.both hs0.out hs1.out) ?_
    rotate_left
    ·(intro w hSw;(try dsimp only at hSw);go_simp;try (with_reducible rfl))
    (try simp only [Act.put,lsA,lsZ,lsN])
    refine wtT (m:=26) (i:=16) (v:=?_) rfl (Or.inl ⟨by rfl,?_⟩) (SX.both hs0.out hs1.out) ?_
    rotate_left
    ·(intro w hSw;(try dsimp only at hSw);go_simp;try (with_reducible rfl))
    (try simp only [Act.put,lsA,lsZ,lsN])
    refine wtT (m:=26) (i:=17) (v:=?_) rfl (Or.inl ⟨by rfl,?_⟩) (SX.both hs0.out hs1.out) ?_
    rotate_left
    ·(intro w hSw;(try dsimp only at hSw);go_simp;try (with_reducible rfl))
    (try simp only [Act.put,lsA,lsZ,lsN])
    refine wtT (m:=26) (i:=18) (v:=?_) rfl (Or.inl ⟨by rfl,?_⟩) (SX.both hs0.out hs1.out) ?_
    rotate_left
    ·(intro w hSw;(try dsimp only at hSw);go_simp;try (with_reducible rfl))
    (try simp only [Act.put,lsA,lsZ,lsN])
    refine wtT (m:=26) (i:=19) (v:=?_) rfl (Or.inl ⟨by rfl,?_⟩) (SX.both hs0.out hs1.out) ?_
    rotate_left
    ·(intro w hSw;(try dsimp only at hSw);go_simp;try (with_reducible rfl))
    (try simp only [Act.put,lsA,lsZ,lsN])
    refine wtT (m:=26) (i:=20) (v:=?_) rfl (Or.inl ⟨by rfl,?_⟩) (SX.both hs0.out hs1.out) ?_
    rotate_left
    ·(intro w hSw;(try dsimp only at hSw);go_simp;try (with_reducible rfl))
    (try simp only [Act.put,lsA,lsZ,lsN])
    refine wtT (m:=26) (i:=21) (v:=?_) rfl (Or.inl ⟨by rfl,?_⟩) (SX.both hs0.out hs1.out) ?_
    rotate_left
    ·(intro w hSw;(try dsimp only at hSw);go_simp;try (with_reducible rfl))
    (try simp only [Act.put,lsA,lsZ,lsN])
    refine wX1 (j:=15) (by decide +kernel) rfl (fun K' hK=>?_)
    refine sCX rfl 30 #[.pointer (some ⟨q,0,none⟩),.slice pra pr.length prc] _ (run_syms (v0:=.pointer (some ⟨q,0,none⟩)) (v1:=.slice pra pr.length prc) (by rfl) (by rfl) (by rfl) _) (hg_sym (HV.out.later (by go_grown)) (by omega) pra prc pr hrl (HR.out.later (Nat.le_refl _) (by go_grown))) ?_
    rintro e w3 ⟨rfl,o',yb'⟩
    have G3:Hid (GW B w0 w q n1 (n2+1+1) (n4+P.length+1) g p t0 n0 P [] pa pc none 0 w3):=(GWr.out.later (by go_grown)).given o'
    have Y3:Hid (YB w3 wr.heap.size pr):=yb'
    have c3:w3.cell? ⟨p,3,none⟩=some (.slice pa P.length pc):=(cQa G3.out.out).trans rfl
    clear o' yb'
    refine ⟨_,rfl,hK.out _ _ (SX.both (KP.out _ G3.out.bel G3.out.box) c3) ?_⟩
    clear hK K'
    (try simp only [Act.put,lsA,lsZ,lsN])
    refine wtT (m:=26) (i:=22) (v:=?_) rfl (Or.inl ⟨by rfl,?_⟩) (SX.both (KP.out _ G3.out.bel G3.out.box) c3) ?_
    rotate_left
    ·(intro w hSw;(try dsimp only at hSw);go_simp;try (with_reducible rfl))
    (try simp only [Act.put,lsA,lsZ,lsN])
    refine wX1 (j:=23) (by decide +kernel) rfl (fun K' hK=>?_)
    go_simp
    refine hK.out _ _ (SX.both (KP.out _ (G3.out.later (bAl _ _)).bel (G3.out.later (bAl _ _)).box) ((cQa (G3.out.later (bAl _ _)).out).trans rfl)) ?_
    clear hK K'
    (try simp only [Act.put,lsA,lsZ,lsN])
    refine wX1 (j:=24) (by decide +kernel) rfl (fun K' hK=>?_)
    refine step_py_append (by rfl) _ _ (by rfl) (.slice pa P.length pc) P (by rfl) (G3.out.later (bAl _ _)).py w3.heap.size 1 ⟨pl,some ⟨wr.heap.size,0,none⟩,pr.length+3,pr,pp⟩ (by rfl) (new_cells3 w3 _ _ _ _) HPL.out ?_
    intro a4 n4' c4 w4 hy4 hg4
    obtain ⟨c4',f4,g5,k4⟩:=G3.out.app ⟨wr.heap.size,(by refine And.intro rfl ?_;exact Nat.le_add_right _ _),Y3.out⟩ a4 n4' c4 w4 hy4 hg4
    refine hK.out _ _ (SX.both (KP.out _ k4.1 k4.2) c4') ?_
    clear hK K'
    (try simp only [Act.put,lsA,lsZ,lsN])
    refine wtT (m:=26) (i:=25) (v:=?_) rfl (Or.inl ⟨by rfl,?_⟩) (SX.both (KP.out _ k4.1 k4.2) c4') ?_
    rotate_left
    ·(intro w hSw;(try dsimp only at hSw);go_simp;try (with_reducible rfl))
    (try simp only [Act.put,lsA,lsZ,lsN])
    refine wX1 (j:=26) (by decide +kernel) rfl (fun K' hK=>?_)
    go_simp
    refine hK.out _ _ (SX.one (KP.out _ g5.bel g5.box) (by decide +kernel)) ?_
    clear hK K'
    (try simp only [Act.put,lsA,lsZ,lsN])
    refine wXd (by decide +kernel) ?_
    have G5:Hid _:=g5
    clear g5 k4 c4' f4 hy4 hg4 c3 hs0 hs1
    go_wp2
    go_roundw
    case rel=>exact ⟨P++[⟨pl,some ⟨wr.heap.size,0,none⟩,pr.length+3,pr,pp⟩],a4,c4,by rw [List.length_append,List.length_singleton];omega,by rw [List.length_append,List.length_singleton];go_num,CORE.out _ rfl,by rw [show n4+(P++[(⟨pl,some ⟨wr.heap.size,0,none⟩,pr.length+3,pr,pp⟩:PV)]).length=n4+P.length+1 by rw [List.length_append,List.length_singleton];omega];exact G5.out⟩
    case measure=>simp [intOf];omega
   ·have PCORE:Hid (P.map PV.core=g.ps.map PV.core):=by
     show _=_
     rw [hcore,show P.length=g.ps.length by omega,List.take_length]
    clear hcore o3
    go_wp2
    go_loopw [7] (fun z wr=>∃ (L:List LV) (la:Option Addr) (lc:Nat),L.length<=g.ls.length/\z=.int .i64 L.length/\L.map LV.core=(g.ls.take L.length).map LV.core/\GW B w0 w q (n1+L.length) (n2+1+1) (n4+P.length) g p t0 n0 P L pa pc la lc wr) (fun z _=>g.ls.length - (intOf z).toNat)
    case atStart=>exact ⟨[],none,0,Nat.zero_le _,rfl,rfl,GWr.out⟩
    case round =>
     clear GWr hW ga b3 hpl
     obtain ⟨L,la,lc,hL,rfl,hcore,hW⟩:=hrel
     have GWr:Hid (GW B w0 w q (n1+L.length) (n2+1+1) (n4+P.length) g p t0 n0 P L pa pc la lc wr):=hW
     have b3:wr.cell? ⟨w.heap.size,4,none⟩=some (.slice g.la g.ls.length g.lc):=(cQa hW.box).trans rfl
     have o3:wr.cell? ⟨p,4,none⟩=some (.slice la L.length lc):=(cQa hW.out).trans rfl
     have ga:=HGA.out wr hW.bel
     have hpl:=HFI.out.ll
     by_cases hlt2:L.length < g.ls.length
     ·obtain ⟨pb,po,hpa,_,hpc⟩:=ga.l.cells (by intro e;rw [e] at hlt2;simp at hlt2)
      have KP:Hid (∀ w',Below B w w'->w'.heap[w.heap.size]?=some (gBox g)->w'.cell? ⟨w.heap.size,4,none⟩=some (.slice (some ⟨pb,po,none⟩) g.ls.length g.lc)/\w'.cell? ⟨pb,po+L.length*2,none⟩=some (.int .i64 (g.ls.getD L.length .none).assoc)/\w'.cell? ⟨pb,po+L.length*2+1,none⟩=some (.slice (g.ls.getD L.length .none).ta (g.ls.getD L.length .none).terms.length (g.ls.getD L.length .none).tc)):=fun w' hb hbx=>by
       obtain ⟨b2,o2,e2,_,hc2⟩:=(HGA.out w' hb).l.cells (by intro e;rw [e] at hlt2;simp at hlt2)
       rw [hpa] at e2
       simp only [Option.some.injEq,Addr.mk.injEq,and_true] at e2
       obtain ⟨rfl,rfl⟩:=e2
       refine ⟨?_,(hc2 _ hlt2).1,(hc2 _ hlt2).2⟩
       rw [cQa hbx,<- hpa]
       rfl
      have hmem:g.ls.getD L.length .none∈g.ls:=by simp [List.getD,hlt2]
      have hrow:=ga.l.rows _ hmem
      have hrl:=HFI.out.vl _ hmem
      have CORE:Hid (∀ y:LV,y.core=(g.ls.getD L.length .none).core->(L++[y]).map LV.core=(g.ls.take (L++[y]).length).map LV.core):=fun y hy=>by
       rw [List.length_append,List.length_singleton,List.take_succ_eq_append_getElem hlt2,List.map_append,List.map_append,hcore]
       simp [hy,List.getD,hlt2]
      obtain ⟨p0,p1⟩:=hpc _ hlt2
      rw [hpa] at b3
      obtain ⟨V',E',hv⟩:=hW.hg
      have HV:Hid (HG B w0 wr q V' E' (n1+L.length) (n2+1+1) (n4+P.length)):=hv
      clear hpc hmem hcore hv ga hW hpa
      generalize g.ls.getD L.length .none=x at *
      obtain ⟨pl,pra,prc,pr⟩:=x
      simp only at p0 p1 hrow hrl KP
      have HR:Hid (InRow wr pra pr):=hrow
      have HPL:Hid (L.length<=4398046510976):=by show _<=_;omega
      clear hrow
      go_wp2
      refine wp_region_x (S:=SX 20 (fun w'=>w'.cell? ⟨w.heap.size,4,none⟩=some (.slice (some ⟨pb,po,none⟩) g.ls.length g.lc)/\w'.cell? ⟨pb,po+L.length*2,none⟩=some (.int .i64 pl)/\w'.cell? ⟨pb,po+L.length*2+1,none⟩=some (.slice pra pr.length prc)) (fun w'=>w'.cell? ⟨p,4,none⟩=some (.slice la L.length lc))) (by kernel_rfl) ?_
      have hs0:Hid ((fun w'=>w'.cell? ⟨w.heap.size,4,none⟩=some (.slice (some ⟨pb,po,none⟩) g.ls.length g.lc)/\w'.cell? ⟨pb,po+L.length*2,none⟩=some (.int .i64 pl)/\w'.cell? ⟨pb,po+L.length*2+1,none⟩=some (.slice pra pr.length prc)) wr.drew):=KP.out _ (GWr.out.later (by go_grown)).bel (GWr.out.later (by go_grown)).box
      have hs1:Hid ((fun w'=>w'.cell? ⟨p,4,none⟩=some (.slice la L.length lc)) wr.drew):=o3
      refine wtT (m:=20) (i:=0) (v:=?_) rfl (Or.inl ⟨by rfl,?_⟩) (SX.both hs0.out hs1.out) ?_
      rotate_left
      ·(intro w hSw;(try dsimp only at hSw);go_simp;try (with_reducible rfl))
      (try simp only [Act.put,lsA,lsZ,lsN])
      refine wtT (m:=20) (i:=1) (v:=?_) rfl (Or.inl ⟨by rfl,?_⟩) (SX.both hs0.out hs1.out) ?_
      rotate_left
      ·(intro w hSw;(try dsimp only at hSw);go_simp;try (with_reducible rfl))
      (try simp only [Act.put,lsA,lsZ,lsN])
      refine wtT (m:=20) (i:=2) (v:=?_) rfl (Or.inl ⟨by rfl,?_⟩) (SX.both hs0.out hs1.out) ?_
      rotate_left
      ·(intro w hSw;(try dsimp only at hSw);go_simp;try (with_reducible rfl))
      (try simp only [Act.put,lsA,lsZ,lsN])
      refine wtT (m:=20) (i:=3) (v:=?_) rfl (Or.inl ⟨by rfl,?_⟩) (SX.both hs0.out hs1.out) ?_
      rotate_left
      ·(intro w hSw;(try dsimp only at hSw);go_simp;try (with_reducible rfl))
      (try simp only [Act.put,lsA,lsZ,lsN])
      refine wtT (m:=20) (i:=4) (v:=?_) rfl (Or.inl ⟨by rfl,?_⟩) (SX.both hs0.out hs1.out) ?_
      rotate_left
      ·(intro w hSw;(try dsimp only at hSw);go_simp;try (with_reducible rfl))
      (try simp only [Act.put,lsA,lsZ,lsN])
      refine wtT (m:=20) (i:=5) (v:=?_) rfl (Or.inl ⟨by rfl,?_⟩) (SX.both hs0.out hs1.out) ?_
      rotate_left
      ·(intro w hSw;(try dsimp only at hSw);go_simp;try (with_reducible rfl))
      (try simp only [Act.put,lsA,lsZ,lsN])
      refine wtT (m:=20) (i:=6) (v:=?_) rfl (Or.inl ⟨by rfl,?_⟩) (SX.both hs0.out hs1.out) ?_
      rotate_left
      ·(intro w hSw;(try dsimp only at hSw);go_simp;try (with_reducible rfl))
      (try simp only [Act.put,lsA,lsZ,lsN])
      refine wtT (m:=20) (i:=7) (v:=?_) rfl (Or.inl ⟨by rfl,?_⟩) (SX.both hs0.out hs1.out) ?_
      rotate_left
      ·(intro w hSw;(try dsimp only at hSw);go_simp;try (with_reducible rfl))
      (try simp only [Act.put,lsA,lsZ,lsN])
      refine wtT (m:=20) (i:=8) (v:=?_) rfl (Or.inl ⟨by rfl,?_⟩) (SX.both hs0.out hs1.out) ?_
      rotate_left
      ·(intro w hSw;(try dsimp only at hSw);go_simp;try (with_reducible rfl))
      (try simp only [Act.put,lsA,lsZ,lsN])
      refine wtT (m:=20) (i:=9) (v:=?_) rfl (Or.inl ⟨by rfl,?_⟩) (SX.both hs0.out hs1.out) ?_
      rotate_left
      ·(intro w hSw;(try dsimp only at hSw);go_simp;try (with_reducible rfl))
      (try simp only [Act.put,lsA,lsZ,lsN])
      refine wtT (m:=20) (i:=10) (v:=?_) rfl (Or.inl ⟨by rfl,?_⟩) (SX.both hs0.out hs1.out) ?_
      rotate_left
      ·(intro w hSw;(try dsimp only at hSw);go_simp;try (with_reducible rfl))
      (try simp only [Act.put,lsA,lsZ,lsN])
      refine wtT (m:=20) (i:=11) (v:=?_) rfl (Or.inl ⟨by rfl,?_⟩) (SX.both hs0.out hs1.out) ?_
      rotate_left
      ·(intro w hSw;(try dsimp only at hSw);go_simp;try (with_reducible rfl))
      (try simp only [Act.put,lsA,lsZ,lsN])
      refine wtT (m:=20) (i:=12) (v:=?_) rfl (Or.inl ⟨by rfl,?_⟩) (SX.both hs0.out hs1.out) ?_
      rotate_left
      ·(intro w hSw;(try dsimp only at hSw);go_simp;try (with_reducible rfl))
      (try simp only [Act.put,lsA,lsZ,lsN])
      refine wtT (m:=20) (i:=13) (v:=?_) rfl (Or.inl ⟨by rfl,?_⟩) (SX.both hs0.out hs1.out) ?_
      rotate_left
      ·(intro w hSw;(try dsimp only at hSw);go_simp;try (with_reducible rfl))
      (try simp only [Act.put,lsA,lsZ,lsN])
      refine wtT (m:=20) (i:=14) (v:=?_) rfl (Or.inl ⟨by rfl,?_⟩) (SX.both hs0.out hs1.out) ?_
      rotate_left
      ·(intro w hSw;(try dsimp only at hSw);go_simp;try (with_reducible rfl))
      (try simp only [Act.put,lsA,lsZ,lsN])
      refine wX1 (j:=15) (by decide +kernel) rfl (fun K' hK=>?_)
      refine sCX rfl 31 #[.pointer (some ⟨q,0,none⟩),.slice pra pr.length prc] _ (run_ints (v0:=.pointer (some ⟨q,0,none⟩)) (v1:=.slice pra pr.length prc) (by rfl) (by rfl) (by rfl) _) (hg_int (HV.out.later (by go_grown)) (by omega) pra prc pr hrl (HR.out.later (by go_grown))) ?_
      rintro e w3 ⟨rfl,o',yb'⟩
      have G3:Hid (GW B w0 w q (n1+L.length+1) (n2+1+1) (n4+P.length) g p t0 n0 P L pa pc la lc w3):=(GWr.out.later (by go_grown)).given o'
      have Y3:Hid (NB w3 wr.heap.size pr):=yb'
      have c3:w3.cell? ⟨p,4,none⟩=some (.slice la L.length lc):=(cQa G3.out.out).trans rfl
      clear o' yb'
      refine ⟨_,rfl,hK.out _ _ (SX.both (KP.out _ G3.out.bel G3.out.box) c3) ?_⟩
      clear hK K'
      (try simp only [Act.put,lsA,lsZ,lsN])
      refine wtT (m:=20) (i:=16) (v:=?_) rfl (Or.inl ⟨by rfl,?_⟩) (SX.both (KP.out _ G3.out.bel G3.out.box) c3) ?_
      rotate_left
      ·(intro w hSw;(try dsimp only at hSw);go_simp;try (with_reducible rfl))
      (try simp only [Act.put,lsA,lsZ,lsN])
      refine wX1 (j:=17) (by decide +kernel) rfl (fun K' hK=>?_)
      go_simp
      refine hK.out _ _ (SX.both (KP.out _ (G3.out.later (bAl _ _)).bel (G3.out.later (bAl _ _)).box) ((cQa (G3.out.later (bAl _ _)).out).trans rfl)) ?_
      clear hK K'
      (try simp only [Act.put,lsA,lsZ,lsN])
      refine wX1 (j:=18) (by decide +kernel) rfl (fun K' hK=>?_)
      refine step_ly_append (by rfl) _ _ (by rfl) (.slice la L.length lc) L (by rfl) (G3.out.later (bAl _ _)).ly w3.heap.size 1 ⟨pl,some ⟨wr.heap.size,0,none⟩,pr.length+3,pr⟩ (by rfl) (new_cells2 w3 _ _ _) HPL.out ?_
      intro a4 n4' c4 w4 hy4 hg4
      obtain ⟨c4',f4,g5,k4⟩:=G3.out.appL ⟨wr.heap.size,rfl,Y3.out⟩ a4 n4' c4 w4 hy4 hg4
      refine hK.out _ _ (SX.both (KP.out _ k4.1 k4.2) c4') ?_
      clear hK K'
      (try simp only [Act.put,lsA,lsZ,lsN])
      refine wtT (m:=20) (i:=19) (v:=?_) rfl (Or.inl ⟨by rfl,?_⟩) (SX.both (KP.out _ k4.1 k4.2) c4') ?_
      rotate_left
      ·(intro w hSw;(try dsimp only at hSw);go_simp;try (with_reducible rfl))
      (try simp only [Act.put,lsA,lsZ,lsN])
      refine wX1 (j:=20) (by decide +kernel) rfl (fun K' hK=>?_)
      go_simp
      refine hK.out _ _ (SX.one (KP.out _ g5.bel g5.box) (by decide +kernel)) ?_
      clear hK K'
      (try simp only [Act.put,lsA,lsZ,lsN])
      refine wXd (by decide +kernel) ?_
      have G5:Hid _:=g5
      clear g5 k4 c4' f4 hy4 hg4 c3 hs0 hs1
      go_wp2
      go_roundw
      case rel=>exact ⟨L++[⟨pl,some ⟨wr.heap.size,0,none⟩,pr.length+3,pr⟩],a4,c4,by rw [List.length_append,List.length_singleton];omega,by rw [List.length_append,List.length_singleton];go_num,CORE.out _ rfl,by rw [show n1+(L++[(⟨pl,some ⟨wr.heap.size,0,none⟩,pr.length+3,pr⟩:LV)]).length=n1+L.length+1 by rw [List.length_append,List.length_singleton];omega];exact G5.out⟩
      case measure=>simp [intOf];omega
     ·have LCORE:Hid (L.map LV.core=g.ls.map LV.core):=by
       show _=_
       rw [hcore,show L.length=g.ls.length by omega,List.take_length]
      have q0:wr.cell? ⟨p,0,none⟩=some (.slice (some ⟨t0,0,none⟩) g.ts.length (g.ts.length+3)):=(cQa hW.out).trans rfl
      have q1:wr.cell? ⟨p,1,none⟩=some (.slice (some ⟨n0,0,none⟩) g.ns.length (g.ns.length+3)):=(cQa hW.out).trans rfl
      have q2:wr.cell? ⟨p,2,none⟩=some (.int .i64 g.start):=(cQa hW.out).trans rfl
      have q3:wr.cell? ⟨p,3,none⟩=some (.slice pa P.length pc):=(cQa hW.out).trans rfl
      have r0:wr.cell? ⟨w.heap.size+1,0,none⟩=some (.slice none 0 0):=(cQa hW.res).trans rfl
      have r1:wr.cell? ⟨w.heap.size+1,1,none⟩=some (.slice none 0 0):=(cQa hW.res).trans rfl
      have r2:wr.cell? ⟨w.heap.size+1,2,none⟩=some (.int .i64 0):=(cQa hW.res).trans rfl
      have r3:wr.cell? ⟨w.heap.size+1,3,none⟩=some (.slice none 0 0):=(cQa hW.res).trans rfl
      have r4:wr.cell? ⟨w.heap.size+1,4,none⟩=some (.slice none 0 0):=(cQa hW.res).trans rfl
      have y0:wr.frozen? ⟨w.heap.size+1,0,none⟩=false:=by simp [World.frozen?,hW.res]
      have y1:wr.frozen? ⟨w.heap.size+1,1,none⟩=false:=by simp [World.frozen?,hW.res]
      have y2:wr.frozen? ⟨w.heap.size+1,2,none⟩=false:=by simp [World.frozen?,hW.res]
      have y3:wr.frozen? ⟨w.heap.size+1,3,none⟩=false:=by simp [World.frozen?,hW.res]
      have y4:wr.frozen? ⟨w.heap.size+1,4,none⟩=false:=by simp [World.frozen?,hW.res]
      have hz:w.heap.size+1 < wr.heap.size:=lt_of_block hW.res
      have HW:Hid (GW B w0 w q (n1+L.length) (n2+1+1) (n4+P.length) g p t0 n0 P L pa pc la lc wr):=hW
      clear hW hcore ga
      go_wp2
      refine bodyPost_ret (v:=.agg #[.slice (some ⟨t0,0,none⟩) g.ts.length (g.ts.length+3),.slice (some ⟨n0,0,none⟩) g.ns.length (g.ns.length+3),.int .i64 g.start,.slice pa P.length pc,.slice la L.length lc]) (by simp [results,Tryz.results7,go_sem,r0,r1,r2,r3,r4,hz]) rfl ?_
      have eP:P.length=g.ps.length:=by simpa using congrArg List.length PCORE.out
      have eL:L.length=g.ls.length:=by simpa using congrArg List.length LCORE.out
      obtain ⟨f1,f2⟩:=HW.out.fin (.slice (some ⟨t0,0,none⟩) g.ts.length (g.ts.length+3)) (.slice (some ⟨n0,0,none⟩) g.ns.length (g.ns.length+3)) (.int .i64 g.start) (.slice pa P.length pc) (.slice la L.length lc)
      rw [<- eP,<- eL]
      exact ⟨⟨some ⟨t0,0,none⟩,g.ts.length+3,g.ts,some ⟨n0,0,none⟩,g.ns.length+3,g.ns,g.start,pa,pc,P,la,lc,L⟩,rfl,⟨rfl,rfl,rfl,PCORE.out,LCORE.out⟩,f1,f2⟩
 clear hK
 go_region_held3 (fun w'=>w'.cell? ⟨w.heap.size,0,none⟩=some (.slice g.ta g.ts.length g.tc)/\w'.cell? ⟨w.heap.size,1,none⟩=some (.slice g.na g.ns.length g.nc)/\w'.cell? ⟨w.heap.size,2,none⟩=some (.int .i64 g.start)) (first | (with_reducible exact keepS (set5 hn1 (K2.out _ (Below.refl _ _)).1 _ _ _ _ _ _ _ _ _ _)) | (with_reducible exact keepS (set5 hn0 (K2.out _ (Below.refl _ _)).1 _ _ _ _ _ _ _ _ _ _)) | (with_reducible exact keepS (K2.out _ (Below.refl _ _)).1) | (with_reducible exact keepS (K1.out _ (Below.refl _ _)).1) | (with_reducible exact keepS (K2.out _ (by go_grown)).1) | (with_reducible exact keepS (K1.out _ (by go_grown)).1) | exact keepS (K0.out _ (by go_grown)).1) (first
  | (go_at_call 29;guard_hyp GD1:Hid True;refine (hg_str (hA.out _ (by go_grown)).1 (by omega) g.ta g.tc g.ts HT.out.2.2.1 HT.out.1 (hA.out _ (by go_grown)).2.1.t).mono ?_;rintro e w1 ⟨rfl,o1,tb1⟩;obtain ⟨V1,E1,hg1⟩:=o1.ex;have BW1:Hid (Below B w w1):=(hA.out _ (by go_grown)).2.2.trans o1.bel;have A1:Hid (∀ wr,Below w1.heap.size w1 wr->HG B w0 wr q V1 E1 n1 (n2+1) n4/\GAt 140737488355328 wr g/\Below B w wr):=(fun wr hb=>⟨hg1.later hb,HGA.out wr (BW1.out.trans (hb.mono hg1.sz)),BW1.out.trans (hb.mono hg1.sz)⟩);have T1:Hid (∀ wr,Below w1.heap.size w1 wr->TB wr _ g.ts):=(fun wr hb=>tb1.oth (Oth.ofBelow hb));have K1:Hid (∀ wr,Below w1.heap.size w1 wr->wr.heap[w.heap.size]?=some (gBox g)/\wr.heap[w.heap.size+1]?=some (.cells #[.slice none 0 0,.slice none 0 0,.int .i64 0,.slice none 0 0,.slice none 0 0] 26)):=(fun wr hb=>by have e0:=k_next o1.oth (K0.out _ (by go_grown)).1;have e1:=k_next o1.oth (K0.out _ (by go_grown)).2;exact ⟨(hb.block _ (lt_of_block e0)).trans e0,(hb.block _ (lt_of_block e1)).trans e1⟩);have c0:w1.cell? ⟨w.heap.size,0,none⟩=some (.slice g.ta g.ts.length g.tc):=(cQa (K1.out w1 (Below.refl _ _)).1).trans rfl;have c1:w1.cell? ⟨w.heap.size,1,none⟩=some (.slice g.na g.ns.length g.nc):=(cQa (K1.out w1 (Below.refl _ _)).1).trans rfl;have c2:w1.cell? ⟨w.heap.size,2,none⟩=some (.int .i64 g.start):=(cQa (K1.out w1 (Below.refl _ _)).1).trans rfl;have hz1:w.heap.size+1 < w1.heap.size:=lt_of_block (K1.out w1 (Below.refl _ _)).2;have hn1:w.heap.size≠w1.heap.size:=(by omega);have O1:Hid _:=o1.oth;clear GD1 o1 tb1 hg1)
  | (go_at_call 29;refine (hg_str (A1.out _ (by go_grown)).1 (by omega) g.na g.nc g.ns HT.out.2.2.2 HT.out.2.1 (A1.out _ (by go_grown)).2.1.n_).mono ?_;rintro e w2 ⟨rfl,o2,tb2⟩;obtain ⟨V2,E2,hg2⟩:=o2.ex;have G2:Hid (HG B w0 w2 q V2 E2 n1 (n2+1+1) n4):=hg2;have BW2:Hid (Below B w w2):=(A1.out _ (by go_grown)).2.2.trans o2.bel;have T2:Hid (TB w2 _ g.ts/\TB w2 _ g.ns):=⟨(T1.out _ (by go_grown)).oth o2.oth,tb2⟩;have K2:Hid (∀ wr,Below w2.heap.size w2 wr->wr.heap[w.heap.size]?=some (gBox g)/\wr.heap[w.heap.size+1]?=some (.cells #[.slice none 0 0,.slice none 0 0,.int .i64 0,.slice none 0 0,.slice none 0 0] 26)):=(fun wr hb=>by have e0:=k_next o2.oth (K1.out _ (by go_grown)).1;have e1:=k_next o2.oth (K1.out _ (by go_grown)).2;exact ⟨(hb.block _ (lt_of_block e0)).trans e0,(hb.block _ (lt_of_block e1)).trans e1⟩);clear c0 c1 c2;have c0:w2.cell? ⟨w.heap.size,0,none⟩=some (.slice g.ta g.ts.length g.tc):=(cQa (K2.out w2 (Below.refl _ _)).1).trans rfl;have c1:w2.cell? ⟨w.heap.size,1,none⟩=some (.slice g.na g.ns.length g.nc):=(cQa (K2.out w2 (Below.refl _ _)).1).trans rfl;have c2:w2.cell? ⟨w.heap.size,2,none⟩=some (.int .i64 g.start):=(cQa (K2.out w2 (Below.refl _ _)).1).trans rfl;have hz2:w.heap.size+1 < w2.heap.size:=lt_of_block (K2.out w2 (Below.refl _ _)).2;have hn2:w.heap.size≠w2.heap.size:=(by omega);have O2:Hid _:=o2.oth;clear o2 tb2 hg2;(first | (have px:w2.heap[w.heap.size+1+1]?=some (.cells #[.slice none 0 0,.slice none 0 0,.int .i64 0,.slice none 0 0,.slice none 0 0] 26):=(by with_reducible exact k_next O2.out (k_next O1.out (newO3 w (gBox g) (.cells #[.slice none 0 0,.slice none 0 0,.int .i64 0,.slice none 0 0,.slice none 0 0] 26) (.cells #[.slice none 0 0,.slice none 0 0,.int .i64 0,.slice none 0 0,.slice none 0 0] 26))));have z0:w2.cell? ⟨w.heap.size+1+1,0,none⟩=some (.slice none 0 0):=(cQa px).trans rfl;have y0:w2.frozen? ⟨w.heap.size+1+1,0,none⟩=false:=(by simp [World.frozen?,px]);have z1:w2.cell? ⟨w.heap.size+1+1,1,none⟩=some (.slice none 0 0):=(cQa px).trans rfl;have y1:w2.frozen? ⟨w.heap.size+1+1,1,none⟩=false:=(by simp [World.frozen?,px]);have z2:w2.cell? ⟨w.heap.size+1+1,2,none⟩=some (.int .i64 0):=(cQa px).trans rfl;have y2:w2.frozen? ⟨w.heap.size+1+1,2,none⟩=false:=(by simp [World.frozen?,px]);have z3:w2.cell? ⟨w.heap.size+1+1,3,none⟩=some (.slice none 0 0):=(cQa px).trans rfl;have y3:w2.frozen? ⟨w.heap.size+1+1,3,none⟩=false:=(by simp [World.frozen?,px]);have z4:w2.cell? ⟨w.heap.size+1+1,4,none⟩=some (.slice none 0 0):=(cQa px).trans rfl;have y4:w2.frozen? ⟨w.heap.size+1+1,4,none⟩=false:=(by simp [World.frozen?,px]);have PW:Hid (w2.heap[w.heap.size+1+1]?=some (.cells #[.slice none 0 0,.slice none 0 0,.int .i64 0,.slice none 0 0,.slice none 0 0] 26)):=px;clear px) | (have px:w2.heap[w1.heap.size]?=some (.cells #[.slice none 0 0,.slice none 0 0,.int .i64 0,.slice none 0 0,.slice none 0 0] 26):=(by with_reducible exact k_next O2.out (heap_alloc_new w1 (.cells #[.slice none 0 0,.slice none 0 0,.int .i64 0,.slice none 0 0,.slice none 0 0] 26)));have z0:w2.cell? ⟨w1.heap.size,0,none⟩=some (.slice none 0 0):=(cQa px).trans rfl;have y0:w2.frozen? ⟨w1.heap.size,0,none⟩=false:=(by simp [World.frozen?,px]);have z1:w2.cell? ⟨w1.heap.size,1,none⟩=some (.slice none 0 0):=(cQa px).trans rfl;have y1:w2.frozen? ⟨w1.heap.size,1,none⟩=false:=(by simp [World.frozen?,px]);have z2:w2.cell? ⟨w1.heap.size,2,none⟩=some (.int .i64 0):=(cQa px).trans rfl;have y2:w2.frozen? ⟨w1.heap.size,2,none⟩=false:=(by simp [World.frozen?,px]);have z3:w2.cell? ⟨w1.heap.size,3,none⟩=some (.slice none 0 0):=(cQa px).trans rfl;have y3:w2.frozen? ⟨w1.heap.size,3,none⟩=false:=(by simp [World.frozen?,px]);have z4:w2.cell? ⟨w1.heap.size,4,none⟩=some (.slice none 0 0):=(cQa px).trans rfl;have y4:w2.frozen? ⟨w1.heap.size,4,none⟩=false:=(by simp [World.frozen?,px]);have PW:Hid (w2.heap[w1.heap.size]?=some (.cells #[.slice none 0 0,.slice none 0 0,.int .i64 0,.slice none 0 0,.slice none 0 0] 26)):=px;clear px) | skip)))
 all_goals
  have ot:Oth w w2:=(((Oth.ofBelow (by go_grown)).trans O1.out).trans (Oth.ofBelow (by go_grown))).trans O2.out
  have tb:=T2.out.1
  have nb:=T2.out.2
  simp only [drew_size,alloc_size1] at tb nb
 ·exact KEY _ _ _ _ _ _ _ _ _ _ _ _ _ _ _ (gw_new G2.out (K2.out _ (Below.refl _ _)).1 (K2.out _ (Below.refl _ _)).2 tb nb BW2.out hsz ot hz2)
 ·exact KEY _ _ _ _ _ _ _ _ _ _ _ _ _ _ _ (gw_set G2.out (K2.out _ (Below.refl _ _)).1 (K2.out _ (Below.refl _ _)).2 tb nb BW2.out hsz ot hz2 PW.out hz1)
 ·exact KEY _ _ _ _ _ _ _ _ _ _ _ _ _ _ _ (gw_set G2.out (K2.out _ (Below.refl _ _)).1 (K2.out _ (Below.refl _ _)).2 tb nb BW2.out hsz ot hz2 PW.out (by omega))
end Go.Proofs.YtlfiohdhcmmjbaaGreatDoor
