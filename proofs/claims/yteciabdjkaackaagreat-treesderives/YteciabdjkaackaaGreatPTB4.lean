import Derived.Test.YteciabdjkaackaaGreatPTB0ToTB3
namespace Go.Proofs.YteciabdjkaackaaGreat
set_option linter.unusedVariables false
open Go.RowKit
theorem dlA_len {A B:AB}(h:samA B A):(dlA B).length=(dlA A).length:=by
 obtain ⟨D,S⟩:=A
 obtain ⟨E,T⟩:=B
 obtain ⟨h1,h2⟩:=h
 induction S generalizing T with
 | nil =>
  cases T with
  | nil=>simpa [dlA,ksL] using h1.1
  | cons g T=>exact h2.elim
 | cons f S ih =>
  cases T with
  | nil=>exact h2.elim
  | cons g T =>
   obtain ⟨-,-,c,d⟩:=h2
   rw [dlA_cons,dlA_cons,List.length_append,List.length_append,ih T h1 d,c.1]
theorem nlA_len (A:AB):(nlA A).length=A.2.length:=by
 unfold nlA
 rw [mkNd_len,List.length_reverse]
theorem samS_len:∀ {S T:List FrB},samS S T->S.length=T.length
 | [],[],_=>rfl
 | _ :: _,_ :: _,h=>congrArg (·+1) (samS_len h.2.2.2)
 | [],_ :: _,h=>h.elim
 | _ :: _,[],h=>h.elim
abbrev ndB (x:Int×Nat×Nat):Obj:=.cells #[.int .i64 x.1,.int .i64 (x.2.1:Int),.int .i64 (x.2.2:Int)] 193
abbrev trB (p:Int)(ta:Option Addr)(n tc:Nat):Obj:=.cells #[.int .i64 p,.int .i64 0,.string ByteArray.empty,.slice ta n tc] 26
structure CzB (w0:World)(N bb bo:Nat)(OC:Nat->Option Value)(RF:Nat->Option Obj)(vo vd:Value)(NL':List (Int×Nat×Nat))(DL ks:List TV)(p:Int)(k M b2 b3:Nat)(ta:Option Addr)(n tc:Nat)(w:World):Prop where
 bd:BdM w0 N bb bo OC RF vo vd NL' (DL++ks) w
 m2:M<=b2
 m3:M<=b3
 mm:∀ j,(vo.ownBlock=some j∨vd.ownBlock=some j∨bb=j∨(∃ a∈inR (DL++ks),a.1=j)∨∃ o,RF j=some o)->j < M
 ne:b2≠b3
 x2:w.heap[b2]?=some (ndB (p,k,DL.length))
 x3:w.heap[b3]?=some (trB p ta n tc)
 row:n≠0->n=ks.length/\KRow w ta ks/\∃ b cs,ta=some ⟨b,0,none⟩/\M<=b/\b≠b2/\b≠b3/\w.heap[b]?=some (.cells cs 26)
section
variable {w0:World} {N bb bo:Nat} {OC:Nat->Option Value} {RF:Nat->Option Obj} {w:World}
theorem kids_B2 {vo vd:Value}{NL:List (Int×Nat×Nat)}{DL ks:List TV}{p:Int}{k:Nat}(h:BdM w0 N bb bo OC RF vo vd (NL++[(p,k,DL.length)]) (DL++ks) w)(hl:NL.length<=1000000000)(hd:(DL++ks).length<=1000000000):Calls Tryz.prog 129 #[.pointer (some ⟨bb,bo,none⟩)] w fun e w'=>e=.returned (.int .i64 (ks.length:Int))/\Below w.heap.size w w':=by
 have:=kids_B h hl hd (by simp)
 rwa [show (DL++ks).length - DL.length=ks.length by simp] at this
theorem BdM.kept {vo vd:Value}{NL:List (Int×Nat×Nat)}{DL:List TV}(h:BdM w0 N bb bo OC RF vo vd NL DL w){w':World}{M:Nat}(hB:Below N w0 w')(hs:w.heap.size<=w'.heap.size)(mm:∀ j,(vo.ownBlock=some j∨vd.ownBlock=some j∨bb=j∨(∃ a∈inR DL,a.1=j)∨∃ o,RF j=some o)->j < M)(hk:∀ j,j < M->w'.heap[j]?=w.heap[j]?):BdM w0 N bb bo OC RF vo vd NL DL w':=by
 obtain ⟨C,ty,hC,n1,n2,c0,c1⟩:=h.bk
 have hbb:=hk bb (mm bb (.inr (.inr (.inl rfl))))
 refine ⟨hB,Nat.le_trans h.nz hs,⟨C,ty,hbb.trans hC,n1,n2,c0,c1⟩,h.bn,fun o h1 h2=>(World.cell?_of_block hbb).trans (h.oc o h1 h2),fun j o hj=>?_,h.no.kept fun j hj=>hk j (mm j (.inl hj)),h.td.kept fun j hj=>hk j (mm j (.inr (.inl hj))),h.oo,h.od,fun t ht=>?_,fun a ha=>?_,h.dn⟩
 ·obtain ⟨a,b,c,d⟩:=h.rf j o hj
  exact ⟨(hk j (mm j (.inr (.inr (.inr (.inr ⟨o,hj⟩)))))).trans a,b,c,d⟩
 ·refine keep_at t 0 0 (h.tr t ht) fun a ha=>?_
  have hm:a∈inR DL:=List.mem_flatMap.2 ⟨t,ht,ha⟩
  obtain ⟨-,-,-,cs,hc⟩:=h.ad a hm
  have e:=hk a.1 (mm a.1 (.inr (.inr (.inr (.inl ⟨a,hm,rfl⟩)))))
  exact ⟨lt_of_block (e.trans hc),fun i _=>World.cell?_of_block e⟩
 ·obtain ⟨a1,b,c,cs,hc⟩:=h.ad a ha
  exact ⟨a1,b,c,cs,(hk a.1 (mm a.1 (.inr (.inr (.inr (.inl ⟨a,ha,rfl⟩)))))).trans hc⟩
theorem CzB.start {wr w3:World}{vo vd:Value}{NL':List (Int×Nat×Nat)}{DL ks:List TV}{p:Int}{k:Nat}(h:BdM w0 N bb bo OC RF vo vd NL' (DL++ks) wr)(hb:Below wr.heap.size wr w3):CzB w0 N bb bo OC RF vo vd NL' DL ks p k wr.heap.size w3.heap.size (w3.heap.size+1) none 0 0 ((w3.alloc (ndB (p,k,DL.length))).alloc (trB p none 0 0)):=by
 obtain ⟨h1,h2,h3⟩:=two_allocT w3 (ndB (p,k,DL.length)) (trB p none 0 0)
 have hs:=hb.size
 refine ⟨h.later (hb.trans (h1.mono hs)),hs,by omega,?_,by omega,h2,h3,fun e=>absurd rfl e⟩
 rintro j (e | e | e | ⟨a,ha,e⟩ | ⟨o,e⟩)
 ·exact h.no.lt j e
 ·exact h.td.lt j e
 ·obtain ⟨C,ty,hC,-⟩:=h.bk
  rw [<- e];exact lt_of_block hC
 ·obtain ⟨-,-,-,cs,hc⟩:=h.ad a ha
  rw [<- e];exact lt_of_block hc
 ·exact lt_of_block (h.rf j o e).1
section
variable {vo vd:Value} {NL':List (Int×Nat×Nat)} {DL ks:List TV} {p:Int} {k M b2 b3 n tc:Nat} {ta:Option Addr}
theorem CzB.later (h:CzB w0 N bb bo OC RF vo vd NL' DL ks p k M b2 b3 ta n tc w){w':World}(hb:Below w.heap.size w w'):CzB w0 N bb bo OC RF vo vd NL' DL ks p k M b2 b3 ta n tc w':=by
 refine ⟨h.bd.later hb,h.m2,h.m3,h.mm,h.ne,(hb.block _ (lt_of_block h.x2)).trans h.x2,(hb.block _ (lt_of_block h.x3)).trans h.x3,fun hn=>?_⟩
 obtain ⟨e,hk,b,cs,e1,e2,e3,e4,e5⟩:=h.row hn
 exact ⟨e,hk.later hb,b,cs,e1,e2,e3,e4,(hb.block _ (lt_of_block e5)).trans e5⟩
theorem CzB.row3 (h:CzB w0 N bb bo OC RF vo vd NL' DL ks p k M b2 b3 none 0 0 w){w1:World}{a':Option Addr}{c':Nat}(hb:Below w.heap.size w w1)(hM:M<=w.heap.size)(hne:ks≠[])(own:w1.ownsRow w.heap.size 26 4 (.slice a' ks.length c') ks.length (ks.flatMap trCells))(ha:∃ b,a'=some ⟨b,0,none⟩/\w.heap.size<=b):CzB w0 N bb bo OC RF vo vd NL' DL ks p k M b2 b3 a' ks.length c' (w1.setCell ⟨b3,3,none⟩ (.slice a' ks.length c')):=by
 obtain ⟨b,rfl,hbw⟩:=ha
 have h1:=h.later hb
 have l2:=lt_of_block h.x2
 have l3:=lt_of_block h.x3
 have hN:N<=b3:=by
  have q:=h.m3
  have q2:=h.mm bb (.inr (.inr (.inl rfl)))
  have q3:=h.bd.bn
  omega
 have ho:∀ j,j≠b3->(w1.setCell ⟨b3,3,none⟩ (.slice (some ⟨b,0,none⟩) ks.length c')).heap[j]?=w1.heap[j]?:=fun j hj=>Below.heap_setCell _ _ _ _ hj
 have hz:(w1.setCell ⟨b3,3,none⟩ (.slice (some ⟨b,0,none⟩) ks.length c')).heap.size=w1.heap.size:=by simp [World.setCell]
 obtain ⟨r1,cs,r2⟩:=row_krow own hne (ho b (by omega)) (by rw [hz];exact Nat.le_refl _)
 refine ⟨h1.bd.kept (h1.bd.bel.setCell (p:=⟨b3,3,none⟩) hN _) (by rw [hz];exact Nat.le_refl _) h.mm fun j hj=>ho j (by have:=h.m3;omega),h.m2,h.m3,h.mm,h.ne,(ho b2 h.ne).trans h1.x2,heap_setCell_same w1 b3 3 _ _ _ h1.x3,fun _=>⟨rfl,r1,b,cs,rfl,by omega,by omega,by omega,r2⟩⟩
theorem CzB.pop (h:CzB w0 N bb bo OC RF vo vd NL' DL ks p k M b2 b3 ta n tc w){v':Value}{NL'':List (Int×Nat×Nat)}(ro:NDo w v' NL'')(ow:v'.ownBlock=vo.ownBlock):CzB w0 N bb bo OC RF v' vd NL'' DL ks p k M b2 b3 ta n tc (w.setCell ⟨bb,bo,none⟩ v'):=by
 have hbb:=h.mm bb (.inr (.inr (.inl rfl)))
 have ho:∀ j,M<=j->(w.setCell ⟨bb,bo,none⟩ v').heap[j]?=w.heap[j]?:=fun j hj=>Below.heap_setCell _ _ _ _ (fun e=>by dsimp only at e;omega)
 have hz:(w.setCell ⟨bb,bo,none⟩ v').heap.size=w.heap.size:=by simp [World.setCell]
 refine ⟨h.bd.setO h.bd.bel (Nat.le_refl _) (fun _ _ e _=>e) ro (fun j hj=>.inl (by rw [<- ow];exact hj)),h.m2,h.m3,fun j hj=>h.mm j (by rw [<- ow];exact hj),h.ne,(ho b2 h.m2).trans h.x2,(ho b3 h.m3).trans h.x3,fun hn=>?_⟩
 obtain ⟨e,hk,b,cs,e1,e2,e3,e4,e5⟩:=h.row hn
 refine ⟨e,?_,b,cs,e1,e2,e3,e4,(ho b e2).trans e5⟩
 intro hne
 obtain ⟨b',off,q,hl,hc⟩:=hk hne
 rw [e1] at q
 simp only [Option.some.injEq,Addr.mk.injEq] at q
 obtain ⟨rfl,rfl,-⟩:=q
 have ec:∀ o,(w.setCell ⟨bb,bo,none⟩ v').cell? ⟨b,o,none⟩=w.cell? ⟨b,o,none⟩:=fun o=>World.cell?_of_block (ho b e2)
 refine ⟨b,0,e1,by rw [hz];exact hl,fun i hi=>?_⟩
 rw [ec,ec,ec,ec]
 exact hc i hi
theorem CzB.fin {da:Option Addr}{dl dc:Nat}(h:CzB w0 N bb bo OC RF vo (.slice da dl dc) NL' DL ks p k M b2 b3 ta ks.length tc w){w5:World}{v':Value}(hg:Grew w w5 (.slice da DL.length dc) v')(ro:TRo w5 v' (DL++[TV.mk p 0 ByteArray.empty ta tc ks])):BdM w0 N bb bo OC RF vo v' NL' (DL++[TV.mk p 0 ByteArray.empty ta tc ks]) (w5.setCell ⟨bb,bo+1,none⟩ v'):=by
 refine h.bd.fold (TV.mk p 0 ByteArray.empty ta tc ks) rfl ?_ (fun hne=>?_) (vp:=.slice da DL.length dc) (by cases da<;>rfl) hg ro
 ·intro hne
  exact (h.row (by intro e;exact hne (List.eq_nil_of_length_eq_zero e))).2.1 hne
 ·obtain ⟨e,hk,b,cs,e1,e2,e3,e4,e5⟩:=h.row (by intro e;exact hne (List.eq_nil_of_length_eq_zero e))
  have hbb:=h.mm bb (.inr (.inr (.inl rfl)))
  refine ⟨b,cs,e1,by have:=h.bd.bn;omega,by omega,fun q=>?_,fun a ha q=>?_,e5⟩
  ·have:=h.mm b (.inr (.inl q));omega
  ·have:=h.mm b (.inr (.inr (.inr (.inl ⟨a,ha,q⟩))));omega
theorem CzB.grew {da:Option Addr}{dl dc n0:Nat}(h:CzB w0 N bb bo OC RF vo (.slice da dl dc) NL' DL ks p k M b2 b3 ta n tc w){w5:World}{v':Value}(hg:Grew w w5 (.slice da n0 dc) v'):w5.heap[bb]?=w.heap[bb]?/\w5.heap[b2]?=w.heap[b2]?/\w5.heap[b3]?=w.heap[b3]?:=by
 have e:(Value.slice da n0 dc).ownBlock=(Value.slice da dl dc).ownBlock:=by cases da<;>rfl
 obtain ⟨C,ty,hC,-⟩:=h.bd.bk
 refine ⟨hg.grown.block bb (lt_of_block hC) fun q=>?_,hg.grown.block b2 (lt_of_block h.x2) fun q=>?_,hg.grown.block b3 (lt_of_block h.x3) fun q=>?_⟩
 ·exact h.bd.bb_d (by rw [<- e];exact q.symm)
 ·have:=h.mm b2 (.inr (.inl (by rw [<- e];exact q.symm)))
  have:=h.m2;omega
 ·have:=h.mm b3 (.inr (.inl (by rw [<- e];exact q.symm)))
  have:=h.m3;omega
end
theorem pre_at {w:World}{da:Option Addr}{dl dc:Nat}{l m:List TV}(h:TRo w (.slice da dl dc) (l++m)):dl=(l++m).length/\(l++m).length<=dc/\TRo w (.slice da l.length dc) l/\(da=none->dc=0)/\(∀ ad,da=some ad->ad=⟨ad.block,0,none⟩):=by
 obtain ⟨a,c,e,h1,h2,h3,h4⟩:=RO.pre (f:=trCells) (fun _=>rfl) h
 simp only [Value.slice.injEq] at e
 obtain ⟨rfl,rfl,rfl⟩:=e
 exact ⟨rfl,h1,h2,h3,h4⟩
def r4S (bb bo b2:Nat)(vd:Value)(m:Nat)(w:World):Prop:=w.cell? ⟨bb,bo+1,none⟩=some vd/\w.cell? ⟨b2,2,none⟩=some (.int .i64 (m:Int))
def r6S (bb bo b2 b3:Nat)(vd:Value)(m:Nat)(p:Int)(ta:Option Addr)(n tc:Nat)(w:World):Prop:=w.cell? ⟨bb,bo+1,none⟩=some vd/\w.cell? ⟨b2,2,none⟩=some (.int .i64 (m:Int))/\w.cell? ⟨b3,0,none⟩=some (.int .i64 p)/\w.cell? ⟨b3,1,none⟩=some (.int .i64 0)/\w.cell? ⟨b3,2,none⟩=some (.string ByteArray.empty)/\w.cell? ⟨b3,3,none⟩=some (.slice ta n tc)
theorem CzB.r4 {vo vd:Value}{NL':List (Int×Nat×Nat)}{DL ks:List TV}{p:Int}{k M b2 b3 n tc m:Nat}{ta:Option Addr}(h:CzB w0 N bb bo OC RF vo vd NL' DL ks p k M b2 b3 ta n tc w)(hm:DL.length=m):r4S bb bo b2 vd m w:=by
 refine ⟨h.bd.cd.1,?_⟩
 rw [<- hm];exact (cQa h.x2).trans rfl
theorem CzB.r6 {vo vd:Value}{NL':List (Int×Nat×Nat)}{DL ks:List TV}{p:Int}{k M b2 b3 n tc m:Nat}{ta:Option Addr}(h:CzB w0 N bb bo OC RF vo vd NL' DL ks p k M b2 b3 ta n tc w)(hm:DL.length=m):r6S bb bo b2 b3 vd m p ta n tc w:=by
 refine ⟨h.bd.cd.1,?_,(cQa h.x3).trans rfl,(cQa h.x3).trans rfl,(cQa h.x3).trans rfl,(cQa h.x3).trans rfl⟩
 rw [<- hm];exact (cQa h.x2).trans rfl
theorem run_clone1 {o:Oper}{a:Act}{t0:TypeId}{v0:Value}{x0:Operand}(hop:o.op=Op.call { callee:=Callee.value (Operand.func 76),args:=#[x0],argTypes:=#[t0] })(h0:a.eval x0=v0)(w:World):(execOp a.eval o).run Tryz.prog w=.ok (.enter 76 #[v0]) w:=by
 have hf:a.eval (Operand.func 76)=.func (.func 76) #[] #[]:=rfl
 simp [execOp,hop,resolve,invoke,h0,hf,Deferred.ofValue]
theorem wpAnyX_takeBM {P:Program}{ops:Array Oper}{Q:Exit->Act->World->Prop}{md:Region.Mode}{m i:Nat}{oi:Oper}{v:Value}{S0 S1:World->Prop}{fuel:Nat}{listed:Array Bool}{a:Act}{w:World}(hi':ops.toList[i]?=some oi)
  (hs:Region.noSelect ops=true) (hl:Region.waitsFor md ops m i=true) (him:i < m) (hf:Region.free md ops listed i=true) (hr:(Region.ready md ops listed).contains i=true)
  (hQ:∀ c a w,Q (.panic c) (a.put oi.dst v) w->Q (.panic c) a w) (hc0:listed.getD m false=false) (hy:YieldsIf P ops (fun w=>S0 w/\S1 w) oi v a) (hS:SX m S0 S1 listed w)
  (h:wpAnyX P md ops Q (SX m S0 S1) fuel (listed.setIfInBounds i true) (a.put oi.dst v) w):wpAnyX P md ops Q (SX m S0 S1) (fuel+1) listed a w :=
 have hi:ops[i]?=some oi:=by rw [<- Array.getElem?_toList];exact hi'
 wpAnyX_first (Cl:=fun L=>L.getD m false=true->L.getD i false=true) hi (Region.noSelect_spec hs) hQ
  (fun L j hL hj=>fun hm=>by
   by_cases hjm:j=m
   ·subst hjm
    obtain ⟨_,oj,hoj,hall⟩:=mem_ready.1 hj
    obtain ⟨o',ho',e,he,hb,hon⟩:=Region.waitsFor_spec hl
    obtain rfl:o'=oj:=Option.some.inj (ho'.symm.trans hoj)
    have h2:=hall e he hb
    rw [hon] at h2
    exact getD_set_true h2
   ·rw [getD_set_ne false hjm] at hm
    exact getD_set_true (hL hm))
  (fun L w hc hun hS=>⟨hS.1,hS.2 (by
   cases e:L.getD m false with
   | false=>rfl
   | true=>have:=hc e;rw [getD_both hun] at this;cases this)⟩)
  (fun L w=>by
   have e:(L.setIfInBounds i true).getD m false=L.getD m false:=getD_set_ne false (by omega)
   unfold SX
   rw [e]) fuel listed a w (Region.free_spec hi hf) (by simpa using hr) (fun e=>by rw [hc0] at e;cases e) hy hS h
theorem wpAnyX_takeBP {P:Program}{ops:Array Oper}{Q:Exit->Act->World->Prop}{md:Region.Mode}{m i:Nat}{oi:Oper}{v:Value}{S0 S1:World->Prop}{fuel:Nat}{listed:Array Bool}{a:Act}{w:World}(hi':ops.toList[i]?=some oi)
  (hs:Region.noSelect ops=true) (him:i≠m) (hf:Region.free md ops listed i=true) (hr:(Region.ready md ops listed).contains i=true)
  (hQ:∀ c a w,Q (.panic c) (a.put oi.dst v) w->Q (.panic c) a w) (hy:YieldsIf P ops (fun _=>True) oi v a) (hS:SX m S0 S1 listed w)
  (h:wpAnyX P md ops Q (SX m S0 S1) fuel (listed.setIfInBounds i true) (a.put oi.dst v) w):wpAnyX P md ops Q (SX m S0 S1) (fuel+1) listed a w :=
 have hi:ops[i]?=some oi:=by rw [<- Array.getElem?_toList];exact hi'
 wpAnyX_first (Cl:=fun _=>True) (T:=fun _=>True) hi (Region.noSelect_spec hs) hQ (fun _ _ _ _=>trivial) (fun _ _ _ _ _=>trivial)
  (fun L w=>by
   have e:(L.setIfInBounds i true).getD m false=L.getD m false:=getD_set_ne false him
   unfold SX
   rw [e]) fuel listed a w (Region.free_spec hi hf) (by simpa using hr) trivial hy hS h
set_option linter.unusedSimpArgs false in
set_option maxRecDepth 100000 in
set_option maxHeartbeats 4000000 in
theorem close_B {A:AB}(h:BdS w0 N bb bo OC RF A w)(hz:(dlA A).length+A.2.length<=1000000000):Calls Tryz.prog 154 #[.pointer (some ⟨bb,bo,none⟩)] w fun e w'=>e=.returned (.tuple #[])/\BdS w0 N bb bo OC RF (clU2 A) w':=by
 have S0:Hid (BdS w0 N bb bo OC RF A w/\(dlA A).length+A.2.length<=1000000000):=⟨h,hz⟩
 clear h hz
 go_enter Tryz.func154,Tryz.ntmps154
 go_wp2
 go_loopg [] (A.2.length+1) (fun gk wr=>∃ A',BdS w0 N bb bo OC RF A' wr/\clU2 A'=clU2 A/\A'.2.length < gk/\(dlA A').length+A'.2.length<=1000000000)
 case atStart=>exact ⟨A,S0.out.1,rfl,by omega,S0.out.2⟩
 case round =>
  clear S0
  obtain ⟨⟨D,S⟩,hB,hcl,hg,hz⟩:=hrel
  obtain ⟨vo,vd,⟨E,T⟩,hs,hM⟩:=hB
  have hzE:=dlA_len hs
  cases S with
  | nil =>
   cases T with
   | cons g T=>exact hs.2.elim
   | nil =>
    have R:Hid (BdS w0 N bb bo OC RF (clU2 A) wr):=by
     show BdS _ _ _ _ _ _ _ _
     rw [<- hcl];exact ⟨_,_,(E,[]),hs,hM⟩
    have hno:NDo wr vo []:=hM.no
    obtain ⟨oa,oc,rfl,_⟩:=RO.len hno
    have co:=hM.co.1
    clear hM hno hs hcl hg hz hzE
    simp only [List.length_nil] at co
    go_wp2
    refine bodyPost_end (results_none rfl _ _ _) rfl ?_
    exact ⟨rfl,R.out⟩
  | cons f S =>
   cases T with
   | nil=>exact hs.2.elim
   | cons g T =>
    have hs0:=hs
    obtain ⟨h1,h2,h3,h4,h5⟩:=hs
    have hTl:=samS_len h5
    have R0:Hid (g.ks.length≠g.k->BdS w0 N bb bo OC RF (clU2 A) wr):=fun hk=>by
     rw [<- hcl,clU2_cons,if_neg (by rw [<- h3,<- h4.1];exact hk)]
     exact ⟨_,_,(E,g :: T),hs0,hM⟩
    have hn:=nlA_len (E,T)
    dsimp only at h1 h2 h3 h4 h5 hn hg hz
    simp only [List.length_cons] at hg hz
    rw [nlA_cons,dlA_cons] at hM
    rw [dlA_cons,dlA_cons,List.length_append,List.length_append] at hzE
    rw [dlA_cons,List.length_append] at hz
    have hk4:=h4.1
    have RY:Hid (g.ks.length=g.k->∀ (vo' vd':Value) (a:Option Addr) (c:Nat) (w':World),BdM w0 N bb bo OC RF vo' vd' (nlA (E,T)) (dlA (E,T)++[TV.mk g.p 0 ByteArray.empty a c g.ks]) w'->∃ A',BdS w0 N bb bo OC RF A' w'/\clU2 A'=clU2 A/\A'.2.length < gk - 1/\(dlA A').length+A'.2.length<=1000000000):=fun hk vo' vd' a c w' hM'=>by
     refine ⟨adA (D,S) (ndT f),⟨vo',vd',adA (E,T) (TV.mk g.p 0 ByteArray.empty a c g.ks),samA_ad ⟨h1,h5⟩ (nd_sam h2 h4 a c),?_⟩,?_,?_,?_⟩
     ·rw [nlA_ad,dlA_ad];exact hM'
     ·rw [<- hcl,clU2_cons,if_pos (by rw [<- h3,<- h4.1];exact hk)]
     ·rw [adA_len];omega
     ·rw [dlA_ad,adA_len,List.length_append,List.length_singleton];omega
    have HGK:Hid (0 < gk):=by show _ < _;omega
    have hb1:(nlA (E,T)).length<=1000000000:=by omega
    have hb2:(dlA (E,T)++g.ks).length<=1000000000:=by rw [List.length_append];omega
    clear hs0 h1 h2 h3 h4 h5 hcl hg hz hzE hn hTl hk4
    generalize nlA (E,T)=NL at *
    generalize dlA (E,T)=DL at *
    obtain ⟨p,k,ks⟩:=g
    dsimp only at *
    have CK:Hid (∀ w',Below wr.heap.size wr w'->Calls Tryz.prog 129 #[.pointer (some ⟨bb,bo,none⟩)] w' fun e w''=>e=.returned (.int .i64 (ks.length:Int))/\Below w'.heap.size w' w''):=fun w' hb=>kids_B2 (hM.later hb) hb1 hb2
    have CL:Hid (∀ w',Below wr.heap.size wr w'->Calls Tryz.prog 128 #[.pointer (some ⟨bb,bo,none⟩)] w' fun e w''=>e=.returned (.agg #[.int .i64 p,.int .i64 (k:Int),.int .i64 (DL.length:Int)])/\Below w'.heap.size w' w''):=fun w' hb=>last_B (hM.later hb) hb1
    obtain ⟨ob,oc,rfl,hoc,-,hPo⟩:=RO.pop (f:=ndC) (k:=3) (fun _=>rfl) hM.no
    have co:=hM.co.1
    have HM:Hid (BdM w0 N bb bo OC RF (.slice (some ⟨ob,0,none⟩) (NL.length+1) oc) vd (NL++[(p,k,DL.length)]) (DL++ks) wr/\NDo wr (.slice (some ⟨ob,0,none⟩) NL.length oc) NL/\NL.length<=1000000000/\(DL++ks).length<=1000000000):=⟨hM,hPo,hb1,hb2⟩
    have LT:Hid (NL.length+1<=oc):=hoc
    clear hM hPo hb1 hb2 hoc
    have hpos:(0:Int) < (NL.length:Int)+1:=by omega
    obtain ⟨m,hm⟩:∃ m,DL.length=m:=⟨_,rfl⟩
    rw [hm] at CL
    by_cases hk:ks.length=k
    ·have HKk:Hid (ks.length=k):=hk
     clear R0
     subst hk
     have HMM:Hid (DL.length=m):=hm
     clear hm
     generalize hkl:ks.length=kl at *
     go_upto_region 3 with (first | (go_at_call 129;refine (CK.out _ (Below.refl _ _)).mono ?_;rintro e w1 ⟨rfl,b1⟩;have B1:Hid (Below wr.heap.size wr w1):=b1;clear b1) | (go_at_call 128;refine (CL.out _ B1.out).mono ?_;rintro e w2 ⟨rfl,b2⟩;have B2:Hid (Below wr.heap.size wr w2):=B1.out.trans (b2.mono B1.out.size);clear b2;have fd0:=nd_field1 p (kl:Int) (m:Int) w2) | (go_at_call 128;refine (CL.out _ B2.out).mono ?_;rintro e w3 ⟨rfl,b3⟩;have B3:Hid (Below wr.heap.size wr w3):=B2.out.trans (b3.mono B2.out.size);clear b3 fd0))
     obtain ⟨da,dc,rfl,hdc,-,hd0,hd1⟩:=RO.pre (f:=trCells) (fun _=>rfl) HM.out.1.td
     have HD:Hid (TRo wr (.slice da (DL++ks).length dc) (DL++ks)):=HM.out.1.td
     have HDC:Hid ((DL++ks).length<=dc/\(da=none->dc=0)/\(∀ ad,da=some ad->ad=⟨ad.block,0,none⟩)):=⟨hdc,hd0,hd1⟩
     clear hdc hd0 hd1
     have HL:Hid ((DL++ks).length=m+kl):=by show _=_;rw [List.length_append,HMM.out,hkl]
     have HKL:Hid (ks.length=kl):=hkl
     have HDL:Hid (DL.length<=1000000000):=by have:=HM.out.2.2.2;rw [List.length_append] at this;show _<=_;omega
     have HNO:Hid (∀ w',Below wr.heap.size wr w'->NDo w' (.slice (some ⟨ob,0,none⟩) NL.length oc) NL):=fun w' hb=>HM.out.2.1.later hb
     have Z:Hid (CzB w0 N bb bo OC RF (.slice (some ⟨ob,0,none⟩) (NL.length+1) oc) (.slice da (DL++ks).length dc) (NL++[(p,kl,m)]) DL ks p kl wr.heap.size w3.heap.size (w3.heap.size+1) none 0 0 ((w3.alloc (ndB (p,kl,m))).alloc (trB p none 0 0))):=by
      have:=CzB.start (p:=p) (k:=kl) HM.out.1 B3.out
      rw [HMM.out] at this
      exact this
     clear hkl
     refine wp_world (fun w'=>CzB w0 N bb bo OC RF (.slice (some ⟨ob,0,none⟩) (NL.length+1) oc) (.slice da (DL++ks).length dc) (NL++[(p,kl,m)]) DL ks p kl wr.heap.size w3.heap.size (w3.heap.size+1) none 0 0 w') Z.out fun w4 h4=>?_
     have H4:Hid (CzB w0 N bb bo OC RF (.slice (some ⟨ob,0,none⟩) (NL.length+1) oc) (.slice da (DL++ks).length dc) (NL++[(p,kl,m)]) DL ks p kl wr.heap.size w3.heap.size (w3.heap.size+1) none 0 0 w4):=h4
     clear Z h4 co CK CL B1 B2 B3
     generalize w3.heap.size=b2 at *
     generalize hb3:b2+1=b3 at *
     clear hb3
     rw [HL.out] at H4 HD HDC
     have y1:w4.cell? ⟨b2,1,none⟩=some (.int .i64 (kl:Int)):=(cQa H4.out.x2).trans rfl
     go_upto_if 25 with fail
     clear y1
     obtain ⟨bq,hbq⟩:∃ bq:Bool,decide (0 < kl)=bq:=⟨_,rfl⟩
     have HBQ:Hid (decide (0 < kl)=bq):=hbq
     rw [hbq]
     clear hbq
     go_cut [] from 26 to 34 (fun wx=>∃ ta tc,CzB w0 N bb bo OC RF (.slice (some ⟨ob,0,none⟩) (NL.length+1) oc) (.slice da (m+kl) dc) (NL++[(p,kl,m)]) DL ks p kl wr.heap.size b2 b3 ta kl tc wx)
     case first =>
      cases bq with
      | false =>
       go_wp2_with fail
       go_meet
       have h0:kl=0:=by have:=HBQ.out;simp at this;exact this
       exact ⟨none,0,by have:=H4.out;rw [h0] at this ⊢;exact this⟩
      | true =>
       have HNE:Hid (ks≠[]):=fun e=>by have h1:=HKL.out;rw [e] at h1;have:=HBQ.out;simp at this;simp at h1;omega
       go_upto_region 4 with fail
       obtain ⟨db,dc',e0,hcc,-⟩:=tail_row (by have:=HD.out;exact this) HNE.out
       simp only [Value.slice.injEq] at e0
       obtain ⟨rfl,-,rfl⟩:=e0
       have fs:∀ w,(Instr.slice 24 (.slice (some ⟨db,0,none⟩) (m+kl) dc) (some (.int .i64 (m:Int))) none none).run Tryz.prog w=.ok (.slice (some ⟨db,m*4,none⟩) kl (dc - m)) w:=fun w=>by
        have hkp:0 < kl:=by have:=HBQ.out;simpa using this
        have:=slice_froTr db dc (m+kl) m (by omega) HDC.out.1 w
        rwa [show m+kl - m=kl by omega] at this
       have CC:Hid (∀ w',r4S bb bo b2 (.slice (some ⟨db,0,none⟩) (m+kl) dc) m w'->CzB w0 N bb bo OC RF (.slice (some ⟨ob,0,none⟩) (NL.length+1) oc) (.slice (some ⟨db,0,none⟩) (m+kl) dc) (NL++[(p,kl,m)]) DL ks p kl wr.heap.size b2 b3 none 0 0 w'->Calls Tryz.prog 76 #[.slice (some ⟨db,m*4,none⟩) kl (dc - m)] w' fun e w''=>∃ a' c',e=.returned (.slice a' kl c')/\(ks≠[]->w''.ownsRow w'.heap.size 26 4 (.slice a' kl c') kl (ks.flatMap trCells)/\∃ b,a'=some ⟨b,0,none⟩/\w'.heap.size<=b)/\Below w'.heap.size w' w''):=fun w' _ hz=>by
        have e:=HKL.out
        obtain ⟨db',dc2,e0,-,hr⟩:=tail_row (v:=.slice (some ⟨db,0,none⟩) (m+kl) dc) (l:=DL) (m:=ks) hz.bd.td HNE.out
        simp only [Value.slice.injEq,Option.some.injEq,Addr.mk.injEq,and_true] at e0
        obtain ⟨rfl,-,-⟩:=e0
        rw [HMM.out] at hr
        have:=clone_tree (some ⟨db,m*4,none⟩) (dc - m) ks w' (by have:=HM.out.2.2.2;rw [List.length_append] at this;omega) hr
        rw [e] at this
        exact this
       have HM4:Hid (wr.heap.size<=w4.heap.size):=by
        have:=H4.out.m2;have q:=lt_of_block H4.out.x2
        show _<=_;omega
       obtain ⟨wd,hwd⟩:∃ wd:World,wd=w4.drew:=⟨_,rfl⟩
       have HW:Hid (CzB w0 N bb bo OC RF (.slice (some ⟨ob,0,none⟩) (NL.length+1) oc) (.slice (some ⟨db,0,none⟩) (m+kl) dc) (NL++[(p,kl,m)]) DL ks p kl wr.heap.size b2 b3 none 0 0 wd/\wr.heap.size<=wd.heap.size):=by
        rw [hwd];exact ⟨H4.out.later (Below.refl _ _).drew,HM4.out⟩
       have hs:Hid (r4S bb bo b2 (.slice (some ⟨db,0,none⟩) (m+kl) dc) m wd):=HW.out.1.r4 HMM.out
       refine wp_region_x (S:=SX 9 (r4S bb bo b2 (.slice (some ⟨db,0,none⟩) (m+kl) dc) m) (fun _=>True)) (by kernel_rfl) ?_
       rw [<- hwd]
       clear hwd
       refine wXt (m:=9) (i:=0) (v:=?_) rfl (by kernel_rfl) (by kernel_rfl) (by decide) (by decide +kernel) (by decide +kernel) (fun _ _ _ h=>h) (by kernel_rfl) (Or.inl ⟨by rfl,?_⟩) (SX.both hs.out trivial) ?_
       rotate_left
       ·(intro w hSw;have z0:=hSw.1;unfold r4S at z0;obtain ⟨z1,z2⟩:=z0;clear hSw;go_simp;try (with_reducible rfl))
       (try simp only [Act.put,List.setIfInBounds_toArray,List.set_cons_zero,List.set_cons_succ])
       refine wXt (m:=9) (i:=1) (v:=?_) rfl (by kernel_rfl) (by kernel_rfl) (by decide) (by decide +kernel) (by decide +kernel) (fun _ _ _ h=>h) (by kernel_rfl) (Or.inl ⟨by rfl,?_⟩) (SX.both hs.out trivial) ?_
       rotate_left
       ·(intro w hSw;have z0:=hSw.1;unfold r4S at z0;obtain ⟨z1,z2⟩:=z0;clear hSw;go_simp;try (with_reducible rfl))
       (try simp only [Act.put,List.setIfInBounds_toArray,List.set_cons_zero,List.set_cons_succ])
       refine wXt (m:=9) (i:=2) (v:=?_) rfl (by kernel_rfl) (by kernel_rfl) (by decide) (by decide +kernel) (by decide +kernel) (fun _ _ _ h=>h) (by kernel_rfl) (Or.inl ⟨by rfl,?_⟩) (SX.both hs.out trivial) ?_
       rotate_left
       ·(intro w hSw;have z0:=hSw.1;unfold r4S at z0;obtain ⟨z1,z2⟩:=z0;clear hSw;go_simp;try (with_reducible rfl))
       (try simp only [Act.put,List.setIfInBounds_toArray,List.set_cons_zero,List.set_cons_succ])
       refine wXt (m:=9) (i:=3) (v:=?_) rfl (by kernel_rfl) (by kernel_rfl) (by decide) (by decide +kernel) (by decide +kernel) (fun _ _ _ h=>h) (by kernel_rfl) (Or.inl ⟨by rfl,?_⟩) (SX.both hs.out trivial) ?_
       rotate_left
       ·(intro w hSw;have z0:=hSw.1;unfold r4S at z0;obtain ⟨z1,z2⟩:=z0;clear hSw;go_simp;try (with_reducible rfl))
       (try simp only [Act.put,List.setIfInBounds_toArray,List.set_cons_zero,List.set_cons_succ])
       refine wXt (m:=9) (i:=4) (v:=?_) rfl (by kernel_rfl) (by kernel_rfl) (by decide) (by decide +kernel) (by decide +kernel) (fun _ _ _ h=>h) (by kernel_rfl) (Or.inl ⟨by rfl,?_⟩) (SX.both hs.out trivial) ?_
       rotate_left
       ·(intro w hSw;have z0:=hSw.1;unfold r4S at z0;obtain ⟨z1,z2⟩:=z0;clear hSw;go_simp;try (with_reducible rfl))
       (try simp only [Act.put,List.setIfInBounds_toArray,List.set_cons_zero,List.set_cons_succ])
       refine wXt (m:=9) (i:=5) (v:=?_) rfl (by kernel_rfl) (by kernel_rfl) (by decide) (by decide +kernel) (by decide +kernel) (fun _ _ _ h=>h) (by kernel_rfl) (Or.inl ⟨by rfl,?_⟩) (SX.both hs.out trivial) ?_
       rotate_left
       ·(intro w hSw;have z0:=hSw.1;unfold r4S at z0;obtain ⟨z1,z2⟩:=z0;clear hSw;go_simp;try (with_reducible rfl))
       (try simp only [Act.put,List.setIfInBounds_toArray,List.set_cons_zero,List.set_cons_succ])
       refine wXt (m:=9) (i:=6) (v:=?_) rfl (by kernel_rfl) (by kernel_rfl) (by decide) (by decide +kernel) (by decide +kernel) (fun _ _ _ h=>h) (by kernel_rfl) (Or.inl ⟨by rfl,?_⟩) (SX.both hs.out trivial) ?_
       rotate_left
       ·(intro w hSw;have z0:=hSw.1;unfold r4S at z0;obtain ⟨z1,z2⟩:=z0;clear hSw;go_simp;try (with_reducible rfl))
       (try simp only [Act.put,List.setIfInBounds_toArray,List.set_cons_zero,List.set_cons_succ])
       refine wX1 (j:=7) (by decide +kernel) rfl (fun K' hK=>?_)
       refine sCX rfl 76 #[.slice (some ⟨db,m*4,none⟩) kl (dc - m)] _ (run_clone1 (v0:=.slice (some ⟨db,m*4,none⟩) kl (dc - m)) rfl rfl _) (CC.out _ hs.out HW.out.1) ?_
       rintro e w5 ⟨a5,c5,rfl,k5,b5⟩
       have HW5:Hid (CzB w0 N bb bo OC RF (.slice (some ⟨ob,0,none⟩) (NL.length+1) oc) (.slice (some ⟨db,0,none⟩) (m+kl) dc) (NL++[(p,kl,m)]) DL ks p kl wr.heap.size b2 b3 none 0 0 w5):=HW.out.1.later b5
       have FIN:Hid (CzB w0 N bb bo OC RF (.slice (some ⟨ob,0,none⟩) (NL.length+1) oc) (.slice (some ⟨db,0,none⟩) (m+kl) dc) (NL++[(p,kl,m)]) DL ks p kl wr.heap.size b2 b3 a5 kl c5 (w5.setCell ⟨b3,3,none⟩ (.slice a5 kl c5))):=by
        have e:=HKL.out
        have k:=k5 HNE.out
        rw [<- e] at k
        have:=HW.out.1.row3 b5 HW.out.2 HNE.out k.1 k.2
        rwa [e] at this
       have hs5:Hid (r4S bb bo b2 (.slice (some ⟨db,0,none⟩) (m+kl) dc) m w5):=HW5.out.r4 HMM.out
       have f5:w5.frozen? ⟨b3,3,none⟩=false:=by simp [World.frozen?,HW5.out.x3]
       have x5:w5.cell? ⟨b3,3,none⟩=some (.slice none 0 0):=(cQa HW5.out.x3).trans rfl
       refine ⟨_,rfl,hK.out _ _ (SX.both hs5.out trivial) ?_⟩
       clear hK K' k5 b5
       (try simp only [Act.put,List.setIfInBounds_toArray,List.set_cons_zero,List.set_cons_succ])
       refine wXt (m:=9) (i:=8) (v:=?_) rfl (by kernel_rfl) (by kernel_rfl) (by decide) (by decide +kernel) (by decide +kernel) (fun _ _ _ h=>h) (by kernel_rfl) (Or.inl ⟨by rfl,?_⟩) (SX.both hs5.out trivial) ?_
       rotate_left
       ·(intro w hSw;have z0:=hSw.1;unfold r4S at z0;obtain ⟨z1,z2⟩:=z0;clear hSw;go_simp;try (with_reducible rfl))
       (try simp only [Act.put,List.setIfInBounds_toArray,List.set_cons_zero,List.set_cons_succ])
       refine wX1 (j:=9) (by decide +kernel) rfl (fun K' hK=>?_)
       go_simp
       refine hK.out _ _ (SX.one (w:=w5.setCell ⟨b3,3,none⟩ (.slice a5 kl c5)) (FIN.out.r4 HMM.out) (by kernel_rfl)) ?_
       clear hK K'
       (try simp only [Act.put,List.setIfInBounds_toArray,List.set_cons_zero,List.set_cons_succ])
       refine wXd (by decide +kernel) ?_
       go_wp2_with fail
       go_meet
       exact ⟨a5,c5,FIN.out⟩
     case rest =>
      obtain ⟨ta,tc,h5⟩:=hcut
      have H5:Hid (CzB w0 N bb bo OC RF (.slice (some ⟨ob,0,none⟩) (NL.length+1) oc) (.slice da (m+kl) dc) (NL++[(p,kl,m)]) DL ks p kl wr.heap.size b2 b3 ta kl tc wc):=h5
      clear h5 H4
      go_upto_region 5 with fail
      have HP:Hid (NDo wc (.slice (some ⟨ob,0,none⟩) NL.length oc) NL):=by
       obtain ⟨b,c,e,-,-,hp⟩:=RO.pop (f:=ndC) (k:=3) (fun _=>rfl) H5.out.bd.no
       simp only [Value.slice.injEq,Option.some.injEq,Addr.mk.injEq,and_true,true_and] at e
       obtain ⟨rfl,rfl⟩:=e
       exact hp
      have fsl:∀ w,(Instr.slice 152 (.slice (some ⟨ob,0,none⟩) (NL.length+1) oc) none (some (.int .i64 (NL.length:Int))) none).run Tryz.prog w=.ok (.slice (some ⟨ob,0,none⟩) NL.length oc) w:=slice_toN ob oc (NL.length+1) NL.length (by have:=LT.out;omega)
      have HN9:Hid (NL.length<=1000000000):=HM.out.2.2.1
      obtain ⟨n,hn⟩:∃ n,NL.length=n:=⟨_,rfl⟩
      rw [hn] at H5 HP HN9 fsl
      have e1:IntKind.i64.wrap (n:Int)=(n:Int):=IntWalk.i64_in _ ⟨by omega,by have:=HN9.out;omega⟩
      rw [hn]
      clear HM LT HNO hpos HD hn HL
      obtain ⟨wd,hwd⟩:∃ wd:World,wd=wc.drew:=⟨_,rfl⟩
      have H6:Hid (CzB w0 N bb bo OC RF (.slice (some ⟨ob,0,none⟩) (n+1) oc) (.slice da (m+kl) dc) (NL++[(p,kl,m)]) DL ks p kl wr.heap.size b2 b3 ta kl tc wd/\NDo wd (.slice (some ⟨ob,0,none⟩) n oc) NL):=by
       rw [hwd];exact ⟨H5.out.later (Below.refl _ _).drew,HP.out.later (Below.refl _ _).drew⟩
      clear H5 HP
      have co:wd.cell? ⟨bb,bo,none⟩=some (.slice (some ⟨ob,0,none⟩) (n+1) oc):=H6.out.1.bd.co.1
      have fo:wd.frozen? ⟨bb,bo,none⟩=false:=H6.out.1.bd.co.2
      refine wp_region_tail_s 14 (by kernel_rfl) (by kernel_rfl) wd hwd ?_
      clear hwd
      simp only [List.take_succ_cons,List.take_zero,List.drop_succ_cons,List.drop_zero]
      iterate 14 (refine st_yes (v:=?_) (by rfl) ?_ ?_;rotate_left;(· (go_simp;with_reducible rfl));(try simp only [Act.put,List.setIfInBounds_toArray,List.set_cons_zero,List.set_cons_succ]))
      refine st_nil ?_
      go_upto_region 6 with fail
      have H7:Hid (CzB w0 N bb bo OC RF (.slice (some ⟨ob,0,none⟩) n oc) (.slice da (m+kl) dc) NL DL ks p kl wr.heap.size b2 b3 ta kl tc (wd.setCell ⟨bb,bo,none⟩ (.slice (some ⟨ob,0,none⟩) n oc))):=H6.out.1.pop H6.out.2 rfl
      refine wp_world (fun w'=>CzB w0 N bb bo OC RF (.slice (some ⟨ob,0,none⟩) n oc) (.slice da (m+kl) dc) NL DL ks p kl wr.heap.size b2 b3 ta kl tc w') H7.out fun w6 h6=>?_
      clear H6 H7 co fo fsl e1
      obtain ⟨wd6,hwd⟩:∃ wd:World,wd=w6.drew:=⟨_,rfl⟩
      have H8:Hid (CzB w0 N bb bo OC RF (.slice (some ⟨ob,0,none⟩) n oc) (.slice da (m+kl) dc) NL DL ks p kl wr.heap.size b2 b3 ta kl tc wd6):=by rw [hwd];exact h6.later (Below.refl _ _).drew
      clear h6
      have HR:Hid (∀ w',CzB w0 N bb bo OC RF (.slice (some ⟨ob,0,none⟩) n oc) (.slice da (m+kl) dc) NL DL ks p kl wr.heap.size b2 b3 ta kl tc w'->r6S bb bo b2 b3 (.slice da (m+kl) dc) m p ta kl tc w'):=fun w' h=>h.r6 HMM.out
      have hs:Hid (r6S bb bo b2 b3 (.slice da (m+kl) dc) m p ta kl tc wd6):=HR.out _ H8.out
      have ft:∀ w,(Instr.slice 24 (.slice da (m+kl) dc) none (some (.int .i64 (m:Int))) none).run Tryz.prog w=.ok (.slice da m dc) w:=slice_toTr da dc (m+kl) m (by have:=HDC.out.1;omega) HDC.out.2.1 HDC.out.2.2
      refine wp_region_x (S:=SX 13 (fun _=>True) (r6S bb bo b2 b3 (.slice da (m+kl) dc) m p ta kl tc)) (by kernel_rfl) ?_
      rw [<- hwd]
      clear hwd
      refine wpAnyX_takeBM (m:=13) (i:=0) (v:=?_) rfl (by kernel_rfl) (by kernel_rfl) (by decide) (by decide +kernel) (by decide +kernel) (fun _ _ _ h=>h) (by kernel_rfl) (Or.inl ⟨by rfl,?_⟩) (SX.both trivial hs.out) ?_
      rotate_left
      ·(intro w hSw;have z0:=hSw.2;unfold r6S at z0;obtain ⟨z1,z2,z3,z4,z5,z6⟩:=z0;clear hSw;go_simp;try (with_reducible rfl))
      (try simp only [Act.put,List.setIfInBounds_toArray,List.set_cons_zero,List.set_cons_succ])
      refine wpAnyX_takeBM (m:=13) (i:=1) (v:=?_) rfl (by kernel_rfl) (by kernel_rfl) (by decide) (by decide +kernel) (by decide +kernel) (fun _ _ _ h=>h) (by kernel_rfl) (Or.inl ⟨by rfl,?_⟩) (SX.both trivial hs.out) ?_
      rotate_left
      ·(intro w hSw;have z0:=hSw.2;unfold r6S at z0;obtain ⟨z1,z2,z3,z4,z5,z6⟩:=z0;clear hSw;go_simp;try (with_reducible rfl))
      (try simp only [Act.put,List.setIfInBounds_toArray,List.set_cons_zero,List.set_cons_succ])
      refine wpAnyX_takeBM (m:=13) (i:=2) (v:=?_) rfl (by kernel_rfl) (by kernel_rfl) (by decide) (by decide +kernel) (by decide +kernel) (fun _ _ _ h=>h) (by kernel_rfl) (Or.inl ⟨by rfl,?_⟩) (SX.both trivial hs.out) ?_
      rotate_left
      ·(intro w hSw;have z0:=hSw.2;unfold r6S at z0;obtain ⟨z1,z2,z3,z4,z5,z6⟩:=z0;clear hSw;go_simp;try (with_reducible rfl))
      (try simp only [Act.put,List.setIfInBounds_toArray,List.set_cons_zero,List.set_cons_succ])
      refine wpAnyX_takeBM (m:=13) (i:=3) (v:=?_) rfl (by kernel_rfl) (by kernel_rfl) (by decide) (by decide +kernel) (by decide +kernel) (fun _ _ _ h=>h) (by kernel_rfl) (Or.inl ⟨by rfl,?_⟩) (SX.both trivial hs.out) ?_
      rotate_left
      ·(intro w hSw;have z0:=hSw.2;unfold r6S at z0;obtain ⟨z1,z2,z3,z4,z5,z6⟩:=z0;clear hSw;go_simp;try (with_reducible rfl))
      (try simp only [Act.put,List.setIfInBounds_toArray,List.set_cons_zero,List.set_cons_succ])
      refine wpAnyX_takeBM (m:=13) (i:=4) (v:=?_) rfl (by kernel_rfl) (by kernel_rfl) (by decide) (by decide +kernel) (by decide +kernel) (fun _ _ _ h=>h) (by kernel_rfl) (Or.inl ⟨by rfl,?_⟩) (SX.both trivial hs.out) ?_
      rotate_left
      ·(intro w hSw;have z0:=hSw.2;unfold r6S at z0;obtain ⟨z1,z2,z3,z4,z5,z6⟩:=z0;clear hSw;go_simp;try (with_reducible rfl))
      (try simp only [Act.put,List.setIfInBounds_toArray,List.set_cons_zero,List.set_cons_succ])
      refine wpAnyX_takeBM (m:=13) (i:=5) (v:=?_) rfl (by kernel_rfl) (by kernel_rfl) (by decide) (by decide +kernel) (by decide +kernel) (fun _ _ _ h=>h) (by kernel_rfl) (Or.inl ⟨by rfl,?_⟩) (SX.both trivial hs.out) ?_
      rotate_left
      ·(intro w hSw;have z0:=hSw.2;unfold r6S at z0;obtain ⟨z1,z2,z3,z4,z5,z6⟩:=z0;clear hSw;go_simp;try (with_reducible rfl))
      (try simp only [Act.put,List.setIfInBounds_toArray,List.set_cons_zero,List.set_cons_succ])
      refine wpAnyX_takeBM (m:=13) (i:=6) (v:=?_) rfl (by kernel_rfl) (by kernel_rfl) (by decide) (by decide +kernel) (by decide +kernel) (fun _ _ _ h=>h) (by kernel_rfl) (Or.inl ⟨by rfl,?_⟩) (SX.both trivial hs.out) ?_
      rotate_left
      ·(intro w hSw;have z0:=hSw.2;unfold r6S at z0;obtain ⟨z1,z2,z3,z4,z5,z6⟩:=z0;clear hSw;go_simp;try (with_reducible rfl))
      (try simp only [Act.put,List.setIfInBounds_toArray,List.set_cons_zero,List.set_cons_succ])
      refine wpAnyX_takeBM (m:=13) (i:=7) (v:=?_) rfl (by kernel_rfl) (by kernel_rfl) (by decide) (by decide +kernel) (by decide +kernel) (fun _ _ _ h=>h) (by kernel_rfl) (Or.inl ⟨by rfl,?_⟩) (SX.both trivial hs.out) ?_
      rotate_left
      ·(intro w hSw;have z0:=hSw.2;unfold r6S at z0;obtain ⟨z1,z2,z3,z4,z5,z6⟩:=z0;clear hSw;go_simp;try (with_reducible rfl))
      (try simp only [Act.put,List.setIfInBounds_toArray,List.set_cons_zero,List.set_cons_succ])
      refine wpAnyX_takeBM (m:=13) (i:=8) (v:=?_) rfl (by kernel_rfl) (by kernel_rfl) (by decide) (by decide +kernel) (by decide +kernel) (fun _ _ _ h=>h) (by kernel_rfl) (Or.inl ⟨by rfl,?_⟩) (SX.both trivial hs.out) ?_
      rotate_left
      ·(intro w hSw;have z0:=hSw.2;unfold r6S at z0;obtain ⟨z1,z2,z3,z4,z5,z6⟩:=z0;clear hSw;go_simp;try (with_reducible rfl))
      (try simp only [Act.put,List.setIfInBounds_toArray,List.set_cons_zero,List.set_cons_succ])
      refine wX1 (j:=9) (by decide +kernel) rfl (fun K' hK=>?_)
      go_simp
      have H9:Hid (CzB w0 N bb bo OC RF (.slice (some ⟨ob,0,none⟩) n oc) (.slice da (m+kl) dc) NL DL ks p kl wr.heap.size b2 b3 ta kl tc (wd6.alloc (trB p ta kl tc))):=H8.out.later (bAl _ _)
      have hb9:(wd6.alloc (trB p ta kl tc)).heap[wd6.heap.size]?=some (trB p ta kl tc):=heap_alloc_new _ _
      refine hK.out _ _ (SX.both trivial (HR.out _ H9.out)) ?_
      clear hK K' H8 hs
      generalize wd6.alloc (trB p ta kl tc)=w7 at *
      generalize wd6.heap.size=b9 at *
      (try simp only [Act.put,List.setIfInBounds_toArray,List.set_cons_zero,List.set_cons_succ])
      have HP9:Hid (TRo w7 (.slice da m dc) DL):=by
       have:=(pre_at H9.out.bd.td).2.2.1
       rw [HMM.out] at this
       exact this
      refine wX1 (j:=10) (by decide +kernel) rfl (fun K' hK=>?_)
      refine step_ro_append rkTree (by rfl) _ _ (by rfl) (.slice da m dc) DL (by rfl) HP9.out b9 1 (TV.mk p 0 ByteArray.empty ta tc ks) (by rfl) (fun j u hu=>?_) HDL.out ?_
      ·rw [cQa hb9]
       have e:trCells (TV.mk p 0 ByteArray.empty ta tc ks)=[.int .i64 p,.int .i64 0,.string ByteArray.empty,.slice ta kl tc]:=by
        rw [<- HKL.out];rfl
       rw [e] at hu
       simpa using hu
      intro a5 n5 c5 w8 ro hg
      have HG:Hid (w8.heap[bb]?=w7.heap[bb]?/\w8.heap[b2]?=w7.heap[b2]?/\w8.heap[b3]?=w7.heap[b3]?):=H9.out.grew hg
      have FIN:Hid (BdM w0 N bb bo OC RF (.slice (some ⟨ob,0,none⟩) n oc) (.slice a5 n5 c5) NL (DL++[TV.mk p 0 ByteArray.empty ta tc ks]) (w8.setCell ⟨bb,bo+1,none⟩ (.slice a5 n5 c5))):=by
       have h:=H9.out
       have g:=hg
       rw [<- HKL.out] at h
       rw [<- HMM.out] at g
       exact h.fin g ro
      have h8:Hid (r6S bb bo b2 b3 (.slice da (m+kl) dc) m p ta kl tc w8):=by
       obtain ⟨q1,q2,q3,q4,q5,q6⟩:=HR.out _ H9.out
       obtain ⟨e1,e2,e3⟩:=HG.out
       exact ⟨(World.cell?_of_block e1).trans q1,(World.cell?_of_block e2).trans q2,(World.cell?_of_block e3).trans q3,(World.cell?_of_block e3).trans q4,(World.cell?_of_block e3).trans q5,(World.cell?_of_block e3).trans q6⟩
      have x8:w8.cell? ⟨bb,bo+1,none⟩=some (.slice da (m+kl) dc):=h8.out.1
      have f8:w8.frozen? ⟨bb,bo+1,none⟩=false:=by
       have:=H9.out.bd.cd.2
       simp only [World.frozen?] at this ⊢
       rw [HG.out.1];exact this
      refine hK.out _ _ (SX.both trivial h8.out) ?_
      clear hK K' hg ro hb9
      (try simp only [Act.put,List.setIfInBounds_toArray,List.set_cons_zero,List.set_cons_succ])
      refine wpAnyX_takeBP (m:=13) (i:=11) (v:=?_) rfl (by kernel_rfl) (by decide) (by decide +kernel) (by decide +kernel) (fun _ _ _ h=>h) (Or.inl ⟨by rfl,?_⟩) (SX.both trivial h8.out) ?_
      rotate_left
      ·(intro w _;go_simp;try (with_reducible rfl))
      (try simp only [Act.put,List.setIfInBounds_toArray,List.set_cons_zero,List.set_cons_succ])
      refine wpAnyX_takeBP (m:=13) (i:=12) (v:=?_) rfl (by kernel_rfl) (by decide) (by decide +kernel) (by decide +kernel) (fun _ _ _ h=>h) (Or.inl ⟨by rfl,?_⟩) (SX.both trivial h8.out) ?_
      rotate_left
      ·(intro w _;go_simp;try (with_reducible rfl))
      (try simp only [Act.put,List.setIfInBounds_toArray,List.set_cons_zero,List.set_cons_succ])
      refine wX1 (j:=13) (by decide +kernel) rfl (fun K' hK=>?_)
      go_simp
      refine hK.out _ _ (SX.one trivial (by kernel_rfl)) ?_
      clear hK K'
      (try simp only [Act.put,List.setIfInBounds_toArray,List.set_cons_zero,List.set_cons_succ])
      refine wXd (by decide +kernel) ?_
      go_wp2_with fail
      go_roundg (gk - 1)
      case measure=>have:=HGK.out;omega
      case rel=>exact RY.out trivial _ _ _ _ _ FIN.out
    ·have R:Hid (∀ w',Below wr.heap.size wr w'->BdS w0 N bb bo OC RF (clU2 A) w'):=fun w' hb=>by
      obtain ⟨a,b,c,d,e⟩:=R0.out hk
      exact ⟨a,b,c,d,e.later hb⟩
     have hne:¬ (ks.length:Int)=(k:Int):=by omega
     clear R0 RY HM LT hk hm
     generalize ks.length=kl at *
     go_wp2_with (first | (go_at_call 129;refine (CK.out _ (Below.refl _ _)).mono ?_;rintro e w1 ⟨rfl,b1⟩;have B1:Hid (Below wr.heap.size wr w1):=b1;clear b1) | (go_at_call 128;refine (CL.out _ B1.out).mono ?_;rintro e w2 ⟨rfl,b2⟩;have B2:Hid (Below wr.heap.size wr w2):=B1.out.trans (b2.mono B1.out.size);clear b2;have fd0:=nd_field1 p (k:Int) (m:Int) w2))
     refine bodyPost_end (results_none rfl _ _ _) rfl ?_
     exact ⟨rfl,R.out _ B2.out⟩
end
end Go.Proofs.YteciabdjkaackaaGreat
