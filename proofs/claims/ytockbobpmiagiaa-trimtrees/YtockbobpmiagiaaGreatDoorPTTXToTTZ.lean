import Derived.Test.YtockbobpmiagiaaGreatDoorPZTT
namespace Go.Proofs.YtockbobpmiagiaaGreatDoor
set_option linter.unusedVariables false
open Go.RowKit Go.Shelf
theorem mem_offU {v:Bool}{M:List Bool}{n:Nat}{x:Int}:x∈offU v M n ↔ ∃ i,i < n/\M.getD i false=v/\x=(i:Int):=by
 unfold offU
 simp only [List.mem_map,List.mem_filter,List.mem_range,decide_eq_true_eq]
 exact ⟨fun ⟨i,⟨a,b⟩,c⟩=>⟨i,a,b,c.symm⟩,fun ⟨i,a,b,c⟩=>⟨i,⟨a,b⟩,c.symm⟩⟩
theorem mem_offY {d:Int}{M:List Bool}{n:Nat}{s:Int×Int}:s∈offY d M n ↔ ∃ i,i < n/\M.getD i false=false/\s=(d,(i:Int)):=by
 unfold offY
 simp only [List.mem_map,mem_offU]
 exact ⟨fun ⟨x,⟨i,a,b,c⟩,e⟩=>⟨i,a,b,by rw [<- e,c]⟩,fun ⟨i,a,b,c⟩=>⟨_,⟨i,a,b,rfl⟩,c.symm⟩⟩
theorem RT.prodT {g:GV}{t:TV}(h:RT g t)(hp:t.prod≠-1):0<=t.prod/\t.prod < g.ps.length:=by
 rcases AllP.here h with ⟨a,_⟩ | ⟨a1,b1,_⟩
 ·exact absurd a hp
 ·exact ⟨a1,b1⟩
theorem RT.notBar {g:GV}{b:List Int}(hb:BrL g b){t:TV}(h:RT g t)(hp:t.prod≠-1):(g.ps.getD t.prod.toNat .none).left ∉ b:=by
 obtain ⟨M,hM,rfl⟩:=hb
 intro q
 obtain ⟨i,-,h2,h3⟩:=mem_offU.1 q
 have:=RT.fruit hM h hp
 have hp':=h.prodT hp
 rw [root_node hp'.1 hp'.2,h3] at this
 simp only [Int.toNat_natCast] at this
 rw [this] at h2
 cases h2
structure SpX (g:GV)(st:Prop)(u:List (Int×Int))(x:TV):Prop where
 rt:RT g x
 re:st->∃ T N,RLst g T N/\u=offY 1 T g.ts.length++offY 2 N g.ns.length/\(x.prod≠-1->N.getD (rootU g x).2.toNat false=true)/\(x.prod=-1->T.getD x.kind.toNat false=true)
theorem SpX.kid {g:GV}{st:Prop}{u:List (Int×Int)}{x:TV}(h:SpX g st u x){k:TV}(hk:k∈x.kids):SpX g st u k:=by
 refine ⟨AllP.kid h.rt k hk,fun hs=>?_⟩
 obtain ⟨T,N,h1,h2,h3,h4⟩:=h.re hs
 have hm:(⟨k,0+1,(0,0),false⟩:SP)∈plT 0 x:=by
  rw [plT_eq]
  refine List.mem_cons_of_mem _ ?_
  unfold plL
  exact List.mem_flatMap.2 ⟨k,hk,by rw [plT_eq];exact List.mem_cons_self⟩
 obtain ⟨r1,r2⟩:=RT.reach h1 h.rt h3 h4 0 _ hm
 exact ⟨T,N,h1,h2,r1,r2⟩
theorem SpX.start {g:GV}{u:List (Int×Int)}{t:TV}(h:RT g t)(hu:UnL g u)(hp:t.prod≠-1){st:Prop}(hs:st->(g.ps.getD t.prod.toNat .none).left=g.start):SpX g st u t:=by
 refine ⟨h,fun q=>?_⟩
 obtain ⟨T,N,h1,h2⟩:=hu
 refine ⟨T,N,h1,h2,fun _=>?_,fun q=>absurd q hp⟩
 have hp':=h.prodT hp
 rw [root_node hp'.1 hp'.2,hs q]
 exact h1.st
theorem SpX.notLeaf {g:GV}{st:Prop}{u:List (Int×Int)}{x:TV}(h:SpX g st u x)(hs:st)(hp:x.prod=-1):(1,x.kind) ∉ u:=by
 obtain ⟨T,N,h1,rfl,h3,h4⟩:=h.re hs
 intro q
 rcases List.mem_append.1 q with q | q
 ·obtain ⟨i,-,b,c⟩:=mem_offY.1 q
  simp only [Prod.mk.injEq,true_and] at c
  have:=h4 hp
  rw [c,Int.toNat_natCast,b] at this
  cases this
 ·obtain ⟨i,-,b,c⟩:=mem_offY.1 q
  simp at c
theorem SpX.notNode {g:GV}{st:Prop}{u:List (Int×Int)}{x:TV}(h:SpX g st u x)(hs:st)(hp:x.prod≠-1):(2,(g.ps.getD x.prod.toNat .none).left) ∉ u:=by
 obtain ⟨T,N,h1,rfl,h3,h4⟩:=h.re hs
 have hp':=h.rt.prodT hp
 intro q
 rcases List.mem_append.1 q with q | q
 ·obtain ⟨i,-,b,c⟩:=mem_offY.1 q
  simp at c
 ·obtain ⟨i,-,b,c⟩:=mem_offY.1 q
  simp only [Prod.mk.injEq,true_and] at c
  have:=h3 hp
  rw [root_node hp'.1 hp'.2] at this
  dsimp only at this
  rw [c,Int.toNat_natCast,b] at this
  cases this
structure DnX (g:GV)(r n:Nat)(x:TV):Prop where
 rt:RT g x
 pr:x.prod≠-1
 ln:(lv (plT 0 x)).length=n
 ed:(rootU g x).2.toNat=r∨∀ NU,MLst g.ps g.ns.length false NU->TrE (alU NU g.ps) r (rootU g x).2.toNat
theorem lv_depth (d e:Int)(t:TV):(lv (plT d t)).length=(lv (plT e t)).length:=by
 induction t using TV.ind generalizing d e with
 | _ t ih =>
  rw [plT_eq,plT_eq,lv_cons,lv_cons]
  have:∀ (l:List TV),(∀ k∈l,∀ d e,(lv (plT d k)).length=(lv (plT e k)).length)->(lv (plL (d+1) l)).length=(lv (plL (e+1) l)).length:=by
   intro l
   induction l with
   | nil=>intro _;rfl
   | cons a l ihl =>
    intro hl
    rw [plL_cons,plL_cons,lv_append,lv_append,List.length_append,List.length_append,hl a List.mem_cons_self (d+1) (e+1),ihl (fun k hk=>hl k (List.mem_cons_of_mem _ hk))]
  have q:=this t.kids (fun k hk=>ih k hk)
  split
  ·simp [q]
  ·exact q
theorem DnX.kid {g:GV}(hl0:∀ p∈g.ps,0<=p.left){r n:Nat}{x:TV}(h:DnX g r n x){i:Nat}(hi:i < x.kids.length)(hp:x.kids[i].prod≠-1)(hn:(lv (plT 0 x.kids[i])).length=n):DnX g r n x.kids[i]/\∀ NU,MLst g.ps g.ns.length false NU->TrE (alU NU g.ps) r (rootU g x.kids[i]).2.toNat:=by
 have hx:=h.rt.prodT h.pr
 have E:∀ NU,MLst g.ps g.ns.length false NU->TrE (alU NU g.ps) r (rootU g x.kids[i]).2.toNat:=fun NU hN=>by
  have e:=RT.edge hN hl0 h.rt hx.1 hi hp 0 (by rw [lv_depth (0+1) 0,hn,h.ln])
  rcases h.ed with q | q
  ·rw [q] at e;exact Relation.TransGen.single e
  ·exact Relation.TransGen.tail (q NU hN) e
 exact ⟨⟨AllP.kid h.rt _ (List.getElem_mem hi),hp,hn,.inr E⟩,E⟩
theorem DnX.circ {g:GV}{c:List Int}(hc:CiL g c){r:Nat}(hr:r < g.ns.length)(h:∀ NU,MLst g.ps g.ns.length false NU->TrE (alU NU g.ps) r r):(r:Int)∈c:=by
 obtain ⟨M,NU,h1,h2,rfl⟩:=hc
 exact mem_offU.2 ⟨r,hr,(h2 r hr).2 (h NU h1),rfl⟩
open Go.RowKit
section
variable {α:Type} {τ σ:TypeId} {k:Nat} {f:α->List Value}
theorem run_ro_cat (r:RK τ σ k f)(w:World)(ty:TypeId)(v:Value)(l:List α)(h:RO τ k f w v l)(ao:Option Addr)(c:Nat)(xs:List α)(hy:xs≠[]->∃ b off,ao=some ⟨b,off,none⟩/\∀ j u,(xs.flatMap f)[j]?=some u->w.cell? ⟨b,off+j,none⟩=some u)(hlen:l.length+xs.length<=1000000000) :
  ∃ a' n' c' w',(Builtin.append_ #[σ,σ] ty #[v,.slice ao xs.length c]).run Tryz.prog w=.ok (.slice a' n' c') w'/\RO τ k f w' (.slice a' n' c') (l++xs)/\Grew w w' v (.slice a' n' c'):=by
 obtain ⟨i0,z0,hi,hz0,hz1,hz2,hz3⟩:=r.info
 cases ao with
 | none =>
  have hz:xs=[]:=Classical.byContradiction fun e=>by
   obtain ⟨b,off,e1,_⟩:=hy e
   cases e1
  subst hz
  obtain ⟨a,c0,rfl,hc0⟩:=RO.len h
  have hr:(Builtin.append_ #[σ,σ] ty #[.slice a l.length c0,.slice none 0 c]).run Tryz.prog w=.ok (.slice a l.length c0) w:=by
   cases a with
   | none =>
    have hl:l.length=0/\c0=0:=by
     rcases h.2 with ⟨q,h0⟩ | ⟨g,cap,cur,q,_⟩
     ·simp at q;exact ⟨by rw [q.1];rfl,q.2⟩
     ·cases q
    simp [Builtin.append_,run_underlying r.und,sizeOf,typeInfo,zeroValue,hi,hz0,Builtin.lenOf,Builtin.firstCells,hl]
   | some ad=>simp [Builtin.append_,run_underlying r.und,sizeOf,typeInfo,zeroValue,hi,hz0,Builtin.lenOf,Builtin.firstCells,storeCells,hc0]
  exact ⟨_,_,_,_,hr,by rw [List.append_nil];exact h,⟨⟨rfl,rfl,rfl,Nat.le_refl _,fun _ _ _=>rfl⟩,.inl rfl⟩⟩
 | some ad =>
  have hlim:(l.length+xs.length)*i0.bytes<=140737488355328:=Nat.le_trans (Nat.mul_le_mul_left _ hz2) (by omega)
  obtain ⟨v',w',hrun,hown,hgrow,_,hmv⟩:=run_append_own_at (P:=Tryz.prog) (w:=w) 0 σ ty τ i0 z0 k i0.bytes r.und hi hz0 hz1 rfl hz3 r.pos v l.length (l.flatMap f) h ad xs.length c (xs.flatMap f) (fm_len r.len xs) (fun j u hu=>by
    have hne:xs≠[]:=fun e=>by rw [e] at hu;simp at hu
    obtain ⟨b,off,e,q⟩:=hy hne
    cases e
    rw [aNn]
    exact q j u hu) (fun u hu=>by
    obtain ⟨x,_,hx⟩:=List.mem_flatMap.1 hu
    exact r.one x u hx) (by unfold maxLen;omega) hlim (Nat.zero_le _)
  have h6:RO τ k f w' v' (l++xs):=by
   unfold RO
   rw [List.flatMap_append,List.length_append]
   exact hown
  obtain ⟨a',c',rfl,_⟩:=RO.len h6
  exact ⟨_,_,_,w',hrun,h6,⟨hgrow,hmv.imp id fun e=>⟨_,e,Nat.le_refl _⟩⟩⟩
theorem wpList_ro_cat (r:RK τ σ k f){ops:Array Oper}{rest:List Oper}{o:Oper}{a:Act}{Q:Exit->Act->World->Prop}{w:World}(hgd:o.guard=none)(s x:Operand)
  (ho:o.op=.call { callee:=.builtin .append,args:=#[s,x],argTypes:=#[σ,σ] })
  (v:Value) (l:List α) (hs:a.eval s=v) (h:RO τ k f w v l) (ao:Option Addr) (c:Nat) (xs:List α) (hx:a.eval x=.slice ao xs.length c) (hy:xs≠[]->∃ b off,ao=some ⟨b,off,none⟩/\∀ j u,(xs.flatMap f)[j]?=some u->w.cell? ⟨b,off+j,none⟩=some u) (hlen:l.length+xs.length<=1000000000)
  (hK:∀ a' n' c' w',RO τ k f w' (.slice a' n' c') (l++xs)->Grew w w' v (.slice a' n' c')->wpList Tryz.prog ops Q rest (a.put o.dst (.slice a' n' c')) w'):wpList Tryz.prog ops Q (o :: rest) a w:=by
 refine wpList_plain hgd fun K hK'=>?_
 obtain ⟨a',n',c',w',hrun,r1,r2⟩:=run_ro_cat r w o.type v l h ao c xs hy hlen
 unfold Oper.wp execOp
 simp only [ho,resolve,invoke,builtin,Sem.run_bind,Sem.run_pure,Result.andThen_ok,List.map_toArray,List.map_cons,List.map_nil,hs,hx,hrun]
 exact hK' _ _ (hK a' n' c' w' r1 r2)
end
def trCells (t:TV):List Value:=[.int .i64 t.prod,.int .i64 t.kind,.string t.tx,.slice t.ka t.kids.length t.kc]
theorem rkTree:RK 31 29 4 trCells:=by
 refine ⟨Tryz.underlying29,?_,by decide,fun _=>rfl,fun x u hu=>?_⟩
 ·have h:(Tryz.prog.info? 31).map (fun i=>(i.zero,i.size,i.bytes))=some (some (.agg #[.int .i64 0,.int .i64 0,.string ByteArray.empty,.slice none 0 0]),4,56):=by kernel_rfl
  cases e:Tryz.prog.info? 31 with
  | none=>rw [e] at h;cases h
  | some i =>
   rw [e] at h
   simp at h
   exact ⟨i,_,rfl,h.1,h.2.1,by rw [h.2.2];decide,rfl⟩
 ·simp [trCells] at hu
  rcases hu with rfl | rfl | rfl | rfl<;>rfl
abbrev TRo:=RO 31 4 trCells
theorem KRow.src {w:World}{ao:Option Addr}{l:List TV}(h:KRow w ao l)(hne:l≠[]):∃ b off,ao=some ⟨b,off,none⟩/\∀ j u,(l.flatMap trCells)[j]?=some u->w.cell? ⟨b,off+j,none⟩=some u:=by
 obtain ⟨b,off,e,hb,hc⟩:=h hne
 refine ⟨b,off,e,fun j u hu=>?_⟩
 have hlt:j < (l.flatMap trCells).length:=Classical.byContradiction fun q=>by
  rw [List.getElem?_eq_none (by omega)] at hu;cases hu
 rw [fm_len (k:=4) (fun _=>rfl) l] at hlt
 obtain ⟨i,m,hi,hm,rfl⟩:∃ i m,i < l.length/\m < 4/\j=i*4+m:=⟨j / 4,j % 4,by omega,by omega,by omega⟩
 rw [fm_get (k:=4) (fun _=>rfl) l i hi m hm] at hu
 obtain ⟨c0,c1,c2,c3⟩:=hc i hi
 have eg:l.getD i .none=l[i]:=by simp [List.getD,hi]
 rw [eg] at c0 c1 c2 c3
 rcases (show m=0∨m=1∨m=2∨m=3 by omega) with rfl | rfl | rfl | rfl
 ·simp [trCells] at hu;rw [<- hu];exact c0
 ·simp [trCells] at hu;rw [<- hu,<- Nat.add_assoc];exact c1
 ·simp [trCells] at hu;rw [<- hu,<- Nat.add_assoc];exact c2
 ·simp [trCells] at hu;rw [<- hu,<- Nat.add_assoc];exact c3
set_option maxRecDepth 100000 in
set_option maxHeartbeats 2000000 in
theorem hasInt_P (la:Option Addr)(lc:Nat)(l:List Int)(x:Int)(w:World)(hl:InRow w la l)(hll:l.length<=140737488355328) :
  Calls Tryz.prog 13 #[.slice la l.length lc,.int .i64 x] w fun en w'=>en=.returned (.bool (decide (x∈l)))/\Below w.heap.size w w':=by
 have HL:Hid (InRow w la l):=hl
 have HF:Hid (∀ k,k < l.length->l.getD k 0=x->decide (x∈l)=true):=fun k hk h=>decide_eq_true (by rw [<- h];simp [List.getD,hk])
 have HY:Hid ((∀ k,k < l.length->l.getD k 0≠x)->decide (x∈l)=false):=fun h=>decide_eq_false fun hy=>by
  obtain ⟨i,hi,e⟩:=List.getElem_of_mem hy
  exact h i hi (by simpa [List.getD,hi] using e)
 clear hl
 generalize hX:decide (x∈l)=X at *
 clear hX
 go_enter Tryz.func13,Tryz.ntmps13
 go_wp2
 go_loopw [5] (fun z wr=>∃ k:Nat,k<=l.length/\z=.int .i64 k/\wr=w/\(∀ j,j < k->l.getD j 0≠x)) (fun z _=>l.length - (intOf z).toNat)
 case atStart=>exact ⟨0,Nat.zero_le _,rfl,rfl,fun j hj=>absurd hj (Nat.not_lt_zero j)⟩
 case round =>
  obtain ⟨k,hk,rfl,rfl,hf⟩:=hrel
  by_cases hlt:k < l.length
  ·obtain ⟨b,o,rfl,hbl,hc⟩:=HL.out (by intro e;rw [e] at hlt;simp at hlt)
   have c0:=hc k hlt
   have klt:(k:Int) < (l.length:Int):=by omega
   have HN:Hid (l.getD k 0=x->X=true):=HF.out k hlt
   have HS:Hid (∀ y,l.getD k 0=y->y≠x->∀ j,j < k+1->l.getD j 0≠x):=fun y hy h j hj=>by
    by_cases q:j=k
    ·subst q;rw [hy];exact h
    ·exact hf j (by omega)
   generalize hx:l.getD k 0=y at *
   by_cases h1:y=x
   ·have R:Hid (X=true):=HN.out h1
    have t1:(y == x)=true:=by simpa using h1
    clear hc hf hx h1
    go_wp2
    go_ret
    exact ⟨by rw [R.out];rfl,Below.refl _ _⟩
   ·have R:Hid (∀ j,j < k+1->l.getD j 0≠x):=HS.out y rfl h1
    have t1:(y == x)=false:=by simpa using h1
    clear hc hf hx h1
    go_wp2
    go_roundw
    case rel=>exact ⟨k+1,by omega,by go_num,by first | rfl | trivial,R.out⟩
    case measure=>simp [intOf];omega
  ·obtain rfl:k=l.length:=by omega
   have R:Hid (X=false):=HY.out hf
   clear hf
   go_wp2
   go_ret
   exact ⟨by rw [R.out];rfl,Below.refl _ _⟩
set_option linter.unusedSimpArgs false in
set_option maxRecDepth 100000 in
set_option maxHeartbeats 2000000 in
theorem hasSym_P (la:Option Addr)(lc:Nat)(l:List (Int×Int))(s:Int×Int)(w:World)(hl:SymRow w la l)(hll:l.length<=140737488355328)(hn:s ∉ l) :
  Calls Tryz.prog 14 #[.slice la l.length lc,.agg #[.int .i64 s.1,.int .i64 s.2]] w fun en w'=>en=.returned (.bool false)/\Below w.heap.size w w':=by
 obtain ⟨sk,sn⟩:=s
 dsimp only at hn ⊢
 have HL:Hid (∀ w',Below w.heap.size w w'->SymRow w' la l):=fun w' hb=>hl.later (Nat.le_refl _) hb
 have HN:Hid (∀ k,k < l.length->¬ ((l.getD k (0,0)).1=sk/\(l.getD k (0,0)).2=sn)):=fun k hk ⟨e1,e2⟩=>hn (by
  have e:l.getD k (0,0)=(sk,sn):=Prod.ext e1 e2
  rw [<- e];simp [List.getD,hk])
 have X0:Hid (Below w.heap.size w (w.alloc (.cells #[.int .i64 sk,.int .i64 sn] 49))/\(w.alloc (.cells #[.int .i64 sk,.int .i64 sn] 49)).heap[w.heap.size]?=some (.cells #[.int .i64 sk,.int .i64 sn] 49)):=⟨bAl _ _,heap_alloc_new _ _⟩
 clear hl hn
 go_enter Tryz.func14,Tryz.ntmps14
 go_wp2
 generalize w.alloc (.cells #[.int .i64 sk,.int .i64 sn] 49)=wa at *
 go_loopw [5] (fun z wr=>∃ k:Nat,k<=l.length/\z=.int .i64 k/\Below w.heap.size w wr/\wr.heap[w.heap.size]?=some (.cells #[.int .i64 sk,.int .i64 sn] 49)) (fun z _=>l.length - (intOf z).toNat)
 case atStart=>exact ⟨0,Nat.zero_le _,rfl,X0.out⟩
 case round =>
  obtain ⟨k,hk,rfl,hB,hx⟩:=hrel
  by_cases hlt:k < l.length
  ·obtain ⟨b,o,rfl,hbl,hc⟩:=HL.out _ hB (by intro e;rw [e] at hlt;simp at hlt)
   obtain ⟨c0,c1⟩:=hc k hlt
   have klt:(k:Int) < (l.length:Int):=by omega
   have hne:=HN.out k hlt
   have s0:wr.cell? ⟨w.heap.size,0,none⟩=some (.int .i64 sk):=(cQa hx).trans rfl
   have s1:wr.cell? ⟨w.heap.size,1,none⟩=some (.int .i64 sn):=(cQa hx).trans rfl
   have HB:Hid (∀ wq,Below wr.heap.size wr wq->Below w.heap.size w wq/\wq.heap[w.heap.size]?=some (.cells #[.int .i64 sk,.int .i64 sn] 49)):=fun wq hq=>⟨hB.trans (hq.mono hB.size),(hq.block _ (lt_of_block hx)).trans hx⟩
   generalize (l.getD k (0,0)).1=y1 at *
   generalize (l.getD k (0,0)).2=y2 at *
   clear hc hB hx
   have t1:∀ wq:World,(if y1=sk then if y2=sn then Result.ok (Next.value (Value.bool true)) wq else Result.ok (Next.value (Value.bool false)) wq else Result.ok (Next.value (Value.bool false)) wq)=Result.ok (Next.value (Value.bool false)) wq:=fun wq=>by
    split
    ·rw [if_neg (fun e=>hne ⟨by assumption,e⟩)]
    ·rfl
   clear hne
   go_wp2
   go_quiet (fail)
   go_wp2
   go_roundw
   case rel=>exact ⟨k+1,by omega,by go_num,HB.out _ (bDn (Below.refl _ _) _)⟩
   case measure=>simp [intOf];omega
  ·obtain rfl:k=l.length:=by omega
   have R:Hid (Below w.heap.size w wr):=hB
   clear hB hx
   go_wp2
   go_ret
   exact ⟨rfl,R.out⟩
theorem two_gtT (w:World)(g:GV)(t:TV):Below w.heap.size w ((w.alloc (gBox g)).alloc (tBox t))/\((w.alloc (gBox g)).alloc (tBox t)).heap[w.heap.size]?=some (gBox g)/\((w.alloc (gBox g)).alloc (tBox t)).heap[w.heap.size+1]?=some (tBox t):=by
 refine ⟨two_tbox w g t,tbox_on (heap_alloc_new _ _) (bAl _ _),?_⟩
 have:=heap_alloc_new (w.alloc (gBox g)) (tBox t)
 rwa [show (w.alloc (gBox g)).heap.size=w.heap.size+1 by simp] at this
structure TTb (w:World)(g:GV)(t:TV)(wr:World):Prop where
 bel:Below w.heap.size w wr
 gb:wr.heap[w.heap.size]?=some (gBox g)
 tb:wr.heap[w.heap.size+1]?=some (tBox t)
theorem TTb.any {w:World}{g:GV}{t:TV}{wr w':World}(h:TTb w g t wr)(hb:Below wr.heap.size wr w'):TTb w g t w' :=
 ⟨h.bel.trans (hb.mono h.bel.size),tbox_on h.gb hb,tbox_on h.tb hb⟩
structure TTw (w:World)(g:GV)(t:TV)(ba:Option Addr)(b:List Int)(bc:Nat)(ca:Option Addr)(c:List Int)(cc:Nat)(ua:Option Addr)(u:List (Int×Int))(uc:Nat)(wr:World):Prop where
 bx:TTb w g t wr
 lb:IL wr (.slice ba b.length bc) b
 lc:IL wr (.slice ca c.length cc) c
 lu:SY wr (.slice ua u.length uc) u
theorem TTw.any {w:World}{g:GV}{t:TV}{ba ca ua:Option Addr}{b c:List Int}{u:List (Int×Int)}{bc cc uc:Nat}{wr w':World}(h:TTw w g t ba b bc ca c cc ua u uc wr)(hb:Below wr.heap.size wr w'):TTw w g t ba b bc ca c cc ua u uc w' :=
 ⟨h.bx.any hb,h.lb.later hb,h.lc.later hb,h.lu.later hb⟩
structure SWx (w1:World)(S:List TV)(vs:Value)(wr:World):Prop where
 s:TRo wr vs S
 own:∀ j,vs.ownBlock=some j->w1.heap.size<=j
 bel:Below w1.heap.size w1 wr
theorem SWx.any {w1:World}{S:List TV}{vs:Value}{wr w':World}(h:SWx w1 S vs wr)(hb:Below wr.heap.size wr w'):SWx w1 S vs w':=⟨h.s.later hb,h.own,h.bel.trans (hb.mono h.bel.size)⟩
theorem SWx.grew {w1 wr w4:World}{S S2:List TV}{vs v':Value}(h:SWx w1 S vs wr)(hg:Grew wr w4 vs v')(hi:TRo w4 v' S2):SWx w1 S2 v' w4 :=
 ⟨hi,hg.own h.bel.size h.own,hg.below h.bel (Nat.le_refl _) h.own⟩
theorem pl_size (t:TV)(d e:Int):(plT d t).length=(plT e t).length:=by
 induction t using TV.ind generalizing d e with
 | _ t ih =>
  rw [plT_eq,plT_eq]
  have:∀ (l:List TV),(∀ k∈l,∀ d e,(plT d k).length=(plT e k).length)->(plL (d+1) l).length=(plL (e+1) l).length:=by
   intro l
   induction l with
   | nil=>intro _;rfl
   | cons a l ihl =>
    intro hl
    rw [plL_cons,plL_cons,List.length_append,List.length_append,hl a List.mem_cons_self (d+1) (e+1),ihl (fun k hk=>hl k (List.mem_cons_of_mem _ hk))]
  simp [this t.kids (fun k hk=>ih k hk)]
def szT (t:TV):Nat:=(plT 0 t).length
def szL (l:List TV):Nat:=(l.map szT).sum
theorem szL_app (l m:List TV):szL (l++m)=szL l+szL m:=by simp [szL]
theorem plL_len (d:Int):∀ l:List TV,(plL d l).length=szL l
 | []=>rfl
 | a :: l=>by rw [plL_cons,List.length_append,plL_len d l,pl_size a d 0];simp [szL,szT]
theorem szT_eq (t:TV):szT t=szL t.kids+1:=by
 unfold szT
 rw [plT_eq,List.length_cons,plL_len]
theorem szL_len:∀ l:List TV,l.length<=szL l
 | []=>Nat.le_refl _
 | a :: l=>by
  have:=szL_len l
  have:=szT_eq a
  simp only [szL,List.map_cons,List.sum_cons,List.length_cons] at *
  omega
theorem szL_mem:∀ {l:List TV} {k:TV},k∈l->szT k<=szL l
 | a :: l,k,h=>by
  simp only [szL,List.map_cons,List.sum_cons]
  rcases List.mem_cons.1 h with rfl | h
  ·omega
  ·have:=szL_mem h
   simp only [szL] at this
   omega
theorem leafs_len (t:TV):(leafs (plT 0 t)).length=(lv (plT 0 t)).length:=by rw [<- leafs_lv,List.length_map]
set_option linter.unusedSimpArgs false in
set_option maxRecDepth 100000 in
set_option maxHeartbeats 16000000 in
theorem trimTrees_no (g:GV)(t:TV)(w:World)(h:GAt 140737488355328 w g)(ht:TAt w t)(hsz:szT t<=100000000)(hT:TabB w)(er at_:Int)(hE:cG_ g (cF_ g.ts g.ns)=(er,at_))(hno:er≠0∨(runU g (ckT g (0,0) false t) 0).1≠0∨t.prod < 0) :
  Calls Tryz.prog 3 #[g.val,t.val] w fun e w'=>e=.returned (.bool true)/\Below w.heap.size w w':=by
 have X0:Hid (TTb w g t ((w.alloc (gBox g)).alloc (tBox t))):=⟨(two_gtT w g t).1,(two_gtT w g t).2.1,(two_gtT w g t).2.2⟩
 have AL:Hid (∀ w',Below w.heap.size w w'->Calls Tryz.prog 4 #[] w' fun e w''=>e=.returned (.bool true)/\Below w'.heap.size w' w''):=fun w' hb=>alive_T w' (hT.later hb)
 have MC:Hid (∀ w',Below w.heap.size w w'->Calls Tryz.prog 6 #[g.val] w' fun e w''=>e=.returned (.int .i64 er)/\Below w'.heap.size w' w''):=fun w' hb=>by
  have:=refmay_G g w' (h.later hb)
  rwa [hE] at this
 have CC:Hid (∀ w',Below w.heap.size w w'->Calls Tryz.prog 5 #[g.val,t.val] w' fun e w''=>e=.returned (.tuple #[.int .i64 (runU g (ckT g (0,0) false t) 0).1,.int .i64 ((runU g (ckT g (0,0) false t) 0).2:Int)])/\Below w'.heap.size w' w''):=fun w' hb=>check_S g t w' (h.later hb) (ht.later hb) hsz
 clear h ht hsz hE hT
 generalize (runU g (ckT g (0,0) false t) 0).1=bad at *
 generalize ((runU g (ckT g (0,0) false t) 0).2:Int)=cnt at *
 by_cases e1:er=0
 ·subst e1
  by_cases e2:bad=0
  ·subst e2
   have e3:t.prod < 0:=by rcases hno with q | q | q;exact absurd rfl q;exact absurd rfl q;exact q
   clear hno
   go_enter Tryz.func3,Tryz.ntmps3
   go_wp2_with (first
    | (go_at_call 4;refine (AL.out _ X0.out.bel).mono ?_;rintro e w1 ⟨rfl,b1⟩;have W1:Hid (TTb w g t w1):=X0.out.any b1;clear b1;obtain ⟨x0,x1,x2,x3,x4⟩:=gbc W1.out.gb;obtain ⟨y0,y1,y2,y3⟩:=tb_cells W1.out.tb)
    | (go_at_call 5;refine (CC.out _ W1.out.bel).mono ?_;rintro e w2 ⟨rfl,b2⟩;have W2:Hid (TTb w g t w2):=W1.out.any b2;clear b2 x0 x1 x2 x3 x4 y0 y1 y2 y3;obtain ⟨x0,x1,x2,x3,x4⟩:=gbc W2.out.gb)
    | (go_at_call 6;refine (MC.out _ W2.out.bel).mono ?_;rintro e w3 ⟨rfl,b3⟩;have W3:Hid (TTb w g t w3):=W2.out.any b3;clear b3 x0 x1 x2 x3 x4;obtain ⟨y0,y1,y2,y3⟩:=tb_cells W3.out.tb))
   go_ret
   exact ⟨rfl,W3.out.bel⟩
  ·have e3:(bad != 0)=true:=by simpa using e2
   clear hno e2
   go_enter Tryz.func3,Tryz.ntmps3
   go_wp2_with (first
    | (go_at_call 4;refine (AL.out _ X0.out.bel).mono ?_;rintro e w1 ⟨rfl,b1⟩;have W1:Hid (TTb w g t w1):=X0.out.any b1;clear b1;obtain ⟨x0,x1,x2,x3,x4⟩:=gbc W1.out.gb;obtain ⟨y0,y1,y2,y3⟩:=tb_cells W1.out.tb)
    | (go_at_call 5;refine (CC.out _ W1.out.bel).mono ?_;rintro e w2 ⟨rfl,b2⟩;have W2:Hid (TTb w g t w2):=W1.out.any b2;clear b2 x0 x1 x2 x3 x4 y0 y1 y2 y3;obtain ⟨x0,x1,x2,x3,x4⟩:=gbc W2.out.gb)
    | (go_at_call 6;refine (MC.out _ W2.out.bel).mono ?_;rintro e w3 ⟨rfl,b3⟩;have W3:Hid (TTb w g t w3):=W2.out.any b3;clear b3 x0 x1 x2 x3 x4;obtain ⟨y0,y1,y2,y3⟩:=tb_cells W3.out.tb))
   go_ret
   exact ⟨rfl,W3.out.bel⟩
 ·have e3:(er != 0)=true:=by simpa using e1
  clear hno e1
  go_enter Tryz.func3,Tryz.ntmps3
  go_wp2_with (first
   | (go_at_call 4;refine (AL.out _ X0.out.bel).mono ?_;rintro e w1 ⟨rfl,b1⟩;have W1:Hid (TTb w g t w1):=X0.out.any b1;clear b1;obtain ⟨x0,x1,x2,x3,x4⟩:=gbc W1.out.gb;obtain ⟨y0,y1,y2,y3⟩:=tb_cells W1.out.tb)
   | (go_at_call 5;refine (CC.out _ W1.out.bel).mono ?_;rintro e w2 ⟨rfl,b2⟩;have W2:Hid (TTb w g t w2):=W1.out.any b2;clear b2 x0 x1 x2 x3 x4 y0 y1 y2 y3;obtain ⟨x0,x1,x2,x3,x4⟩:=gbc W2.out.gb)
   | (go_at_call 6;refine (MC.out _ W2.out.bel).mono ?_;rintro e w3 ⟨rfl,b3⟩;have W3:Hid (TTb w g t w3):=W2.out.any b3;clear b3 x0 x1 x2 x3 x4;obtain ⟨y0,y1,y2,y3⟩:=tb_cells W3.out.tb))
  go_ret
  exact ⟨rfl,W3.out.bel⟩
end Go.Proofs.YtockbobpmiagiaaGreatDoor
