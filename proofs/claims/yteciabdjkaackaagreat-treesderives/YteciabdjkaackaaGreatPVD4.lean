import Derived.Test.YteciabdjkaackaaGreatPVD1ToVD2h
import Derived.Test.YteciabdjkaackaaGreatPVD5
namespace Go.Proofs.YteciabdjkaackaaGreat
set_option linter.unusedVariables false
open Go.RowKit
theorem sym_srcB {w:World}{ao:Option Addr}{l:List (Int×Int)}(h:SymRow w ao l)(hne:l≠[]):∃ b off,ao=some ⟨b,off,none⟩/\∀ j u,(l.flatMap syC)[j]?=some u->w.cell? ⟨b,off+j,none⟩=some u:=by
 obtain ⟨b,off,e,hb,hc⟩:=h hne
 refine ⟨b,off,e,fun j u hu=>?_⟩
 have hlt:j < (l.flatMap syC).length:=Classical.byContradiction fun q=>by
  rw [List.getElem?_eq_none (by omega)] at hu;cases hu
 rw [fm_len (f:=syC) (k:=2) (fun _=>rfl) l] at hlt
 obtain ⟨i,m,hi,hm,rfl⟩:∃ i m,i < l.length/\m < 2/\j=i*2+m:=⟨j / 2,j % 2,by omega,by omega,by omega⟩
 rw [fm_get (f:=syC) (k:=2) (fun _=>rfl) l i hi m hm] at hu
 obtain ⟨c0,c1⟩:=hc i hi
 have eg:l.getD i (0,0)=l[i]:=by simp [List.getD,hi]
 rw [eg] at c0 c1
 rcases (show m=0∨m=1 by omega) with rfl | rfl
 ·simp [syC] at hu;rw [<- hu];exact c0
 ·simp [syC] at hu;rw [<- hu,<- Nat.add_assoc];exact c1
theorem run_sy_catB (w:World)(ty:TypeId)(v:Value)(l:List (Int×Int))(h:SYo w v l)(ao:Option Addr)(c:Nat)(xs:List (Int×Int))(hr:SymRow w ao xs)(hlen:l.length+xs.length<=8000000000000) :
  ∃ a' n' c' w',(Builtin.append_ #[100,100] ty #[v,.slice ao xs.length c]).run Tryz.prog w=.ok (.slice a' n' c') w'/\SYo w' (.slice a' n' c') (l++xs)/\Grew w w' v (.slice a' n' c'):=by
 obtain ⟨i0,hi,hz0,hz1,hz2⟩:=infoSym_parts
 cases ao with
 | none =>
  have hz:xs=[]:=Classical.byContradiction fun e=>by
   obtain ⟨b,off,e1,_⟩:=hr e
   cases e1
  subst hz
  obtain ⟨a,c0,rfl,hc0⟩:=RO.len h
  have hrr:(Builtin.append_ #[100,100] ty #[.slice a l.length c0,.slice none 0 c]).run Tryz.prog w=.ok (.slice a l.length c0) w:=by
   cases a with
   | none =>
    have hl:l.length=0/\c0=0:=by
     rcases h.2 with ⟨q,h0⟩ | ⟨g,cap,cur,q,_⟩
     ·simp at q;exact ⟨by rw [q.1];rfl,q.2⟩
     ·cases q
    simp [Builtin.append_,run_underlying Tryz.underlying100,sizeOf,typeInfo,zeroValue,hi,hz0,Builtin.lenOf,Builtin.firstCells,hl]
   | some ad=>simp [Builtin.append_,run_underlying Tryz.underlying100,sizeOf,typeInfo,zeroValue,hi,hz0,Builtin.lenOf,Builtin.firstCells,storeCells,hc0]
  exact ⟨_,_,_,_,hrr,by rw [List.append_nil];exact h,⟨⟨rfl,rfl,rfl,Nat.le_refl _,fun _ _ _=>rfl⟩,.inl rfl⟩⟩
 | some ad =>
  have hlim:(l.length+xs.length)*i0.bytes<=140737488355328:=by rw [hz2];omega
  obtain ⟨v',w',hrun,hown,hgrow,_,hmv⟩:=run_append_own_at (P:=Tryz.prog) (w:=w) 0 100 ty 82 i0 _ 2 i0.bytes Tryz.underlying100 hi hz0 hz1 rfl (by kernel_rfl) (by decide) v l.length (l.flatMap syC) h ad xs.length c (xs.flatMap syC) (fm_len (f:=syC) (k:=2) (fun _=>rfl) xs) (fun j u hu=>by
    have hne:xs≠[]:=fun e=>by rw [e] at hu;simp at hu
    obtain ⟨b,off,e,q⟩:=sym_srcB hr hne
    cases e
    rw [aNn]
    exact q j u hu) (fun u hu=>by
    obtain ⟨x,_,hx⟩:=List.mem_flatMap.1 hu
    exact rkSymR.one x u hx) (by unfold maxLen;omega) hlim (Nat.zero_le _)
  have h6:SYo w' v' (l++xs):=by
   unfold SYo RO
   rw [List.flatMap_append,List.length_append]
   exact hown
  obtain ⟨a',c',rfl,_⟩:=RO.len h6
  exact ⟨_,_,_,w',hrun,h6,⟨hgrow,hmv.imp id fun e=>⟨_,e,Nat.le_refl _⟩⟩⟩
theorem wpList_sy_catB {ops:Array Oper}{rest:List Oper}{o:Oper}{a:Act}{Q:Exit->Act->World->Prop}{w:World}(hgd:o.guard=none)(s x:Operand)
  (ho:o.op=.call { callee:=.builtin .append,args:=#[s,x],argTypes:=#[100,100] })
  (v:Value) (l:List (Int×Int)) (hs:a.eval s=v) (h:SYo w v l) (ao:Option Addr) (n c:Nat) (xs:List (Int×Int)) (hn:xs.length=n) (hx:a.eval x=.slice ao n c) (hr:SymRow w ao xs) (hlen:l.length+xs.length<=8000000000000)
  (hK:∀ a' n' c' w',SYo w' (.slice a' n' c') (l++xs)->Grew w w' v (.slice a' n' c')->wpList Tryz.prog ops Q rest (a.put o.dst (.slice a' n' c')) w'):wpList Tryz.prog ops Q (o :: rest) a w:=by
 subst hn
 refine wpList_plain hgd fun K hK'=>?_
 obtain ⟨a',n',c',w',hrun,r1,r2⟩:=run_sy_catB w o.type v l h ao c xs hr hlen
 unfold Oper.wp execOp
 simp only [ho,resolve,invoke,builtin,Sem.run_bind,Sem.run_pure,Result.andThen_ok,List.map_toArray,List.map_cons,List.map_nil,hs,hx,hrun]
 exact hK' _ _ (hK a' n' c' w' r1 r2)
set_option linter.unusedSimpArgs false in
set_option maxRecDepth 100000 in
set_option maxHeartbeats 8000000 in
theorem rFromRight_S {w:World}{g:GV}{pa wa:Option Addr}{pc wc:Nat}{l:List Int}{L:List (Int×ByteArray)}(okc:OkC g.rev)(hg:GAt 1048576 w g)(hli:InRow w pa l)(hLi:TkRow w wa L)(hb:l.length<=1048576)(hB:L.length<=1048576) :
  Calls Tryz.prog 32 #[g.val,.slice pa l.length pc,.slice wa L.length wc] w fun e w'=>∃ T,samV T (anT (fromU (cpU 0 g.ps.length l) (mirU g l L))).1/\TAt w' T/\e=.returned (.tuple #[T.val,.int .i64 (anT (fromU (cpU 0 g.ps.length l) (mirU g l L))).2.1,.int .i64 (anT (fromU (cpU 0 g.ps.length l) (mirU g l L))).2.2])/\Below w.heap.size w w':=by
 obtain ⟨W0,hW0⟩:∃ W0,(w.alloc (gBox g)).alloc zTree=W0:=⟨_,rfl⟩
 obtain ⟨k1,k2,k3⟩:=two_allocT w (gBox g) zTree
 rw [hW0] at k1 k2 k3
 have X0:Hid (Below w.heap.size w W0/\W0.heap[w.heap.size]?=some (gBox g)/\W0.heap[w.heap.size+1]?=some zTree):=⟨k1,k2,k3⟩
 have CN:Hid (Calls Tryz.prog 73 #[g.val,.slice pa l.length pc] W0 fun e w'=>e=.returned (.tuple #[.int .i64 (cpU 0 g.ps.length l).1,.int .i64 (cpU 0 g.ps.length l).2])/\Below W0.heap.size W0 w'):=numbers_S (hli.later k1) (by omega)
 have RD:Hid (∀ w',Below W0.heap.size W0 w'->w'.heap[w.heap.size]?=some (gBox g)/\GAt 1048576 w' g/\InRow w' pa l/\TkRow w' wa L):=fun w' hbb=>⟨(hbb.block _ (lt_of_block k2)).trans k2,(hg.later k1).later hbb,(hli.later k1).later hbb,(hLi.later k1).later hbb⟩
 have HZ:Hid (l.length<=1048576/\L.length<=1048576/\∀ p,(rgP g p).length<=1048576):=⟨hb,hB,pend_len hg.rl⟩
 have OK:Hid (OkC g.rev):=okc
 have FN:Hid (∀ (w9:World) (T:TV),Below W0.heap.size W0 w9->TAt w9 T->(∀ a∈adsL (kidsA T),w.heap.size+1 < a.1)->w9.heap[w.heap.size+1]?=some zTree/\TBx (set4 w9 (w.heap.size+1) 0 T) (w.heap.size+1) 0 T/\Below w.heap.size w (set4 w9 (w.heap.size+1) 0 T)/\TAt (set4 w9 (w.heap.size+1) 0 T) T):=fun w9 T h1 h2 h3=>vfin k1 k3 h1 h2 h3
 have NO:Hid (∀ w9:World,Below W0.heap.size W0 w9->w9.heap[w.heap.size+1]?=some zTree/\TBx (set4 w9 (w.heap.size+1) 0 .none) (w.heap.size+1) 0 .none/\Below w.heap.size w (set4 w9 (w.heap.size+1) 0 .none)):=fun w9 h1=>by
  obtain ⟨q1,q2,q3,-⟩:=vfin (T:=TV.none) k1 k3 h1 (TAt.mk _ (fun h=>absurd rfl h) (fun k hk=>by cases hk)) (fun a ha=>by cases ha)
  exact ⟨q1,q2,q3⟩
 have UU:Hid (∀ u:Option TV×Int×Int,∀ w',u.1=none->∃ T,samV T (anT u).1/\TAt w' T/\Value.tuple #[TV.none.val,.int .i64 u.2.1,.int .i64 u.2.2]=.tuple #[T.val,.int .i64 (anT u).2.1,.int .i64 (anT u).2.2]):=fun u w' hu=>by
  obtain ⟨ot,e1,e2⟩:=u
  cases hu
  exact ⟨TV.none,samV_refl _,TAt.mk _ (fun h=>absurd rfl h) (fun k hk=>by cases hk),rfl⟩
 obtain ⟨u,hu⟩:∃ u,fromU (cpU 0 g.ps.length l) (mirU g l L)=u:=⟨_,rfl⟩
 have HU:Hid (fromU (cpU 0 g.ps.length l) (mirU g l L)=u):=hu
 have CO:Hid ((cpU 0 g.ps.length l).1=0->l≠[]/\(∀ x∈l,0<=x/\x < g.ps.length)/\cpU 0 g.ps.length l=(0,0)):=fun h=>(cp_ok h).2
 obtain ⟨c1,c2,hc⟩:∃ c1 c2,cpU 0 g.ps.length l=(c1,c2):=⟨_,_,rfl⟩
 rw [hu]
 rw [hc] at CN HU CO
 obtain ⟨x0,x1,x2,x3,x4⟩:=gbx_cells k2
 clear okc hg hli hLi hb hB k1 k2 k3 hu hc
 dsimp only at CN CO
 go_enter Tryz.func32,Tryz.ntmps32
 go_upto_region 1 with fail
 refine wp_world (fun w'=>w'=W0) hW0 fun w1 h1=>?_
 obtain rfl:=h1
 clear hW0
 go_upto_region 2 with (go_at_call 73;refine CN.out.mono ?_;rintro e w2 ⟨rfl,b2⟩;have H2:Hid (Below w1.heap.size w1 w2):=b2;clear b2 x0 x1 x2 x3 x4)
 clear CN
 by_cases h0:c1=0
 ·obtain ⟨hne,hin,hcc⟩:=CO.out h0
  obtain ⟨rfl,rfl⟩:c1=0/\c2=0:=by simpa using hcc
  have HI:Hid (∀ x∈l,0<=x/\x < g.ps.length):=hin
  have HU2:Hid (mirU g l L=u):=by have:=HU.out;unfold fromU at this;rwa [if_neg (by simp)] at this
  have t1:((0:Int) != 0)=false:=by decide
  clear h0 hcc CO HU
  go_upto_region 5 with fail
  clear t1
  have hpos:0 < l.length:=List.length_pos_iff.2 hne
  obtain ⟨ln,hln⟩:∃ ln:Nat,l.length=ln+1:=⟨l.length - 1,by omega⟩
  have hml:l.getD ln 0∈l:=by simp [List.getD,show ln < l.length by omega]
  obtain ⟨n0,hn0⟩:∃ n:Nat,l.getD ln 0=(n:Int):=⟨(l.getD ln 0).toNat,by have:=(hin _ hml).1;omega⟩
  have hn0l:n0 < g.ps.length:=by have:=(hin _ hml).2;omega
  have hpne:g.ps≠[]:=fun e=>by rw [e] at hn0l;simp at hn0l
  obtain ⟨pb,po,hpa,-⟩:=(RD.out _ (Below.refl _ _)).2.1.p.cells hpne
  obtain ⟨lb,lo,hla,-,-⟩:=(RD.out _ (Below.refl _ _)).2.2.1 hne
  subst hla
  have RP:Hid (∀ w',Below w1.heap.size w1 w'->∀ n,n < g.ps.length->w'.cell? ⟨pb,po+n*3,none⟩=some (.int .i64 (g.ps.getD n .none).left)/\w'.cell? ⟨pb,po+n*3+1,none⟩=some (.slice (g.ps.getD n .none).ra (g.ps.getD n .none).right.length (g.ps.getD n .none).rc)/\w'.cell? ⟨pb,po+n*3+2,none⟩=some (.int .i64 (g.ps.getD n .none).prec)):=fun w' hbb n hn=>by
   obtain ⟨pb',po',hpa',-,q⟩:=(RD.out _ hbb).2.1.p.cells hpne
   rw [hpa] at hpa'
   simp only [Option.some.injEq,Addr.mk.injEq,and_true] at hpa'
   obtain ⟨rfl,rfl⟩:=hpa'
   exact q n hn
  have RS:Hid (∀ w',Below w1.heap.size w1 w'->∀ n,n < g.ps.length->SymRow w' (g.ps.getD n .none).ra (g.ps.getD n .none).right):=fun w' hbb n hn=>(RD.out _ hbb).2.1.p.rows _ (by simp [List.getD,hn])
  have RL:Hid (∀ w',Below w1.heap.size w1 w'->∀ n,n < l.length->w'.cell? ⟨lb,lo+n,none⟩=some (.int .i64 (l.getD n 0))):=fun w' hbb n hn=>by
   obtain ⟨lb',lo',hla',-,q⟩:=(RD.out _ hbb).2.2.1 hne
   simp only [Option.some.injEq,Addr.mk.injEq,and_true] at hla'
   obtain ⟨rfl,rfl⟩:=hla'
   exact q n hn
  have RG:Hid (∀ w',Below w1.heap.size w1 w'->w'.cell? ⟨w.heap.size,3,none⟩=some (.slice (some ⟨pb,po,none⟩) g.ps.length g.pc)):=fun w' hbb=>by
   have:=(gbx_cells (RD.out _ hbb).1).2.2.2.1
   rwa [hpa] at this
  have LE:Hid (lfP g.rev (l.reverse.getD 0 0)=(g.ps.getD n0 .none).left):=by
   show _=_
   rw [lfP_rev,rev_getD l 0 hpos,show l.length - 1 - 0=ln by omega,hn0]
   rfl
  obtain ⟨left0,hleft0⟩:∃ z,(g.ps.getD n0 .none).left=z:=⟨_,rfl⟩
  have R0:Hid (∀ w',Below w1.heap.size w1 w'->w'.cell? ⟨w.heap.size,3,none⟩=some (.slice (some ⟨pb,po,none⟩) g.ps.length g.pc)/\w'.cell? ⟨lb,lo+ln,none⟩=some (.int .i64 (n0:Int))/\w'.cell? ⟨pb,po+n0*3,none⟩=some (.int .i64 left0)):=fun w' hbb=>⟨RG.out w' hbb,by have:=RL.out w' hbb ln (by omega);rw [hn0] at this;exact this,by have:=(RP.out w' hbb n0 hn0l).1;rw [hleft0] at this;exact this⟩
  rw [hleft0] at LE
  have g1:(n0:Int) < (g.ps.length:Int):=by omega
  have g2:(ln:Int) < (l.length:Int):=by omega
  have g3:ln < l.length:=by omega
  have o0:IntKind.i64.wrap ((l.length:Int) - 1)=(ln:Int):=by rw [show (l.length:Int) - 1=(ln:Int) by omega];exact IntWalk.i64_in _ ⟨by omega,by have:=HZ.out.1;omega⟩
  have HLN:Hid (l.length=ln+1):=hln
  have HNE:Hid (l≠[]):=hne
  clear hne hin hn0 hn0l hleft0 hpa hpne hml hln hpos
  obtain ⟨wd,hwd⟩:∃ wd:World,wd=w2.drew:=⟨_,rfl⟩
  have HD:Hid (Below w1.heap.size w1 wd):=by rw [hwd];exact H2.out.drew
  refine wp_region_x (S:=fun _=>fun w'=>Below w1.heap.size w1 w') (by kernel_rfl) ?_
  rw [<- hwd]
  clear hwd H2
  refine wpAnyX_takeSV (i:=0) (v:=?_) rfl (by kernel_rfl) (by decide +kernel) (by decide +kernel) (fun _ _ _ h=>h) (Or.inl ⟨by rfl,?_⟩) (HD.out) ?_
  rotate_left
  ·(intro wq hSw;obtain ⟨z0,z1,z2⟩:=R0.out wq hSw;clear hSw;go_simp;try (with_reducible rfl))
  (try simp only [Act.put,List.setIfInBounds_toArray,List.set_cons_zero,List.set_cons_succ])
  refine wpAnyX_takeSV (i:=1) (v:=?_) rfl (by kernel_rfl) (by decide +kernel) (by decide +kernel) (fun _ _ _ h=>h) (Or.inl ⟨by rfl,?_⟩) (HD.out) ?_
  rotate_left
  ·(intro wq hSw;obtain ⟨z0,z1,z2⟩:=R0.out wq hSw;clear hSw;go_simp;try (with_reducible rfl))
  (try simp only [Act.put,List.setIfInBounds_toArray,List.set_cons_zero,List.set_cons_succ])
  refine wpAnyX_takeSV (i:=2) (v:=?_) rfl (by kernel_rfl) (by decide +kernel) (by decide +kernel) (fun _ _ _ h=>h) (Or.inl ⟨by rfl,?_⟩) (HD.out) ?_
  rotate_left
  ·(intro wq hSw;obtain ⟨z0,z1,z2⟩:=R0.out wq hSw;clear hSw;go_simp;try (with_reducible rfl))
  (try simp only [Act.put,List.setIfInBounds_toArray,List.set_cons_zero,List.set_cons_succ])
  refine wpAnyX_takeSV (i:=3) (v:=?_) rfl (by kernel_rfl) (by decide +kernel) (by decide +kernel) (fun _ _ _ h=>h) (Or.inl ⟨by rfl,?_⟩) (HD.out) ?_
  rotate_left
  ·(intro wq hSw;obtain ⟨z0,z1,z2⟩:=R0.out wq hSw;clear hSw;go_simp;try (with_reducible rfl))
  (try simp only [Act.put,List.setIfInBounds_toArray,List.set_cons_zero,List.set_cons_succ])
  refine wpAnyX_takeSV (i:=4) (v:=?_) rfl (by kernel_rfl) (by decide +kernel) (by decide +kernel) (fun _ _ _ h=>h) (Or.inl ⟨by rfl,?_⟩) (HD.out) ?_
  rotate_left
  ·(intro wq hSw;obtain ⟨z0,z1,z2⟩:=R0.out wq hSw;clear hSw;go_simp;try (with_reducible rfl))
  (try simp only [Act.put,List.setIfInBounds_toArray,List.set_cons_zero,List.set_cons_succ])
  refine wpAnyX_takeSV (i:=5) (v:=?_) rfl (by kernel_rfl) (by decide +kernel) (by decide +kernel) (fun _ _ _ h=>h) (Or.inl ⟨by rfl,?_⟩) (HD.out) ?_
  rotate_left
  ·(intro wq hSw;obtain ⟨z0,z1,z2⟩:=R0.out wq hSw;clear hSw;go_simp;try (with_reducible rfl))
  (try simp only [Act.put,List.setIfInBounds_toArray,List.set_cons_zero,List.set_cons_succ])
  refine wpAnyX_takeSV (i:=6) (v:=?_) rfl (by kernel_rfl) (by decide +kernel) (by decide +kernel) (fun _ _ _ h=>h) (Or.inl ⟨by rfl,?_⟩) (HD.out) ?_
  rotate_left
  ·(intro wq hSw;obtain ⟨z0,z1,z2⟩:=R0.out wq hSw;clear hSw;go_simp;try (with_reducible rfl))
  (try simp only [Act.put,List.setIfInBounds_toArray,List.set_cons_zero,List.set_cons_succ])
  refine wpAnyX_takeSV (i:=7) (v:=?_) rfl (by kernel_rfl) (by decide +kernel) (by decide +kernel) (fun _ _ _ h=>h) (Or.inl ⟨by rfl,?_⟩) (HD.out) ?_
  rotate_left
  ·(intro wq hSw;obtain ⟨z0,z1,z2⟩:=R0.out wq hSw;clear hSw;go_simp;try (with_reducible rfl))
  (try simp only [Act.put,List.setIfInBounds_toArray,List.set_cons_zero,List.set_cons_succ])
  refine wpAnyX_takeSV (i:=8) (v:=?_) rfl (by kernel_rfl) (by decide +kernel) (by decide +kernel) (fun _ _ _ h=>h) (Or.inl ⟨by rfl,?_⟩) (HD.out) ?_
  rotate_left
  ·(intro wq hSw;obtain ⟨z0,z1,z2⟩:=R0.out wq hSw;clear hSw;go_simp;try (with_reducible rfl))
  (try simp only [Act.put,List.setIfInBounds_toArray,List.set_cons_zero,List.set_cons_succ])
  refine wpAnyX_takeSV (i:=9) (v:=?_) rfl (by kernel_rfl) (by decide +kernel) (by decide +kernel) (fun _ _ _ h=>h) (Or.inl ⟨by rfl,?_⟩) (HD.out) ?_
  rotate_left
  ·(intro wq hSw;obtain ⟨z0,z1,z2⟩:=R0.out wq hSw;clear hSw;go_simp;try (with_reducible rfl))
  (try simp only [Act.put,List.setIfInBounds_toArray,List.set_cons_zero,List.set_cons_succ])
  refine wpAnyX_takeSV (i:=10) (v:=?_) rfl (by kernel_rfl) (by decide +kernel) (by decide +kernel) (fun _ _ _ h=>h) (Or.inl ⟨by rfl,?_⟩) (HD.out) ?_
  rotate_left
  ·(intro wq hSw;obtain ⟨z0,z1,z2⟩:=R0.out wq hSw;clear hSw;go_simp;try (with_reducible rfl))
  (try simp only [Act.put,List.setIfInBounds_toArray,List.set_cons_zero,List.set_cons_succ])
  refine wpAnyX_takeSV (i:=11) (v:=?_) rfl (by kernel_rfl) (by decide +kernel) (by decide +kernel) (fun _ _ _ h=>h) (Or.inl ⟨by rfl,?_⟩) (HD.out) ?_
  rotate_left
  ·(intro wq hSw;obtain ⟨z0,z1,z2⟩:=R0.out wq hSw;clear hSw;go_simp;try (with_reducible rfl))
  (try simp only [Act.put,List.setIfInBounds_toArray,List.set_cons_zero,List.set_cons_succ])
  refine wX1 (j:=12) (by decide +kernel) rfl (fun K' hK=>?_)
  go_simp
  have T0:Hid (TwD w1 [] ([(2,left0)]:List (Int×Int)).reverse (.slice none 0 0) (.slice (some ⟨wd.heap.size,0,none⟩) 1 1) (wd.alloc (symBox (2,left0)))):=by
   have ba:=HD.out.trans ((bAl wd (symBox (2,left0))).mono HD.out.size)
   have hn:=HD.out.size
   refine ⟨RO.nil _,⟨rfl,.inr ⟨wd.heap.size,1,_,rfl,Nat.zero_le _,heap_alloc_new _ _,Nat.le_refl _,by decide,rfl,rfl⟩⟩,fun j hj=>(by simp [Value.ownBlock] at hj),fun j hj=>?_,fun j hj=>(by simp [Value.ownBlock] at hj),ba⟩
   have:wd.heap.size=j:=Option.some.inj hj
   omega
  have B3:Hid (Below w1.heap.size w1 (wd.alloc (symBox (2,left0)))):=T0.out.bel
  refine hK.out _ _ B3.out ?_
  clear hK K' HD
  generalize wd.alloc (symBox (2,left0))=w3 at *
  generalize wd.heap.size=nb at *
  (try simp only [Act.put,List.setIfInBounds_toArray,List.set_cons_zero,List.set_cons_succ])
  refine wX1 (j:=13) (by decide +kernel) rfl (fun K' hK=>?_)
  go_simp
  refine hK.out _ _ B3.out ?_
  clear hK K'
  (try simp only [Act.put,List.setIfInBounds_toArray,List.set_cons_zero,List.set_cons_succ])
  refine wXd (by decide +kernel) ?_
  clear g1 g2 g3 o0
  have o0:IntKind.i64.wrap ((l.length:Int) - 1)=(l.length:Int) - 1:=IntWalk.i64_in _ ⟨by omega,by have:=HZ.out.1;omega⟩
  have o1:IntKind.i64.wrap ((L.length:Int) - 1)=(L.length:Int) - 1:=IntWalk.i64_in _ ⟨by omega,by have:=HZ.out.2.1;omega⟩
  go_wp2
  go_loopg [11,12,13,14] (l.length+L.length+1) (fun gk vf vn vp vq wr=>∃ (x:DvU) (N:List (Int×Int)) (F:List SP) (n:Nat),vp=.int .i64 ((l.length:Int) - 1 - (x.u:Int))/\vq=.int .i64 ((L.length:Int) - 1 - (x.r:Int))/\TwD w1 F N.reverse vf vn wr/\LfP g.rev l.reverse L.reverse x N F/\DrR g.rev l.reverse L.reverse n x/\N.length<=1+x.u*1048576/\l.length+L.length < gk+(x.u+x.r))
  case atStart=>exact ⟨⟨0,0,([],[])⟩,[(2,left0)],[],_,by simp,by simp,T0.out,by have:=lf_start g.rev l.reverse L.reverse;rw [LE.out] at this;exact this,dr_start _ _ _,by simp,by simp⟩
  case round =>
  clear T0 LE R0 o0 o1
  obtain ⟨x,N,F,n,rfl,rfl,hT,hP,hD,hN,hg⟩:=hrel
  have hul:x.u<=l.length:=by have:=hP.ok.ul;rwa [List.length_reverse] at this
  have hrl:x.r<=L.length:=by have:=hP.ok.rl;rwa [List.length_reverse] at this
  have hFl:=hP.ln
  have BB:Hid (Below w1.heap.size w1 wr):=hT.bel
  by_cases hw:wU_ x.A=true
  ·obtain ⟨rfl,t,ht,hft⟩:=lf_whole hP hw
   have hres:=hD.whole hw
   rw [ht,List.length_reverse,List.length_reverse] at hres
   obtain ⟨na,nc,rfl,_⟩:=RO.len hT.s
   obtain ⟨fa,fc,rfl,_⟩:=RO.len hT.o
   obtain ⟨zp,hzp⟩:∃ z,(l.length:Int) - 1 - (x.u:Int)=z:=⟨_,rfl⟩
   obtain ⟨zq,hzq⟩:∃ z,(L.length:Int) - 1 - (x.r:Int)=z:=⟨_,rfl⟩
   rw [hzp,hzq]
   by_cases hu:x.u < l.length
   ·rw [if_pos hu] at hres
    have RES:Hid (u.1=none/\u.2.1=81/\u.2.2=0):=by
     have hq:=mirU_none hres
     rw [HU2.out] at hq
     show _/\_/\_
     rw [hq]
     exact ⟨rfl,rfl,rfl⟩
    obtain ⟨m,rfl⟩:∃ m:Nat,zp=(m:Int):=⟨l.length - 1 - x.u,by omega⟩
    have t3:decide ((m:Int) ≥ 0)=true:=by simp
    obtain ⟨z1,z2,z3⟩:=NO.out wr hT.bel
    have F3:Hid (TBx (set4 wr (w.heap.size+1) 0 .none) (w.heap.size+1) 0 .none/\Below w.heap.size w (set4 wr (w.heap.size+1) 0 .none)):=⟨z2,z3⟩
    obtain ⟨d0,d1,d2,d3,f0,f1,f2,f3⟩:=z_cells z1
    clear z1 z2 z3 hT hP hD hN hg hw hres hu ht hft hul hrl hFl HI HU2 RP RL RG RS HNE HZ OK FN NO RD X0 BB HLN hzp hzq
    simp only [List.reverse_nil,List.length_nil]
    go_wp2
    change bodyPost _ _ _ _ _ (set4 wr (w.heap.size+1) 0 .none)
    generalize set4 wr (w.heap.size+1) 0 .none=w4 at *
    have y0:=F3.out.1.c0
    have y1:=F3.out.1.c1
    have y2:=F3.out.1.c2
    have y3:=F3.out.1.c3
    simp only [Nat.zero_add] at y1 y2 y3
    refine bodyPost_ret (v:=.tuple #[TV.none.val,.int .i64 81,.int .i64 0]) (by simp [results,Tryz.results32,go_sem,y0,y1,y2,y3]) rfl ?_
    obtain ⟨TT',q1,q2,q3⟩:=UU.out u w4 RES.out.1
    rw [RES.out.2.1,RES.out.2.2] at q3
    exact ⟨TT',q1,q2,by rw [q3],F3.out.2⟩
   ·rw [if_neg hu] at hres
    obtain rfl:zp=-1:=by omega
    by_cases hr:x.r < L.length
    ·rw [if_pos hr] at hres
     have RES:Hid (u.1=none/\u.2.1=81/\u.2.2=0):=by
      have hq:=mirU_none hres
      rw [HU2.out] at hq
      show _/\_/\_
      rw [hq]
      exact ⟨rfl,rfl,rfl⟩
     obtain ⟨m,rfl⟩:∃ m:Nat,zq=(m:Int):=⟨L.length - 1 - x.r,by omega⟩
     have t3:decide ((m:Int) ≥ 0)=true:=by simp
     have t4:decide ((-1:Int) ≥ 0)=false:=by decide
     obtain ⟨z1,z2,z3⟩:=NO.out wr hT.bel
     have F3:Hid (TBx (set4 wr (w.heap.size+1) 0 .none) (w.heap.size+1) 0 .none/\Below w.heap.size w (set4 wr (w.heap.size+1) 0 .none)):=⟨z2,z3⟩
     obtain ⟨d0,d1,d2,d3,f0,f1,f2,f3⟩:=z_cells z1
     clear z1 z2 z3 hT hP hD hN hg hw hres hu hr ht hft hul hrl hFl HI HU2 RP RL RG RS HNE HZ OK FN NO RD X0 BB HLN hzp hzq
     simp only [List.reverse_nil,List.length_nil]
     go_wp2
     change bodyPost _ _ _ _ _ (set4 wr (w.heap.size+1) 0 .none)
     generalize set4 wr (w.heap.size+1) 0 .none=w4 at *
     have y0:=F3.out.1.c0
     have y1:=F3.out.1.c1
     have y2:=F3.out.1.c2
     have y3:=F3.out.1.c3
     simp only [Nat.zero_add] at y1 y2 y3
     refine bodyPost_ret (v:=.tuple #[TV.none.val,.int .i64 81,.int .i64 0]) (by simp [results,Tryz.results32,go_sem,y0,y1,y2,y3]) rfl ?_
     obtain ⟨TT',q1,q2,q3⟩:=UU.out u w4 RES.out.1
     rw [RES.out.2.1,RES.out.2.2] at q3
     exact ⟨TT',q1,q2,by rw [q3],F3.out.2⟩
    ·rw [if_neg hr] at hres
     obtain rfl:zq=-1:=by omega
     have t4:decide ((-1:Int) ≥ 0)=false:=by decide
     have RES:Hid (u=(some (mirT t),0,0)):=by
      obtain ⟨e1,e2,hq⟩:∃ e1 e2,deriveU g.rev l.reverse L.reverse=(some t,e1,e2):=⟨_,_,hres⟩
      have hq:=mirU_some hq
      rw [HU2.out] at hq
      exact hq
     have SZ:Hid (w.heap.size+1 < wr.heap.size):=by have h1:=lt_of_block X0.out.2.2;have h2:=hT.bel.size;show _ < _;omega
     have HL:Hid (F.length<=100000000):=by have h1:=HZ.out.1;have h2:=HZ.out.2.1;show _<=_;omega
     obtain ⟨⟨t',ht1,ht2⟩,hwf⟩:=bld_one t
     have HB:Hid (bldG (sgs t)=[t']/\samV t' t):=⟨ht1,ht2⟩
     have HW:Hid (wfG (sgs t)):=hwf
     have HF:Hid (F.map (fun s=>sgV s.t)=sgs t):=hft
     have HR:Hid (∀ w',Below wr.heap.size wr w'->FLo w' (.slice fa F.length fc) F):=fun w' hb=>hT.o.later hb
     have HGL:Hid (F.length=(sgs t).length):=by show _=_;rw [<- hft,List.length_map]
     have B0:Hid (BvS wr [] (.slice none 0 0) wr):=⟨Below.refl _ _,RO.nil _,fun j hj=>by simp [Value.ownBlock] at hj,fun y hy=>by simp at hy,fun y hy=>by simp at hy⟩
     have o0:IntKind.i64.wrap ((F.length:Int) - 1)=(F.length:Int) - 1:=IntWalk.i64_in _ ⟨by omega,by have:=HL.out;omega⟩
     clear ht1 ht2 hwf hft hT hP hD hN hg hw hres ht hu hr hul hrl hFl HI HU2 RP RL RG RS HNE HZ OK NO RD X0 UU HLN hzp hzq
     generalize sgs t=G at *
     generalize wr=wb at *
     simp only [List.reverse_nil,List.length_nil]
     go_wp2
     go_loopw [17,18] (fun vs z wq=>∃ (i:Nat) (S:List TV),i<=F.length/\z=.int .i64 ((i:Int) - 1)/\BvS wb S vs wq/\samL S ((bldG (G.drop i)).reverse.map mirT)) (fun _ z _=>(intOf z+1).toNat)
     case atStart=>exact ⟨F.length,[],Nat.le_refl _,by go_num,B0.out,by rw [List.drop_eq_nil_of_le (by have:=HGL.out;omega)];exact samL_nil⟩
     case round =>
      clear B0 o0 t4
      obtain ⟨i,S,hi,rfl,hS,hsm⟩:=hrel
      obtain ⟨sa,sc,rfl,_⟩:=RO.len hS.s
      rcases Nat.eq_zero_or_pos i with rfl | hpos
      ·rw [List.drop_zero,HB.out.1] at hsm
       have hl1:S.length=1:=hsm.1
       obtain ⟨T,rfl⟩:∃ T,S=[T]:=List.length_eq_one_iff.1 hl1
       have hTT:samV T (mirT t'):=hsm.2 0 (by simp) (by simp)
       obtain ⟨sb,cc,hv,_,hcell⟩:=RO.cell (f:=trCells) (k:=4) (i:=0) (fun _=>rfl) hS.s (by simp)
       simp only [Value.slice.injEq] at hv
       obtain ⟨rfl,-,rfl⟩:=hv
       have c0:=hcell 0 (by omega)
       have c1:=hcell 1 (by omega)
       have c2:=hcell 2 (by omega)
       have c3:=hcell 3 (by omega)
       simp only [trCells,List.getElem_cons_zero,List.getElem?_cons_zero,List.getElem?_cons_succ,Nat.zero_mul,Nat.zero_add] at c0 c1 c2 c3
       have RS:Hid (samV T (mirT t)):=samV_trans _ _ _ hTT (mir_same _ _ HB.out.2)
       obtain ⟨z1,z2,z3,z4⟩:=FN.out wr T (BB.out.trans (hS.bel.mono BB.out.size)) (hS.ta T (by simp)) (fun a ha=>(by have:=(hS.na T (by simp) a ha).1;have:=SZ.out;omega))
       have F3:Hid (TBx (set4 wr (w.heap.size+1) 0 T) (w.heap.size+1) 0 T/\Below w.heap.size w (set4 wr (w.heap.size+1) 0 T)/\TAt (set4 wr (w.heap.size+1) 0 T) T):=⟨z2,z3,z4⟩
       obtain ⟨d0,d1,d2,d3,f0,f1,f2,f3⟩:=z_cells z1
       clear hsm hl1 hTT hcell hS hi HB HW HF HR HL HGL z1 z2 z3 z4 FN BB SZ
       simp only [List.length_singleton] at *
       go_wp2
       change bodyPost _ _ _ _ _ (set4 wr (w.heap.size+1) 0 T)
       generalize set4 wr (w.heap.size+1) 0 T=w4 at *
       have y0:=F3.out.1.c0
       have y1:=F3.out.1.c1
       have y2:=F3.out.1.c2
       have y3:=F3.out.1.c3
       simp only [Nat.zero_add] at y1 y2 y3
       refine bodyPost_ret (v:=.tuple #[T.val,.int .i64 0,.int .i64 0]) (by simp [results,Tryz.results32,go_sem,y0,y1,y2,y3]) rfl ?_
       rw [RES.out]
       exact ⟨T,RS.out,F3.out.2.2,rfl,F3.out.2.1⟩
      ·obtain ⟨m,rfl⟩:∃ m,i=m+1:=⟨i - 1,by omega⟩
       have hlt:m < F.length:=by omega
       obtain ⟨sp,hx⟩:∃ sp,F[m]=sp:=⟨_,rfl⟩
       have hgl:m < G.length:=by have:=HGL.out;omega
       have hgd:G.drop m=sgV sp.t :: G.drop (m+1):=by
        rw [List.drop_eq_getElem_cons hgl]
        congr 1
        have:=HF.out
        have e:G[m]=sgV (F[m]).t:=by
         simp only [<- this,List.getElem_map]
        rw [e,hx]
       obtain ⟨fb,fc',hv,hc,hcell⟩:=RO.cell (f:=flCells) (k:=4) (fun _=>rfl) (HR.out _ hS.bel) hlt
       simp only [Value.slice.injEq,true_and] at hv
       obtain ⟨rfl,-⟩:=hv
       rw [hx] at hcell
       have c0:=hcell 0 (by omega)
       have c1:=hcell 1 (by omega)
       have c2:=hcell 2 (by omega)
       have c3:=hcell 3 (by omega)
       simp only [flCells,List.getElem?_cons_zero,List.getElem?_cons_succ,Nat.add_zero] at c0 c1 c2 c3
       obtain ⟨st,hst⟩:∃ st,bldG (G.drop (m+1))=st:=⟨_,rfl⟩
       rw [hst] at hsm
       have hnd:bldG (G.drop m)=TV.mk sp.t.prod sp.t.kind sp.t.tx none 0 (st.take sp.t.kids.length) :: st.drop sp.t.kids.length:=by
        rw [hgd]
        show TV.mk sp.t.prod sp.t.kind sp.t.tx none 0 ((bldG (G.drop (m+1))).take sp.t.kids.length) :: (bldG (G.drop (m+1))).drop sp.t.kids.length=_
        rw [hst]
       have hwn:sp.t.kids.length<=st.length:=by
        have:=wf_drop G m HW.out
        rw [hgd] at this
        have:=this.1
        rw [hst] at this
        exact this
       obtain ⟨S',X,rfl,hXn,hSn,hmir⟩:=mir_stack sp.t.prod sp.t.kind sp.t.tx hsm hwn
       have HMI:Hid (∀ ka kc,samL (S'++[TV.mk sp.t.prod sp.t.kind sp.t.tx ka kc X]) ((bldG (G.drop m)).reverse.map mirT)):=by rw [hnd];exact hmir
       have hstl:st.length<=100000000:=by
        have h1:=bld_len (G.drop (m+1))
        rw [List.length_drop,hst] at h1
        have h2:=HGL.out
        have h3:=HL.out
        omega
       have HS:Hid (BvS wb (S'++X) (.slice sa (S'++X).length sc) wr):=hS
       have HFS:Hid (∀ w',Below wr.heap.size wr w'->flS fb m sp w'/\w'.cell? ⟨fb,m*4+3,none⟩=some (.int .i64 (sp.t.kids.length:Int))):=fun w' hb=>by
        have hbl:fb < wr.heap.size:=(HR.out _ hS.bel).lt fb rfl
        exact ⟨⟨(hb.cell (p:=⟨fb,_,none⟩) hbl).trans c0,(hb.cell (p:=⟨fb,_,none⟩) hbl).trans c1,(hb.cell (p:=⟨fb,_,none⟩) hbl).trans c2⟩,(hb.cell (p:=⟨fb,_,none⟩) hbl).trans c3⟩
       obtain ⟨kn,hkn⟩:∃ kn,sp.t.kids.length=kn:=⟨_,rfl⟩
       rw [hkn] at HFS hXn hSn hwn
       obtain ⟨sl,hsl⟩:∃ sl,(S'++X).length=sl:=⟨_,rfl⟩
       obtain ⟨n,hn⟩:∃ n,S'.length=n:=⟨_,rfl⟩
       have HLN2:Hid ((S'++X).length=sl/\S'.length=n/\X.length=kn/\sl=n+kn/\sl<=100000000/\m<=F.length):=⟨hsl,hn,hXn,by rw [<- hsl,List.length_append];omega,by rw [<- hsl,List.length_append];omega,by omega⟩
       have e0:((m+1:Nat):Int) - 1=(m:Int):=by omega
       rw [e0]
       have g1:(m:Int) < (F.length:Int):=by omega
       have o2:IntKind.i64.wrap ((m:Int) - 1)=(m:Int) - 1:=IntWalk.i64_in _ ⟨by omega,by have:=HL.out;omega⟩
       have o3:IntKind.i64.wrap ((sl:Int) - (kn:Int))=(n:Int):=by
        have h:=HLN2.out.2.2.2
        rw [show (sl:Int) - (kn:Int)=(n:Int) by omega]
        exact IntWalk.i64_in _ ⟨by omega,by omega⟩
       rw [hsl] at HS ⊢
       clear hgd hcell hc c0 c1 c2 c3 hnd hwn hS hsm hgl hi hpos e0 hx hXn hSn hmir hstl hst hkn hsl hn hlt
       go_upto_region 27 with fail
       refine wp_region_x (S:=SX 12 (fun _=>True) (flS fb m sp)) (by kernel_rfl) ?_
       refine wpX_worldU (fun w'=>Below wr.heap.size wr w') (Below.refl _ _).drew fun wd hd=>?_
       have HD:Hid (Below wr.heap.size wr wd):=hd
       have FS:Hid (flS fb m sp wd):=(HFS.out _ hd).1
       clear hd
       refine wXt (m:=12) (i:=0) (v:=?_) rfl (by kernel_rfl) (by kernel_rfl) (by decide) (by decide +kernel) (by decide +kernel) (fun _ _ _ h=>h) (by kernel_rfl) (Or.inl ⟨by rfl,?_⟩) (SX.both trivial FS.out) ?_
       rotate_left
       ·(intro wS hSw;have z0:=hSw.2;unfold flS at z0;obtain ⟨z1,z2,z3⟩:=z0;clear hSw;go_simp;try (with_reducible rfl))
       (try simp only [Act.put,List.setIfInBounds_toArray,List.set_cons_zero,List.set_cons_succ])
       refine wXt (m:=12) (i:=1) (v:=?_) rfl (by kernel_rfl) (by kernel_rfl) (by decide) (by decide +kernel) (by decide +kernel) (fun _ _ _ h=>h) (by kernel_rfl) (Or.inl ⟨by rfl,?_⟩) (SX.both trivial FS.out) ?_
       rotate_left
       ·(intro wS hSw;have z0:=hSw.2;unfold flS at z0;obtain ⟨z1,z2,z3⟩:=z0;clear hSw;go_simp;try (with_reducible rfl))
       (try simp only [Act.put,List.setIfInBounds_toArray,List.set_cons_zero,List.set_cons_succ])
       refine wXt (m:=12) (i:=2) (v:=?_) rfl (by kernel_rfl) (by kernel_rfl) (by decide) (by decide +kernel) (by decide +kernel) (fun _ _ _ h=>h) (by kernel_rfl) (Or.inl ⟨by rfl,?_⟩) (SX.both trivial FS.out) ?_
       rotate_left
       ·(intro wS hSw;have z0:=hSw.2;unfold flS at z0;obtain ⟨z1,z2,z3⟩:=z0;clear hSw;go_simp;try (with_reducible rfl))
       (try simp only [Act.put,List.setIfInBounds_toArray,List.set_cons_zero,List.set_cons_succ])
       refine wXt (m:=12) (i:=3) (v:=?_) rfl (by kernel_rfl) (by kernel_rfl) (by decide) (by decide +kernel) (by decide +kernel) (fun _ _ _ h=>h) (by kernel_rfl) (Or.inl ⟨by rfl,?_⟩) (SX.both trivial FS.out) ?_
       rotate_left
       ·(intro wS hSw;have z0:=hSw.2;unfold flS at z0;obtain ⟨z1,z2,z3⟩:=z0;clear hSw;go_simp;try (with_reducible rfl))
       (try simp only [Act.put,List.setIfInBounds_toArray,List.set_cons_zero,List.set_cons_succ])
       refine wXt (m:=12) (i:=4) (v:=?_) rfl (by kernel_rfl) (by kernel_rfl) (by decide) (by decide +kernel) (by decide +kernel) (fun _ _ _ h=>h) (by kernel_rfl) (Or.inl ⟨by rfl,?_⟩) (SX.both trivial FS.out) ?_
       rotate_left
       ·(intro wS hSw;have z0:=hSw.2;unfold flS at z0;obtain ⟨z1,z2,z3⟩:=z0;clear hSw;go_simp;try (with_reducible rfl))
       (try simp only [Act.put,List.setIfInBounds_toArray,List.set_cons_zero,List.set_cons_succ])
       refine wXt (m:=12) (i:=5) (v:=?_) rfl (by kernel_rfl) (by kernel_rfl) (by decide) (by decide +kernel) (by decide +kernel) (fun _ _ _ h=>h) (by kernel_rfl) (Or.inl ⟨by rfl,?_⟩) (SX.both trivial FS.out) ?_
       rotate_left
       ·(intro wS hSw;have z0:=hSw.2;unfold flS at z0;obtain ⟨z1,z2,z3⟩:=z0;clear hSw;go_simp;try (with_reducible rfl))
       (try simp only [Act.put,List.setIfInBounds_toArray,List.set_cons_zero,List.set_cons_succ])
       refine wXt (m:=12) (i:=6) (v:=?_) rfl (by kernel_rfl) (by kernel_rfl) (by decide) (by decide +kernel) (by decide +kernel) (fun _ _ _ h=>h) (by kernel_rfl) (Or.inl ⟨by rfl,?_⟩) (SX.both trivial FS.out) ?_
       rotate_left
       ·(intro wS hSw;have z0:=hSw.2;unfold flS at z0;obtain ⟨z1,z2,z3⟩:=z0;clear hSw;go_simp;try (with_reducible rfl))
       (try simp only [Act.put,List.setIfInBounds_toArray,List.set_cons_zero,List.set_cons_succ])
       refine wXt (m:=12) (i:=7) (v:=?_) rfl (by kernel_rfl) (by kernel_rfl) (by decide) (by decide +kernel) (by decide +kernel) (fun _ _ _ h=>h) (by kernel_rfl) (Or.inl ⟨by rfl,?_⟩) (SX.both trivial FS.out) ?_
       rotate_left
       ·(intro wS hSw;have z0:=hSw.2;unfold flS at z0;obtain ⟨z1,z2,z3⟩:=z0;clear hSw;go_simp;try (with_reducible rfl))
       (try simp only [Act.put,List.setIfInBounds_toArray,List.set_cons_zero,List.set_cons_succ])
       refine wXt (m:=12) (i:=8) (v:=?_) rfl (by kernel_rfl) (by kernel_rfl) (by decide) (by decide +kernel) (by decide +kernel) (fun _ _ _ h=>h) (by kernel_rfl) (Or.inl ⟨by rfl,?_⟩) (SX.both trivial FS.out) ?_
       rotate_left
       ·(intro wS hSw;have z0:=hSw.2;unfold flS at z0;obtain ⟨z1,z2,z3⟩:=z0;clear hSw;go_simp;try (with_reducible rfl))
       (try simp only [Act.put,List.setIfInBounds_toArray,List.set_cons_zero,List.set_cons_succ])
       refine wXt (m:=12) (i:=9) (v:=?_) rfl (by kernel_rfl) (by kernel_rfl) (by decide) (by decide +kernel) (by decide +kernel) (fun _ _ _ h=>h) (by kernel_rfl) (Or.inl ⟨by rfl,?_⟩) (SX.both trivial FS.out) ?_
       rotate_left
       ·(intro wS hSw;have z0:=hSw.2;unfold flS at z0;obtain ⟨z1,z2,z3⟩:=z0;clear hSw;go_simp;try (with_reducible rfl))
       (try simp only [Act.put,List.setIfInBounds_toArray,List.set_cons_zero,List.set_cons_succ])
       refine wXt (m:=12) (i:=10) (v:=?_) rfl (by kernel_rfl) (by kernel_rfl) (by decide) (by decide +kernel) (by decide +kernel) (fun _ _ _ h=>h) (by kernel_rfl) (Or.inl ⟨by rfl,?_⟩) (SX.both trivial FS.out) ?_
       rotate_left
       ·(intro wS hSw;have z0:=hSw.2;unfold flS at z0;obtain ⟨z1,z2,z3⟩:=z0;clear hSw;go_simp;try (with_reducible rfl))
       (try simp only [Act.put,List.setIfInBounds_toArray,List.set_cons_zero,List.set_cons_succ])
       refine wX1 (j:=11) (by decide +kernel) rfl (fun K' hK=>?_)
       go_simp
       refine hK.out _ _ (SX.both trivial (HFS.out _ (HD.out.trans ((bAl _ _).mono HD.out.size))).1) ?_
       clear hK K'
       (try simp only [Act.put,List.setIfInBounds_toArray,List.set_cons_zero,List.set_cons_succ])
       obtain ⟨b5,hb5⟩:∃ b5,wd.heap.size=b5:=⟨_,rfl⟩
       rw [hb5]
       refine wpX_worldU (fun w'=>Below wd.heap.size wd w'/\w'.heap[b5]?=some zTree) ⟨bAl _ _,by rw [<- hb5];exact heap_alloc_new _ _⟩ fun we he=>?_
       have HE:Hid (Below wr.heap.size wr we/\wr.heap.size<=b5):=⟨HD.out.trans (he.1.mono HD.out.size),by have:=HD.out.size;omega⟩
       have BK:Hid (BvK wb b5 sp.t.prod sp.t.kind sp.t.tx (S'++X) [] (.slice sa sl sc) (.slice none 0 0) (set4 we b5 0 (TV.mk sp.t.prod sp.t.kind sp.t.tx none 0 []))):=HS.out.begin (set4_below HE.out.1 0 _ HE.out.2) HE.out.2 (setCs_fourU he.2)
       have BW:Hid (Below wr.heap.size wr (set4 we b5 0 (TV.mk sp.t.prod sp.t.kind sp.t.tx none 0 []))):=set4_below HE.out.1 0 _ HE.out.2
       obtain ⟨d0,d1,d2,d3,f0,f1,f2,f3⟩:=z_cells he.2
       clear he hb5 FS HD
       refine wX1 (j:=12) (by decide +kernel) rfl (fun K' hK=>?_)
       go_simp
       refine hK.out _ _ (SX.one trivial (by kernel_rfl)) ?_
       clear hK K' d0 d1 d2 d3 f0 f1 f2 f3
       (try simp only [Act.put,List.setIfInBounds_toArray,List.set_cons_zero,List.set_cons_succ])
       refine wXd (by decide +kernel) ?_
       change Exit.then _ _ _ _ (set4 we b5 0 (TV.mk sp.t.prod sp.t.kind sp.t.tx none 0 []))
       obtain ⟨wf,hwf⟩:∃ wf,set4 we b5 0 (TV.mk sp.t.prod sp.t.kind sp.t.tx none 0 [])=wf:=⟨_,rfl⟩
       rw [hwf]
       have hf:BvK wb b5 sp.t.prod sp.t.kind sp.t.tx (S'++X) [] (.slice sa sl sc) (.slice none 0 0) wf/\Below wr.heap.size wr wf:=by
        rw [<- hwf]
        exact ⟨BK.out,BW.out⟩
       have B1:Hid (BvK wb b5 sp.t.prod sp.t.kind sp.t.tx (S'++X) [] (.slice sa sl sc) (.slice none 0 0) wf):=hf.1
       have q3:wf.cell? ⟨fb,m*4+3,none⟩=some (.int .i64 (kn:Int)):=(HFS.out _ hf.2).2
       clear hf hwf BK BW HE HFS HS
       generalize sp.t.prod=xp at *
       generalize sp.t.kind=xk at *
       generalize sp.t.tx=xt at *
       go_upto_region 29 with fail
       clear q3 o3 g1
       refine wp_region_x (S:=SX 7 (fun _=>True) (fun w'=>w'.cell? ⟨b5,3,none⟩=some (.slice none 0 0))) (by kernel_rfl) ?_
       refine wpX_worldU (fun w'=>BvK wb b5 xp xk xt (S'++X) [] (.slice sa sl sc) (.slice none 0 0) w') ?_ fun wd hd=>?_
       ·have hbb:Below wf.heap.size wf wf.drew:=(Below.refl _ _).drew
        exact B1.out.later hbb
       have BD:Hid (BvK wb b5 xp xk xt (S'++X) [] (.slice sa sl sc) (.slice none 0 0) wd):=hd
       clear hd B1
       have HPR:Hid (TRo wd (.slice sa n sc) S'/\(∀ w:World,(Instr.slice 24 (.slice sa sl sc) none (some (.int .i64 (n:Int))) none).run Tryz.prog w=.ok (.slice sa n sc) w)):=by
        obtain ⟨a',c',e,hc,h1,h2,h3⟩:=RO.pre (f:=trCells) (k:=4) (fun _=>rfl) BD.out.s
        rw [HLN2.out.1] at e hc
        simp only [Value.slice.injEq,true_and] at e
        obtain ⟨rfl,rfl⟩:=e
        rw [HLN2.out.2.1] at h1
        exact ⟨h1,fun w=>slice_toTr _ _ _ _ (by have:=HLN2.out.2.2.2.1;omega) h2 h3 w⟩
       obtain ⟨ao,cc,hs1,hsr⟩:∃ ao cc,(∀ w:World,(Instr.slice 24 (.slice sa sl sc) (some (.int .i64 (n:Int))) none none).run Tryz.prog w=.ok (.slice ao kn cc) w)/\(X≠[]->∃ b off,ao=some ⟨b,off,none⟩/\∀ j u,(X.flatMap trCells)[j]?=some u->wd.cell? ⟨b,off+j,none⟩=some u):=by
        have h:=BD.out.s
        obtain ⟨e1,e2,e3,-⟩:=HLN2.out
        rw [<- e1] at h
        obtain ⟨ao,cc,q1,q2⟩:=stk_fro h
        rw [e1,e2,e3] at q1
        exact ⟨ao,cc,q1,q2⟩
       have HSR:Hid (X≠[]->∃ b off,ao=some ⟨b,off,none⟩/\∀ j u,(X.flatMap trCells)[j]?=some u->wd.cell? ⟨b,off+j,none⟩=some u):=hsr
       clear hsr
       have IS:Hid (wd.cell? ⟨b5,3,none⟩=some (.slice none 0 0)):=(cQa BD.out.bx).trans rfl
       refine wXt (m:=7) (i:=0) (v:=?_) rfl (by kernel_rfl) (by kernel_rfl) (by decide) (by decide +kernel) (by decide +kernel) (fun _ _ _ h=>h) (by kernel_rfl) (Or.inl ⟨by rfl,?_⟩) (SX.both trivial IS.out) ?_
       rotate_left
       ·(intro wS hSw;have z1:=hSw.2;clear hSw;go_simp;try (with_reducible rfl))
       (try simp only [Act.put,List.setIfInBounds_toArray,List.set_cons_zero,List.set_cons_succ])
       refine wXt (m:=7) (i:=1) (v:=?_) rfl (by kernel_rfl) (by kernel_rfl) (by decide) (by decide +kernel) (by decide +kernel) (fun _ _ _ h=>h) (by kernel_rfl) (Or.inl ⟨by rfl,?_⟩) (SX.both trivial IS.out) ?_
       rotate_left
       ·(intro wS hSw;have z1:=hSw.2;clear hSw;go_simp;try (with_reducible rfl))
       (try simp only [Act.put,List.setIfInBounds_toArray,List.set_cons_zero,List.set_cons_succ])
       refine wXt (m:=7) (i:=2) (v:=?_) rfl (by kernel_rfl) (by kernel_rfl) (by decide) (by decide +kernel) (by decide +kernel) (fun _ _ _ h=>h) (by kernel_rfl) (Or.inl ⟨by rfl,?_⟩) (SX.both trivial IS.out) ?_
       rotate_left
       ·(intro wS hSw;have z1:=hSw.2;clear hSw;go_simp;try (with_reducible rfl))
       (try simp only [Act.put,List.setIfInBounds_toArray,List.set_cons_zero,List.set_cons_succ])
       refine wXt (m:=7) (i:=3) (v:=?_) rfl (by kernel_rfl) (by kernel_rfl) (by decide) (by decide +kernel) (by decide +kernel) (fun _ _ _ h=>h) (by kernel_rfl) (Or.inl ⟨by rfl,?_⟩) (SX.both trivial IS.out) ?_
       rotate_left
       ·(intro wS hSw;have z1:=hSw.2;clear hSw;go_simp;try (with_reducible rfl))
       (try simp only [Act.put,List.setIfInBounds_toArray,List.set_cons_zero,List.set_cons_succ])
       refine wXt (m:=7) (i:=4) (v:=?_) rfl (by kernel_rfl) (by kernel_rfl) (by decide) (by decide +kernel) (by decide +kernel) (fun _ _ _ h=>h) (by kernel_rfl) (Or.inl ⟨by rfl,?_⟩) (SX.both trivial IS.out) ?_
       rotate_left
       ·(intro wS hSw;have z1:=hSw.2;clear hSw;go_simp;try (with_reducible rfl))
       (try simp only [Act.put,List.setIfInBounds_toArray,List.set_cons_zero,List.set_cons_succ])
       refine wX1 (j:=5) (by decide +kernel) rfl (fun K' hK=>?_)
       refine step_ro_catV rkTree rfl _ _ rfl (.slice none 0 0) [] rfl (RO.nil _) ao cc kn X HLN2.out.2.2.1 rfl HSR.out (by have:=HLN2.out;simp;omega) ?_
       intro a4 n4 c4 w4 ho4 hg4
       have ho4':TRo w4 (.slice a4 n4 c4) X:=ho4
       have hn4:n4=kn:=by
        obtain ⟨a',c',e,_⟩:=RO.len ho4'
        simp only [Value.slice.injEq] at e
        rw [e.2.1]
        exact HLN2.out.2.2.1
       subst hn4
       have B5:Hid (w4.heap[b5]?=some (.cells #[.int .i64 xp,.int .i64 xk,.string xt,.slice none 0 0] 26)):=(hg4.grown.block _ (lt_of_block BD.out.bx) (fun e=>by simp [Value.ownBlock] at e)).trans BD.out.bx
       have I4:Hid (w4.cell? ⟨b5,3,none⟩=some (.slice none 0 0)):=(cQa B5.out).trans rfl
       have TKK:Hid (BvK wb b5 xp xk xt S' X (.slice sa n sc) (.slice a4 n4 c4) (w4.setCell ⟨b5,3,none⟩ (.slice a4 n4 c4))):=BD.out.take (K:=[]) (vt:=.slice sa n sc) (by cases sa<;>rfl) HPR.out.1 (Below.refl _ _) hg4 ho4
       have hs2:=HPR.out.2
       refine hK.out _ _ (SX.both trivial I4.out) ?_
       clear hK K' ho4 ho4' hg4 HSR IS HPR
       (try simp only [Act.put,List.setIfInBounds_toArray,List.set_cons_zero,List.set_cons_succ])
       refine wXt (m:=7) (i:=6) (v:=?_) rfl (by kernel_rfl) (by kernel_rfl) (by decide) (by decide +kernel) (by decide +kernel) (fun _ _ _ h=>h) (by kernel_rfl) (Or.inl ⟨by rfl,?_⟩) (SX.both trivial I4.out) ?_
       rotate_left
       ·(intro wS hSw;have z1:=hSw.2;clear hSw;go_simp;try (with_reducible rfl))
       (try simp only [Act.put,List.setIfInBounds_toArray,List.set_cons_zero,List.set_cons_succ])
       have d3:=(cQa (i:=3) B5.out).trans rfl
       have f3:w4.frozen? ⟨b5,3,none⟩=false:=by simp [World.frozen?,B5.out]
       refine wX1 (j:=7) (by decide +kernel) rfl (fun K' hK=>?_)
       go_simp
       refine hK.out _ _ (SX.one trivial (by kernel_rfl)) ?_
       clear hK K' d3 f3
       (try simp only [Act.put,List.setIfInBounds_toArray,List.set_cons_zero,List.set_cons_succ])
       refine wXd (by decide +kernel) ?_
       change Exit.then _ _ _ _ (w4.setCell ⟨b5,3,none⟩ (.slice a4 n4 c4))
       obtain ⟨wg,hwg⟩:∃ wg,w4.setCell ⟨b5,3,none⟩ (.slice a4 n4 c4)=wg:=⟨_,rfl⟩
       rw [hwg]
       have TG:Hid (BvK wb b5 xp xk xt S' X (.slice sa n sc) (.slice a4 n4 c4) wg):=by
        rw [<- hwg]
        exact TKK.out
       clear hwg TKK I4 B5 BD hs1
       go_upto_region 30 with fail
       refine wp_region_x (S:=fun _=>fun w'=>w'.heap[b5]?=some (.cells #[.int .i64 xp,.int .i64 xk,.string xt,.slice a4 n4 c4] 26)) (by kernel_rfl) ?_
       refine wpX_worldU (fun w'=>BvK wb b5 xp xk xt S' X (.slice sa n sc) (.slice a4 n4 c4) w') (TG.out.later (Below.refl _ _).drew) fun wh hh=>?_
       have BH:Hid (BvK wb b5 xp xk xt S' X (.slice sa n sc) (.slice a4 n4 c4) wh):=hh
       clear hh TG
       refine wpAnyX_takeSV (i:=0) (v:=?_) rfl (by kernel_rfl) (by decide +kernel) (by decide +kernel) (fun _ _ _ h=>h) (Or.inl ⟨by rfl,?_⟩) (BH.out.bx) ?_
       rotate_left
       ·(intro wS hSw;have z0:=(cQa (i:=0) hSw).trans rfl;have z1:=(cQa (i:=1) hSw).trans rfl;have z2:=(cQa (i:=2) hSw).trans rfl;have z3:=(cQa (i:=3) hSw).trans rfl;clear hSw;go_simp;try (with_reducible rfl))
       (try simp only [Act.put,List.setIfInBounds_toArray,List.set_cons_zero,List.set_cons_succ])
       refine wpAnyX_takeSV (i:=1) (v:=?_) rfl (by kernel_rfl) (by decide +kernel) (by decide +kernel) (fun _ _ _ h=>h) (Or.inl ⟨by rfl,?_⟩) (BH.out.bx) ?_
       rotate_left
       ·(intro wS hSw;have z0:=(cQa (i:=0) hSw).trans rfl;have z1:=(cQa (i:=1) hSw).trans rfl;have z2:=(cQa (i:=2) hSw).trans rfl;have z3:=(cQa (i:=3) hSw).trans rfl;clear hSw;go_simp;try (with_reducible rfl))
       (try simp only [Act.put,List.setIfInBounds_toArray,List.set_cons_zero,List.set_cons_succ])
       refine wpAnyX_takeSV (i:=2) (v:=?_) rfl (by kernel_rfl) (by decide +kernel) (by decide +kernel) (fun _ _ _ h=>h) (Or.inl ⟨by rfl,?_⟩) (BH.out.bx) ?_
       rotate_left
       ·(intro wS hSw;have z0:=(cQa (i:=0) hSw).trans rfl;have z1:=(cQa (i:=1) hSw).trans rfl;have z2:=(cQa (i:=2) hSw).trans rfl;have z3:=(cQa (i:=3) hSw).trans rfl;clear hSw;go_simp;try (with_reducible rfl))
       (try simp only [Act.put,List.setIfInBounds_toArray,List.set_cons_zero,List.set_cons_succ])
       refine wpAnyX_takeSV (i:=3) (v:=?_) rfl (by kernel_rfl) (by decide +kernel) (by decide +kernel) (fun _ _ _ h=>h) (Or.inl ⟨by rfl,?_⟩) (BH.out.bx) ?_
       rotate_left
       ·(intro wS hSw;have z0:=(cQa (i:=0) hSw).trans rfl;have z1:=(cQa (i:=1) hSw).trans rfl;have z2:=(cQa (i:=2) hSw).trans rfl;have z3:=(cQa (i:=3) hSw).trans rfl;clear hSw;go_simp;try (with_reducible rfl))
       (try simp only [Act.put,List.setIfInBounds_toArray,List.set_cons_zero,List.set_cons_succ])
       refine wX1 (j:=4) (by decide +kernel) rfl (fun K' hK=>?_)
       go_simp
       have BA:Hid (Below wh.heap.size wh (wh.alloc (tBox (TV.mk xp xk xt a4 c4 X)))/\(wh.alloc (tBox (TV.mk xp xk xt a4 c4 X))).heap[wh.heap.size]?=some (tBox (TV.mk xp xk xt a4 c4 X))):=⟨bAl _ _,heap_alloc_new _ _⟩
       have etb:tBox (TV.mk xp xk xt a4 c4 X)=.cells #[.int .i64 xp,.int .i64 xk,.string xt,.slice a4 n4 c4] 26:=by
        show Obj.cells #[.int .i64 xp,.int .i64 xk,.string xt,.slice a4 X.length c4] 26=_
        rw [HLN2.out.2.2.1]
       rw [<- etb]
       refine hK.out _ _ ?_ ?_
       ·rw [etb]
        exact ((bAl wh _).block _ (lt_of_block BH.out.bx)).trans BH.out.bx
       clear hK K'
       have NC:Hid (∀ i u,(trCells (TV.mk xp xk xt a4 c4 X))[i]?=some u->(wh.alloc (tBox (TV.mk xp xk xt a4 c4 X))).cell? ⟨wh.heap.size,i,none⟩=some u):=fun i u hu=>by
        rw [cQa BA.out.2,<- hu]
        simp [trCells]
       have HX5:Hid ((wh.alloc (tBox (TV.mk xp xk xt a4 c4 X))).heap[b5]?=some (.cells #[.int .i64 xp,.int .i64 xk,.string xt,.slice a4 n4 c4] 26)):=(BA.out.1.block _ (lt_of_block BH.out.bx)).trans BH.out.bx
       have HSX:Hid (TRo (wh.alloc (tBox (TV.mk xp xk xt a4 c4 X))) (.slice sa n sc) S'):=BH.out.s.later BA.out.1
       (try simp only [Act.put,List.setIfInBounds_toArray,List.set_cons_zero,List.set_cons_succ])
       refine wX1 (j:=5) (by decide +kernel) rfl (fun K' hK=>?_)
       refine step_ro_append rkTree (by rfl) _ _ (by rfl) (.slice sa n sc) S' (by rfl) HSX.out wh.heap.size 1 (TV.mk xp xk xt a4 c4 X) (by rfl) NC.out (by have:=HLN2.out;omega) ?_
       intro a5 n5 c5 w5 ho5 hg5
       have W5:Hid (BvS wb (S'++[TV.mk xp xk xt a4 c4 X]) (.slice a5 n5 c5) w5/\w5.heap[b5]?=some (.cells #[.int .i64 xp,.int .i64 xk,.string xt,.slice a4 n4 c4] 26)):=by
        have hb:=BH.out
        have e5:(Value.slice sa n sc).ownBlock≠some b5:=fun e=>(hb.so _ e).2 rfl
        refine ⟨?_,(hg5.grown.block _ (lt_of_block HX5.out) (fun e=>e5 e.symm)).trans HX5.out⟩
        have hk:n4=X.length:=HLN2.out.2.2.1.symm
        rw [hk] at hb
        exact hb.fold BA.out.1 hg5 ho5
       refine hK.out _ _ W5.out.2 ?_
       clear hK K' ho5 hg5 NC HX5 HSX BA BH etb
       (try simp only [Act.put,List.setIfInBounds_toArray,List.set_cons_zero,List.set_cons_succ])
       refine wX1 (j:=6) (by decide +kernel) rfl (fun K' hK=>?_)
       go_simp
       refine hK.out _ _ W5.out.2 ?_
       clear hK K'
       (try simp only [Act.put,List.setIfInBounds_toArray,List.set_cons_zero,List.set_cons_succ])
       refine wXd (by decide +kernel) ?_
       go_wp2
       go_roundw
       case rel=>exact ⟨m,S'++[TV.mk xp xk xt a4 c4 X],HLN2.out.2.2.2.2.2,by go_num,W5.out.1,HMI.out _ _⟩
       case measure=>simp [intOf]
  ·obtain ⟨zp,hzp⟩:∃ z,(l.length:Int) - 1 - (x.u:Int)=z:=⟨_,rfl⟩
   obtain ⟨zq,hzq⟩:∃ z,(L.length:Int) - 1 - (x.r:Int)=z:=⟨_,rfl⟩
   rw [hzp,hzq]
   have HZP:Hid ((l.length:Int) - 1 - (x.u:Int)=zp):=hzp
   have HZQ:Hid ((L.length:Int) - 1 - (x.r:Int)=zq):=hzq
   clear hzp hzq
   have hwf:wU_ x.A=false:=by simpa using hw
   obtain ⟨T,hNT⟩:=lf_next hP hwf
   obtain ⟨m',rfl⟩:=hD.pos hP.ok
   obtain ⟨s1,s2,hs⟩:∃ s1 s2,nextU g.rev l.reverse x.A=(s1,s2):=⟨_,_,rfl⟩
   rw [hs] at hNT
   subst hNT
   rw [List.reverse_cons] at hT
   obtain ⟨nb,nc,rfl,hnc,hcell,hpop⟩:=RO.pop (f:=syC) (fun _=>rfl) hT.s
   obtain ⟨fa,fc,rfl,_⟩:=RO.len hT.o
   have q0:=hcell 0 (by omega)
   have q1:=hcell 1 (by omega)
   simp only [syC,List.getElem?_cons_zero,List.getElem?_cons_succ,Nat.add_zero] at q0 q1
   have TT:Hid (TwD w1 F T.reverse (.slice fa F.length fc) (.slice (some ⟨nb,0,none⟩) T.reverse.length nc) wr):=⟨hT.o,hpop,hT.oo,fun j hj=>hT.so j (by rw [<- hj];rfl),fun j hj hj2=>hT.ne j hj (by rw [<- hj2];rfl),hT.bel⟩
   have HP:Hid (LfP g.rev l.reverse L.reverse x ((s1,s2) :: T) F/\DrR g.rev l.reverse L.reverse (m'+1) x/\wU_ x.A=false/\nextU g.rev l.reverse x.A=(s1,s2)/\T.length+1<=1+x.u*1048576/\l.length+L.length < gk+(x.u+x.r)):=⟨hP,hD,hwf,hs,by simpa using hN,hg⟩
   have hlm:T.length<=2000000000000:=by
    have h1:=HP.out.2.2.2.2.1
    have h2:x.u*1048576<=1048576*1048576:=Nat.mul_le_mul_right _ (by have:=HZ.out.1;omega)
    omega
   have hrl1:T.reverse.length=T.length:=List.length_reverse
   rw [hrl1] at q0 q1 TT hnc
   have hsl:∀ w',(Instr.slice 100 (.slice (some ⟨nb,0,none⟩) (T.length+1) nc) none (some (.int .i64 (T.length:Int))) none).run Tryz.prog w'=.ok (.slice (some ⟨nb,0,none⟩) T.length nc) w':=fun w'=>slice_symB nb nc _ _ (by omega) w'
   have o1:IntKind.i64.wrap (((T.length+1:Nat):Int) - 1)=(T.length:Int):=by
    rw [show (((T.length+1:Nat):Int) - 1)=(T.length:Int) by omega]
    exact IntWalk.i64_in _ ⟨by omega,by omega⟩
   have o2:IntKind.i64.wrap ((T.length:Int)+1 - 1)=(T.length:Int):=by
    rw [show ((T.length:Int)+1 - 1)=(T.length:Int) by omega]
    exact IntWalk.i64_in _ ⟨by omega,by omega⟩
   have o3:IntKind.i64.wrap (T.length:Int)=(T.length:Int):=IntWalk.i64_in _ ⟨by omega,by omega⟩
   have g3:(T.length:Int) < (T.length:Int)+1:=by omega
   rw [hrl1]
   clear hrl1 hT hP hD hN hg hw hwf hs hcell hpop hnc
   obtain ⟨tm,htm⟩:∃ tm,T.length=tm:=⟨_,rfl⟩
   have HTM:Hid (T.length=tm/\tm<=2000000000000):=⟨htm,by omega⟩
   rw [htm] at q0 q1 TT hsl o1 o2 o3 g3 ⊢
   clear htm hlm
   obtain ⟨fl,hfl⟩:∃ fl,F.length=fl:=⟨_,rfl⟩
   have HFL:Hid (F.length=fl/\fl=x.u+x.r):=⟨hfl,by omega⟩
   rw [hfl] at TT ⊢
   have HUL:Hid (x.u<=l.length/\x.r<=L.length):=⟨hul,hrl⟩
   clear hfl hFl hul hrl
   go_upto_region 9 with fail
   have B15:Hid (TwD w1 F T.reverse (.slice fa fl fc) (.slice (some ⟨nb,0,none⟩) tm nc) (wr.alloc (symBox (s1,s2)))/\(wr.alloc (symBox (s1,s2))).heap[wr.heap.size]?=some (symBox (s1,s2))):=⟨TT.out.any (bAl _ _),heap_alloc_new _ _⟩
   refine wp_world (fun w'=>TwD w1 F T.reverse (.slice fa fl fc) (.slice (some ⟨nb,0,none⟩) tm nc) w'/\w'.heap[wr.heap.size]?=some (symBox (s1,s2))) B15.out fun w5 h5=>?_
   have H5:Hid (TwD w1 F T.reverse (.slice fa fl fc) (.slice (some ⟨nb,0,none⟩) tm nc) w5/\w5.heap[wr.heap.size]?=some (symBox (s1,s2))):=h5
   have p0:w5.cell? ⟨wr.heap.size,0,none⟩=some (.int .i64 s1):=(cQa h5.2).trans rfl
   have p1:w5.cell? ⟨wr.heap.size,1,none⟩=some (.int .i64 s2):=(cQa h5.2).trans rfl
   clear h5 B15 TT q0 q1
   generalize wr.heap.size=b15 at *
   go_upto_region 10 with fail
   clear hsl o1 o2 o3 g3
   by_cases h1:s1=1
   ·subst h1
    have t1:((1:Int) == 1)=true:=by decide
    by_cases hr:x.r < L.length
    ·obtain ⟨m,rfl⟩:∃ m:Nat,zq=(m:Int):=⟨L.length - 1 - x.r,by have:=HZQ.out;omega⟩
     have hme:L.length - 1 - x.r=m:=by have:=HZQ.out;omega
     have hmL:m < L.length:=by omega
     obtain ⟨k,tx,hkt⟩:∃ k tx,L.getD m (0,ByteArray.empty)=(k,tx):=⟨_,_,rfl⟩
     have hkr:L.reverse.getD x.r (0,ByteArray.empty)=(k,tx):=by rw [rev_getD L _ hr,hme];exact hkt
     obtain ⟨tb,tf,hta,-,hc⟩:=(RD.out _ H5.out.1.bel).2.2.2 (by intro e;rw [e] at hr;simp at hr)
     obtain ⟨y0,y1⟩:=hc m hmL
     rw [hkt] at y0 y1
     dsimp only at y0 y1
     subst hta
     clear hc
     have N5:Hid (∀ n,Below w5.heap.size w5 (w5.drewN n)):=fun n=>bDn (Below.refl _ _) n
     have t3:decide ((m:Int) < 0)=false:=by simp
     have g5:(m:Int) < (L.length:Int):=by omega
     by_cases hk:k=s2
     ·subst hk
      have t2:(k != k)=false:=by simp
      obtain ⟨hst,hP'⟩:=lf_word (T:=T) OK.out (rev_in HI.out) HP.out.1 HP.out.2.2.1 (by rw [HP.out.2.2.2.1]) (by rw [List.length_reverse];exact hr) (by rw [hkr,HP.out.2.2.2.1]) (by rw [HP.out.2.2.2.1])
      have hD':=HP.out.2.1.step (rev_in HI.out) HP.out.1.ok HP.out.2.2.1 hst
      rw [hkr] at hP'
      have NX:Hid (∃ y:DvU,y.u=x.u/\y.r=x.r+1/\LfP g.rev l.reverse L.reverse y T (F++[spW (k,tx)])/\DrR g.rev l.reverse L.reverse m' y):=⟨⟨x.u,x.r+1,_⟩,rfl,rfl,hP',hD'⟩
      have HRL:Hid (x.r < L.length):=hr
      clear hst hP' hD' hkt hkr hr hme
      go_upto_region 11 with fail
      go_quiet (fail)
      obtain ⟨wd,hwd⟩:∃ wd:World,wd=w5.drewN nq:=⟨_,rfl⟩
      have H6:Hid (TwD w1 F T.reverse (.slice fa fl fc) (.slice (some ⟨nb,0,none⟩) tm nc) wd):=by rw [hwd];exact H5.out.1.any (N5.out nq)
      obtain ⟨ya,yb⟩:wd.cell? ⟨tb,tf+m*2,none⟩=some (.int .i64 k)/\wd.cell? ⟨tb,tf+m*2+1,none⟩=some (.string tx):=by rw [hwd];simpa using ⟨y0,y1⟩
      rw [<- hwd]
      clear hwd y0 y1 p0 p1 H5 t1 t2 t3
      have NC:Hid (∀ j u,(flCells (spW (k,tx)))[j]?=some u->(wd.alloc (.cells #[.int .i64 (-1),.int .i64 k,.string tx,.int .i64 0] 128)).cell? ⟨wd.heap.size,j,none⟩=some u):=fl_word (heap_alloc_new wd _)
      have LN:Hid (F.length<=1000000000):=by have h1:=HFL.out;have h2:=HUL.out;have h3:=HZ.out;show _<=_;omega
      have o4:IntKind.i64.wrap ((m:Int) - 1)=(m:Int) - 1:=IntWalk.i64_in _ ⟨by omega,by have h3:=HZ.out;omega⟩
      have H6o:Hid (RO 128 4 flCells (wd.alloc (.cells #[.int .i64 (-1),.int .i64 k,.string tx,.int .i64 0] 128)) (.slice fa fl fc) F):=H6.out.o.later (bAl _ _)
      go_wp2_with (at_builtin;refine wpList_ro_append rkFlat rfl _ _ rfl (.slice fa fl fc) F rfl H6o.out wd.heap.size 1 (spW (k,tx)) rfl NC.out LN.out ?_;intro a9 n9 c9 w9 ho9 hg9;have T9:Hid (TwD w1 (F++[spW (k,tx)]) T.reverse (.slice a9 n9 c9) (.slice (some ⟨nb,0,none⟩) tm nc) w9):=H6.out.out (bAl _ _) hg9 ho9;clear ho9 hg9 ya yb)
      obtain ⟨y,yu,yr,hy,hdy⟩:=NX.out
      go_roundg (gk - 1)
      case measure=>have h1:=HP.out.2.2.2.2.2;have h2:=HUL.out;have h3:=HRL.out;omega
      case rel =>
       have h1:=HP.out.2.2.2.2
       have h2:=HUL.out
       have h3:=HRL.out
       have h4:=HZP.out
       have h5:=HZQ.out
       exact ⟨y,T,F++[spW (k,tx)],m',by rw [yu,h4],by rw [yr,show (L.length:Int) - 1 - ((x.r+1:Nat):Int)=(m:Int) - 1 by omega],T9.out,hy,hdy,by rw [yu];omega,by rw [yu,yr];omega⟩
     ·have t2:(k != s2)=true:=by simpa using hk
      have RES:Hid (u.1=none/\u.2.1=81/\u.2.2=0):=by
       have hst:stepU g.rev l.reverse L.reverse x=.inl (82,(x.r:Int)):=by
        unfold stepU
        rw [HP.out.2.2.2.1]
        dsimp only
        rw [if_pos rfl,if_neg (by rw [List.length_reverse];omega),hkr]
        exact if_neg hk
       have hres:=mirU_none (HP.out.2.1.fault HP.out.2.2.1 hst)
       rw [HU2.out] at hres
       show _/\_/\_
       rw [hres]
       exact ⟨rfl,rfl,rfl⟩
      clear hk hkr hme
      go_upto_region 11 with fail
      go_quiet (fail)
      obtain ⟨wd,hwd⟩:∃ wd:World,wd=w5.drewN nq:=⟨_,rfl⟩
      have H6:Hid (Below w1.heap.size w1 wd):=by rw [hwd];exact H5.out.1.bel.trans ((N5.out nq).mono H5.out.1.bel.size)
      rw [<- hwd]
      obtain ⟨z1,z2,z3⟩:=NO.out wd H6.out
      clear hwd y0 y1 p0 p1 H5 t1 t2 t3 g5 N5 hkt hmL
      have F3:Hid (TBx (set4 wd (w.heap.size+1) 0 .none) (w.heap.size+1) 0 .none/\Below w.heap.size w (set4 wd (w.heap.size+1) 0 .none)):=⟨z2,z3⟩
      obtain ⟨d0,d1,d2,d3,f0,f1,f2,f3⟩:=z_cells z1
      clear z1 z2 z3 HI HU2 RP RL RG RS HNE HZ OK FN NO RD X0 BB HP HTM HFL HUL HZP HZQ HLN
      go_wp2
      change bodyPost _ _ _ _ _ (set4 wd (w.heap.size+1) 0 .none)
      generalize set4 wd (w.heap.size+1) 0 .none=w4 at *
      have y0:=F3.out.1.c0
      have y1:=F3.out.1.c1
      have y2:=F3.out.1.c2
      have y3:=F3.out.1.c3
      simp only [Nat.zero_add] at y1 y2 y3
      refine bodyPost_ret (v:=.tuple #[TV.none.val,.int .i64 81,.int .i64 0]) (by simp [results,Tryz.results32,go_sem,y0,y1,y2,y3]) rfl ?_
      obtain ⟨TT',q1,q2,q3⟩:=UU.out u w4 RES.out.1
      rw [RES.out.2.1,RES.out.2.2] at q3
      exact ⟨TT',q1,q2,by rw [q3],F3.out.2⟩
    ·have N5:Hid (∀ n,Below w5.heap.size w5 (w5.drewN n)):=fun n=>bDn (Below.refl _ _) n
     obtain rfl:zq=-1:=by have:=HZQ.out;have:=HUL.out;omega
     have t3:decide ((-1:Int) < 0)=true:=by decide
     have RES:Hid (u.1=none/\u.2.1=81/\u.2.2=0):=by
      have hst:stepU g.rev l.reverse L.reverse x=.inl (82,(x.r:Int)):=by
       unfold stepU
       rw [HP.out.2.2.2.1]
       dsimp only
       rw [if_pos rfl,if_pos (by rw [List.length_reverse];have:=HUL.out;omega)]
      have hres:=mirU_none (HP.out.2.1.fault HP.out.2.2.1 hst)
      rw [HU2.out] at hres
      show _/\_/\_
      rw [hres]
      exact ⟨rfl,rfl,rfl⟩
     clear hr
     go_upto_region 11 with fail
     go_quiet (fail)
     obtain ⟨wd,hwd⟩:∃ wd:World,wd=w5.drewN nq:=⟨_,rfl⟩
     have H6:Hid (Below w1.heap.size w1 wd):=by rw [hwd];exact H5.out.1.bel.trans ((N5.out nq).mono H5.out.1.bel.size)
     rw [<- hwd]
     obtain ⟨z1,z2,z3⟩:=NO.out wd H6.out
     clear hwd p0 p1 H5 t1 t3 N5
     have F3:Hid (TBx (set4 wd (w.heap.size+1) 0 .none) (w.heap.size+1) 0 .none/\Below w.heap.size w (set4 wd (w.heap.size+1) 0 .none)):=⟨z2,z3⟩
     obtain ⟨d0,d1,d2,d3,f0,f1,f2,f3⟩:=z_cells z1
     clear z1 z2 z3 HI HU2 RP RL RG RS HNE HZ OK FN NO RD X0 BB HP HTM HFL HUL HZP HZQ HLN
     go_wp2
     change bodyPost _ _ _ _ _ (set4 wd (w.heap.size+1) 0 .none)
     generalize set4 wd (w.heap.size+1) 0 .none=w4 at *
     have y0:=F3.out.1.c0
     have y1:=F3.out.1.c1
     have y2:=F3.out.1.c2
     have y3:=F3.out.1.c3
     simp only [Nat.zero_add] at y1 y2 y3
     refine bodyPost_ret (v:=.tuple #[TV.none.val,.int .i64 81,.int .i64 0]) (by simp [results,Tryz.results32,go_sem,y0,y1,y2,y3]) rfl ?_
     obtain ⟨TT',q1,q2,q3⟩:=UU.out u w4 RES.out.1
     rw [RES.out.2.1,RES.out.2.2] at q3
     exact ⟨TT',q1,q2,by rw [q3],F3.out.2⟩
   ·have t1:(s1 == 1)=false:=by simpa using h1
    have N5:Hid (∀ n,Below w5.heap.size w5 (w5.drewN n)):=fun n=>bDn (Below.refl _ _) n
    by_cases hu:x.u < l.length
    ·obtain ⟨m,rfl⟩:∃ m:Nat,zp=(m:Int):=⟨l.length - 1 - x.u,by have:=HZP.out;omega⟩
     have hme:l.length - 1 - x.u=m:=by have:=HZP.out;omega
     have hml:m < l.length:=by omega
     obtain ⟨n,hn⟩:∃ n:Nat,l.getD m 0=(n:Int):=⟨(l.getD m 0).toNat,by have:=(HI.out (l.getD m 0) (by simp [List.getD,hml])).1;omega⟩
     have hnr:l.reverse.getD x.u 0=(n:Int):=by rw [rev_getD l _ hu,hme];exact hn
     have hnl:n < g.ps.length:=by have:=(HI.out (l.getD m 0) (by simp [List.getD,hml])).2;omega
     obtain ⟨pv,hpv⟩:∃ pv,g.ps.getD n .none=pv:=⟨_,rfl⟩
     have R0:Hid (∀ w',Below w1.heap.size w1 w'->w'.cell? ⟨w.heap.size,3,none⟩=some (.slice (some ⟨pb,po,none⟩) g.ps.length g.pc)/\w'.cell? ⟨lb,lo+m,none⟩=some (.int .i64 (n:Int))/\w'.cell? ⟨pb,po+n*3,none⟩=some (.int .i64 pv.left)/\w'.cell? ⟨pb,po+n*3+1,none⟩=some (.slice pv.ra pv.right.length pv.rc)/\w'.cell? ⟨pb,po+n*3+2,none⟩=some (.int .i64 pv.prec)/\SymRow w' pv.ra pv.right):=fun w' hbb=>by
      obtain ⟨q0,q1,q2⟩:=RP.out w' hbb n hnl
      have q3:=RS.out w' hbb n hnl
      rw [hpv] at q0 q1 q2 q3
      exact ⟨RG.out w' hbb,by have:=RL.out w' hbb m hml;rwa [hn] at this,q0,q1,q2,q3⟩
     have RGP:Hid (rgP g.rev (n:Int)=pv.right.reverse/\lfP g.rev (n:Int)=pv.left/\rgP g (n:Int)=pv.right):=by
      have e:rgP g (n:Int)=pv.right:=by
       show (g.ps.getD (n:Int).toNat .none).right=_
       rw [Int.toNat_natCast,hpv]
      refine ⟨?_,?_,e⟩
      ·rw [rgP_rev,e]
      ·rw [lfP_rev]
       show (g.ps.getD (n:Int).toNat .none).left=_
       rw [Int.toNat_natCast,hpv]
     have g1:(n:Int) < (g.ps.length:Int):=by omega
     have g2:(m:Int) < (l.length:Int):=by omega
     have t3:decide ((m:Int) < 0)=false:=by simp
     clear hpv hn
     obtain ⟨z4,z5,z6,-⟩:=R0.out w5 H5.out.1.bel
     by_cases hk:pv.left=s2
     ·subst hk
      have t2:(pv.left != pv.left)=false:=by simp
      obtain ⟨hst,hP'⟩:=lf_prod (T:=T) OK.out (rev_in HI.out) HP.out.1 HP.out.2.2.1 (by rw [HP.out.2.2.2.1];exact h1) (by rw [List.length_reverse];exact hu) (by rw [hnr,RGP.out.2.1,HP.out.2.2.2.1]) (by rw [HP.out.2.2.2.1])
      have hD':=HP.out.2.1.step (rev_in HI.out) HP.out.1.ok HP.out.2.2.1 hst
      rw [hnr] at hP' hD'
      rw [RGP.out.1] at hP'
      have esp:sgV (spP g.rev (n:Int)).t=sgV (spP g (n:Int)).t:=by
       rw [spP_sg,spP_sg,RGP.out.1,RGP.out.2.2,List.length_reverse]
      have NX:Hid (∃ y:DvU,y.u=x.u+1/\y.r=x.r/\LfP g.rev l.reverse L.reverse y (pv.right.reverse++T) (F++[spP g (n:Int)])/\DrR g.rev l.reverse L.reverse m' y):=⟨⟨x.u+1,x.r,_⟩,rfl,rfl,⟨hP'.ok,hP'.ind,hP'.np,by rw [<- hP'.fl];simp [esp],by rw [<- hP'.ln];simp⟩,hD'⟩
      have HRL:Hid (pv.right.length<=1048576):=by have:=HZ.out.2.2 (n:Int);rw [RGP.out.2.2] at this;exact this
      have HUU:Hid (x.u < l.length):=hu
      clear hst hP' hD' hnl h1 hnr hme hu esp
      go_upto_region 15 with fail
      go_quiet (fail)
      obtain ⟨wz,hwz⟩:∃ wz:World,wz=w5.drewN nq:=⟨_,rfl⟩
      have H6:Hid (TwD w1 F T.reverse (.slice fa fl fc) (.slice (some ⟨nb,0,none⟩) tm nc) wz):=by rw [hwz];exact H5.out.1.any (N5.out nq)
      rw [<- hwz]
      clear hwz p0 p1 H5 t1 t3 z4 z5 z6 N5
      go_upto_region 17 with fail
      clear t2
      obtain ⟨wd,hwd⟩:∃ wd:World,wd=wz.drew:=⟨_,rfl⟩
      have H6:Hid (TwD w1 F T.reverse (.slice fa fl fc) (.slice (some ⟨nb,0,none⟩) tm nc) wd):=by rw [hwd];exact H6.out.any (Below.refl _ _).drew
      refine wp_region_x (S:=fun _=>fun w'=>Below w1.heap.size w1 w') (by kernel_rfl) ?_
      rw [<- hwd]
      clear hwd
      refine wpAnyX_takeSV (i:=0) (v:=?_) rfl (by kernel_rfl) (by decide +kernel) (by decide +kernel) (fun _ _ _ h=>h) (Or.inl ⟨by rfl,?_⟩) (H6.out.bel) ?_
      rotate_left
      ·(intro wq hSw;obtain ⟨z0,z1,z2,z3,z4,-⟩:=R0.out wq hSw;clear hSw;go_simp;try (with_reducible rfl))
      (try simp only [Act.put,List.setIfInBounds_toArray,List.set_cons_zero,List.set_cons_succ])
      refine wpAnyX_takeSV (i:=1) (v:=?_) rfl (by kernel_rfl) (by decide +kernel) (by decide +kernel) (fun _ _ _ h=>h) (Or.inl ⟨by rfl,?_⟩) (H6.out.bel) ?_
      rotate_left
      ·(intro wq hSw;obtain ⟨z0,z1,z2,z3,z4,-⟩:=R0.out wq hSw;clear hSw;go_simp;try (with_reducible rfl))
      (try simp only [Act.put,List.setIfInBounds_toArray,List.set_cons_zero,List.set_cons_succ])
      refine wpAnyX_takeSV (i:=2) (v:=?_) rfl (by kernel_rfl) (by decide +kernel) (by decide +kernel) (fun _ _ _ h=>h) (Or.inl ⟨by rfl,?_⟩) (H6.out.bel) ?_
      rotate_left
      ·(intro wq hSw;obtain ⟨z0,z1,z2,z3,z4,-⟩:=R0.out wq hSw;clear hSw;go_simp;try (with_reducible rfl))
      (try simp only [Act.put,List.setIfInBounds_toArray,List.set_cons_zero,List.set_cons_succ])
      refine wpAnyX_takeSV (i:=3) (v:=?_) rfl (by kernel_rfl) (by decide +kernel) (by decide +kernel) (fun _ _ _ h=>h) (Or.inl ⟨by rfl,?_⟩) (H6.out.bel) ?_
      rotate_left
      ·(intro wq hSw;obtain ⟨z0,z1,z2,z3,z4,-⟩:=R0.out wq hSw;clear hSw;go_simp;try (with_reducible rfl))
      (try simp only [Act.put,List.setIfInBounds_toArray,List.set_cons_zero,List.set_cons_succ])
      refine wpAnyX_takeSV (i:=4) (v:=?_) rfl (by kernel_rfl) (by decide +kernel) (by decide +kernel) (fun _ _ _ h=>h) (Or.inl ⟨by rfl,?_⟩) (H6.out.bel) ?_
      rotate_left
      ·(intro wq hSw;obtain ⟨z0,z1,z2,z3,z4,-⟩:=R0.out wq hSw;clear hSw;go_simp;try (with_reducible rfl))
      (try simp only [Act.put,List.setIfInBounds_toArray,List.set_cons_zero,List.set_cons_succ])
      refine wpAnyX_takeSV (i:=5) (v:=?_) rfl (by kernel_rfl) (by decide +kernel) (by decide +kernel) (fun _ _ _ h=>h) (Or.inl ⟨by rfl,?_⟩) (H6.out.bel) ?_
      rotate_left
      ·(intro wq hSw;obtain ⟨z0,z1,z2,z3,z4,-⟩:=R0.out wq hSw;clear hSw;go_simp;try (with_reducible rfl))
      (try simp only [Act.put,List.setIfInBounds_toArray,List.set_cons_zero,List.set_cons_succ])
      refine wpAnyX_takeSV (i:=6) (v:=?_) rfl (by kernel_rfl) (by decide +kernel) (by decide +kernel) (fun _ _ _ h=>h) (Or.inl ⟨by rfl,?_⟩) (H6.out.bel) ?_
      rotate_left
      ·(intro wq hSw;obtain ⟨z0,z1,z2,z3,z4,-⟩:=R0.out wq hSw;clear hSw;go_simp;try (with_reducible rfl))
      (try simp only [Act.put,List.setIfInBounds_toArray,List.set_cons_zero,List.set_cons_succ])
      refine wpAnyX_takeSV (i:=7) (v:=?_) rfl (by kernel_rfl) (by decide +kernel) (by decide +kernel) (fun _ _ _ h=>h) (Or.inl ⟨by rfl,?_⟩) (H6.out.bel) ?_
      rotate_left
      ·(intro wq hSw;obtain ⟨z0,z1,z2,z3,z4,-⟩:=R0.out wq hSw;clear hSw;go_simp;try (with_reducible rfl))
      (try simp only [Act.put,List.setIfInBounds_toArray,List.set_cons_zero,List.set_cons_succ])
      refine wX1 (j:=8) (by decide +kernel) rfl (fun K' hK=>?_)
      go_simp
      have B7:Hid (Below wd.heap.size wd (wd.alloc zPrV)/\(wd.alloc zPrV).heap[wd.heap.size]?=some zPrV):=⟨bAl _ _,heap_alloc_new _ _⟩
      refine hK.out _ _ (H6.out.bel.trans (B7.out.1.mono H6.out.bel.size)) ?_
      clear hK K'
      generalize wd.alloc zPrV=w6 at *
      (try simp only [Act.put,List.setIfInBounds_toArray,List.set_cons_zero,List.set_cons_succ])
      have th7:w6.there wd.heap.size 0 3:=there3 B7.out.2
      have B8:Hid (Below wd.heap.size wd (w6.setCells wd.heap.size 0 [.int .i64 pv.left,.slice pv.ra pv.right.length pv.rc,.int .i64 pv.prec])/\(w6.setCells wd.heap.size 0 [.int .i64 pv.left,.slice pv.ra pv.right.length pv.rc,.int .i64 pv.prec]).heap[wd.heap.size]?=some (prBox pv)):=⟨setCs_below3 B7.out.1 (Nat.le_refl _),setCs_threeV B7.out.2⟩
      refine wX1 (j:=9) (by decide +kernel) rfl (fun K' hK=>?_)
      refine step_storeO rfl 116 (.tmp 16) (.tmp 115) rfl wd.heap.size 0 #[.int .i64 pv.left,.slice pv.ra pv.right.length pv.rc,.int .i64 pv.prec] rfl rfl th7 (by kernel_rfl) (by kernel_rfl) ?_
      refine hK.out _ _ (H6.out.bel.trans (B8.out.1.mono H6.out.bel.size)) ?_
      clear hK K' th7 B7
      change wpAnyX _ _ _ _ _ _ _ _ (w6.setCells wd.heap.size 0 [.int .i64 pv.left,.slice pv.ra pv.right.length pv.rc,.int .i64 pv.prec])
      generalize w6.setCells wd.heap.size 0 [.int .i64 pv.left,.slice pv.ra pv.right.length pv.rc,.int .i64 pv.prec]=w7 at *
      (try simp only [Act.put,List.setIfInBounds_toArray,List.set_cons_zero,List.set_cons_succ])
      refine wXd (by decide +kernel) ?_
      have H7:Hid (TwD w1 F T.reverse (.slice fa fl fc) (.slice (some ⟨nb,0,none⟩) tm nc) w7/\w7.heap[wd.heap.size]?=some (prBox pv)):=⟨H6.out.any B8.out.1,B8.out.2⟩
      clear H6 B8
      generalize wd.heap.size=b16 at *
      go_upto_region 18 with fail
      obtain ⟨we,hwe⟩:∃ we:World,we=w7.drew:=⟨_,rfl⟩
      have H8:Hid (TwD w1 F T.reverse (.slice fa fl fc) (.slice (some ⟨nb,0,none⟩) tm nc) we/\we.heap[b16]?=some (prBox pv)):=by rw [hwe];exact ⟨H7.out.1.any (Below.refl _ _).drew,H7.out.2⟩
      refine wp_region_x (S:=fun _=>fun w'=>Below w1.heap.size w1 w'/\w'.heap[b16]?=some (prBox pv)) (by kernel_rfl) ?_
      rw [<- hwe]
      clear hwe H7
      have S8:Hid (Below w1.heap.size w1 we/\we.heap[b16]?=some (prBox pv)):=⟨H8.out.1.bel,H8.out.2⟩
      refine wpAnyX_takeSV (i:=0) (v:=?_) rfl (by kernel_rfl) (by decide +kernel) (by decide +kernel) (fun _ _ _ h=>h) (Or.inl ⟨by rfl,?_⟩) (S8.out) ?_
      rotate_left
      ·(intro wq hSw;obtain ⟨z0,z1,z2⟩:=R0.out wq hSw.1;have z5:wq.cell? ⟨b16,1,none⟩=some (.slice pv.ra pv.right.length pv.rc):=(cQa hSw.2).trans rfl;clear hSw;go_simp;try (with_reducible rfl))
      (try simp only [Act.put,List.setIfInBounds_toArray,List.set_cons_zero,List.set_cons_succ])
      refine wpAnyX_takeSV (i:=1) (v:=?_) rfl (by kernel_rfl) (by decide +kernel) (by decide +kernel) (fun _ _ _ h=>h) (Or.inl ⟨by rfl,?_⟩) (S8.out) ?_
      rotate_left
      ·(intro wq hSw;obtain ⟨z0,z1,z2⟩:=R0.out wq hSw.1;have z5:wq.cell? ⟨b16,1,none⟩=some (.slice pv.ra pv.right.length pv.rc):=(cQa hSw.2).trans rfl;clear hSw;go_simp;try (with_reducible rfl))
      (try simp only [Act.put,List.setIfInBounds_toArray,List.set_cons_zero,List.set_cons_succ])
      refine wpAnyX_takeSV (i:=2) (v:=?_) rfl (by kernel_rfl) (by decide +kernel) (by decide +kernel) (fun _ _ _ h=>h) (Or.inl ⟨by rfl,?_⟩) (S8.out) ?_
      rotate_left
      ·(intro wq hSw;obtain ⟨z0,z1,z2⟩:=R0.out wq hSw.1;have z5:wq.cell? ⟨b16,1,none⟩=some (.slice pv.ra pv.right.length pv.rc):=(cQa hSw.2).trans rfl;clear hSw;go_simp;try (with_reducible rfl))
      (try simp only [Act.put,List.setIfInBounds_toArray,List.set_cons_zero,List.set_cons_succ])
      refine wpAnyX_takeSV (i:=3) (v:=?_) rfl (by kernel_rfl) (by decide +kernel) (by decide +kernel) (fun _ _ _ h=>h) (Or.inl ⟨by rfl,?_⟩) (S8.out) ?_
      rotate_left
      ·(intro wq hSw;obtain ⟨z0,z1,z2⟩:=R0.out wq hSw.1;have z5:wq.cell? ⟨b16,1,none⟩=some (.slice pv.ra pv.right.length pv.rc):=(cQa hSw.2).trans rfl;clear hSw;go_simp;try (with_reducible rfl))
      (try simp only [Act.put,List.setIfInBounds_toArray,List.set_cons_zero,List.set_cons_succ])
      refine wpAnyX_takeSV (i:=4) (v:=?_) rfl (by kernel_rfl) (by decide +kernel) (by decide +kernel) (fun _ _ _ h=>h) (Or.inl ⟨by rfl,?_⟩) (S8.out) ?_
      rotate_left
      ·(intro wq hSw;obtain ⟨z0,z1,z2⟩:=R0.out wq hSw.1;have z5:wq.cell? ⟨b16,1,none⟩=some (.slice pv.ra pv.right.length pv.rc):=(cQa hSw.2).trans rfl;clear hSw;go_simp;try (with_reducible rfl))
      (try simp only [Act.put,List.setIfInBounds_toArray,List.set_cons_zero,List.set_cons_succ])
      refine wpAnyX_takeSV (i:=5) (v:=?_) rfl (by kernel_rfl) (by decide +kernel) (by decide +kernel) (fun _ _ _ h=>h) (Or.inl ⟨by rfl,?_⟩) (S8.out) ?_
      rotate_left
      ·(intro wq hSw;obtain ⟨z0,z1,z2⟩:=R0.out wq hSw.1;have z5:wq.cell? ⟨b16,1,none⟩=some (.slice pv.ra pv.right.length pv.rc):=(cQa hSw.2).trans rfl;clear hSw;go_simp;try (with_reducible rfl))
      (try simp only [Act.put,List.setIfInBounds_toArray,List.set_cons_zero,List.set_cons_succ])
      refine wpAnyX_takeSV (i:=6) (v:=?_) rfl (by kernel_rfl) (by decide +kernel) (by decide +kernel) (fun _ _ _ h=>h) (Or.inl ⟨by rfl,?_⟩) (S8.out) ?_
      rotate_left
      ·(intro wq hSw;obtain ⟨z0,z1,z2⟩:=R0.out wq hSw.1;have z5:wq.cell? ⟨b16,1,none⟩=some (.slice pv.ra pv.right.length pv.rc):=(cQa hSw.2).trans rfl;clear hSw;go_simp;try (with_reducible rfl))
      (try simp only [Act.put,List.setIfInBounds_toArray,List.set_cons_zero,List.set_cons_succ])
      refine wpAnyX_takeSV (i:=7) (v:=?_) rfl (by kernel_rfl) (by decide +kernel) (by decide +kernel) (fun _ _ _ h=>h) (Or.inl ⟨by rfl,?_⟩) (S8.out) ?_
      rotate_left
      ·(intro wq hSw;obtain ⟨z0,z1,z2⟩:=R0.out wq hSw.1;have z5:wq.cell? ⟨b16,1,none⟩=some (.slice pv.ra pv.right.length pv.rc):=(cQa hSw.2).trans rfl;clear hSw;go_simp;try (with_reducible rfl))
      (try simp only [Act.put,List.setIfInBounds_toArray,List.set_cons_zero,List.set_cons_succ])
      refine wpAnyX_takeSV (i:=8) (v:=?_) rfl (by kernel_rfl) (by decide +kernel) (by decide +kernel) (fun _ _ _ h=>h) (Or.inl ⟨by rfl,?_⟩) (S8.out) ?_
      rotate_left
      ·(intro wq hSw;obtain ⟨z0,z1,z2⟩:=R0.out wq hSw.1;have z5:wq.cell? ⟨b16,1,none⟩=some (.slice pv.ra pv.right.length pv.rc):=(cQa hSw.2).trans rfl;clear hSw;go_simp;try (with_reducible rfl))
      (try simp only [Act.put,List.setIfInBounds_toArray,List.set_cons_zero,List.set_cons_succ])
      refine wX1 (j:=9) (by decide +kernel) rfl (fun K' hK=>?_)
      go_simp
      have B9:Hid (Below we.heap.size we (we.alloc (.cells #[.int .i64 (n:Int),.int .i64 0,.string ⟨#[]⟩,.int .i64 (pv.right.length:Int)] 128))/\(we.alloc (.cells #[.int .i64 (n:Int),.int .i64 0,.string ⟨#[]⟩,.int .i64 (pv.right.length:Int)] 128)).heap[we.heap.size]?=some (.cells #[.int .i64 (n:Int),.int .i64 0,.string ⟨#[]⟩,.int .i64 ((rgP g (n:Int)).length:Int)] 128)):=⟨bAl _ _,by rw [RGP.out.2.2];exact heap_alloc_new _ _⟩
      refine hK.out _ _ ⟨S8.out.1.trans (B9.out.1.mono S8.out.1.size),(B9.out.1.block _ (lt_of_block S8.out.2)).trans S8.out.2⟩ ?_
      clear hK K'
      generalize we.alloc (.cells #[.int .i64 (n:Int),.int .i64 0,.string ⟨#[]⟩,.int .i64 (pv.right.length:Int)] 128)=w8 at *
      generalize hbe:we.heap.size=be at B9
      have NC:Hid (∀ j u,(flCells (spP g (n:Int)))[j]?=some u->w8.cell? ⟨be,j,none⟩=some u):=fl_prod B9.out.2
      have BE:Hid (Below we.heap.size we w8):=by rw [hbe];exact B9.out.1
      have LN:Hid (F.length<=1000000000):=by have h1:=HFL.out;have h2:=HUL.out;have h3:=HZ.out;show _<=_;omega
      try rw [hbe]
      clear hbe
      (try simp only [Act.put,List.setIfInBounds_toArray,List.set_cons_zero,List.set_cons_succ])
      refine wX1 (j:=10) (by decide +kernel) rfl (fun K' hK=>?_)
      refine step_ro_append rkFlat (by rfl) _ _ (by rfl) (.slice fa fl fc) F (by rfl) (H8.out.1.o.later BE.out) be 1 (spP g (n:Int)) (by rfl) NC.out LN.out ?_
      intro a9 n9 c9 w9 ho9 hg9
      have T9:Hid (TwD w1 (F++[spP g (n:Int)]) T.reverse (.slice a9 n9 c9) (.slice (some ⟨nb,0,none⟩) tm nc) w9/\w9.heap[b16]?=some (prBox pv)):=by
       have h16:w8.heap[b16]?=some (prBox pv):=(BE.out.block _ (lt_of_block H8.out.2)).trans H8.out.2
       exact ⟨H8.out.1.out BE.out hg9 ho9,(hg9.grown.block _ (lt_of_block h16) fun e=>ro_apart (H8.out.1.o.later BE.out) h16 (by decide) e.symm).trans h16⟩
      refine hK.out _ _ ⟨T9.out.1.bel,T9.out.2⟩ ?_
      clear hK K' ho9 hg9 NC LN BE B9 H8 S8
      (try simp only [Act.put,List.setIfInBounds_toArray,List.set_cons_zero,List.set_cons_succ])
      refine wX1 (j:=11) (by decide +kernel) rfl (fun K' hK=>?_)
      go_simp
      refine hK.out _ _ ⟨T9.out.1.bel,T9.out.2⟩ ?_
      clear hK K'
      (try simp only [Act.put,List.setIfInBounds_toArray,List.set_cons_zero,List.set_cons_succ])
      refine wXd (by decide +kernel) ?_
      have q0:w9.cell? ⟨b16,1,none⟩=some (.slice pv.ra pv.right.length pv.rc):=(cQa T9.out.2).trans rfl
      have SR:Hid (SymRow w9 pv.ra pv.right):=(R0.out _ T9.out.1.bel).2.2.2.2.2
      have LC:Hid (T.reverse.length+pv.right.length<=8000000000000):=by
       have h1:=HTM.out
       have h2:=HRL.out
       show _<=_
       rw [List.length_reverse]
       omega
      have o5:IntKind.i64.wrap ((m:Int) - 1)=(m:Int) - 1:=IntWalk.i64_in _ ⟨by omega,by have:=HZ.out;omega⟩
      go_wp2_with (at_builtin;refine wpList_sy_catB rfl _ _ rfl (.slice (some ⟨nb,0,none⟩) tm nc) T.reverse rfl T9.out.1.s pv.ra pv.right.length pv.rc pv.right rfl rfl SR.out LC.out ?_;intro a7 n7 c7 w8 ho7 hg7;have T8:Hid (TwD w1 (F++[spP g (n:Int)]) (T.reverse++pv.right) (.slice a9 n9 c9) (.slice a7 n7 c7) w8):=T9.out.1.push (Below.refl _ _) hg7 ho7;clear ho7 hg7 q0)
      obtain ⟨y,yu,yr,hy,hdy⟩:=NX.out
      go_roundg (gk - 1)
      case measure=>have h1:=HP.out.2.2.2.2.2;have h2:=HUL.out;have h3:=HUU.out;omega
      case rel =>
       have h1:=HP.out.2.2.2.2
       have h2:=HUL.out
       have h3:=HUU.out
       have h4:=HZP.out
       have h5:=HZQ.out
       have h6:=HRL.out
       exact ⟨y,pv.right.reverse++T,F++[spP g (n:Int)],m',by rw [yu,show (l.length:Int) - 1 - ((x.u+1:Nat):Int)=(m:Int) - 1 by omega],by rw [yr,h5],by rw [List.reverse_append,List.reverse_reverse];exact T8.out,hy,hdy,by rw [yu,List.length_append,List.length_reverse];omega,by rw [yu,yr];omega⟩
     ·have t2:(pv.left != s2)=true:=by simpa using hk
      have RES:Hid (u.1=none/\u.2.1=81/\u.2.2=0):=by
       have hst:stepU g.rev l.reverse L.reverse x=.inl (81,(x.u:Int)):=by
        unfold stepU
        rw [HP.out.2.2.2.1]
        dsimp only
        rw [if_neg h1,if_neg (by rw [List.length_reverse];omega)]
        refine if_neg ?_
        rw [hnr]
        show ¬ lfP g.rev (n:Int)=s2
        rw [RGP.out.2.1]
        exact hk
       have hres:=mirU_none (HP.out.2.1.fault HP.out.2.2.1 hst)
       rw [HU2.out] at hres
       show _/\_/\_
       rw [hres]
       exact ⟨rfl,rfl,rfl⟩
      clear hk hnr hme h1 hu
      go_upto_region 15 with fail
      go_quiet (fail)
      obtain ⟨wd,hwd⟩:∃ wd:World,wd=w5.drewN nq:=⟨_,rfl⟩
      have H6:Hid (Below w1.heap.size w1 wd):=by rw [hwd];exact H5.out.1.bel.trans ((N5.out nq).mono H5.out.1.bel.size)
      rw [<- hwd]
      obtain ⟨z1,z2,z3⟩:=NO.out wd H6.out
      clear hwd p0 p1 H5 t1 t2 t3 g1 g2 N5 hml hnl z4 z5 z6 R0 RGP
      have F3:Hid (TBx (set4 wd (w.heap.size+1) 0 .none) (w.heap.size+1) 0 .none/\Below w.heap.size w (set4 wd (w.heap.size+1) 0 .none)):=⟨z2,z3⟩
      obtain ⟨d0,d1,d2,d3,f0,f1,f2,f3⟩:=z_cells z1
      clear z1 z2 z3 HI HU2 RP RL RG RS HNE HZ OK FN NO RD X0 BB HP HTM HFL HUL HZP HZQ HLN
      go_wp2
      change bodyPost _ _ _ _ _ (set4 wd (w.heap.size+1) 0 .none)
      generalize set4 wd (w.heap.size+1) 0 .none=w4 at *
      have y0:=F3.out.1.c0
      have y1:=F3.out.1.c1
      have y2:=F3.out.1.c2
      have y3:=F3.out.1.c3
      simp only [Nat.zero_add] at y1 y2 y3
      refine bodyPost_ret (v:=.tuple #[TV.none.val,.int .i64 81,.int .i64 0]) (by simp [results,Tryz.results32,go_sem,y0,y1,y2,y3]) rfl ?_
      obtain ⟨TT',q1,q2,q3⟩:=UU.out u w4 RES.out.1
      rw [RES.out.2.1,RES.out.2.2] at q3
      exact ⟨TT',q1,q2,by rw [q3],F3.out.2⟩
    ·obtain rfl:zp=-1:=by have:=HZP.out;have:=HUL.out;omega
     have t3:decide ((-1:Int) < 0)=true:=by decide
     have RES:Hid (u.1=none/\u.2.1=81/\u.2.2=0):=by
      have hst:stepU g.rev l.reverse L.reverse x=.inl (11,(l.reverse.length:Int)):=by
       unfold stepU
       rw [HP.out.2.2.2.1]
       dsimp only
       have e:x.u=l.reverse.length:=by rw [List.length_reverse];have:=HUL.out;omega
       rw [if_neg h1,if_pos e,e]
      have hres:=mirU_none (HP.out.2.1.fault HP.out.2.2.1 hst)
      rw [HU2.out] at hres
      show _/\_/\_
      rw [hres]
      exact ⟨rfl,rfl,rfl⟩
     clear h1 hu
     go_upto_region 15 with fail
     go_quiet (fail)
     obtain ⟨wd,hwd⟩:∃ wd:World,wd=w5.drewN nq:=⟨_,rfl⟩
     have H6:Hid (Below w1.heap.size w1 wd):=by rw [hwd];exact H5.out.1.bel.trans ((N5.out nq).mono H5.out.1.bel.size)
     rw [<- hwd]
     obtain ⟨z1,z2,z3⟩:=NO.out wd H6.out
     clear hwd p0 p1 H5 t1 t3 N5
     have F3:Hid (TBx (set4 wd (w.heap.size+1) 0 .none) (w.heap.size+1) 0 .none/\Below w.heap.size w (set4 wd (w.heap.size+1) 0 .none)):=⟨z2,z3⟩
     obtain ⟨d0,d1,d2,d3,f0,f1,f2,f3⟩:=z_cells z1
     clear z1 z2 z3 HI HU2 RP RL RG RS HNE HZ OK FN NO RD X0 BB HP HTM HFL HUL HZP HZQ HLN
     go_wp2
     change bodyPost _ _ _ _ _ (set4 wd (w.heap.size+1) 0 .none)
     generalize set4 wd (w.heap.size+1) 0 .none=w4 at *
     have y0:=F3.out.1.c0
     have y1:=F3.out.1.c1
     have y2:=F3.out.1.c2
     have y3:=F3.out.1.c3
     simp only [Nat.zero_add] at y1 y2 y3
     refine bodyPost_ret (v:=.tuple #[TV.none.val,.int .i64 81,.int .i64 0]) (by simp [results,Tryz.results32,go_sem,y0,y1,y2,y3]) rfl ?_
     obtain ⟨TT',q1,q2,q3⟩:=UU.out u w4 RES.out.1
     rw [RES.out.2.1,RES.out.2.2] at q3
     exact ⟨TT',q1,q2,by rw [q3],F3.out.2⟩
 ·have t1:(c1 != 0)=true:=by simpa using h0
  have RES:Hid (u=(none,c1,c2)):=by show _=_;rw [<- HU.out];unfold fromU;rw [if_pos h0]
  obtain ⟨z1,z2,z3⟩:=NO.out w2 H2.out
  have F3:Hid (TBx (set4 w2 (w.heap.size+1) 0 .none) (w.heap.size+1) 0 .none/\Below w.heap.size w (set4 w2 (w.heap.size+1) 0 .none)):=⟨z2,z3⟩
  obtain ⟨d0,d1,d2,d3,f0,f1,f2,f3⟩:=z_cells z1
  clear z1 z2 z3 h0
  go_wp2
  change bodyPost _ _ _ _ _ (set4 w2 (w.heap.size+1) 0 .none)
  generalize set4 w2 (w.heap.size+1) 0 .none=w4 at *
  have y0:=F3.out.1.c0
  have y1:=F3.out.1.c1
  have y2:=F3.out.1.c2
  have y3:=F3.out.1.c3
  simp only [Nat.zero_add] at y1 y2 y3
  refine bodyPost_ret (v:=.tuple #[TV.none.val,.int .i64 c1,.int .i64 c2]) (by simp [results,Tryz.results32,go_sem,y0,y1,y2,y3]) rfl ?_
  obtain ⟨T,q1,q2,q3⟩:=UU.out u w4 (by rw [RES.out])
  rw [RES.out] at q3
  rw [RES.out]
  rw [RES.out] at q1
  exact ⟨T,q1,q2,by rw [q3],F3.out.2⟩
end Go.Proofs.YteciabdjkaackaaGreat
