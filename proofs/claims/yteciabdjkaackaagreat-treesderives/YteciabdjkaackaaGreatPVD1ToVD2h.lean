import Derived.Test.YteciabdjkaackaaGreatPTB26ToVD3
import Derived.Test.YteciabdjkaackaaGreatPUB2
namespace Go.Proofs.YteciabdjkaackaaGreat
set_option linter.unusedVariables false
open Go.RowKit
set_option linter.unusedSimpArgs false in
set_option maxRecDepth 100000 in
set_option maxHeartbeats 4000000 in
theorem numbers_S {w:World}{g:GV}{pa:Option Addr}{pc:Nat}{l:List Int}(hli:InRow w pa l)(hl:l.length<=1000000000):Calls Tryz.prog 73 #[g.val,.slice pa l.length pc] w fun e w'=>e=.returned (.tuple #[.int .i64 (cpU 0 g.ps.length l).1,.int .i64 (cpU 0 g.ps.length l).2])/\Below w.heap.size w w':=by
 have X0:Hid (Below w.heap.size w (w.alloc (gBox g))/\(w.alloc (gBox g)).heap[w.heap.size]?=some (gBox g)):=⟨bAl _ _,heap_alloc_new _ _⟩
 have HL:Hid (∀ w',Below w.heap.size w w'->InRow w' pa l):=fun w' hb=>hli.later hb
 have HC:Hid (cpU 0 g.ps.length l=match fbU g.ps.length 0 l with
   | some i=>(4,(i:Int))
   | none=>if l=[] then (1,0) else (0,0)):=if_neg (by simp)
 clear hli
 go_enter Tryz.func73,Tryz.ntmps73
 go_wp2
 go_loopw [6] (fun z wr=>∃ k:Nat,k<=l.length/\z=.int .i64 k/\(Below w.heap.size w wr/\wr.heap[w.heap.size]?=some (gBox g))/\fbU g.ps.length k (l.drop k)=fbU g.ps.length 0 l) (fun i _=>l.length - (intOf i).toNat)
 case atStart=>exact ⟨0,Nat.zero_le _,rfl,X0.out,rfl⟩
 case round =>
  clear X0
  obtain ⟨k,hk,rfl,hB,hf⟩:=hrel
  have BB:Hid (Below w.heap.size w wr/\wr.heap[w.heap.size]?=some (gBox g)):=hB
  have NB:Hid (∀ n,Below w.heap.size w (wr.drewN n)/\(wr.drewN n).heap[w.heap.size]?=some (gBox g)):=fun n=>⟨bDn hB.1 n,((bDn (Below.refl wr.heap.size wr) n).block _ (lt_of_block hB.2)).trans hB.2⟩
  by_cases hlt:k < l.length
  ·obtain ⟨b,off,rfl,hbl,hc⟩:=HL.out _ hB.1 (by intro h;subst h;simp at hlt)
   have c0:=hc k hlt
   have e0:l.getD k 0=l[k]:=by simp [List.getD,hlt]
   obtain ⟨x0,x1,x2,x3,x4⟩:=gbx_cells hB.2
   rw [List.drop_eq_getElem_cons hlt,fbU] at hf
   rw [e0] at c0
   generalize l[k]=x at *
   by_cases hx:0<=x/\x < g.ps.length
   ·have t1:decide (x < 0)=false:=by simp;omega
    have t2:decide (x ≥ (g.ps.length:Int))=false:=by simp;omega
    rw [if_pos hx] at hf
    have HF:Hid (fbU g.ps.length (k+1) (l.drop (k+1))=fbU g.ps.length 0 l):=hf
    clear hB hc hf e0 hbl hx
    go_wp2
    go_quiet (fail)
    obtain ⟨wd,hwd⟩:∃ wd:World,wd=wr.drewN nq:=⟨_,rfl⟩
    have HD:Hid (Below w.heap.size w wd/\wd.heap[w.heap.size]?=some (gBox g)):=by rw [hwd];exact NB.out nq
    rw [<- hwd]
    clear hwd
    go_wp2
    go_roundw
    case rel=>exact ⟨k+1,by omega,by go_num,HD.out,HF.out⟩
    case measure=>simp [intOf];omega
   ·rw [if_neg hx] at hf
    have HF:Hid (cpU 0 g.ps.length l=(4,(k:Int))):=by show _=_;rw [HC.out,<- hf]
    have hor:decide (x < 0)=true∨(decide (x < 0)=false/\decide (x ≥ (g.ps.length:Int))=true):=by
     by_cases h:x < 0
     ·exact .inl (by simpa using h)
     ·exact .inr ⟨by simpa using h,by simp;omega⟩
    clear hB hc hf e0 hbl hx
    rcases hor with t1 | ⟨t1,t2⟩
    all_goals
     go_wp2
     go_quiet (fail)
     obtain ⟨wd,hwd⟩:∃ wd:World,wd=wr.drewN nq:=⟨_,rfl⟩
     have HD:Hid (Below w.heap.size w wd/\wd.heap[w.heap.size]?=some (gBox g)):=by rw [hwd];exact NB.out nq
     rw [<- hwd]
     clear hwd
     go_wp2
     refine bodyPost_ret (results_tmp2 rfl _ _ _) rfl ?_
     rw [HF.out]
     exact ⟨rfl,HD.out.1⟩
  ·obtain rfl:k=l.length:=by omega
   rw [List.drop_length,fbU] at hf
   by_cases hn:l=[]
   ·subst hn
    have HF:Hid (cpU 0 g.ps.length []=(1,0)):=by show _=_;rw [HC.out,<- hf];rfl
    clear hB hf HC
    simp only [List.length_nil] at *
    go_wp2
    refine bodyPost_ret (results_tmp2 rfl _ _ _) rfl ?_
    rw [HF.out]
    exact ⟨rfl,BB.out.1⟩
   ·have HF:Hid (cpU 0 g.ps.length l=(0,0)):=by show _=_;rw [HC.out,<- hf];exact if_neg hn
    have tn:((l.length:Int) == 0)=false:=by
     have:=List.length_pos_iff.2 hn
     simp;omega
    clear hB hf HC hn
    go_wp2
    refine bodyPost_ret (results_tmp2 rfl _ _ _) rfl ?_
    rw [HF.out]
    exact ⟨rfl,BB.out.1⟩
theorem wpAnyX_takeSV {P:Program}{ops:Array Oper}{Q:Exit->Act->World->Prop}{md:Region.Mode}{i:Nat}{oi:Oper}{v:Value}{S:World->Prop}{fuel:Nat}{listed:Array Bool}{a:Act}{w:World}(hi':ops.toList[i]?=some oi)
  (hs:Region.noSelect ops=true) (hf:Region.free md ops listed i=true) (hr:(Region.ready md ops listed).contains i=true)
  (hQ:∀ c a w,Q (.panic c) (a.put oi.dst v) w->Q (.panic c) a w) (hy:YieldsIf P ops S oi v a) (hS:S w)
  (h:wpAnyX P md ops Q (fun _=>S) fuel (listed.setIfInBounds i true) (a.put oi.dst v) w):wpAnyX P md ops Q (fun _=>S) (fuel+1) listed a w :=
 have hi:ops[i]?=some oi:=by rw [<- Array.getElem?_toList];exact hi'
 wpAnyX_first (Cl:=fun _=>True) (T:=S) hi (Region.noSelect_spec hs) hQ (fun _ _ _ _=>trivial) (fun _ _ _ _ h=>h) (fun _ _=>Iff.rfl) fuel listed a w (Region.free_spec hi hf) (by simpa using hr) trivial hy hS h
def syC (q:Int×Int):List Value:=[.int .i64 q.1,.int .i64 q.2]
theorem rkSymR:RK 82 100 2 syC:=by
 obtain ⟨i,hi,h0,h1,h2⟩:=infoSym_parts
 refine ⟨Tryz.underlying100,⟨i,_,hi,h0,h1,by rw [h2];decide,rfl⟩,by decide,fun _=>rfl,fun x u hu=>?_⟩
 simp [syC] at hu
 rcases hu with rfl | rfl<;>rfl
abbrev SYo:=RO 82 2 syC
theorem run_sy_appendB (w:World)(ty:TypeId)(v:Value)(l:List (Int×Int))(h:SYo w v l)(b c:Nat)(x:Int×Int)(hy:∀ j u,(syC x)[j]?=some u->w.cell? ⟨b,j,none⟩=some u)(hlen:l.length<=8000000000000) :
  ∃ a' n' c' w',(Builtin.append_ #[100,100] ty #[v,.slice (some ⟨b,0,none⟩) 1 c]).run Tryz.prog w=.ok (.slice a' n' c') w'/\SYo w' (.slice a' n' c') (l++[x])/\Grew w w' v (.slice a' n' c'):=by
 obtain ⟨i0,hi,hz0,hz1,hz2⟩:=infoSym_parts
 obtain ⟨v',w',hrun,hown,hgrow,_,hmv⟩:=run_append_own_at (P:=Tryz.prog) (w:=w) 0 100 ty 82 i0 _ 2 i0.bytes Tryz.underlying100 hi hz0 hz1 rfl (by kernel_rfl) (by decide) v l.length (l.flatMap syC) h ⟨b,0,none⟩ 1 c (syC x) rfl (fun j u hu=>by rw [aNn,Nat.zero_add];exact hy j u hu) (rkSymR.one x) (by unfold maxLen;omega) (by rw [hz2];omega) (Nat.zero_le _)
 have h6:SYo w' v' (l++[x]):=by
  unfold SYo RO
  have e:(l++[x]).flatMap syC=l.flatMap syC++syC x:=by simp
  rw [e]
  simpa using hown
 obtain ⟨a',c',rfl,_⟩:=RO.len h6
 exact ⟨_,_,_,w',hrun,h6,⟨hgrow,hmv.imp id fun e=>⟨_,e,Nat.le_refl _⟩⟩⟩
theorem wpList_sy_appendB {ops:Array Oper}{rest:List Oper}{o:Oper}{a:Act}{Q:Exit->Act->World->Prop}{w:World}(hgd:o.guard=none)(s x:Operand)
  (ho:o.op=.call { callee:=.builtin .append,args:=#[s,x],argTypes:=#[100,100] })
  (v:Value) (l:List (Int×Int)) (hs:a.eval s=v) (h:SYo w v l) (b c:Nat) (q:Int×Int) (hx:a.eval x=.slice (some ⟨b,0,none⟩) 1 c) (hy:∀ j u,(syC q)[j]?=some u->w.cell? ⟨b,j,none⟩=some u) (hlen:l.length<=8000000000000)
  (hK:∀ a' n' c' w',SYo w' (.slice a' n' c') (l++[q])->Grew w w' v (.slice a' n' c')->wpList Tryz.prog ops Q rest (a.put o.dst (.slice a' n' c')) w'):wpList Tryz.prog ops Q (o :: rest) a w:=by
 refine wpList_plain hgd fun K hK'=>?_
 obtain ⟨a',n',c',w',hrun,r1,r2⟩:=run_sy_appendB w o.type v l h b c q hy hlen
 unfold Oper.wp execOp
 simp only [ho,resolve,invoke,builtin,Sem.run_bind,Sem.run_pure,Result.andThen_ok,List.map_toArray,List.map_cons,List.map_nil,hs,hx,hrun]
 exact hK' _ _ (hK a' n' c' w' r1 r2)
theorem slice_symB (b lc len i:Nat)(hi:i<=lc)(w:World):(Instr.slice 100 (.slice (some ⟨b,0,none⟩) len lc) none (some (.int .i64 (i:Int))) none).run Tryz.prog w=.ok (.slice (some ⟨b,0,none⟩) i lc) w:=by
 have hu:Tryz.prog.underlying 100=some (.slice (Tryz.prog.elem 100)):=by kernel_rfl
 have he:Tryz.prog.elem 100=82:=by kernel_rfl
 obtain ⟨i0,z,hinf,_,hz1,_⟩:=rkSymR.info
 have:=run_slice_h (P:=Tryz.prog) (w:=w) 100 (some ⟨b,0,none⟩) len lc hu .i64 (i:Int) (by omega) (by omega)
 rw [this,he]
 simp [sizeOf,typeInfo,hinf,hz1]
 unfold sliced
 split<;>simp [aNn]
abbrev TwD (W0:World)(F:List SP)(M:List (Int×Int))(vf vn:Value)(wr:World):Prop:=TwR 128 4 flCells 82 2 syC W0 F M vf vn wr
theorem vfin {w W0 w9:World}{T:TV}(h:Below w.heap.size w W0)(z:W0.heap[w.heap.size+1]?=some zTree)(hb:Below W0.heap.size W0 w9)(ht:TAt w9 T)(ha:∀ a∈adsL (kidsA T),w.heap.size+1 < a.1):w9.heap[w.heap.size+1]?=some zTree/\TBx (set4 w9 (w.heap.size+1) 0 T) (w.heap.size+1) 0 T/\Below w.heap.size w (set4 w9 (w.heap.size+1) 0 T)/\TAt (set4 w9 (w.heap.size+1) 0 T) T:=by
 have hz:w9.heap[w.heap.size+1]?=some zTree:=(hb.block _ (lt_of_block z)).trans z
 have hl:=lt_of_block z
 have hbw:Below w.heap.size w w9:=h.trans (hb.mono h.size)
 refine ⟨hz,set4_tbx (v0:=.int .i64 0) (v1:=.int .i64 0) (v2:=.string ByteArray.empty) (v3:=.slice none 0 0) T ((cQa hz).trans rfl) ((cQa hz).trans rfl) ((cQa hz).trans rfl) ((cQa hz).trans rfl) (lt_of_block hz),set4_below hbw 0 T (by omega),keep_at T 0 0 ht fun a hma=>⟨by rw [set4_size];exact kids_lt ht hma,fun j _=>World.cell?_of_block (set4_other _ _ _ _ _ (fun e=>by have h1:=ha a hma;have e:a.1=w.heap.size+1:=e;omega))⟩⟩
theorem pend_len {g:GV}{M:Nat}(hM:∀ p∈g.ps,p.right.length<=M)(p:Int):(rgP g p).length<=M:=by
 unfold rgP
 by_cases h:p.toNat < g.ps.length
 ·have e:g.ps.getD p.toNat .none=g.ps[p.toNat]:=by simp [List.getD,h]
  rw [e]
  exact hM _ (List.getElem_mem h)
 ·have e:g.ps.getD p.toNat .none=PV.none:=by simp [List.getD,List.getElem?_eq_none (Nat.le_of_not_lt h)]
  rw [e]
  exact Nat.zero_le _
theorem fl_word {w:World}{b:Nat}{k:Int}{tx:ByteArray}(h:w.heap[b]?=some (.cells #[.int .i64 (-1),.int .i64 k,.string tx,.int .i64 0] 128)):∀ j u,(flCells (spW (k,tx)))[j]?=some u->w.cell? ⟨b,j,none⟩=some u:=fun j u hu=>by
 rw [cQa h,<- Array.getElem?_toList]
 exact hu
theorem fl_prod {w:World}{b:Nat}{g:GV}{p:Int}(h:w.heap[b]?=some (.cells #[.int .i64 p,.int .i64 0,.string ⟨#[]⟩,.int .i64 ((rgP g p).length:Int)] 128)):∀ j u,(flCells (spP g p))[j]?=some u->w.cell? ⟨b,j,none⟩=some u:=fun j u hu=>by
 rw [cQa h,<- Array.getElem?_toList,<- hu]
 have e:flCells (spP g p)=[.int .i64 p,.int .i64 0,.string ⟨#[]⟩,.int .i64 ((rgP g p).length:Int)]:=by
  show [Value.int .i64 p,.int .i64 0,.string ByteArray.empty,.int .i64 ((List.replicate (rgP g p).length TV.none).length:Int)]=_
  rw [List.length_replicate]
  rfl
 rw [e]
abbrev symBox (q:Int×Int):Obj:=.cells #[.int .i64 q.1,.int .i64 q.2] 82
abbrev prBox (p:PV):Obj:=.cells #[.int .i64 p.left,.slice p.ra p.right.length p.rc,.int .i64 p.prec] 116
theorem setCs_threeV {w:World}{b:Nat}{a0 a1 a2 v0 v1 v2:Value}{t:TypeId}(h:w.heap[b]?=some (.cells #[a0,a1,a2] t)):(w.setCells b 0 [v0,v1,v2]).heap[b]?=some (.cells #[v0,v1,v2] t):=by
 have h1:=heap_setCell_same w b 0 _ _ v0 h
 have h2:=heap_setCell_same _ b 1 _ _ v1 h1
 exact heap_setCell_same _ b 2 _ _ v2 h2
theorem setCs_below3 {n:Nat}{w0 w:World}{b:Nat}{v0 v1 v2:Value}(h:Below n w0 w)(hb:n<=b):Below n w0 (w.setCells b 0 [v0,v1,v2]) :=
 ((h.setCell (p:=⟨b,0,none⟩) hb v0).setCell (p:=⟨b,1,none⟩) hb v1).setCell (p:=⟨b,2,none⟩) hb v2
theorem there3 {w:World}{b:Nat}{a0 a1 a2:Value}{t:TypeId}(h:w.heap[b]?=some (.cells #[a0,a1,a2] t)):w.there b 0 3:=fun j hj=>by
 refine ⟨?_,by simp [World.frozen?,h]⟩
 rw [cQa h,Nat.zero_add]
 have hj:j < 3:=hj
 match j,hj with
 | 0,_=>rfl
 | 1,_=>rfl
 | 2,_=>rfl
theorem ro_apart {α:Type}{τ t:TypeId}{k:Nat}{f:α->List Value}{w:World}{v:Value}{l:List α}{b:Nat}{cs:Array Value}{fz:Nat×Nat}(h:RO τ k f w v l)(hb:w.heap[b]?=some (.cells cs t fz))(ht:t≠τ):v.ownBlock≠some b:=fun e=>by
 rcases h.2 with ⟨rfl,-⟩ | ⟨g,cap,cur,rfl,h1,h2,h3⟩
 ·cases e
 ·have e:g=b:=Option.some.inj e
  subst e
  rw [h2] at hb
  simp only [Option.some.injEq,Obj.cells.injEq] at hb
  exact ht hb.2.1.symm
abbrev zPrV:Obj:=.cells #[.int .i64 0,.slice none 0 0,.int .i64 0] 116
theorem drop_revV {R:List (Int×Int)}{T:List (Int×Int)}{m:Nat}(h:m < R.length):T++(R.drop m).reverse=(T++(R.drop (m+1)).reverse)++[R.getD m (0,0)]:=by
 rw [List.drop_eq_getElem_cons h,List.reverse_cons,List.append_assoc]
 congr 2
 simp [List.getD,h]
end Go.Proofs.YteciabdjkaackaaGreat
