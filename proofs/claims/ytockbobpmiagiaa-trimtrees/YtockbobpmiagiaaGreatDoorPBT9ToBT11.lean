import Derived.Test.YtockbobpmiagiaaGreatDoorPBT3ToBT8
namespace Go.Proofs.YtockbobpmiagiaaGreatDoor
set_option linter.unusedVariables false
open Go.RowKit Go.Shelf
structure LackR (D m a r:Nat):Prop where
 le:r<=m
 is:r < m->a<=r/\D.testBit r=true
 none:∀ j,a<=j->j < r->D.testBit j=false
theorem LackR.uniq {D m a r r':Nat}(h:LackR D m a r)(h':LackR D m a r'):r=r':=by
 rcases Nat.lt_trichotomy r r' with q | q | q
 ·have:=h.is (by have:=h'.le;omega)
  rw [h'.none r this.1 q] at this
  cases this.2
 ·exact q
 ·have:=h'.is (by have:=h.le;omega)
  rw [h.none r' this.1 q] at this
  cases this.2
theorem lack_word {D m i:Nat}(hD:D < 2 ^ m)(h0:wdB D i≠0){a:Nat}(ha:a<=64*i)(hz:∀ j,a<=j->j < 64*i->D.testBit j=false):LackR D m a (64*i+Lib.ctz 64 (wdB D i)):=by
 obtain ⟨h1,h2,h3⟩:=ctz_spec h0 (wdB_lt D i)
 generalize Lib.ctz 64 (wdB D i)=t at *
 rw [wdB_bit,decide_eq_true h1,Bool.true_and] at h2
 have hlt:64*i+t < m:=by
  rcases Nat.lt_or_ge (64*i+t) m with q | q
  ·exact q
  ·rw [Nat.testBit_lt_two_pow (Nat.lt_of_lt_of_le hD (Nat.pow_le_pow_right (by decide) q))] at h2
   cases h2
 refine ⟨Nat.le_of_lt hlt,fun _=>⟨by omega,h2⟩,fun j hj hj2=>?_⟩
 rcases Nat.lt_or_ge j (64*i) with q | q
 ·exact hz j hj q
 ·have:=h3 (j - 64*i) (by omega)
  rw [wdB_bit,decide_eq_true (show j - 64*i < 64 by omega),Bool.true_and,show 64*i+(j - 64*i)=j by omega] at this
  exact this
theorem lack_skip {D i a:Nat}(h0:wdB D i=0)(hz:∀ j,a<=j->j < 64*i->D.testBit j=false):∀ j,a<=j->j < 64*(i+1)->D.testBit j=false:=fun j h1 h2=>by
 rcases Nat.lt_or_ge j (64*i) with q | q
 ·exact hz j h1 q
 ·have:=wdB_bit D i (j - 64*i)
  rw [h0,Nat.zero_testBit,decide_eq_true (show j - 64*i < 64 by omega),Bool.true_and,show 64*i+(j - 64*i)=j by omega] at this
  exact this.symm
set_option maxRecDepth 100000 in
set_option maxHeartbeats 4000000 in
theorem lacked_SB {w:World}{k m N k2 m2 M:Nat}(h:SB w k m N)(h2:SB w k2 m2 M)(hT:TabB w)(fr:Nat)(hfr:fr<=5000):Calls Tryz.prog 120 #[.pointer (some ⟨k+1,0,none⟩),.int .i64 (fr:Int),.pointer (some ⟨k2+1,0,none⟩)] w fun e w'=>∃ r:Nat,e=.returned (.int .i64 (r:Int))/\LackR (mB_ N M) m (64*(fr / 64)) r/\Below w.heap.size w w':=by
 have hnw:=nwB_le h.ml
 have hml:=h.ml
 have HB:Hid (SB w k m N):=h
 have HB2:Hid (SB w k2 m2 M):=h2
 have HTB:Hid (TabB w):=hT
 have HT2:Hid (Calls Tryz.prog 101 #[.pointer (some ⟨k2+1,0,none⟩)] w fun e w'=>e=.returned (.slice (some ⟨k2,0,none⟩) (nwB m2) (nwB m2))/\w'=w):=held_SB h2
 have HWD:Hid (∀ i,wdB (mB_ N M) i=wdB N i &&& (18446744073709551615 - wdB M i)):=fun i=>wd_minus N M i
 have HDL:Hid (mB_ N M < 2 ^ m):=minusB_lt h.lt
 obtain ⟨q0,hq0⟩:∃ q0,fr / 64=q0:=⟨_,rfl⟩
 have hq1:(fr:Int) / 64=(q0:Int):=by omega
 have hq2:q0<=100:=by omega
 have wq:IntKind.i64.wrap (q0:Int)=(q0:Int):=IntWalk.i64_in _ ⟨by omega,by omega⟩
 rw [hq0]
 generalize mB_ N M=D at *
 clear h h2 hT hq0
 go_enter Tryz.func120,Tryz.ntmps120
 go_wp2_with (go_at_call 101;refine HT2.out.mono ?_;rintro e w1 ⟨rfl,hz⟩;rw [hz];clear hz w1)
 clear HT2
 go_loopw [8] (fun z wr=>∃ i:Nat,q0<=i/\i<=200/\z=.int .i64 (i:Int)/\(∀ j,64*q0<=j->j < 64*i->D.testBit j=false)/\Below w.heap.size w wr) (fun z _=>201 - (intOf z).toNat)
 case atStart=>exact ⟨q0,Nat.le_refl _,by omega,rfl,fun j h1 h2=>by omega,Below.refl _ _⟩
 case round =>
  obtain ⟨i,hi1,hi2,rfl,hz0,hbel⟩:=hrel
  have HZ:Hid (∀ j,64*q0<=j->j < 64*i->D.testBit j=false):=hz0
  have HBE:Hid (Below w.heap.size w wr):=hbel
  have HBr:Hid (SB wr k m N):=HB.out.later hbel
  obtain ⟨c0,c1⟩:=HBr.out.cells
  clear hz0 hbel
  by_cases hlt:i < nwB m
  ·have ilt:(i:Int) < ((nwB m:Nat):Int):=by omega
   have HD:Hid (SB wr.drew k m N):=HBr.out.later (Below.refl _ _).drew
   obtain ⟨-,d1⟩:=HD.out.cells
   have d2:=HD.out.word hlt
   have WA:Hid (∀ w',w'=wr.drew->Calls Tryz.prog 129 #[.slice (some ⟨k2,0,none⟩) (nwB m2) (nwB m2),.int .i64 (i:Int)] w' fun e w''=>e=.returned (.int .u64 (wdB M i:Int))/\w''=wr.drew):=fun w' e=>by
    subst e
    exact ((HB2.out.later HBE.out).later (Below.refl _ _).drew).wordAt i
   have eD:=bits_andNot_u64_nat (wdB N i) (wdB M i) (wdB_lt N i) (wdB_lt M i)
   rw [<- HWD.out i] at eD
   have wi:IntKind.i64.wrap (i:Int)=(i:Int):=IntWalk.i64_in _ ⟨by omega,by omega⟩
   have HBD:Hid (Below w.heap.size w wr.drew):=HBE.out.drew
   have HLK:Hid (wdB D i≠0->LackR D m (64*q0) (64*i+Lib.ctz 64 (wdB D i))):=fun q=>lack_word HDL.out q (by omega) HZ.out
   have HSK:Hid (wdB D i=0->∀ j,64*q0<=j->j < 64*(i+1)->D.testBit j=false):=fun q=>lack_skip q HZ.out
   have HXL:Hid (wdB D i < 18446744073709551616):=wdB_lt D i
   have LO:Hid (wdB D i≠0->Calls Tryz.prog 103 #[.int .i64 (i:Int),.int .u64 (wdB D i:Int)] wr.drew fun e w'=>e=.returned (.int .i64 ((64*i+Lib.ctz 64 (wdB D i):Nat):Int))/\w'=wr.drew):=fun q=>lowest_SB i (wdB D i) (by omega) (wdB_lt D i) q wr.drew (HTB.out.later HBD.out)
   generalize wdB N i=A at *
   generalize wdB M i=B at *
   generalize wdB D i=X at *
   go_wp2
   refine wp_region_q (C:=fun w'=>w'=wr.drew) (by kernel_rfl) (by kernel_rfl) rfl ?_
   refine qt_yes (v:=?_) (by rfl) ?_ ?_
   rotate_left
   ·(intro w hSw;rw [hSw];clear hSw;go_simp;with_reducible rfl)
   (try simp only [Act.put,List.setIfInBounds_toArray,List.set_cons_zero,List.set_cons_succ])
   refine qt_yes (v:=?_) (by rfl) ?_ ?_
   rotate_left
   ·(intro w hSw;rw [hSw];clear hSw;go_simp;with_reducible rfl)
   (try simp only [Act.put,List.setIfInBounds_toArray,List.set_cons_zero,List.set_cons_succ])
   refine qt_yes (v:=?_) (by rfl) ?_ ?_
   rotate_left
   ·(intro w hSw;rw [hSw];clear hSw;go_simp;with_reducible rfl)
   (try simp only [Act.put,List.setIfInBounds_toArray,List.set_cons_zero,List.set_cons_succ])
   refine qt_yes (v:=?_) (by rfl) ?_ ?_
   rotate_left
   ·(intro w hSw;rw [hSw];clear hSw;go_simp;with_reducible rfl)
   (try simp only [Act.put,List.setIfInBounds_toArray,List.set_cons_zero,List.set_cons_succ])
   refine qt_yes (v:=?_) (by rfl) ?_ ?_
   rotate_left
   ·(intro w hSw;rw [hSw];clear hSw;go_simp;with_reducible rfl)
   (try simp only [Act.put,List.setIfInBounds_toArray,List.set_cons_zero,List.set_cons_succ])
   refine qt_yes (v:=?_) (by rfl) ?_ ?_
   rotate_left
   ·(intro w hSw;rw [hSw];clear hSw;go_simp;with_reducible rfl)
   (try simp only [Act.put,List.setIfInBounds_toArray,List.set_cons_zero,List.set_cons_succ])
   refine qt_yes (v:=?_) (by rfl) ?_ ?_
   rotate_left
   ·(intro w hSw;rw [hSw];clear hSw;go_simp;with_reducible rfl)
   (try simp only [Act.put,List.setIfInBounds_toArray,List.set_cons_zero,List.set_cons_succ])
   refine qt_yes (v:=?_) (by rfl) ?_ ?_
   rotate_left
   ·(intro w hSw;rw [hSw];clear hSw;go_simp;with_reducible rfl)
   (try simp only [Act.put,List.setIfInBounds_toArray,List.set_cons_zero,List.set_cons_succ])
   refine qt_yes (v:=?_) (by rfl) ?_ ?_
   rotate_left
   ·(intro w hSw;rw [hSw];clear hSw;go_simp;with_reducible rfl)
   (try simp only [Act.put,List.setIfInBounds_toArray,List.set_cons_zero,List.set_cons_succ])
   refine qt_call (v:=.int .u64 (B:Int)) 129 #[.slice (some ⟨k2,0,none⟩) (nwB m2) (nwB m2),.int .i64 (i:Int)] (by rfl) (by intro w hSw;clear hSw;go_simp) WA.out ?_
   (try simp only [Act.put,List.setIfInBounds_toArray,List.set_cons_zero,List.set_cons_succ])
   refine qt_yes (v:=?_) (by rfl) ?_ ?_
   rotate_left
   ·(intro w hSw;rw [hSw];clear hSw;go_simp;with_reducible rfl)
   (try simp only [Act.put,List.setIfInBounds_toArray,List.set_cons_zero,List.set_cons_succ])
   refine qt_yes (v:=?_) (by rfl) ?_ ?_
   rotate_left
   ·(intro w hSw;rw [hSw];clear hSw;go_simp;with_reducible rfl)
   (try simp only [Act.put,List.setIfInBounds_toArray,List.set_cons_zero,List.set_cons_succ])
   refine qt_nil ?_
   intro w' hw'
   subst hw'
   clear WA d1 d2 eD
   by_cases hX:X=0
   ·subst hX
    have HS2:=HSK.out rfl
    have HS3:Hid (∀ j,64*q0<=j->j < 64*(i+1)->D.testBit j=false):=HS2
    clear HS2 HSK HLK LO
    go_wp2
    go_roundw
    case rel=>exact ⟨i+1,by omega,by omega,by go_num,HS3.out,HBD.out⟩
    case measure=>simp [intOf];omega
   ·have LO2:Hid (Calls Tryz.prog 103 #[.int .i64 (i:Int),.int .u64 (X:Int)] wr.drew fun e w'=>e=.returned (.int .i64 ((64*i+Lib.ctz 64 X:Nat):Int))/\w'=wr.drew):=LO.out hX
    have HLK2:Hid (LackR D m (64*q0) (64*i+Lib.ctz 64 X)):=HLK.out hX
    have nz:((X:Int) != 0)=true:=by simpa using hX
    have nz2:((X:Int) == 0)=false:=by simpa using hX
    clear LO HLK HSK hX
    generalize 64*i+Lib.ctz 64 X=r at *
    go_wp2_with (go_at_call 103;refine LO2.out.mono ?_;rintro e w1 ⟨rfl,hz⟩;rw [hz];clear hz w1)
    go_ret
    exact ⟨r,rfl,HLK2.out,HBD.out⟩
  ·have ilt:¬ (i:Int) < ((nwB m:Nat):Int):=by omega
   have HR:Hid (LackR D m (64*q0) m):=⟨Nat.le_refl _,fun q=>absurd q (Nat.lt_irrefl _),fun j h1 h2=>HZ.out j h1 (by unfold nwB at hlt;omega)⟩
   go_wp2
   go_ret
   exact ⟨m,rfl,HR.out,HBE.out⟩
def ptB (k:Nat):Value:=.pointer (some ⟨k+1,0,none⟩)
structure RwB (w:World)(rb m:Nat)(ks Ns:List Nat):Prop where
 row:w.heap[rb]?=some (.cells (ks.map ptB).toArray 124)
 len:ks.length=Ns.length
 sb:∀ i k N:Nat,ks[i]?=some k->Ns[i]?=some N->SB w k m N
 nd:∀ i j k:Nat,ks[i]?=some k->ks[j]?=some k->i=j
theorem RwB.cell {w:World}{rb m:Nat}{ks Ns:List Nat}(h:RwB w rb m ks Ns){i k:Nat}(hk:ks[i]?=some k):w.cell? ⟨rb,i,none⟩=some (.pointer (some ⟨k+1,0,none⟩)):=by
 rw [cQa h.row]
 simp [hk,ptB]
theorem RwB.at {w:World}{rb m:Nat}{ks Ns:List Nat}(h:RwB w rb m ks Ns){i:Nat}(hi:i < Ns.length):∃ k,ks[i]?=some k/\SB w k m (Ns.getD i 0):=by
 have hk:i < ks.length:=by rw [h.len];exact hi
 refine ⟨_,List.getElem?_eq_getElem hk,h.sb i _ _ (List.getElem?_eq_getElem hk) ?_⟩
 rw [List.getD_eq_getElem?_getD,List.getElem?_eq_getElem hi]
 rfl
theorem RwB.rne {w:World}{rb m:Nat}{ks Ns:List Nat}(h:RwB w rb m ks Ns){i k:Nat}(hk:ks[i]?=some k):rb≠k:=by
 intro e
 have hi:i < Ns.length:=by rw [<- h.len];exact (List.getElem?_eq_some_iff.1 hk).1
 have hs:=h.sb i k _ hk (List.getElem?_eq_getElem hi)
 have a:=h.row
 rw [e,hs.wd] at a
 simp only [Option.some.injEq,Obj.cells.injEq] at a
 exact absurd a.2.1 (by decide)
theorem RwB.frB {X:Nat->Prop}{w w':World}{rb m:Nat}{ks Ns:List Nat}(h:RwB w rb m ks Ns)(hf:FrB X w w')(h0:¬ X rb)(h1:∀ k∈ks,¬ X k/\¬ X (k+1)):RwB w' rb m ks Ns :=
 ⟨(hf.block _ (lt_of_block h.row) h0).trans h.row,h.len,fun i k N hk hN=>(h.sb i k N hk hN).frB hf (h1 k (List.mem_of_getElem? hk)).1 (h1 k (List.mem_of_getElem? hk)).2,h.nd⟩
theorem RwB.later {w w':World}{rb m:Nat}{ks Ns:List Nat}(h:RwB w rb m ks Ns)(hb:Below w.heap.size w w'):RwB w' rb m ks Ns:=h.frB (X:=fun _=>False) (Below.frB hb) (fun q=>q) (fun _ _=>⟨fun q=>q,fun q=>q⟩)
theorem RwB.turn {w w':World}{rb m:Nat}{ks Ns:List Nat}(h:RwB w rb m ks Ns){i k M:Nat}(hk:ks[i]?=some k)(hs:SB w' k m M)(hf:FrB (·=k) w w'):RwB w' rb m ks (Ns.set i M):=by
 have hi:i < Ns.length:=by rw [<- h.len];exact (List.getElem?_eq_some_iff.1 hk).1
 have hs0:=h.sb i k _ hk (List.getElem?_eq_getElem hi)
 refine ⟨(hf.block _ (lt_of_block h.row) (h.rne hk)).trans h.row,by rw [List.length_set];exact h.len,fun j k' N hk' hN=>?_,h.nd⟩
 rw [List.getElem?_set] at hN
 by_cases e:i=j
 ·subst e
  rw [if_pos rfl,if_pos hi] at hN
  rw [hk] at hk'
  cases hk'
  cases hN
  exact hs
 ·rw [if_neg e] at hN
  have hs':=h.sb j k' N hk' hN
  refine hs'.frB hf (fun q=>?_) (hs0.apart hs')
  have q':k'=k:=q
  subst q'
  exact e (h.nd i j k' hk hk')
def ksE (b n:Nat):List Nat:=(List.range n).map fun i=>b+1+2*i
theorem ksE_get {b n i:Nat}(h:i < n):(ksE b n)[i]?=some (b+1+2*i):=by
 unfold ksE
 rw [List.getElem?_map,List.getElem?_range h]
 rfl
theorem ksE_len (b n:Nat):(ksE b n).length=n:=by simp [ksE]
theorem infoPB:∃ i,Tryz.prog.info? 124=some i/\i.zero=some (.pointer none)/\i.size=1/\i.bytes=8:=by
 have h:(Tryz.prog.info? 124).map (fun i=>(i.zero,i.size,i.bytes))=some (some (.pointer none),1,8):=by kernel_rfl
 cases e:Tryz.prog.info? 124 with
 | none=>rw [e] at h;cases h
 | some i=>rw [e] at h;simp at h;exact ⟨i,rfl,h⟩
theorem make_pB (n:Nat)(hn:n<=1048576)(w:World):(Instr.makeSlice 105 (.int .i64 (n:Int)) (.int .i64 (n:Int))).run Tryz.prog w=.ok (.slice (some ⟨w.heap.size,0,none⟩) n n) (w.alloc (.cells (madeCells #[.pointer none] n) 124)):=by
 obtain ⟨i0,hi,hz0,hz1,hz2⟩:=infoPB
 have:=run_makeSlice w 105 124 i0 (.pointer none) Tryz.underlying105 hi hz0 .i64 .i64 (n:Int) (n:Int) (by omega) (by omega) (by rw [hz1];simp;omega) (by rw [hz2];omega) (by omega)
 rw [hz1] at this
 simpa [Value.cells] using this
structure EmB (w:World)(m n i:Nat)(wr:World):Prop where
 row:wr.heap[w.heap.size]?=some (.cells ((ksE w.heap.size i).map ptB++List.replicate (n - i) (Value.pointer none)).toArray 124)
 size:wr.heap.size=w.heap.size+1+2*i
 sb:∀ j,j < i->SB wr (w.heap.size+1+2*j) m 0
 bel:Below w.heap.size w wr
theorem EmB.next {w wr w1:World}{m n i:Nat}(h:EmB w m n i wr)(hi:i < n)(hs:SB w1 wr.heap.size m 0)(hb:Below wr.heap.size wr w1)(hz:w1.heap.size=wr.heap.size+2):EmB w m n (i+1) (w1.setCell ⟨w.heap.size,i,none⟩ (ptB wr.heap.size)):=by
 have hsz:=h.size
 have r1:w1.heap[w.heap.size]?=some (.cells ((ksE w.heap.size i).map ptB++List.replicate (n - i) (Value.pointer none)).toArray 124):=(hb.block _ (by omega)).trans h.row
 refine ⟨?_,?_,fun j hj=>?_,?_⟩
 ·rw [hSt r1 i (ptB wr.heap.size),List.setIfInBounds_toArray]
  congr 3
  rw [hsz]
  apply List.ext_getElem?
  intro j
  rw [List.getElem?_set]
  have hl:((ksE w.heap.size i).map ptB).length=i:=by rw [List.length_map,ksE_len]
  have hl2:((ksE w.heap.size (i+1)).map ptB).length=i+1:=by rw [List.length_map,ksE_len]
  by_cases e:i=j
  ·subst e
   rw [if_pos rfl,if_pos (by rw [List.length_append,hl,List.length_replicate];omega),List.getElem?_append_left (by omega),List.getElem?_map,ksE_get (by omega)]
   rfl
  ·rw [if_neg e]
   rcases Nat.lt_or_ge j i with q | q
   ·rw [List.getElem?_append_left (by omega),List.getElem?_append_left (by omega),List.getElem?_map,List.getElem?_map,ksE_get q,ksE_get (by omega)]
   ·rw [List.getElem?_append_right (by omega),List.getElem?_append_right (by omega),hl,hl2,List.getElem?_replicate,List.getElem?_replicate]
    by_cases z:j - i < n - i
    ·rw [if_pos z,if_pos (by omega)]
    ·rw [if_neg z,if_neg (by omega)]
 ·have:=(frB_setCell w1 w.heap.size i (ptB wr.heap.size)).size
  have e2:(w1.setCell ⟨w.heap.size,i,none⟩ (ptB wr.heap.size)).heap.size=w1.heap.size:=by simp
  rw [e2,hz,hsz]
  omega
 ·have hf:=frB_setCell w1 w.heap.size i (ptB wr.heap.size)
  by_cases e:j=i
  ·subst e
   rw [<- hsz]
   exact hs.frB hf (by omega) (by omega)
  ·exact ((h.sb j (by omega)).later hb).frB hf (by omega) (by omega)
 ·exact (h.bel.trans (hb.mono h.bel.size)).setCell (p:=⟨w.heap.size,i,none⟩) (Nat.le_refl _) _
theorem EmB.old {w wr w1:World}{m n i:Nat}(h:EmB w m n i wr)(hi:i < n)(hb:Below wr.heap.size wr w1):w1.cell? ⟨w.heap.size,i,none⟩=some (.pointer none):=by
 have:=(hb.block _ (by have:=h.size;omega)).trans h.row
 rw [cQa this]
 have hl:((ksE w.heap.size i).map ptB).length=i:=by rw [List.length_map,ksE_len]
 simp only [List.getElem?_toArray]
 rw [List.getElem?_append_right (by omega),hl,List.getElem?_replicate,if_pos (by omega)]
theorem EmB.fin {w wr:World}{m n:Nat}(h:EmB w m n n wr):RwB wr w.heap.size m (ksE w.heap.size n) (List.replicate n 0):=by
 refine ⟨?_,by rw [ksE_len,List.length_replicate],fun i k N hk hN=>?_,fun i j k hi hj=>?_⟩
 ·have:=h.row
  rw [Nat.sub_self,List.replicate_zero,List.append_nil] at this
  exact this
 ·have hi:i < n:=by have:=(List.getElem?_eq_some_iff.1 hk).1;rwa [ksE_len] at this
  rw [ksE_get hi] at hk
  rw [List.getElem?_replicate,if_pos hi] at hN
  cases hk
  cases hN
  exact h.sb i hi
 ·have hi':i < n:=by have:=(List.getElem?_eq_some_iff.1 hi).1;rwa [ksE_len] at this
  have hj':j < n:=by have:=(List.getElem?_eq_some_iff.1 hj).1;rwa [ksE_len] at this
  rw [ksE_get hi'] at hi
  rw [ksE_get hj',<- hi] at hj
  simp only [Option.some.injEq] at hj
  omega
set_option maxRecDepth 100000 in
set_option maxHeartbeats 4000000 in
theorem empties_SB (n m:Nat)(hn:n<=4096)(hm:m<=4096)(w:World):Calls Tryz.prog 83 #[.int .i64 (n:Int),.int .i64 (m:Int)] w fun e w'=>e=.returned (.slice (some ⟨w.heap.size,0,none⟩) n n)/\RwB w' w.heap.size m (ksE w.heap.size n) (List.replicate n 0)/\Below w.heap.size w w':=by
 have hmk:=make_pB n (by omega)
 have E0:Hid (EmB w m n 0 (w.alloc (.cells (madeCells #[.pointer none] n) 124))):=by
  refine ⟨?_,by simp,fun j hj=>absurd hj (Nat.not_lt_zero j),bAl w _⟩
  rw [heap_alloc_new,made_listB]
  rfl
 have HEM:Hid (∀ wr,Calls Tryz.prog 97 #[.int .i64 (m:Int)] wr fun e w'=>e=.returned (.pointer (some ⟨wr.heap.size+1,0,none⟩))/\SB w' wr.heap.size m 0/\Below wr.heap.size wr w'/\w'.heap.size=wr.heap.size+2):=fun wr=>empty_SB m hm wr
 go_enter Tryz.func83,Tryz.ntmps83
 go_wp2
 clear hmk
 go_loopw [11] (fun z wr=>∃ i:Nat,i<=n/\z=.int .i64 (i:Int)/\EmB w m n i wr) (fun z _=>n - (intOf z).toNat)
 case atStart=>exact ⟨0,Nat.zero_le _,rfl,E0.out⟩
 case round =>
  clear E0
  obtain ⟨i,hi,rfl,hE⟩:=hrel
  by_cases hlt:i < n
  ·have ilt:(i:Int) < (n:Int):=by omega
   have HE:Hid (EmB w m n i wr):=hE
   have CC:Hid (∀ w1,Below wr.heap.size wr w1->w1.cell? ⟨w.heap.size,i,none⟩=some (.pointer none)):=fun w1 b1=>hE.old hlt b1
   have FZ:Hid (∀ w1,Below wr.heap.size wr w1->w1.frozen? ⟨w.heap.size,i,none⟩=false):=fun w1 b1=>by
    have:=(b1.block _ (by have:=hE.size;omega)).trans hE.row
    simp [World.frozen?,this]
   clear hE
   go_wp2_with (go_at_call 97;refine (HEM.out wr).mono ?_;rintro e w1 ⟨rfl,s1,b1,z1⟩;have HN:Hid (EmB w m n (i+1) (w1.setCell ⟨w.heap.size,i,none⟩ (ptB wr.heap.size))):=HE.out.next hlt s1 b1 z1;have fz:w1.frozen? ⟨w.heap.size,i,none⟩=false:=FZ.out w1 b1;have cc:=CC.out w1 b1;clear s1 b1 z1)
   go_roundw
   case rel=>exact ⟨i+1,by omega,by go_num,HN.out⟩
   case measure=>simp [intOf];omega
  ·obtain rfl:i=n:=by omega
   have ilt:¬ (i:Int) < (i:Int):=by omega
   have HE:Hid (RwB wr w.heap.size m (ksE w.heap.size i) (List.replicate i 0)/\Below w.heap.size w wr):=⟨hE.fin,hE.bel⟩
   clear hE
   go_wp2
   go_ret
   exact ⟨rfl,HE.out.1,HE.out.2⟩
def lkB (D n:Nat):Nat:=((List.range n).find? fun j=>D.testBit j).getD n
theorem lkB_is (D n:Nat):LackR D n 0 (lkB D n):=by
 unfold lkB
 cases h:(List.range n).find? fun j=>D.testBit j with
 | none =>
  refine ⟨Nat.le_refl _,fun q=>absurd q (Nat.lt_irrefl _),fun j _ hj=>?_⟩
  have:=List.find?_eq_none.1 h j (List.mem_range.2 hj)
  simpa using this
 | some r =>
  have h1:D.testBit r=true:=by simpa using List.find?_some h
  have h2:r < n:=List.mem_range.1 (List.mem_of_find?_eq_some h)
  refine ⟨Nat.le_of_lt h2,fun _=>⟨Nat.zero_le _,h1⟩,fun j _ hj=>?_⟩
  have hjr:j < r:=hj
  obtain ⟨_,A0,B0,e,hno⟩:=List.find?_eq_some_iff_append.1 h
  have hj2:j∈A0:=by
   have hlen:A0.length=r:=by
    have hr:(List.range n)[A0.length]?=some r:=by rw [e,List.getElem?_append_right (Nat.le_refl _),Nat.sub_self];rfl
    have hl:A0.length < n:=by
     have:=(List.getElem?_eq_some_iff.1 hr).1
     simpa using this
    rw [List.getElem?_range hl] at hr
    exact Option.some.inj hr
   have hg:(List.range n)[j]?=some j:=List.getElem?_range (by omega)
   rw [e,List.getElem?_append_left (by omega)] at hg
   exact List.mem_of_getElem? hg
  simpa using hno j hj2
structure SrB where
 path:List Nat
 left:List Nat
 seen:Nat
def lvN (Ns:List Nat)(n:Nat)(s:SrB):SrB :=
 match s.path with
 | []=>s
 | x :: p=>if lkB (mB_ (Ns.getD x 0) s.seen) n < n then ⟨lkB (mB_ (Ns.getD x 0) s.seen) n :: x :: p,s.left,addN s.seen (lkB (mB_ (Ns.getD x 0) s.seen) n)⟩ else ⟨p,s.left++[x],s.seen⟩
def lvF (Ns:List Nat)(n:Nat):Nat->SrB->SrB
 | 0,s=>s
 | f+1,s=>if s.path=[] then s else lvF Ns n f (lvN Ns n s)
def mesV (n:Nat)(s:SrB):Nat:=2*(n - popB s.seen n)+s.path.length
theorem popB_addN {N x n:Nat}(hx:x < n)(h:N.testBit x=false):popB (addN N x) n=popB N n+1:=by
 have key:∀ k,popB (addN N x) k=popB N k+(if x < k then 1 else 0):=by
  intro k
  induction k with
  | zero=>rfl
  | succ k ih =>
   show popB (addN N x) k+((addN N x).testBit k).toNat=popB N k+(N.testBit k).toNat+_
   rw [ih,addN_bit]
   by_cases e:x=k
   ·subst e
    rw [h,if_neg (Nat.lt_irrefl _),if_pos (Nat.lt_succ_self _)]
    simp
   ·rw [decide_eq_false e,Bool.or_false]
    by_cases q:x < k
    ·rw [if_pos q,if_pos (by omega)];omega
    ·rw [if_neg q,if_neg (by omega)];omega
 rw [key n,if_pos hx]
theorem lvN_less {Ns:List Nat}{n:Nat}{s:SrB}(h:s.path≠[]):mesV n (lvN Ns n s) < mesV n s:=by
 obtain ⟨p,l,S⟩:=s
 cases p with
 | nil=>exact absurd rfl h
 | cons x p =>
  unfold lvN mesV
  have hk:=lkB_is (mB_ (Ns.getD x 0) S) n
  simp only
  by_cases q:lkB (mB_ (Ns.getD x 0) S) n < n
  ·rw [if_pos q]
   have hb:=(hk.is q).2
   rw [minusB_bit] at hb
   have hf:S.testBit (lkB (mB_ (Ns.getD x 0) S) n)=false:=by
    cases e:S.testBit (lkB (mB_ (Ns.getD x 0) S) n) with
    | false=>rfl
    | true=>rw [e] at hb;simp at hb
   have hp:=popB_addN q hf
   have hle:=popB_le (addN S (lkB (mB_ (Ns.getD x 0) S) n)) n
   simp only [List.length_cons]
   omega
  ·rw [if_neg q]
   simp only [List.length_cons]
   omega
theorem lvF_any {Ns:List Nat}{n:Nat}:∀ (f g:Nat) (s:SrB),mesV n s<=f->mesV n s<=g->lvF Ns n f s=lvF Ns n g s
 | 0,0,_,_,_=>rfl
 | 0,g+1,s,h,_=>by
  have e:s.path=[]:=List.eq_nil_of_length_eq_zero (by unfold mesV at h;omega)
  rw [lvF,lvF,if_pos e]
 | f+1,0,s,_,h=>by
  have e:s.path=[]:=List.eq_nil_of_length_eq_zero (by unfold mesV at h;omega)
  rw [lvF,lvF,if_pos e]
 | f+1,g+1,s,h,h'=>by
  rw [lvF,lvF]
  by_cases e:s.path=[]
  ·rw [if_pos e,if_pos e]
  ·rw [if_neg e,if_neg e]
   have:=lvN_less (Ns:=Ns) (n:=n) e
   exact lvF_any f g _ (by omega) (by omega)
def lvU (Ns:List Nat)(n:Nat)(s:SrB):SrB:=lvF Ns n (mesV n s) s
theorem lvU_step {Ns:List Nat}{n:Nat}{s:SrB}(h:s.path≠[]):lvU Ns n s=lvU Ns n (lvN Ns n s):=by
 unfold lvU
 have:=lvN_less (Ns:=Ns) (n:=n) h
 obtain ⟨f,hf⟩:∃ f,mesV n s=f+1:=⟨mesV n s - 1,by omega⟩
 rw [hf,lvF,if_neg h]
 exact lvF_any _ _ _ (by omega) (Nat.le_refl _)
theorem lvU_end {Ns:List Nat}{n:Nat}{s:SrB}(h:s.path=[]):lvU Ns n s=s:=by
 unfold lvU
 cases mesV n s with
 | zero=>rfl
 | succ f=>rw [lvF,if_pos h]
def nI (l:List Nat):List Int:=l.map fun (x:Nat)=>(x:Int)
def stB (p:List Nat):List Int:=nI p.reverse
theorem stB_cons (x:Nat)(p:List Nat):stB (x :: p)=stB p++[(x:Int)]:=by simp [stB,nI]
theorem stB_len (p:List Nat):(stB p).length=p.length:=by simp [stB,nI]
theorem nI_snoc (l:List Nat)(x:Nat):nI (l++[x])=nI l++[(x:Int)]:=by simp [nI]
theorem nI_len (l:List Nat):(nI l).length=l.length:=by simp [nI]
theorem IL.popB {wr:World}{v:Value}{D:List Int}{x:Int}(h:IL wr v (D++[x])):∃ b c,v=.slice (some ⟨b,0,none⟩) (D.length+1) c/\D.length+1<=c/\wr.cell? ⟨b,D.length,none⟩=some (.int .i64 x)/\IL wr (.slice (some ⟨b,0,none⟩) D.length c) D:=by
 unfold IL at h
 rw [show (D++[x]).length=D.length+1 by simp] at h
 rcases h.2 with ⟨_,h0⟩ | ⟨b,cap,cur,rfl,h1,h2,h3,h4,h5,h6⟩
 ·omega
 ·refine ⟨b,cap,rfl,h3,?_,⟨by simp,.inr ⟨b,cap,cur,rfl,h1,h2,by omega,h4,h5,?_⟩⟩⟩
  ·rw [World.ownsRow.cellAt h D.length (by omega)]
   simp
  ·have e:cur.toList.take (D.length*1)=(cur.toList.take ((D.length+1)*1)).take D.length:=by rw [List.take_take];congr 1;omega
   rw [e,h6]
   simp
theorem slice_toB (b lc len i:Nat)(hi:i<=lc)(w:World):(Instr.slice 36 (.slice (some ⟨b,0,none⟩) len lc) none (some (.int .i64 (i:Int))) none).run Tryz.prog w=.ok (.slice (some ⟨b,0,none⟩) i lc) w:=by
 obtain ⟨i0,hinf,_,hz1,_⟩:=infoInt_parts
 have hu:Tryz.prog.underlying 36=some (.slice (Tryz.prog.elem 36)):=by kernel_rfl
 have he:Tryz.prog.elem 36=3:=by kernel_rfl
 have:=run_slice_h (P:=Tryz.prog) (w:=w) 36 (some ⟨b,0,none⟩) len lc hu .i64 (i:Int) (by omega) (by omega)
 rw [this,he]
 simp [sizeOf,typeInfo,hinf,hz1]
 unfold sliced
 split<;>simp [aNn]
structure LvB (w:World)(rb n:Nat)(ks Ns:List Nat)(kS:Nat)(s:SrB)(vl vp:Value)(wr:World):Prop where
 l:IL wr vl (nI s.left)
 p:IL wr vp (stB s.path)
 lo:∀ j,vl.ownBlock=some j->w.heap.size<=j
 po:∀ j,vp.ownBlock=some j->w.heap.size<=j
 ne:∀ j,vl.ownBlock=some j->vp.ownBlock≠some j
 rw:RwB wr rb n ks Ns
 sb:SB wr kS n s.seen
 kl:kS+1 < w.heap.size
 rl:rb < w.heap.size
 nk:∀ k∈ks,k≠kS
 fr:FrB (·=kS) w wr
 tab:TabB wr
 pin:∀ x∈s.path,x < n
 kIn:∀ k∈ks,k+1 < w.heap.size
 gNe:tzRen.g 1≠kS/\tzRen.g 1 < w.heap.size
theorem LvB.any {w wr w':World}{rb n kS:Nat}{ks Ns:List Nat}{s:SrB}{vl vp:Value}(h:LvB w rb n ks Ns kS s vl vp wr)(hb:Below wr.heap.size wr w'):LvB w rb n ks Ns kS s vl vp w' :=
 ⟨h.l.later hb,h.p.later hb,h.lo,h.po,h.ne,h.rw.later hb,h.sb.later hb,h.kl,h.rl,h.nk,h.fr.trans (Below.frB hb),h.tab.later hb,h.pin,h.kIn,h.gNe⟩
theorem LvB.push {w wr w1 w2 w4:World}{rb n kS r:Nat}{ks Ns:List Nat}{s:SrB}{vl vp v':Value}(h:LvB w rb n ks Ns kS s vl vp wr)(hr:r < n)(hs:SB w1 kS n (addN s.seen r))(hf:FrB (·=kS) wr w1)(hb:Below w1.heap.size w1 w2)(hg:Grew w2 w4 vp v')(hi:IL w4 v' (stB s.path++[(r:Int)])):LvB w rb n ks Ns kS ⟨r :: s.path,s.left,addN s.seen r⟩ vl v' w4:=by
 have hws:=h.fr.size
 have hkl:=h.kl
 have hrl:=h.rl
 have hz1:=hf.size
 have hz2:=hb.size
 have f1:FrB (fun j=>j=kS∨vp.ownBlock=some j) wr w4:=by
  refine ⟨hg.grown.os.trans (hb.os.trans hf.os),hg.grown.tape.trans (hb.tape.trans hf.tape),hg.grown.output.trans (hb.output.trans hf.output),by have:=hg.grown.size;omega,fun j hj hx=>?_⟩
  rw [hg.grown.block j (by omega) (fun e=>hx (.inr e.symm)),hb.block j (by omega),hf.block j hj (fun e=>hx (.inl e))]
 have keep:∀ j,j < w.heap.size->j≠kS->¬ (j=kS∨vp.ownBlock=some j):=fun j hj hk q=>by
  rcases q with q | q
  ·exact hk q
  ·have:=h.po j q;omega
 refine ⟨?_,by rw [stB_cons];exact hi,h.lo,?_,?_,?_,?_,hkl,hrl,h.nk,?_,?_,?_,h.kIn,h.gNe⟩
 ·have hl:=h.l
  rcases hl.2 with ⟨q1,q2⟩ | ⟨g,cap,cur,rfl,h1,h2,h3⟩
  ·exact ⟨hl.1,.inl ⟨q1,q2⟩⟩
  ·have hge:=h.lo g rfl
   refine ⟨hl.1,.inr ⟨g,cap,cur,rfl,h1,?_,h3⟩⟩
   rw [f1.block g (lt_of_block h2) (fun q=>by
    rcases q with q | q
    ·omega
    ·exact h.ne g rfl q)]
   exact h2
 ·intro j hj
  rcases hg.moved with e | ⟨i,e,hi2⟩
  ·exact h.po j (by rw [<- e];exact hj)
  ·rw [e] at hj
   simp at hj
   omega
 ·intro j hj hj2
  rcases hg.moved with e | ⟨i,e,hi2⟩
  ·exact h.ne j hj (by rw [<- e];exact hj2)
  ·rw [e] at hj2
   have hlt:=(World.ownsRow.lt h.l j hj).2
   simp at hj2
   omega
 ·refine h.rw.frB f1 (keep rb hrl ?_) (fun k hk=>⟨?_,?_⟩)
  ·intro e
   have a:=h.rw.row
   rw [e,h.sb.wd] at a
   simp only [Option.some.injEq,Obj.cells.injEq] at a
   exact absurd a.2.1 (by decide)
  ·obtain ⟨i,hi3⟩:=List.getElem?_of_mem hk
   have hi4:i < Ns.length:=by rw [<- h.rw.len];exact (List.getElem?_eq_some_iff.1 hi3).1
   have hsb:=h.rw.sb i k _ hi3 (List.getElem?_eq_getElem hi4)
   exact fun q=>by
    rcases q with q | q
    ·exact h.nk k hk q
    ·exact absurd (h.kIn k hk) (by have:=h.po k q;omega)
  ·obtain ⟨i,hi3⟩:=List.getElem?_of_mem hk
   have hi4:i < Ns.length:=by rw [<- h.rw.len];exact (List.getElem?_eq_some_iff.1 hi3).1
   have hsb:=h.rw.sb i k _ hi3 (List.getElem?_eq_getElem hi4)
   exact fun q=>by
    rcases q with q | q
    ·exact (h.sb.apart hsb) q
    ·exact absurd (h.kIn k hk) (by have:=h.po (k+1) q;omega)
 ·have s2:=hs.later hb
  refine ⟨?_,?_,s2.lt,s2.ml⟩
  ·rw [hg.grown.block (kS+1) (by omega) (fun e=>by have:=h.po (kS+1) e.symm;omega)]
   exact s2.hd
  ·rw [hg.grown.block kS (by omega) (fun e=>by have:=h.po kS e.symm;omega)]
   exact s2.wd
 ·exact ⟨f1.os.trans h.fr.os,f1.tape.trans h.fr.tape,f1.output.trans h.fr.output,Nat.le_trans h.fr.size f1.size,fun j hj hx=>(f1.block j (Nat.lt_of_lt_of_le hj h.fr.size) (keep j hj hx)).trans (h.fr.block j hj hx)⟩
 ·exact h.tab.frB (X:=fun j=>j=kS∨vp.ownBlock=some j) f1 (fun j q e=>by
   subst e
   exact keep _ h.gNe.2 h.gNe.1 q)
 ·intro x hx
  rcases List.mem_cons.1 hx with rfl | hx
  ·exact hr
  ·exact h.pin x hx
theorem LvB.leave {w wr w2 w4:World}{rb n kS x:Nat}{p:List Nat}{ks Ns:List Nat}{l:List Nat}{S:Nat}{vl vp v' vp':Value}(h:LvB w rb n ks Ns kS ⟨x :: p,l,S⟩ vl vp wr)(hb:Below wr.heap.size wr w2)(hg:Grew w2 w4 vl v')(hi:IL w4 v' (nI l++[(x:Int)]))(hp:IL wr vp' (stB p))(ho:vp'.ownBlock=vp.ownBlock):LvB w rb n ks Ns kS ⟨p,l++[x],S⟩ v' vp' w4:=by
 have hws:=h.fr.size
 have hkl:=h.kl
 have hrl:=h.rl
 have hz2:=hb.size
 have f1:FrB (fun j=>vl.ownBlock=some j) wr w4:=by
  refine ⟨hg.grown.os.trans hb.os,hg.grown.tape.trans hb.tape,hg.grown.output.trans hb.output,by have:=hg.grown.size;omega,fun j hj hx=>?_⟩
  rw [hg.grown.block j (by omega) (fun e=>hx e.symm),hb.block j (by omega)]
 have keep:∀ j,j < w.heap.size->¬ vl.ownBlock=some j:=fun j hj q=>by have:=h.lo j q;omega
 refine ⟨by rw [nI_snoc];exact hi,?_,?_,fun j hj=>h.po j (by rw [<- ho];exact hj),?_,?_,?_,hkl,hrl,h.nk,?_,?_,fun y hy=>h.pin y (List.mem_cons_of_mem _ hy),h.kIn,h.gNe⟩
 ·exact hp.kept (fun j hj=>f1.block j (World.ownsRow.lt hp j hj).2 (fun q=>h.ne j q (by rw [<- ho];exact hj)))
 ·intro j hj
  rcases hg.moved with e | ⟨i,e,hi2⟩
  ·exact h.lo j (by rw [<- e];exact hj)
  ·rw [e] at hj
   simp at hj
   omega
 ·intro j hj hj2
  rcases hg.moved with e | ⟨i,e,hi2⟩
  ·exact h.ne j (by rw [<- e];exact hj) (by rw [<- ho];exact hj2)
  ·rw [e] at hj
   have hlt:=(World.ownsRow.lt hp j hj2).2
   simp at hj
   omega
 ·exact h.rw.frB f1 (keep rb hrl) (fun k hk=>⟨keep k (by have:=h.kIn k hk;omega),keep (k+1) (h.kIn k hk)⟩)
 ·exact h.sb.frB f1 (keep kS (by omega)) (keep (kS+1) hkl)
 ·exact ⟨f1.os.trans h.fr.os,f1.tape.trans h.fr.tape,f1.output.trans h.fr.output,Nat.le_trans h.fr.size f1.size,fun j hj hx=>(f1.block j (Nat.lt_of_lt_of_le hj h.fr.size) (keep j hj)).trans (h.fr.block j hj hx)⟩
 ·exact h.tab.frB (X:=fun j=>vl.ownBlock=some j) f1 (fun j q e=>by
   subst e
   exact keep _ h.gNe.2 q)
theorem lvN_cons (Ns:List Nat)(n x:Nat)(p l:List Nat)(S:Nat):lvN Ns n ⟨x :: p,l,S⟩=if lkB (mB_ (Ns.getD x 0) S) n < n then ⟨lkB (mB_ (Ns.getD x 0) S) n :: x :: p,l,addN S (lkB (mB_ (Ns.getD x 0) S) n)⟩ else ⟨p,l++[x],S⟩:=rfl
end Go.Proofs.YtockbobpmiagiaaGreatDoor
