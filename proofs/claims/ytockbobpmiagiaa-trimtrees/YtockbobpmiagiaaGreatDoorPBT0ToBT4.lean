import Derived.Test.YtockbobpmiagiaaGreatDoorPRRowToRegS
import Derived.Laws.Bits64b
namespace Go.Proofs.YtockbobpmiagiaaGreatDoor
set_option linter.unusedVariables false
open Go.RowKit
def nwB (m:Nat):Nat:=m / 64+1
def wdB (N i:Nat):Nat:=N / 2 ^ (64*i) % 18446744073709551616
def wdsB (N m:Nat):List Nat:=(List.range (nwB m)).map (wdB N)
theorem wdB_lt (N i:Nat):wdB N i < 18446744073709551616:=Nat.mod_lt _ (by decide)
theorem wdB_bit (N i j:Nat):(wdB N i).testBit j=(decide (j < 64) && N.testBit (64*i+j)):=by
 unfold wdB
 rw [show (18446744073709551616:Nat)=2 ^ 64 from rfl,Nat.testBit_mod_two_pow,Nat.testBit_div_two_pow]
 congr 2
 omega
theorem wdsB_len (N m:Nat):(wdsB N m).length=nwB m:=by simp [wdsB]
theorem wdsB_get (N m:Nat){i:Nat}(h:i < nwB m):(wdsB N m)[i]?=some (wdB N i):=by
 unfold wdsB
 rw [List.getElem?_map,List.getElem?_range h]
 rfl
def addN (N x:Nat):Nat:=N ||| 2 ^ x
theorem addN_bit (N x j:Nat):(addN N x).testBit j=(N.testBit j || decide (x=j)):=by
 unfold addN
 rw [Nat.testBit_or,Nat.testBit_two_pow]
theorem addN_lt {N x m:Nat}(h:N < 2 ^ m)(hx:x < m):addN N x < 2 ^ m:=Nat.or_lt_two_pow h (Nat.pow_lt_pow_right (by decide) hx)
theorem bit_ext {a b:Nat}(h:∀ j,a.testBit j=b.testBit j):a=b:=Nat.eq_of_testBit_eq h
theorem word_ext {a b:Nat}(ha:a < 18446744073709551616)(hb:b < 18446744073709551616)(h:∀ j,j < 64->a.testBit j=b.testBit j):a=b:=by
 apply Nat.eq_of_testBit_eq
 intro j
 by_cases q:j < 64
 ·exact h j q
 ·have e:(18446744073709551616:Nat)<=2 ^ j:=by
   have:2 ^ 64<=2 ^ j:=Nat.pow_le_pow_right (by decide) (by omega)
   exact this
  rw [Nat.testBit_lt_two_pow (Nat.lt_of_lt_of_le ha e),Nat.testBit_lt_two_pow (Nat.lt_of_lt_of_le hb e)]
theorem wd_add_same (N x:Nat):wdB (addN N x) (x / 64)=wdB N (x / 64) ||| 2 ^ (x % 64):=by
 have hl:2 ^ (x % 64) < 2 ^ 64:=Nat.pow_lt_pow_right (by decide) (Nat.mod_lt _ (by decide))
 refine word_ext (wdB_lt _ _) (Nat.or_lt_two_pow (n:=64) (wdB_lt _ _) hl) (fun j hj=>?_)
 rw [wdB_bit,addN_bit,Nat.testBit_or,wdB_bit,Nat.testBit_two_pow]
 simp only [hj,decide_true,Bool.true_and]
 congr 1
 apply decide_eq_decide.2
 omega
theorem wd_add_other (N x:Nat){i:Nat}(h:i≠x / 64):wdB (addN N x) i=wdB N i:=by
 refine word_ext (wdB_lt _ _) (wdB_lt _ _) (fun j hj=>?_)
 rw [wdB_bit,addN_bit,wdB_bit]
 simp only [hj,decide_true,Bool.true_and]
 rw [decide_eq_false (by omega),Bool.or_false]
theorem wds_add (N x m:Nat):wdsB (addN N x) m=(wdsB N m).set (x / 64) (wdB N (x / 64) ||| 2 ^ (x % 64)):=by
 apply List.ext_getElem?
 intro i
 rw [List.getElem?_set]
 by_cases hi:i < nwB m
 ·rw [wdsB_get _ _ hi,wdsB_get _ _ hi]
  by_cases e:x / 64=i
  ·subst e
   rw [if_pos rfl,if_pos (by rw [wdsB_len];exact hi),wd_add_same]
  ·rw [if_neg e,wd_add_other N x (fun q=>e q.symm)]
 ·have h1:(wdsB (addN N x) m)[i]?=none:=List.getElem?_eq_none (by rw [wdsB_len];omega)
  have h2:(wdsB N m)[i]?=none:=List.getElem?_eq_none (by rw [wdsB_len];omega)
  rw [h1,h2]
  by_cases e:x / 64=i
  ·rw [if_pos e,if_neg (by rw [wdsB_len];omega)]
  ·rw [if_neg e]
structure FrB (X:Nat->Prop)(w w':World):Prop where
 os:w'.os=w.os
 tape:w'.tape=w.tape
 output:w'.output=w.output
 size:w.heap.size<=w'.heap.size
 block:∀ j,j < w.heap.size->¬ X j->w'.heap[j]?=w.heap[j]?
theorem Below.frB {X:Nat->Prop}{w w':World}(h:Below w.heap.size w w'):FrB X w w':=⟨h.os,h.tape,h.output,h.size,fun j hj _=>h.block j hj⟩
theorem FrB.trans {X:Nat->Prop}{a b c:World}(h:FrB X a b)(h':FrB X b c):FrB X a c:=⟨h'.os.trans h.os,h'.tape.trans h.tape,h'.output.trans h.output,Nat.le_trans h.size h'.size,fun j hj hx=>(h'.block j (Nat.lt_of_lt_of_le hj h.size) hx).trans (h.block j hj hx)⟩
theorem FrB.mono {X Y:Nat->Prop}{a b:World}(h:FrB X a b)(hxy:∀ j,j < a.heap.size->X j->Y j):FrB Y a b:=⟨h.os,h.tape,h.output,h.size,fun j hj hy=>h.block j hj (fun hx=>hy (hxy j hj hx))⟩
theorem FrB.below {X:Nat->Prop}{n:Nat}{a b c:World}(h:Below n a b)(h':FrB X b c)(hn:n<=b.heap.size)(hX:∀ j,X j->n<=j):Below n a c :=
 ⟨h'.os.trans h.os,h'.tape.trans h.tape,h'.output.trans h.output,Nat.le_trans h.size h'.size,fun j hj=>(h'.block j (Nat.lt_of_lt_of_le hj hn) (fun q=>by have:=hX j q;omega)).trans (h.block j hj)⟩
theorem frB_setCell (w:World)(k i:Nat)(v:Value):FrB (·=k) w (w.setCell ⟨k,i,none⟩ v):=by
 have hb:=(Below.refl 0 w).setCell (p:=⟨k,i,none⟩) (Nat.zero_le _) v
 exact ⟨hb.os,hb.tape,hb.output,hb.size,fun j _ hj=>Below.heap_setCell _ _ _ _ (by show j≠k;exact hj)⟩
def wCells (N m:Nat):List Value:=(wdsB N m).map fun (x:Nat)=>Value.int .u64 (x:Int)
structure SB (w:World)(k m N:Nat):Prop where
 hd:w.heap[k+1]?=some (.cells #[.int .i64 (m:Int),.slice (some ⟨k,0,none⟩) (nwB m) (nwB m)] 138)
 wd:w.heap[k]?=some (.cells (wCells N m).toArray 135)
 lt:N < 2 ^ m
 ml:m<=4096
theorem SB.size {w:World}{k m N:Nat}(h:SB w k m N):k+1 < w.heap.size:=lt_of_block h.hd
theorem SB.frB {X:Nat->Prop}{w w':World}{k m N:Nat}(h:SB w k m N)(hf:FrB X w w')(h0:¬ X k)(h1:¬ X (k+1)):SB w' k m N :=
 ⟨(hf.block _ h.size h1).trans h.hd,(hf.block _ (Nat.lt_of_succ_lt h.size) h0).trans h.wd,h.lt,h.ml⟩
theorem SB.later {w w':World}{k m N:Nat}(h:SB w k m N)(hb:Below w.heap.size w w'):SB w' k m N:=h.frB (X:=fun _=>False) (Below.frB hb) (fun q=>q) (fun q=>q)
theorem SB.cells {w:World}{k m N:Nat}(h:SB w k m N):w.cell? ⟨k+1,0,none⟩=some (.int .i64 (m:Int))/\w.cell? ⟨k+1,1,none⟩=some (.slice (some ⟨k,0,none⟩) (nwB m) (nwB m)):=⟨(cQa h.hd).trans rfl,(cQa h.hd).trans rfl⟩
theorem SB.word {w:World}{k m N:Nat}(h:SB w k m N){i:Nat}(hi:i < nwB m):w.cell? ⟨k,i,none⟩=some (.int .u64 (wdB N i:Int)):=by
 rw [cQa h.wd]
 simp only [wCells,List.getElem?_toArray,List.getElem?_map,wdsB_get _ _ hi,Option.map_some]
theorem SB.free {w:World}{k m N:Nat}(h:SB w k m N)(i:Nat):w.frozen? ⟨k,i,none⟩=false:=by
 simp [World.frozen?,h.wd]
set_option maxRecDepth 100000 in
set_option maxHeartbeats 2000000 in
theorem below_SB (x n:Int)(w:World):Calls Tryz.prog 84 #[.int .i64 x,.int .i64 n] w fun e w'=>e=.returned (.bool (decide (0<=x) && decide (x < n)))/\w'=w:=by
 by_cases h:0<=x
 ·have e1:decide (0<=x)=true:=decide_eq_true h
  rw [e1]
  go_enter Tryz.func84,Tryz.ntmps84
  go_wp2
  go_ret
  exact ⟨by simp,rfl⟩
 ·have e1:decide (0<=x)=false:=decide_eq_false h
  rw [e1]
  go_enter Tryz.func84,Tryz.ntmps84
  go_wp2
  go_ret
  exact ⟨by simp,rfl⟩
set_option maxRecDepth 100000 in
set_option maxHeartbeats 2000000 in
theorem allowed_SB (n:Int)(w:World):Calls Tryz.prog 82 #[.int .i64 n] w fun e w'=>e=.returned (.bool (decide (0<=n) && decide (n<=4096)))/\w'=w:=by
 by_cases h:0<=n
 ·have e1:decide (0<=n)=true:=decide_eq_true h
  rw [e1]
  go_enter Tryz.func82,Tryz.ntmps82
  go_wp2
  go_ret
  exact ⟨by simp,rfl⟩
 ·have e1:decide (0<=n)=false:=decide_eq_false h
  rw [e1]
  go_enter Tryz.func82,Tryz.ntmps82
  go_wp2
  go_ret
  exact ⟨by simp,rfl⟩
set_option maxRecDepth 100000 in
set_option maxHeartbeats 2000000 in
theorem size_SB {w:World}{k m N:Nat}(h:SB w k m N):Calls Tryz.prog 98 #[.pointer (some ⟨k+1,0,none⟩)] w fun e w'=>e=.returned (.int .i64 (m:Int))/\w'=w:=by
 obtain ⟨c0,c1⟩:=h.cells
 clear h
 go_enter Tryz.func98,Tryz.ntmps98
 go_wp2
 go_ret
 exact ⟨rfl,rfl⟩
set_option maxRecDepth 100000 in
set_option maxHeartbeats 2000000 in
theorem held_SB {w:World}{k m N:Nat}(h:SB w k m N):Calls Tryz.prog 101 #[.pointer (some ⟨k+1,0,none⟩)] w fun e w'=>e=.returned (.slice (some ⟨k,0,none⟩) (nwB m) (nwB m))/\w'=w:=by
 obtain ⟨c0,c1⟩:=h.cells
 clear h
 go_enter Tryz.func101,Tryz.ntmps101
 go_wp2
 go_ret
 exact ⟨rfl,rfl⟩
theorem u64_in {x:Int}(h0:0<=x)(h1:x < 18446744073709551616):IntKind.u64.wrap x=x:=by
 simp only [IntKind.wrap,IntKind.signed,IntKind.bits]
 exact Int.emod_eq_of_lt h0 h1
theorem pow_nat (j:Nat):((2 ^ j:Nat):Int)=(2:Int) ^ j:=by simp
theorem pow_wrap (n:Nat):IntKind.u64.wrap ((2:Int) ^ (n % 64))=((2 ^ (n % 64):Nat):Int):=by
 rw [<- pow_nat]
 have hl:2 ^ (n % 64) < 2 ^ 64:=Nat.pow_lt_pow_right (by decide) (Nat.mod_lt _ (by decide))
 generalize 2 ^ (n % 64)=P at hl ⊢
 exact u64_in (by omega) (by have:(2:Nat) ^ 64=18446744073709551616:=rfl;omega)
set_option maxRecDepth 100000 in
set_option maxHeartbeats 2000000 in
theorem bit_SB (n:Nat)(hn:n<=1000000)(w:World):Calls Tryz.prog 100 #[.int .i64 (n:Int)] w fun e w'=>e=.returned (.int .u64 ((2 ^ (n % 64):Nat):Int))/\w'=w:=by
 go_enter Tryz.func100,Tryz.ntmps100
 go_wp2
 go_ret
 exact ⟨by rw [pow_wrap];rfl,rfl⟩
theorem wdB_far {N m i:Nat}(h:N < 2 ^ m)(hi:nwB m<=i):wdB N i=0:=by
 unfold wdB
 have:N < 2 ^ (64*i):=Nat.lt_of_lt_of_le h (Nat.pow_le_pow_right (by decide) (by unfold nwB at hi;omega))
 rw [Nat.div_eq_of_lt this]
theorem nwB_le {m:Nat}(h:m<=4096):nwB m<=65:=by unfold nwB;omega
set_option maxRecDepth 100000 in
set_option maxHeartbeats 2000000 in
theorem wordAt_SB (k n c i:Nat)(x:Nat)(w:World)(h:i < n->w.cell? ⟨k,i,none⟩=some (.int .u64 (x:Int)))(h0:¬ i < n->x=0)(hn:n<=1000000):Calls Tryz.prog 129 #[.slice (some ⟨k,0,none⟩) n c,.int .i64 (i:Int)] w fun e w'=>e=.returned (.int .u64 (x:Int))/\w'=w:=by
 by_cases hi:i < n
 ·have c0:=h hi
  have hi2:(i:Int) < (n:Int):=by omega
  clear h h0
  go_enter Tryz.func129,Tryz.ntmps129
  go_wp2
  go_ret
  exact ⟨rfl,rfl⟩
 ·have e:=h0 hi
  subst e
  have hi2:¬ (i:Int) < (n:Int):=by omega
  clear h h0
  go_enter Tryz.func129,Tryz.ntmps129
  go_wp2
  go_ret
  exact ⟨rfl,rfl⟩
theorem SB.wordAt {w:World}{k m N:Nat}(h:SB w k m N)(i:Nat):Calls Tryz.prog 129 #[.slice (some ⟨k,0,none⟩) (nwB m) (nwB m),.int .i64 (i:Int)] w fun e w'=>e=.returned (.int .u64 (wdB N i:Int))/\w'=w :=
 wordAt_SB k (nwB m) (nwB m) i (wdB N i) w (fun hi=>h.word hi) (fun hi=>wdB_far h.lt (by omega)) (by have:=nwB_le h.ml;omega)
def roomB (m i:Nat):Nat:=if i < m / 64 then 18446744073709551615 else 2 ^ (m % 64) - 1
theorem infoU64:∃ i,Tryz.prog.info? 135=some i/\i.zero=some (.int .u64 0)/\i.size=1/\i.bytes=8:=by
 have h:(Tryz.prog.info? 135).map (fun i=>(i.zero,i.size,i.bytes))=some (some (.int .u64 0),1,8):=by kernel_rfl
 cases e:Tryz.prog.info? 135 with
 | none=>rw [e] at h;cases h
 | some i=>rw [e] at h;simp at h;exact ⟨i,rfl,h⟩
theorem make_u64 (n:Nat)(hn:n<=1048576)(w:World):(Instr.makeSlice 136 (.int .i64 (n:Int)) (.int .i64 (n:Int))).run Tryz.prog w=.ok (.slice (some ⟨w.heap.size,0,none⟩) n n) (w.alloc (.cells (madeCells #[.int .u64 0] n) 135)):=by
 obtain ⟨i0,hi,hz0,hz1,hz2⟩:=infoU64
 have:=run_makeSlice w 136 135 i0 (.int .u64 0) Tryz.underlying136 hi hz0 .i64 .i64 (n:Int) (n:Int) (by omega) (by omega) (by rw [hz1];simp;omega) (by rw [hz2];omega) (by omega)
 rw [hz1] at this
 simpa [Value.cells] using this
theorem made_listB (z:Value)(n:Nat):madeCells #[z] n=(List.replicate n z).toArray:=by
 apply Array.toList_inj.1
 exact toList_madeCells_one z n
theorem wCells_zero (m:Nat):wCells 0 m=List.replicate (nwB m) (.int .u64 0):=by
 apply List.ext_getElem?
 intro i
 unfold wCells
 by_cases hi:i < nwB m
 ·rw [List.getElem?_map,wdsB_get _ _ hi,List.getElem?_replicate,if_pos hi]
  simp [wdB]
 ·rw [List.getElem?_eq_none (by rw [List.length_map,wdsB_len];omega),List.getElem?_eq_none (by rw [List.length_replicate];omega)]
theorem SB.made (w:World)(m:Nat)(hm:m<=4096):SB ((w.alloc (.cells (madeCells #[.int .u64 0] (nwB m)) 135)).alloc (.cells #[.int .i64 (m:Int),.slice (some ⟨w.heap.size,0,none⟩) (nwB m) (nwB m)] 138)) w.heap.size m 0:=by
 refine ⟨?_,?_,Nat.two_pow_pos _,hm⟩
 ·have:=heap_alloc_new (w.alloc (.cells (madeCells #[.int .u64 0] (nwB m)) 135)) (.cells #[.int .i64 (m:Int),.slice (some ⟨w.heap.size,0,none⟩) (nwB m) (nwB m)] 138)
  rwa [show (w.alloc (.cells (madeCells #[.int .u64 0] (nwB m)) 135)).heap.size=w.heap.size+1 by simp] at this
 ·rw [(bAl (w.alloc (.cells (madeCells #[.int .u64 0] (nwB m)) 135)) _).block _ (by simp),heap_alloc_new,made_listB,wCells_zero]
set_option maxRecDepth 100000 in
set_option maxHeartbeats 2000000 in
theorem empty_SB (m:Nat)(hm:m<=4096)(w:World):Calls Tryz.prog 97 #[.int .i64 (m:Int)] w fun e w'=>e=.returned (.pointer (some ⟨w.heap.size+1,0,none⟩))/\SB w' w.heap.size m 0/\Below w.heap.size w w'/\w'.heap.size=w.heap.size+2:=by
 have HS:Hid (SB ((w.alloc (.cells (madeCells #[.int .u64 0] (nwB m)) 135)).alloc (.cells #[.int .i64 (m:Int),.slice (some ⟨w.heap.size,0,none⟩) (nwB m) (nwB m)] 138)) w.heap.size m 0):=SB.made w m hm
 have hmk:=make_u64 (nwB m) (by have:=nwB_le hm;omega)
 have e1:((nwB m:Nat):Int)=(m:Int) / 64+1:=by unfold nwB;omega
 rw [e1] at hmk
 have B1:Hid (Below w.heap.size w ((w.alloc (.cells (madeCells #[.int .u64 0] (nwB m)) 135)).alloc (.cells #[.int .i64 (m:Int),.slice (some ⟨w.heap.size,0,none⟩) (nwB m) (nwB m)] 138))):=(bAl w _).alloc (bAl w _).size _
 clear e1
 generalize nwB m=n at *
 go_enter Tryz.func97,Tryz.ntmps97
 go_wp2
 go_ret
 exact ⟨rfl,HS.out,B1.out,by simp⟩
theorem and_bit {a j:Nat}(h:a < 18446744073709551616)(hj:j < 64):(a &&& 2 ^ j=0)=(a.testBit j=false):=by
 apply propext
 constructor
 ·intro e
  have:(a &&& 2 ^ j).testBit j=false:=by rw [e];exact Nat.zero_testBit j
  rw [Nat.testBit_and,Nat.testBit_two_pow] at this
  simpa using this
 ·intro e
  apply Nat.eq_of_testBit_eq
  intro i
  rw [Nat.testBit_and,Nat.testBit_two_pow,Nat.zero_testBit]
  by_cases q:j=i
  ·subst q;rw [e];rfl
  ·simp [q]
set_option maxRecDepth 100000 in
set_option maxHeartbeats 4000000 in
theorem has_yes {w:World}{k m N:Nat}(h:SB w k m N)(n:Nat)(hx:n < m):Calls Tryz.prog 99 #[.pointer (some ⟨k+1,0,none⟩),.int .i64 (n:Int)] w fun e w'=>e=.returned (.bool (N.testBit n))/\Below w.heap.size w w':=by
 have hml:=h.ml
 have SZ:Hid (∀ w',w'=w.drew->Calls Tryz.prog 98 #[.pointer (some ⟨k+1,0,none⟩)] w' fun e w''=>e=.returned (.int .i64 (m:Int))/\w''=w.drew):=fun w' e=>by
  subst e
  exact size_SB (h.later (Below.refl _ _).drew)
 have BL:Hid (∀ w',w'=w.drew->Calls Tryz.prog 84 #[.int .i64 (n:Int),.int .i64 (m:Int)] w' fun e w''=>e=.returned (.bool true)/\w''=w.drew):=fun w' e=>by
  subst e
  have:=below_SB (n:Int) (m:Int) w.drew
  rwa [decide_eq_true (show (0:Int)<=(n:Int) by omega),decide_eq_true (show (n:Int) < (m:Int) by omega)] at this
 have BI:Hid (∀ w',w'=w.drew->Calls Tryz.prog 100 #[.int .i64 (n:Int)] w' fun e w''=>e=.returned (.int .u64 ((2 ^ (n % 64):Nat):Int))/\w''=w.drew):=fun w' e=>by
  subst e
  exact bit_SB n (by omega) w.drew
 obtain ⟨-,c1⟩:=(h.later (Below.refl _ _).drew).cells
 have hni:n / 64 < nwB m:=by unfold nwB;omega
 have c2:=(h.later (Below.refl _ _).drew).word hni
 have E:Hid ((wdB N (n / 64) &&& 2 ^ (n % 64)=0)=(N.testBit n=false)):=by
  show _=_
  rw [and_bit (wdB_lt _ _) (Nat.mod_lt _ (by decide)),wdB_bit,decide_eq_true (Nat.mod_lt n (show 0 < 64 by decide)),Bool.true_and,Nat.div_add_mod]
 have hP:2 ^ (n % 64) < 18446744073709551616:=Nat.pow_lt_pow_right (n:=64) (by decide) (Nat.mod_lt _ (by decide))
 obtain ⟨q,hq⟩:∃ q,n / 64=q:=⟨_,rfl⟩
 have hq2:(n:Int) / 64=(q:Int):=by omega
 have wq:IntKind.i64.wrap (q:Int)=(q:Int):=IntWalk.i64_in _ ⟨by omega,by omega⟩
 rw [hq] at c2 hni E
 have l1:(q:Int) < ((nwB m:Nat):Int):=by omega
 have hW:=wdB_lt N q
 generalize wdB N q=W at *
 generalize 2 ^ (n % 64)=P at *
 clear h hx hq
 go_enter Tryz.func99,Tryz.ntmps99
 go_wp2
 refine wp_region_q (C:=fun w'=>w'=w.drew) (by kernel_rfl) (by kernel_rfl) rfl ?_
 refine qt_yes (v:=?_) (by rfl) ?_ ?_
 rotate_left
 ·(intro w hSw;clear hSw;go_simp;with_reducible rfl)
 (try simp only [Act.put,List.setIfInBounds_toArray,List.set_cons_zero,List.set_cons_succ])
 refine qt_yes (v:=?_) (by rfl) ?_ ?_
 rotate_left
 ·(intro w hSw;clear hSw;go_simp;with_reducible rfl)
 (try simp only [Act.put,List.setIfInBounds_toArray,List.set_cons_zero,List.set_cons_succ])
 refine qt_call (v:=.int .i64 (m:Int)) 98 #[.pointer (some ⟨k+1,0,none⟩)] (by rfl) (by intro w hSw;clear hSw;go_simp) SZ.out ?_
 (try simp only [Act.put,List.setIfInBounds_toArray,List.set_cons_zero,List.set_cons_succ])
 refine qt_call (v:=.bool true) 84 #[.int .i64 (n:Int),.int .i64 (m:Int)] (by rfl) (by intro w hSw;clear hSw;go_simp) BL.out ?_
 (try simp only [Act.put,List.setIfInBounds_toArray,List.set_cons_zero,List.set_cons_succ])
 refine qt_yes (v:=?_) (by rfl) ?_ ?_
 rotate_left
 ·(intro w hSw;clear hSw;go_simp;with_reducible rfl)
 (try simp only [Act.put,List.setIfInBounds_toArray,List.set_cons_zero,List.set_cons_succ])
 refine qt_yes (v:=?_) (by rfl) ?_ ?_
 rotate_left
 ·(intro w hSw;rw [hSw];clear hSw;go_simp;with_reducible rfl)
 (try simp only [Act.put,List.setIfInBounds_toArray,List.set_cons_zero,List.set_cons_succ])
 refine qt_yes (v:=?_) (by rfl) ?_ ?_
 rotate_left
 ·(intro w hSw;rw [hSw];clear hSw;go_simp;with_reducible rfl)
 (try simp only [Act.put,List.setIfInBounds_toArray,List.set_cons_zero,List.set_cons_succ])
 refine qt_yes (v:=?_) (by rfl) ?_ ?_
 rotate_left
 ·(intro w hSw;rw [hSw];clear hSw;go_simp;with_reducible rfl)
 (try simp only [Act.put,List.setIfInBounds_toArray,List.set_cons_zero,List.set_cons_succ])
 refine qt_yes (v:=?_) (by rfl) ?_ ?_
 rotate_left
 ·(intro w hSw;rw [hSw];clear hSw;go_simp;with_reducible rfl)
 (try simp only [Act.put,List.setIfInBounds_toArray,List.set_cons_zero,List.set_cons_succ])
 refine qt_yes (v:=?_) (by rfl) ?_ ?_
 rotate_left
 ·(intro w hSw;rw [hSw];clear hSw;go_simp;with_reducible rfl)
 (try simp only [Act.put,List.setIfInBounds_toArray,List.set_cons_zero,List.set_cons_succ])
 refine qt_yes (v:=?_) (by rfl) ?_ ?_
 rotate_left
 ·(intro w hSw;rw [hSw];clear hSw;go_simp;with_reducible rfl)
 (try simp only [Act.put,List.setIfInBounds_toArray,List.set_cons_zero,List.set_cons_succ])
 refine qt_yes (v:=?_) (by rfl) ?_ ?_
 rotate_left
 ·(intro w hSw;rw [hSw];clear hSw;go_simp;with_reducible rfl)
 (try simp only [Act.put,List.setIfInBounds_toArray,List.set_cons_zero,List.set_cons_succ])
 refine qt_yes (v:=?_) (by rfl) ?_ ?_
 rotate_left
 ·(intro w hSw;rw [hSw];clear hSw;go_simp;with_reducible rfl)
 (try simp only [Act.put,List.setIfInBounds_toArray,List.set_cons_zero,List.set_cons_succ])
 refine qt_yes (v:=?_) (by rfl) ?_ ?_
 rotate_left
 ·(intro w hSw;rw [hSw];clear hSw;go_simp;with_reducible rfl)
 (try simp only [Act.put,List.setIfInBounds_toArray,List.set_cons_zero,List.set_cons_succ])
 refine qt_call (v:=.int .u64 (P:Int)) 100 #[.int .i64 (n:Int)] (by rfl) (by intro w hSw;clear hSw;go_simp) BI.out ?_
 (try simp only [Act.put,List.setIfInBounds_toArray,List.set_cons_zero,List.set_cons_succ])
 refine qt_yes (v:=?_) (by rfl) ?_ ?_
 rotate_left
 ·(intro w hSw;rw [hSw];clear hSw;go_simp;with_reducible rfl)
 (try simp only [Act.put,List.setIfInBounds_toArray,List.set_cons_zero,List.set_cons_succ])
 refine qt_yes (v:=?_) (by rfl) ?_ ?_
 rotate_left
 ·(intro w hSw;rw [hSw];clear hSw;go_simp;with_reducible rfl)
 (try simp only [Act.put,List.setIfInBounds_toArray,List.set_cons_zero,List.set_cons_succ])
 refine qt_yes (v:=?_) (by rfl) ?_ ?_
 rotate_left
 ·(intro w hSw;rw [hSw];clear hSw;go_simp;with_reducible rfl)
 (try simp only [Act.put,List.setIfInBounds_toArray,List.set_cons_zero,List.set_cons_succ])
 refine qt_yes (v:=?_) (by rfl) ?_ ?_
 rotate_left
 ·(intro w hSw;rw [hSw];clear hSw;go_simp;with_reducible rfl)
 (try simp only [Act.put,List.setIfInBounds_toArray,List.set_cons_zero,List.set_cons_succ])
 refine qt_nil ?_
 intro w' hw'
 subst hw'
 go_wp2
 go_ret
 refine ⟨?_,(Below.refl _ _).drew⟩
 show Ending.returned (Value.bool (bits BinOp.and IntKind.u64 (W:Int) (P:Int) != 0))=_
 rw [bits_and_u64_nat W P hW hP]
 congr 2
 have e:=E.out
 cases hb:N.testBit n with
 | true =>
  rw [hb] at e
  have:¬ W &&& P=0:=fun z=>by rw [z] at e;simp at e
  simpa using this
 | false =>
  rw [hb] at e
  have:W &&& P=0:=by rw [e]
  simp [this]
theorem SB.set {w:World}{k m N M:Nat}(h:SB w k m N)(i:Nat)(x:Nat)(hw:wdsB M m=(wdsB N m).set i x)(hM:M < 2 ^ m):SB (w.setCell ⟨k,i,none⟩ (.int .u64 (x:Int))) k m M:=by
 refine ⟨?_,?_,hM,h.ml⟩
 ·rw [Below.heap_setCell _ _ _ _ (show k+1≠k by omega)]
  exact h.hd
 ·rw [hSt h.wd i (.int .u64 (x:Int)),List.setIfInBounds_toArray]
  unfold wCells
  rw [hw,List.map_set]
set_option maxRecDepth 100000 in
set_option maxHeartbeats 4000000 in
theorem add_new {w:World}{k m N:Nat}(h:SB w k m N)(n:Nat)(hx:n < m)(hn:N.testBit n=false):Calls Tryz.prog 85 #[.pointer (some ⟨k+1,0,none⟩),.int .i64 (n:Int)] w fun e w'=>e=.returned (.bool true)/\SB w' k m (addN N n)/\FrB (·=k) w w':=by
 have hml:=h.ml
 have SZ:Hid (Calls Tryz.prog 98 #[.pointer (some ⟨k+1,0,none⟩)] w fun e w''=>e=.returned (.int .i64 (m:Int))/\w''=w):=size_SB h
 have BL:Hid (Calls Tryz.prog 84 #[.int .i64 (n:Int),.int .i64 (m:Int)] w fun e w''=>e=.returned (.bool true)/\w''=w):=by
  have:=below_SB (n:Int) (m:Int) w
  rwa [decide_eq_true (show (0:Int)<=(n:Int) by omega),decide_eq_true (show (n:Int) < (m:Int) by omega)] at this
 have HS:Hid (Calls Tryz.prog 99 #[.pointer (some ⟨k+1,0,none⟩),.int .i64 (n:Int)] w fun e w''=>e=.returned (.bool false)/\Below w.heap.size w w''):=by
  have:=has_yes h n hx
  rwa [hn] at this
 have HB:Hid (SB w k m N):=h
 have hni:n / 64 < nwB m:=by unfold nwB;omega
 have hP:2 ^ (n % 64) < 18446744073709551616:=Nat.pow_lt_pow_right (n:=64) (by decide) (Nat.mod_lt _ (by decide))
 have HW:Hid (wdsB (addN N n) m=(wdsB N m).set (n / 64) (wdB N (n / 64) ||| 2 ^ (n % 64))):=wds_add N n m
 have BI0:Hid (∀ w',Calls Tryz.prog 100 #[.int .i64 (n:Int)] w' fun e w''=>e=.returned (.int .u64 ((2 ^ (n % 64):Nat):Int))/\w''=w'):=fun w'=>bit_SB n (by omega) w'
 have HL:Hid (addN N n < 2 ^ m):=addN_lt h.lt hx
 obtain ⟨q,hq⟩:∃ q,n / 64=q:=⟨_,rfl⟩
 have hq2:(n:Int) / 64=(q:Int):=by omega
 have wq:IntKind.i64.wrap (q:Int)=(q:Int):=IntWalk.i64_in _ ⟨by omega,by omega⟩
 rw [hq] at hni HW
 have l1:(q:Int) < ((nwB m:Nat):Int):=by omega
 have hW:=wdB_lt N q
 obtain ⟨W,hWe⟩:∃ W,wdB N q=W:=⟨_,rfl⟩
 rw [hWe] at HW hW
 have HWe:Hid (wdB N q=W):=hWe
 generalize 2 ^ (n % 64)=P at *
 have eO:=bits_or_u64_nat W P hW hP
 clear h hx hq hWe hn
 go_enter Tryz.func85,Tryz.ntmps85
 go_wp2_with (first
  | (go_at_call 98;refine SZ.out.mono ?_;rintro e w1 ⟨rfl,hz⟩;rw [hz];clear hz w1)
  | (go_at_call 84;refine BL.out.mono ?_;rintro e w1 ⟨rfl,hz⟩;rw [hz];clear hz w1)
  | (go_at_call 99;refine HS.out.mono ?_;rintro e w1 ⟨rfl,b1⟩;have B1:Hid (Below w.heap.size w w1):=b1;clear b1))
 obtain ⟨wd,hwd⟩:∃ wd:World,wd=w1.drew:=⟨_,rfl⟩
 have BD:Hid (Below w.heap.size w wd):=by rw [hwd];exact B1.out.drew
 have HD:Hid (SB wd k m N):=HB.out.later BD.out
 have BI:Hid (Calls Tryz.prog 100 #[.int .i64 (n:Int)] wd fun e w''=>e=.returned (.int .u64 (P:Int))/\w''=wd):=BI0.out wd
 obtain ⟨-,c1⟩:=HD.out.cells
 have c2:=HD.out.word hni
 rw [HWe.out] at c2
 have fz:=HD.out.free q
 have SU:Hid (SB (wd.setCell ⟨k,q,none⟩ (.int .u64 ((W ||| P:Nat):Int))) k m (addN N n)):=HD.out.set q _ HW.out HL.out
 have FU:Hid (FrB (·=k) w (wd.setCell ⟨k,q,none⟩ (.int .u64 ((W ||| P:Nat):Int)))):=(Below.frB BD.out).trans (frB_setCell wd k q _)
 refine wp_region_tail_s 12 (by kernel_rfl) (by kernel_rfl) wd hwd ?_
 clear hwd B1 BI0 SZ BL HS HB
 simp only [List.take_succ_cons,List.take_zero,List.drop_succ_cons,List.drop_zero]
 refine st_yes (v:=?_) (by rfl) ?_ ?_
 rotate_left
 ·(go_simp;with_reducible rfl)
 (try simp only [Act.put,List.setIfInBounds_toArray,List.set_cons_zero,List.set_cons_succ])
 refine st_yes (v:=?_) (by rfl) ?_ ?_
 rotate_left
 ·(go_simp;with_reducible rfl)
 (try simp only [Act.put,List.setIfInBounds_toArray,List.set_cons_zero,List.set_cons_succ])
 refine st_yes (v:=?_) (by rfl) ?_ ?_
 rotate_left
 ·(go_simp;with_reducible rfl)
 (try simp only [Act.put,List.setIfInBounds_toArray,List.set_cons_zero,List.set_cons_succ])
 refine st_yes (v:=?_) (by rfl) ?_ ?_
 rotate_left
 ·(go_simp;with_reducible rfl)
 (try simp only [Act.put,List.setIfInBounds_toArray,List.set_cons_zero,List.set_cons_succ])
 refine st_yes (v:=?_) (by rfl) ?_ ?_
 rotate_left
 ·(go_simp;with_reducible rfl)
 (try simp only [Act.put,List.setIfInBounds_toArray,List.set_cons_zero,List.set_cons_succ])
 refine st_yes (v:=?_) (by rfl) ?_ ?_
 rotate_left
 ·(go_simp;with_reducible rfl)
 (try simp only [Act.put,List.setIfInBounds_toArray,List.set_cons_zero,List.set_cons_succ])
 refine st_yes (v:=?_) (by rfl) ?_ ?_
 rotate_left
 ·(go_simp;with_reducible rfl)
 (try simp only [Act.put,List.setIfInBounds_toArray,List.set_cons_zero,List.set_cons_succ])
 refine st_yes (v:=?_) (by rfl) ?_ ?_
 rotate_left
 ·(go_simp;with_reducible rfl)
 (try simp only [Act.put,List.setIfInBounds_toArray,List.set_cons_zero,List.set_cons_succ])
 refine st_yes (v:=?_) (by rfl) ?_ ?_
 rotate_left
 ·(go_simp;with_reducible rfl)
 (try simp only [Act.put,List.setIfInBounds_toArray,List.set_cons_zero,List.set_cons_succ])
 refine st_call (v:=.int .u64 (P:Int)) 100 #[.int .i64 (n:Int)] (by rfl) (by go_simp) BI.out ?_
 (try simp only [Act.put,List.setIfInBounds_toArray,List.set_cons_zero,List.set_cons_succ])
 refine st_yes (v:=?_) (by rfl) ?_ ?_
 rotate_left
 ·(go_simp;with_reducible rfl)
 (try simp only [Act.put,List.setIfInBounds_toArray,List.set_cons_zero,List.set_cons_succ])
 refine st_yes (v:=?_) (by rfl) ?_ ?_
 rotate_left
 ·(go_simp;with_reducible rfl)
 (try simp only [Act.put,List.setIfInBounds_toArray,List.set_cons_zero,List.set_cons_succ])
 refine st_nil ?_
 go_wp2
 go_ret
 exact ⟨rfl,SU.out,FU.out⟩
set_option maxRecDepth 100000 in
set_option maxHeartbeats 4000000 in
theorem add_old {w:World}{k m N:Nat}(h:SB w k m N)(n:Nat)(hx:n < m)(hn:N.testBit n=true):Calls Tryz.prog 85 #[.pointer (some ⟨k+1,0,none⟩),.int .i64 (n:Int)] w fun e w'=>e=.returned (.bool false)/\Below w.heap.size w w':=by
 have SZ:Hid (Calls Tryz.prog 98 #[.pointer (some ⟨k+1,0,none⟩)] w fun e w''=>e=.returned (.int .i64 (m:Int))/\w''=w):=size_SB h
 have BL:Hid (Calls Tryz.prog 84 #[.int .i64 (n:Int),.int .i64 (m:Int)] w fun e w''=>e=.returned (.bool true)/\w''=w):=by
  have:=below_SB (n:Int) (m:Int) w
  rwa [decide_eq_true (show (0:Int)<=(n:Int) by omega),decide_eq_true (show (n:Int) < (m:Int) by omega)] at this
 have HS:Hid (Calls Tryz.prog 99 #[.pointer (some ⟨k+1,0,none⟩),.int .i64 (n:Int)] w fun e w''=>e=.returned (.bool true)/\Below w.heap.size w w''):=by
  have:=has_yes h n hx
  rwa [hn] at this
 clear h hx hn
 go_enter Tryz.func85,Tryz.ntmps85
 go_wp2_with (first
  | (go_at_call 98;refine SZ.out.mono ?_;rintro e w1 ⟨rfl,hz⟩;rw [hz];clear hz w1)
  | (go_at_call 84;refine BL.out.mono ?_;rintro e w1 ⟨rfl,hz⟩;rw [hz];clear hz w1)
  | (go_at_call 99;refine HS.out.mono ?_;rintro e w1 ⟨rfl,b1⟩;have B1:Hid (Below w.heap.size w w1):=b1;clear b1))
 go_ret
 exact ⟨rfl,B1.out⟩
set_option maxRecDepth 100000 in
set_option maxHeartbeats 4000000 in
theorem add_far {w:World}{k m N:Nat}(h:SB w k m N)(x:Int)(hx:(decide (0<=x) && decide (x < (m:Int)))=false):Calls Tryz.prog 85 #[.pointer (some ⟨k+1,0,none⟩),.int .i64 x] w fun e w'=>e=.returned (.bool false)/\Below w.heap.size w w':=by
 have SZ:Hid (Calls Tryz.prog 98 #[.pointer (some ⟨k+1,0,none⟩)] w fun e w''=>e=.returned (.int .i64 (m:Int))/\w''=w):=size_SB h
 have BL:Hid (Calls Tryz.prog 84 #[.int .i64 x,.int .i64 (m:Int)] w fun e w''=>e=.returned (.bool false)/\w''=w):=by
  have:=below_SB x (m:Int) w
  rwa [hx] at this
 clear h hx
 go_enter Tryz.func85,Tryz.ntmps85
 go_wp2_with (first
  | (go_at_call 98;refine SZ.out.mono ?_;rintro e w1 ⟨rfl,hz⟩;rw [hz];clear hz w1)
  | (go_at_call 84;refine BL.out.mono ?_;rintro e w1 ⟨rfl,hz⟩;rw [hz];clear hz w1))
 go_ret
 exact ⟨rfl,Below.refl _ _⟩
def addX (N m:Nat)(x:Int):Nat:=if 0<=x/\x < (m:Int) then addN N x.toNat else N
theorem addN_in {N x:Nat}(h:N.testBit x=true):addN N x=N:=by
 apply bit_ext
 intro j
 rw [addN_bit]
 by_cases q:x=j
 ·subst q;rw [h];rfl
 ·simp [q]
theorem add_SB {w:World}{k m N:Nat}(h:SB w k m N)(x:Int):Calls Tryz.prog 85 #[.pointer (some ⟨k+1,0,none⟩),.int .i64 x] w fun e w'=>e=.returned (.bool (decide (0<=x/\x < (m:Int)) && !N.testBit x.toNat))/\SB w' k m (addX N m x)/\FrB (·=k) w w':=by
 by_cases hx:0<=x/\x < (m:Int)
 ·obtain ⟨n,rfl⟩:∃ n:Nat,x=(n:Int):=⟨x.toNat,by omega⟩
  have e1:addX N m (n:Int)=addN N n:=by unfold addX;rw [if_pos hx];rfl
  rw [e1,decide_eq_true hx,Int.toNat_natCast]
  cases hb:N.testBit n with
  | true =>
   refine (add_old h n (by omega) hb).mono fun e w' ⟨q1,q2⟩=>⟨q1,?_,Below.frB q2⟩
   rw [addN_in hb]
   exact h.later q2
  | false=>exact add_new h n (by omega) hb
 ·have e1:addX N m x=N:=by unfold addX;rw [if_neg hx]
  rw [e1,decide_eq_false hx]
  refine (add_far h x (by rw [<- Bool.decide_and];exact decide_eq_false hx)).mono fun e w' ⟨q1,q2⟩=>⟨q1,h.later q2,Below.frB q2⟩
theorem bits_andNot_u64_nat (a b:Nat)(ha:a < 18446744073709551616)(hb:b < 18446744073709551616):bits .andNot .u64 (a:Int) (b:Int)=((a &&& (18446744073709551615 - b):Nat):Int):=by
 have hx:a &&& (18446744073709551615 - b) < 2 ^ 64:=Nat.and_lt_two_pow _ (by omega)
 have h1:(BitVec.ofInt 64 (a:Int)).toNat=a:=by
  rw [BitVec.ofInt_natCast,BitVec.toNat_ofNat];exact Nat.mod_eq_of_lt (by omega)
 have h2:(BitVec.ofInt 64 (b:Int)).toNat=b:=by
  rw [BitVec.ofInt_natCast,BitVec.toNat_ofNat];exact Nat.mod_eq_of_lt (by omega)
 show IntKind.u64.wrap ((BitVec.ofInt 64 (a:Int) &&& ~~~ BitVec.ofInt 64 (b:Int)).toNat:Int)=_
 rw [BitVec.toNat_and,BitVec.toNat_not,h1,h2,IntKind.wrap_u64]
 show (((a &&& (18446744073709551616 - 1 - b):Nat):Int)) % 18446744073709551616=_
 rw [show 18446744073709551616 - 1 - b=18446744073709551615 - b by omega]
 omega
def mB_ (N M:Nat):Nat:=N ^^^ (N &&& M)
theorem minusB_bit (N M j:Nat):(mB_ N M).testBit j=(N.testBit j && !M.testBit j):=by
 unfold mB_
 rw [Nat.testBit_xor,Nat.testBit_and]
 cases N.testBit j<;>cases M.testBit j<;>rfl
theorem wd_or (N M i:Nat):wdB (N ||| M) i=wdB N i ||| wdB M i:=by
 refine word_ext (wdB_lt _ _) (Nat.or_lt_two_pow (n:=64) (wdB_lt _ _) (wdB_lt _ _)) (fun j hj=>?_)
 rw [wdB_bit,Nat.testBit_or,Nat.testBit_or,wdB_bit,wdB_bit]
 simp [hj]
theorem not_bit {b j:Nat}(hb:b < 18446744073709551616)(hj:j < 64):(18446744073709551615 - b).testBit j=!b.testBit j:=by
 have:=Nat.testBit_two_pow_sub_succ (n:=64) hb j
 rw [show 2 ^ 64 - (b+1)=18446744073709551615 - b by omega] at this
 rw [this]
 simp [hj]
theorem wd_minus (N M i:Nat):wdB (mB_ N M) i=wdB N i &&& (18446744073709551615 - wdB M i):=by
 refine word_ext (wdB_lt _ _) (Nat.and_lt_two_pow (n:=64) _ (by omega)) (fun j hj=>?_)
 rw [wdB_bit,minusB_bit,Nat.testBit_and,not_bit (wdB_lt _ _) hj,wdB_bit,wdB_bit]
 simp [hj]
theorem wd_room (X m i:Nat)(hi:i < nwB m):wdB (X % 2 ^ m) i=wdB X i &&& roomB m i:=by
 have hr:roomB m i < 2 ^ 64:=by
  unfold roomB
  split
  ·decide
  ·have:2 ^ (m % 64) < 2 ^ 64:=Nat.pow_lt_pow_right (by decide) (Nat.mod_lt _ (by decide))
   omega
 refine word_ext (wdB_lt _ _) (Nat.and_lt_two_pow (n:=64) _ hr) (fun j hj=>?_)
 rw [wdB_bit,Nat.testBit_mod_two_pow,Nat.testBit_and,wdB_bit]
 simp only [hj,decide_true,Bool.true_and]
 rw [Bool.and_comm]
 congr 1
 unfold nwB at hi
 unfold roomB
 split
 ·rename_i q
  rw [show (18446744073709551615:Nat)=2 ^ 64 - 1 from rfl,Nat.testBit_two_pow_sub_one]
  apply decide_eq_decide.2
  omega
 ·rename_i q
  rw [Nat.testBit_two_pow_sub_one]
  apply decide_eq_decide.2
  omega
theorem words_ext {N M m:Nat}(hN:N < 2 ^ m)(hM:M < 2 ^ m)(h:∀ i,i < nwB m->wdB N i=wdB M i):N=M:=by
 apply bit_ext
 intro j
 by_cases q:j < m
 ·have e:=h (j / 64) (by unfold nwB;omega)
  have e1:=wdB_bit N (j / 64) (j % 64)
  have e2:=wdB_bit M (j / 64) (j % 64)
  rw [e] at e1
  rw [e1] at e2
  simpa [Nat.mod_lt j (show 0 < 64 by decide),Nat.div_add_mod] using e2
 ·rw [Nat.testBit_lt_two_pow (Nat.lt_of_lt_of_le hN (Nat.pow_le_pow_right (by decide) (by omega))),Nat.testBit_lt_two_pow (Nat.lt_of_lt_of_le hM (Nat.pow_le_pow_right (by decide) (by omega)))]
def popB (N:Nat):Nat->Nat
 | 0=>0
 | n+1=>popB N n+(N.testBit n).toNat
theorem popB_le (N:Nat):∀ n,popB N n<=n
 | 0=>Nat.le_refl _
 | n+1=>by
  have:=popB_le N n
  have h:(N.testBit n).toNat<=1:=Bool.toNat_le _
  show popB N n+(N.testBit n).toNat<=n+1
  omega
theorem popB_add (N a:Nat):∀ b,popB N (a+b)=popB N a+popB (N / 2 ^ a) b
 | 0=>rfl
 | b+1=>by
  show popB N (a+b)+(N.testBit (a+b)).toNat=popB N a+(popB (N / 2 ^ a) b+((N / 2 ^ a).testBit b).toNat)
  rw [popB_add N a b,Nat.testBit_div_two_pow,Nat.add_comm b a]
  omega
theorem popB_congr {N M:Nat}:∀ n,(∀ j,j < n->N.testBit j=M.testBit j)->popB N n=popB M n
 | 0,_=>rfl
 | n+1,h=>by
  show popB N n+(N.testBit n).toNat=popB M n+(M.testBit n).toNat
  rw [popB_congr n (fun j hj=>h j (by omega)),h n (by omega)]
theorem popB_mod (N n:Nat):popB (N % 2 ^ n) n=popB N n:=popB_congr n (fun j hj=>by rw [Nat.testBit_mod_two_pow];simp [hj])
def pb1 (x:Nat):Nat:=(x / 2 &&& 85)+(x &&& 85)
def pb2 (x:Nat):Nat:=(x / 4 &&& 51)+(x &&& 51)
def pb3 (x:Nat):Nat:=(x / 16+x) &&& 15
theorem pb_all:∀ x,x < 256->pb3 (pb2 (pb1 x))=popB x 8:=by decide +kernel
def ofB:List Nat->Nat
 | []=>0
 | b :: l=>b+256*ofB l
theorem and_byte {b c:Nat}(y m:Nat)(hb:b < 256)(hc:c < 256):(b+256*y) &&& (c+256*m)=(b &&& c)+256*(y &&& m):=by
 have hbc:b &&& c < 2 ^ 8:=Nat.and_lt_two_pow _ hc
 apply Nat.eq_of_testBit_eq
 intro j
 have t:∀ (a y:Nat),a < 2 ^ 8->(a+256*y).testBit j=if j < 8 then a.testBit j else y.testBit (j - 8):=fun a y ha=>by
  rw [Nat.add_comm]
  exact Nat.testBit_two_pow_mul_add y ha j
 rw [Nat.testBit_and,t b y hb,t c m hc,t _ _ hbc]
 split
 ·rw [Nat.testBit_and]
 ·rw [Nat.testBit_and]
theorem p1_byte:∀ b,b < 256->∀ c,c < 2->(b / 2+128*c) &&& 85=b / 2 &&& 85:=by decide +kernel
theorem p2_byte:∀ b,b < 256->∀ c,c < 4->(b / 4+64*c) &&& 51=b / 4 &&& 51:=by decide +kernel
theorem p3_byte:∀ b,b < 128->∀ c,c < 5->(b / 16+16*c+b) &&& 15=(b / 16+b) &&& 15:=by decide +kernel
theorem pb1_lt:∀ b,b < 256->pb1 b < 256:=by decide +kernel
theorem pb2_bd:∀ b,b < 256->pb2 (pb1 b)<=68/\pb2 (pb1 b) % 16<=4:=by decide +kernel
theorem pb3_le:∀ b,b < 256->pb3 (pb2 (pb1 b))<=8:=by decide +kernel
def mkB (c:Nat)(l:List Nat):Nat:=ofB (l.map fun _=>c)
theorem st1_B:∀ l:List Nat,(∀ b∈l,b < 256)->(ofB l / 2 &&& mkB 85 l)+(ofB l &&& mkB 85 l)=ofB (l.map pb1)
 | [],_=>rfl
 | b :: l,h=>by
  have hb:=h b (List.mem_cons_self ..)
  have ih:=st1_B l (fun x hx=>h x (List.mem_cons_of_mem _ hx))
  have e1:(b+256*ofB l) / 2=(b / 2+128*(ofB l % 2))+256*(ofB l / 2):=by omega
  show ((b+256*ofB l) / 2 &&& (85+256*mkB 85 l))+((b+256*ofB l) &&& (85+256*mkB 85 l))=pb1 b+256*ofB (l.map pb1)
  rw [e1,and_byte _ _ (by omega) (by decide),and_byte _ _ hb (by decide),p1_byte b hb _ (Nat.mod_lt _ (by decide)),<- ih]
  unfold pb1
  omega
theorem st2_B:∀ l:List Nat,(∀ b∈l,b < 256)->(ofB l / 4 &&& mkB 51 l)+(ofB l &&& mkB 51 l)=ofB (l.map pb2)
 | [],_=>rfl
 | b :: l,h=>by
  have hb:=h b (List.mem_cons_self ..)
  have ih:=st2_B l (fun x hx=>h x (List.mem_cons_of_mem _ hx))
  have e1:(b+256*ofB l) / 4=(b / 4+64*(ofB l % 4))+256*(ofB l / 4):=by omega
  show ((b+256*ofB l) / 4 &&& (51+256*mkB 51 l))+((b+256*ofB l) &&& (51+256*mkB 51 l))=pb2 b+256*ofB (l.map pb2)
  rw [e1,and_byte _ _ (by omega) (by decide),and_byte _ _ hb (by decide),p2_byte b hb _ (Nat.mod_lt _ (by decide)),<- ih]
  unfold pb2
  omega
theorem ofB_mod16:∀ l:List Nat,(∀ b∈l,b<=68/\b % 16<=4)->ofB l % 16<=4
 | [],_=>by decide
 | b :: l,h=>by
  have:=h b (List.mem_cons_self ..)
  show (b+256*ofB l) % 16<=4
  omega
theorem st3_B:∀ l:List Nat,(∀ b∈l,b<=68/\b % 16<=4)->(ofB l / 16+ofB l) &&& mkB 15 l=ofB (l.map pb3)
 | [],_=>rfl
 | b :: l,h=>by
  have hb:=h b (List.mem_cons_self ..)
  have hl:∀ x∈l,x<=68/\x % 16<=4:=fun x hx=>h x (List.mem_cons_of_mem _ hx)
  have ih:=st3_B l hl
  have hm:=ofB_mod16 l hl
  have e1:(b+256*ofB l) / 16+(b+256*ofB l)=(b / 16+16*(ofB l % 16)+b)+256*(ofB l / 16+ofB l):=by omega
  show ((b+256*ofB l) / 16+(b+256*ofB l)) &&& (15+256*mkB 15 l)=pb3 b+256*ofB (l.map pb3)
  rw [e1,and_byte _ _ (by omega) (by decide),p3_byte b (by omega) _ (by omega),ih]
  rfl
theorem bytes8 (x:Nat)(hx:x < 18446744073709551616):∃ a b c d e f g h:Nat,x=ofB [a,b,c,d,e,f,g,h]/\a < 256/\b < 256/\c < 256/\d < 256/\e < 256/\f < 256/\g < 256/\h < 256 :=
 ⟨x % 256,x / 256 % 256,x / 65536 % 256,x / 16777216 % 256,x / 4294967296 % 256,x / 1099511627776 % 256,x / 281474976710656 % 256,x / 72057594037927936,by simp only [ofB];omega,by omega,by omega,by omega,by omega,by omega,by omega,by omega,by omega⟩
theorem pop_byte (b y:Nat)(hb:b < 256)(n:Nat):popB (b+256*y) (8+n)=popB b 8+popB y n:=by
 rw [popB_add]
 congr 1
 ·exact popB_congr 8 (fun j hj=>by
   have:=Nat.testBit_two_pow_mul_add (i:=8) y hb j
   rw [if_pos hj] at this
   rw [Nat.add_comm]
   exact this)
 ·rw [show (b+256*y) / 2 ^ 8=y by show (b+256*y) / 256=y;omega]
theorem pop_ofB (a b c d e f g h:Nat)(ha:a < 256)(hb:b < 256)(hc:c < 256)(hd:d < 256)(he:e < 256)(hf:f < 256)(hg:g < 256)(hh:h < 256):popB (ofB [a,b,c,d,e,f,g,h]) 64=popB a 8+popB b 8+popB c 8+popB d 8+popB e 8+popB f 8+popB g 8+popB h 8:=by
 simp only [ofB]
 rw [show (64:Nat)=8+(8+(8+(8+(8+(8+(8+(8+0))))))) from rfl,pop_byte _ _ ha,pop_byte _ _ hb,pop_byte _ _ hc,pop_byte _ _ hd,pop_byte _ _ he,pop_byte _ _ hf,pop_byte _ _ hg,pop_byte _ _ hh]
 show popB a 8+(popB b 8+(popB c 8+(popB d 8+(popB e 8+(popB f 8+(popB g 8+(popB h 8+0)))))))=_
 omega
theorem lt_B {r1 r2 r3 r4 r5 r6 r7 r8:Nat}(a1:r1<=255)(a2:r2<=255)(a3:r3<=255)(a4:r4<=255)(a5:r5<=255)(a6:r6<=255)(a7:r7<=255)(a8:r8<=255):ofB [r1,r2,r3,r4,r5,r6,r7,r8] < 18446744073709551616:=by
 simp only [ofB]
 omega
theorem lt2_B {r1 r2 r3 r4 r5 r6 r7 r8:Nat}(a1:r1<=68)(a2:r2<=68)(a3:r3<=68)(a4:r4<=68)(a5:r5<=68)(a6:r6<=68)(a7:r7<=68)(a8:r8<=68):ofB [r1,r2,r3,r4,r5,r6,r7,r8] / 16+ofB [r1,r2,r3,r4,r5,r6,r7,r8] < 18446744073709551616:=by
 have:ofB [r1,r2,r3,r4,r5,r6,r7,r8] < 9223372036854775808:=by
  simp only [ofB]
  omega
 generalize ofB [r1,r2,r3,r4,r5,r6,r7,r8]=X at *
 clear a1 a2 a3 a4 a5 a6 a7 a8
 omega
set_option maxHeartbeats 2000000 in
theorem fin_B {p1 p2 p3 p4 p5 p6 p7 p8 X:Nat}(d1:p1<=8)(d2:p2<=8)(d3:p3<=8)(d4:p4<=8)(d5:p5<=8)(d6:p6<=8)(d7:p7<=8)(d8:p8<=8)(hX:X=p1+256*(p2+256*(p3+256*(p4+256*(p5+256*(p6+256*(p7+256*p8))))))):∃ Y Z V,X+X / 256=Y/\Y < 18446744073709551616/\Y+Y / 65536=Z/\Z < 18446744073709551616/\Z+Z / 4294967296=V/\V < 9223372036854775808/\V % 128=p1+p2+p3+p4+p5+p6+p7+p8:=by
 have hY:X+X / 256=(p1+p2)+256*((p2+p3)+256*((p3+p4)+256*((p4+p5)+256*((p5+p6)+256*((p6+p7)+256*((p7+p8)+256*p8)))))):=by omega
 obtain ⟨Y,hY2⟩:∃ Y,X+X / 256=Y:=⟨_,rfl⟩
 rw [hY2] at hY
 have hZ:Y+Y / 65536=(p1+p2+p3+p4)+256*((p2+p3+p4+p5)+256*((p3+p4+p5+p6)+256*((p4+p5+p6+p7)+256*((p5+p6+p7+p8)+256*((p6+p7+p8)+256*((p7+p8)+256*p8)))))):=by clear hX hY2;omega
 obtain ⟨Z,hZ2⟩:∃ Z,Y+Y / 65536=Z:=⟨_,rfl⟩
 rw [hZ2] at hZ
 have hV:Z+Z / 4294967296=(p1+p2+p3+p4+p5+p6+p7+p8)+256*((p2+p3+p4+p5+p6+p7+p8)+256*((p3+p4+p5+p6+p7+p8)+256*((p4+p5+p6+p7+p8)+256*((p5+p6+p7+p8)+256*((p6+p7+p8)+256*((p7+p8)+256*p8)))))):=by clear hX hY2 hY hZ2;omega
 obtain ⟨V,hV2⟩:∃ V,Z+Z / 4294967296=V:=⟨_,rfl⟩
 rw [hV2] at hV
 exact ⟨Y,Z,V,hY2,by clear hX hY2 hZ hZ2 hV hV2;omega,hZ2,by clear hX hY2 hY hZ2 hV hV2;omega,hV2,by clear hX hY2 hY hZ2 hZ hV2;omega,by clear hX hY2 hY hZ2 hZ hV2;omega⟩
def oc1 (x:Nat):Nat:=(x / 2 &&& 6148914691236517205)+(x &&& 6148914691236517205)
def oc2 (x:Nat):Nat:=(x / 4 &&& 3689348814741910323)+(x &&& 3689348814741910323)
def oc3 (x:Nat):Nat:=(x / 16+x) &&& 1085102592571150095
theorem oc_all (x:Nat)(hx:x < 18446744073709551616):∃ Y Z V,oc1 x < 18446744073709551616/\oc2 (oc1 x) < 18446744073709551616/\oc2 (oc1 x) / 16+oc2 (oc1 x) < 18446744073709551616/\oc3 (oc2 (oc1 x))+oc3 (oc2 (oc1 x)) / 256=Y/\Y < 18446744073709551616/\Y+Y / 65536=Z/\Z < 18446744073709551616/\Z+Z / 4294967296=V/\V < 9223372036854775808/\V % 128=popB x 64:=by
 obtain ⟨a,b,c,d,e,f,g,h,rfl,ha,hb,hc,hd,he,hf,hg,hh⟩:=bytes8 x hx
 have e1:oc1 (ofB [a,b,c,d,e,f,g,h])=ofB [pb1 a,pb1 b,pb1 c,pb1 d,pb1 e,pb1 f,pb1 g,pb1 h]:=by
  have:=st1_B [a,b,c,d,e,f,g,h] (by simp [ha,hb,hc,hd,he,hf,hg,hh])
  rw [show mkB 85 [a,b,c,d,e,f,g,h]=6148914691236517205 by simp [mkB,ofB]] at this
  exact this
 have e2:oc2 (ofB [pb1 a,pb1 b,pb1 c,pb1 d,pb1 e,pb1 f,pb1 g,pb1 h])=ofB [pb2 (pb1 a),pb2 (pb1 b),pb2 (pb1 c),pb2 (pb1 d),pb2 (pb1 e),pb2 (pb1 f),pb2 (pb1 g),pb2 (pb1 h)]:=by
  have:=st2_B [pb1 a,pb1 b,pb1 c,pb1 d,pb1 e,pb1 f,pb1 g,pb1 h] (by simp [pb1_lt,ha,hb,hc,hd,he,hf,hg,hh])
  rw [show mkB 51 [pb1 a,pb1 b,pb1 c,pb1 d,pb1 e,pb1 f,pb1 g,pb1 h]=3689348814741910323 by simp [mkB,ofB]] at this
  exact this
 have e3:oc3 (ofB [pb2 (pb1 a),pb2 (pb1 b),pb2 (pb1 c),pb2 (pb1 d),pb2 (pb1 e),pb2 (pb1 f),pb2 (pb1 g),pb2 (pb1 h)])=ofB [pb3 (pb2 (pb1 a)),pb3 (pb2 (pb1 b)),pb3 (pb2 (pb1 c)),pb3 (pb2 (pb1 d)),pb3 (pb2 (pb1 e)),pb3 (pb2 (pb1 f)),pb3 (pb2 (pb1 g)),pb3 (pb2 (pb1 h))]:=by
  have:=st3_B [pb2 (pb1 a),pb2 (pb1 b),pb2 (pb1 c),pb2 (pb1 d),pb2 (pb1 e),pb2 (pb1 f),pb2 (pb1 g),pb2 (pb1 h)] (by simp only [List.forall_mem_cons];exact ⟨pb2_bd a ha,pb2_bd b hb,pb2_bd c hc,pb2_bd d hd,pb2_bd e he,pb2_bd f hf,pb2_bd g hg,pb2_bd h hh,fun _ q=>by cases q⟩)
  rw [show mkB 15 [pb2 (pb1 a),pb2 (pb1 b),pb2 (pb1 c),pb2 (pb1 d),pb2 (pb1 e),pb2 (pb1 f),pb2 (pb1 g),pb2 (pb1 h)]=1085102592571150095 by simp [mkB,ofB]] at this
  exact this
 rw [e1,e2,e3,pop_ofB a b c d e f g h ha hb hc hd he hf hg hh,<- pb_all a ha,<- pb_all b hb,<- pb_all c hc,<- pb_all d hd,<- pb_all e he,<- pb_all f hf,<- pb_all g hg,<- pb_all h hh]
 have b1:∀ x,x < 256->pb1 x<=255:=fun x hx=>Nat.le_of_lt_succ (pb1_lt x hx)
 obtain ⟨Y,Z,V,f1,f2,f3,f4,f5,f6,f7⟩:=fin_B (pb3_le a ha) (pb3_le b hb) (pb3_le c hc) (pb3_le d hd) (pb3_le e he) (pb3_le f hf) (pb3_le g hg) (pb3_le h hh) rfl
 have c1:=(pb2_bd a ha).1;have c2:=(pb2_bd b hb).1;have c3:=(pb2_bd c hc).1;have c4:=(pb2_bd d hd).1;have c5:=(pb2_bd e he).1;have c6:=(pb2_bd f hf).1;have c7:=(pb2_bd g hg).1;have c8:=(pb2_bd h hh).1
 exact ⟨Y,Z,V,lt_B (b1 a ha) (b1 b hb) (b1 c hc) (b1 d hd) (b1 e he) (b1 f hf) (b1 g hg) (b1 h hh),lt_B (by omega) (by omega) (by omega) (by omega) (by omega) (by omega) (by omega) (by omega),lt2_B c1 c2 c3 c4 c5 c6 c7 c8,f1,f2,f3,f4,f5,f6,f7⟩
end Go.Proofs.YtockbobpmiagiaaGreatDoor
