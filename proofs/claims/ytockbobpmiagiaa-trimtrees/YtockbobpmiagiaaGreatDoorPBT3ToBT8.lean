import Derived.Test.YtockbobpmiagiaaGreatDoorPBT0ToBT4
import Derived.Shelf.Spec.TrailingZeros
import Derived.Laws.CopyOwn
namespace Go.Proofs.YtockbobpmiagiaaGreatDoor
set_option linter.unusedVariables false
open Go.RowKit
def mixB (M N m i:Nat):List Nat:=(wdsB M m).take i++(wdsB N m).drop i
theorem mixB_get {M N m i:Nat}(h:i < nwB m):(mixB M N m i)[i]?=some (wdB N i):=by
 unfold mixB
 have hl:((wdsB M m).take i).length=i:=by rw [List.length_take,wdsB_len];omega
 rw [List.getElem?_append_right (by omega),hl,List.getElem?_drop,Nat.sub_self,Nat.add_zero,wdsB_get _ _ h]
theorem mixB_set {M N m i:Nat}(h:i < nwB m):(mixB M N m i).set i (wdB M i)=mixB M N m (i+1):=by
 apply List.ext_getElem?
 intro j
 rw [List.getElem?_set]
 unfold mixB
 have h1:((wdsB M m).take i).length=i:=by rw [List.length_take,wdsB_len];omega
 have h2:((wdsB M m).take (i+1)).length=i+1:=by rw [List.length_take,wdsB_len];omega
 by_cases e:i=j
 ·subst e
  rw [if_pos rfl,if_pos (by rw [List.length_append,h1,List.length_drop,wdsB_len];omega),List.getElem?_append_left (by omega),List.getElem?_take,if_pos (Nat.lt_succ_self i),wdsB_get _ _ h]
 ·rw [if_neg e]
  rcases Nat.lt_or_ge j i with q | q
  ·rw [List.getElem?_append_left (by omega),List.getElem?_append_left (by omega),List.getElem?_take,List.getElem?_take,if_pos q,if_pos (by omega)]
  ·rw [List.getElem?_append_right (by omega),List.getElem?_append_right (by omega),h1,h2,List.getElem?_drop,List.getElem?_drop]
   congr 1
   omega
theorem mixB_zero (M N m:Nat):mixB M N m 0=wdsB N m:=by simp [mixB]
theorem mixB_all (M N m:Nat):mixB M N m (nwB m)=wdsB M m:=by
 unfold mixB
 rw [List.take_of_length_le (by rw [wdsB_len];exact Nat.le_refl _),List.drop_eq_nil_of_le (by rw [wdsB_len];exact Nat.le_refl _),List.append_nil]
structure MXB (w:World)(k m N M i:Nat)(wr:World):Prop where
 hd:wr.heap[k+1]?=some (.cells #[.int .i64 (m:Int),.slice (some ⟨k,0,none⟩) (nwB m) (nwB m)] 138)
 wd:wr.heap[k]?=some (.cells ((mixB M N m i).map fun (x:Nat)=>Value.int .u64 (x:Int)).toArray 135)
 fr:FrB (·=k) w wr
theorem MXB.word {w wr:World}{k m N M i:Nat}(h:MXB w k m N M i wr)(hi:i < nwB m):wr.cell? ⟨k,i,none⟩=some (.int .u64 (wdB N i:Int)):=by
 rw [cQa h.wd]
 simp only [List.getElem?_toArray,List.getElem?_map,mixB_get hi,Option.map_some]
theorem MXB.cells {w wr:World}{k m N M i:Nat}(h:MXB w k m N M i wr):wr.cell? ⟨k+1,0,none⟩=some (.int .i64 (m:Int))/\wr.cell? ⟨k+1,1,none⟩=some (.slice (some ⟨k,0,none⟩) (nwB m) (nwB m)):=⟨(cQa h.hd).trans rfl,(cQa h.hd).trans rfl⟩
theorem MXB.free {w wr:World}{k m N M i:Nat}(h:MXB w k m N M i wr)(j:Nat):wr.frozen? ⟨k,j,none⟩=false:=by
 simp [World.frozen?,h.wd]
theorem MXB.put {w wr:World}{k m N M i:Nat}(h:MXB w k m N M i wr)(hi:i < nwB m):MXB w k m N M (i+1) (wr.setCell ⟨k,i,none⟩ (.int .u64 (wdB M i:Int))):=by
 refine ⟨?_,?_,h.fr.trans (frB_setCell wr k i _)⟩
 ·rw [Below.heap_setCell _ _ _ _ (show k+1≠k by omega)]
  exact h.hd
 ·rw [hSt h.wd i (.int .u64 (wdB M i:Int)),List.setIfInBounds_toArray,<- mixB_set hi,List.map_set]
theorem MXB.begin {w:World}{k m N M:Nat}(h:SB w k m N):MXB w k m N M 0 w:=⟨h.hd,by rw [mixB_zero];exact h.wd,Below.frB (Below.refl _ _)⟩
theorem MXB.fin {w wr:World}{k m N M:Nat}(h:MXB w k m N M (nwB m) wr)(hM:M < 2 ^ m)(hm:m<=4096):SB wr k m M:=⟨h.hd,by have:=h.wd;rw [mixB_all] at this;exact this,hM,hm⟩
theorem MXB.wordCell {w wr:World}{k m N M i:Nat}(h:MXB w k m N M (i+1) wr)(hi:i < nwB m):wr.cell? ⟨k,i,none⟩=some (.int .u64 (wdB M i:Int)):=by
 rw [cQa h.wd]
 have:(mixB M N m (i+1))[i]?=some (wdB M i):=by
  unfold mixB
  rw [List.getElem?_append_left (by rw [List.length_take,wdsB_len];omega),List.getElem?_take,if_pos (Nat.lt_succ_self i),wdsB_get _ _ hi]
 simp only [List.getElem?_toArray,List.getElem?_map,this,Option.map_some]
def anyB (M N i:Nat):Bool:=(List.range i).any fun j=>decide (wdB M j≠wdB N j)
theorem anyB_next (M N i:Nat):anyB M N (i+1)=(anyB M N i || decide (wdB M i≠wdB N i)):=by
 unfold anyB
 rw [List.range_succ,List.any_append]
 simp
theorem anyB_all {M N m:Nat}(hM:M < 2 ^ m)(hN:N < 2 ^ m):anyB M N (nwB m)=decide (M≠N):=by
 rw [Bool.eq_iff_iff]
 unfold anyB
 rw [List.any_eq_true]
 constructor
 ·rintro ⟨j,_,hj⟩
  exact decide_eq_true (fun e=>by rw [e] at hj;simp at hj)
 ·intro h
  have hne:=of_decide_eq_true h
  apply Classical.byContradiction
  intro hno
  exact hne (words_ext hM hN (fun i hi=>Classical.byContradiction fun q=>hno ⟨i,List.mem_range.2 hi,decide_eq_true q⟩))
set_option maxRecDepth 100000 in
set_option maxHeartbeats 4000000 in
theorem room_MX {w:World}{k m:Nat}(c0:w.cell? ⟨k+1,0,none⟩=some (.int .i64 (m:Int)))(hml:m<=4096)(i:Nat):Calls Tryz.prog 130 #[.pointer (some ⟨k+1,0,none⟩),.int .i64 (i:Int)] w fun e w'=>e=.returned (.int .u64 (roomB m i:Int))/\w'=w:=by
 by_cases hi:i < m / 64
 ·have d1:((i:Int) < ((m / 64:Nat):Int)):=by omega
  have E:Hid (roomB m i=18446744073709551615):=by show _=_;unfold roomB;rw [if_pos hi]
  go_enter Tryz.func130,Tryz.ntmps130
  go_wp2
  go_ret
  exact ⟨by rw [E.out];rfl,rfl⟩
 ·have d1:¬ ((i:Int) < ((m / 64:Nat):Int)):=by omega
  have E:Hid (roomB m i=2 ^ (m % 64) - 1):=by show _=_;unfold roomB;rw [if_neg hi]
  have BS:Hid (Calls Tryz.prog 100 #[.int .i64 (m:Int)] w fun e w'=>e=.returned (.int .u64 ((2 ^ (m % 64):Nat):Int))/\w'=w):=bit_SB m (by omega) w
  have hp:0 < 2 ^ (m % 64):=Nat.two_pow_pos _
  have hl:2 ^ (m % 64) < 2 ^ 64:=Nat.pow_lt_pow_right (by decide) (Nat.mod_lt _ (by decide))
  generalize 2 ^ (m % 64)=P at *
  have hl2:P < 18446744073709551616:=hl
  clear hl
  go_enter Tryz.func130,Tryz.ntmps130
  go_wp2_with (go_at_call 100;refine BS.out.mono ?_;rintro e w1 ⟨rfl,rfl⟩)
  go_ret
  refine ⟨?_,rfl⟩
  rw [E.out]
  show Ending.returned (Value.int .u64 ((P:Int) - 1))=_
  rw [show ((P - 1:Nat):Int)=(P:Int) - 1 by omega]
theorem roomB_lt (m i:Nat):roomB m i < 18446744073709551616:=by
 unfold roomB
 split
 ·decide
 ·have:2 ^ (m % 64) < 2 ^ 64:=Nat.pow_lt_pow_right (by decide) (Nat.mod_lt _ (by decide))
  have e:(2:Nat) ^ 64=18446744073709551616:=rfl
  omega
set_option maxRecDepth 100000 in
set_option maxHeartbeats 4000000 in
theorem union1_S (a b:Nat)(ha:a < 18446744073709551616)(hb:b < 18446744073709551616)(w:World):Calls Tryz.prog 122 #[.int .u64 (a:Int),.int .u64 (b:Int)] w fun e w'=>e=.returned (.int .u64 ((a ||| b:Nat):Int))/\w'=w:=by
 have E:=bits_or_u64_nat a b ha hb
 go_enter Tryz.func122,Tryz.ntmps122
 go_wp2
 go_ret
 exact ⟨rfl,rfl⟩
set_option maxRecDepth 100000 in
set_option maxHeartbeats 4000000 in
theorem union_ch {w:World}{k m N M:Nat}(tp ot:Value)(h:SB w k m N)(hM:∀ i,i < nwB m->wdB M i < 18446744073709551616)
  (HT:Calls Tryz.prog 101 #[tp] w fun e w'=>e=.returned ot/\w'=w)
  (HO:∀ wr i,i < nwB m->MXB w k m N ((N ||| M) % 2 ^ m) i wr->Calls Tryz.prog 129 #[ot,.int .i64 (i:Int)] wr fun e w'=>e=.returned (.int .u64 (wdB M i:Int))/\w'=wr) :
  Calls Tryz.prog 121 #[.pointer (some ⟨k+1,0,none⟩),tp,.func (.func 122) #[] #[]] w fun e w'=>e=.returned (.bool (decide ((N ||| M) % 2 ^ m≠N)))/\SB w' k m ((N ||| M) % 2 ^ m)/\FrB (·=k) w w':=by
 have hml:=h.ml
 have hnw:=nwB_le h.ml
 have HS:Hid (Calls Tryz.prog 101 #[.pointer (some ⟨k+1,0,none⟩)] w fun e w'=>e=.returned (.slice (some ⟨k,0,none⟩) (nwB m) (nwB m))/\w'=w):=held_SB h
 have HT2:Hid (Calls Tryz.prog 101 #[tp] w fun e w'=>e=.returned ot/\w'=w):=HT
 have HO2:Hid (∀ wr i,i < nwB m->MXB w k m N ((N ||| M) % 2 ^ m) i wr->Calls Tryz.prog 129 #[ot,.int .i64 (i:Int)] wr fun e w'=>e=.returned (.int .u64 (wdB M i:Int))/\w'=wr):=HO
 have HWD:Hid (∀ i,i < nwB m->wdB ((N ||| M) % 2 ^ m) i=(wdB N i ||| wdB M i) &&& roomB m i):=fun i hi=>by rw [wd_room _ _ _ hi,wd_or]
 have HX:Hid ((N ||| M) % 2 ^ m < 2 ^ m):=Nat.mod_lt _ (Nat.two_pow_pos m)
 have M0:Hid (MXB w k m N ((N ||| M) % 2 ^ m) 0 w):=MXB.begin h
 have HLT:Hid (N < 2 ^ m):=h.lt
 have HMW:Hid (∀ i,i < nwB m->wdB M i < 18446744073709551616):=hM
 generalize (N ||| M) % 2 ^ m=X at *
 clear h HT HO hM
 go_enter Tryz.func121,Tryz.ntmps121
 go_wp2_with (first
  | (go_at_call 101;refine HS.out.mono ?_;rintro e w1 ⟨rfl,hz⟩;rw [hz];clear hz w1)
  | (go_at_call 101;refine HT2.out.mono ?_;rintro e w1 ⟨rfl,hz⟩;rw [hz];clear hz w1))
 clear HS HT2
 go_loopw [9,18] (fun z9 z18 wr=>∃ i:Nat,i<=nwB m/\z18=.int .i64 (i:Int)/\z9=.bool (anyB X N i)/\MXB w k m N X i wr) (fun _ z _=>nwB m - (intOf z).toNat)
 case atStart=>exact ⟨0,Nat.zero_le _,rfl,rfl,M0.out⟩
 case round =>
  clear M0
  obtain ⟨i,hi,rfl,rfl,hMX⟩:=hrel
  by_cases hlt:i < nwB m
  ·have ilt:(i:Int) < ((nwB m:Nat):Int):=by omega
   have c2:=hMX.word hlt
   obtain ⟨c0,c1⟩:=hMX.cells
   have fz:=hMX.free i
   have WA:Hid (Calls Tryz.prog 129 #[ot,.int .i64 (i:Int)] wr fun e w'=>e=.returned (.int .u64 (wdB M i:Int))/\w'=wr):=HO2.out wr i hlt hMX
   have RM:Hid (Calls Tryz.prog 130 #[.pointer (some ⟨k+1,0,none⟩),.int .i64 (i:Int)] wr fun e w'=>e=.returned (.int .u64 (roomB m i:Int))/\w'=wr):=room_MX c0 hml i
   have PM:Hid (MXB w k m N X (i+1) (wr.setCell ⟨k,i,none⟩ (.int .u64 (wdB X i:Int)))):=hMX.put hlt
   have hwd:=HWD.out i hlt
   have hWM:=HMW.out i hlt
   have hWN:=wdB_lt N i
   have hRo:=roomB_lt m i
   have cx:=PM.out.wordCell hlt
   have HAN:Hid (anyB X N (i+1)=(anyB X N i || decide (wdB X i≠wdB N i))):=anyB_next X N i
   obtain ⟨A,hA⟩:∃ A,wdB N i=A:=⟨_,rfl⟩
   obtain ⟨B,hB⟩:∃ B,wdB M i=B:=⟨_,rfl⟩
   obtain ⟨D,hD⟩:∃ D,wdB X i=D:=⟨_,rfl⟩
   obtain ⟨R,hR⟩:∃ R,roomB m i=R:=⟨_,rfl⟩
   rw [hA] at c2 hwd hWN HAN
   rw [hB] at WA hwd hWM
   rw [hD] at PM hwd cx HAN
   rw [hR] at RM hwd hRo
   have DO:Hid (Calls Tryz.prog 122 #[.int .u64 (A:Int),.int .u64 (B:Int)] wr fun e w'=>e=.returned (.int .u64 ((A ||| B:Nat):Int))/\w'=wr):=union1_S A B hWN hWM wr
   have eA:=bits_and_u64_nat (A ||| B) R (Nat.or_lt_two_pow (n:=64) hWN hWM) hRo
   rw [<- hwd] at eA
   have dN:((D:Int) != (A:Int))=decide (D≠A):=by
    by_cases q:D=A
    ·rw [q];simp
    ·rw [decide_eq_true q]
     exact bne_iff_ne.2 (fun e=>q (Int.ofNat_inj.1 e))
   clear hMX hA hB hD hR hwd hWM hWN hRo
   generalize (A ||| B)=E0 at *
   obtain ⟨an,han⟩:∃ an,anyB X N i=an:=⟨_,rfl⟩
   rw [han] at HAN ⊢
   clear han
   cases an with
   | true =>
    go_wp2_with (first
     | (go_at_call 129;refine WA.out.mono ?_;rintro e w1 ⟨rfl,hz⟩;rw [hz];clear hz w1)
     | (go_at_call 122;refine DO.out.mono ?_;rintro e w1 ⟨rfl,hz⟩;rw [hz];clear hz w1)
     | (go_at_call 130;refine RM.out.mono ?_;rintro e w1 ⟨rfl,hz⟩;rw [hz];clear hz w1))
    go_roundw
    case rel=>exact ⟨i+1,by omega,by go_num,by rw [HAN.out];rfl,PM.out⟩
    case measure=>simp [intOf];omega
   | false =>
    go_wp2_with (first
     | (go_at_call 129;refine WA.out.mono ?_;rintro e w1 ⟨rfl,hz⟩;rw [hz];clear hz w1)
     | (go_at_call 122;refine DO.out.mono ?_;rintro e w1 ⟨rfl,hz⟩;rw [hz];clear hz w1)
     | (go_at_call 130;refine RM.out.mono ?_;rintro e w1 ⟨rfl,hz⟩;rw [hz];clear hz w1))
    go_roundw
    case rel=>exact ⟨i+1,by omega,by go_num,by rw [HAN.out];simp,PM.out⟩
    case measure=>simp [intOf];omega
  ·obtain rfl:i=nwB m:=by omega
   have ilt:¬ ((nwB m:Nat):Int) < ((nwB m:Nat):Int):=by omega
   have HM2:Hid (MXB w k m N X (nwB m) wr):=hMX
   have HAA:Hid (anyB X N (nwB m)=decide (X≠N)):=anyB_all HX.out HLT.out
   clear hMX
   go_wp2
   go_ret
   refine ⟨?_,HM2.out.fin HX.out hml,HM2.out.fr⟩
   show Ending.returned (Value.bool (anyB X N (nwB m)))=_
   rw [HAA.out]
   simp
open Go.RowKit Go.Shelf
theorem bits_and_i64_127 (V:Nat)(h:V < 9223372036854775808):bits .and .i64 (V:Int) 127=((V % 128:Nat):Int):=by
 have h1:(BitVec.ofInt 64 (V:Int)).toNat=V:=by
  rw [BitVec.ofInt_natCast,BitVec.toNat_ofNat];exact Nat.mod_eq_of_lt (by omega)
 have h2:(BitVec.ofInt 64 (127:Int)).toNat=127:=by decide
 show IntKind.i64.wrap ((BitVec.ofInt 64 (V:Int) &&& BitVec.ofInt 64 127).toNat:Int)=_
 rw [BitVec.toNat_and,h1,h2,show (127:Nat)=2 ^ 7 - 1 from rfl,Nat.and_two_pow_sub_one_eq_mod]
 exact IntWalk.i64_in _ ⟨by omega,by omega⟩
set_option maxRecDepth 100000 in
set_option maxHeartbeats 4000000 in
theorem ones_S (x:Nat)(hx:x < 18446744073709551616)(w:World):Calls Tryz.prog 102 #[.int .u64 (x:Int)] w fun e w'=>e=.returned (.int .i64 (popB x 64:Int))/\w'=w:=by
 obtain ⟨Y,Z,V,h1,h2,h3,hY,h4,hZ,h5,hV,h6,h7⟩:=oc_all x hx
 have HP:Hid (V % 128=popB x 64):=h7
 have E1:=bits_and_u64_nat (x / 2) 6148914691236517205 (by omega) (by decide)
 have E2:=bits_and_u64_nat x 6148914691236517205 hx (by decide)
 have H1:(x / 2 &&& 6148914691236517205)+(x &&& 6148914691236517205)=oc1 x:=rfl
 have H2:(oc1 x / 4 &&& 3689348814741910323)+(oc1 x &&& 3689348814741910323)=oc2 (oc1 x):=rfl
 have H3:(oc2 (oc1 x) / 16+oc2 (oc1 x)) &&& 1085102592571150095=oc3 (oc2 (oc1 x)):=rfl
 have E4:=bits_and_u64_nat (oc1 x / 4) 3689348814741910323 (by omega) (by decide)
 have E5:=bits_and_u64_nat (oc1 x) 3689348814741910323 h1 (by decide)
 have E8:=bits_and_u64_nat (oc2 (oc1 x) / 16+oc2 (oc1 x)) 1085102592571150095 h3 (by decide)
 rw [H3] at E8
 have h8:oc3 (oc2 (oc1 x)) < 18446744073709551616:=by omega
 generalize oc3 (oc2 (oc1 x))=X3 at *
 generalize oc2 (oc1 x)=X2 at *
 generalize oc1 x=X1 at *
 generalize (x / 2 &&& 6148914691236517205)=A1 at *
 generalize (x &&& 6148914691236517205)=A2 at *
 generalize (X1 / 4 &&& 3689348814741910323)=A3 at *
 generalize (X1 &&& 3689348814741910323)=A4 at *
 have F1:((x / 2:Nat):Int)=(x:Int) / 2:=by omega
 have F2:((X1 / 4:Nat):Int)=(X1:Int) / 4:=by omega
 rw [F1] at E1
 rw [F2] at E4
 obtain ⟨S,hS⟩:∃ S,X2 / 16+X2=S:=⟨_,rfl⟩
 rw [hS] at E8 h3
 have E3:IntKind.u64.wrap ((A1:Int)+(A2:Int))=(X1:Int):=by rw [u64_in (by omega) (by omega)];omega
 have E6:IntKind.u64.wrap ((A3:Int)+(A4:Int))=(X2:Int):=by rw [u64_in (by omega) (by omega)];omega
 have E7:IntKind.u64.wrap ((X2:Int) / 16+(X2:Int))=(S:Int):=by rw [u64_in (by omega) (by omega)];omega
 have E9:IntKind.u64.wrap ((X3:Int)+(X3:Int) / 256)=(Y:Int):=by rw [u64_in (by omega) (by omega)];omega
 have E10:IntKind.u64.wrap ((Y:Int)+(Y:Int) / 65536)=(Z:Int):=by rw [u64_in (by omega) (by omega)];omega
 have E11:IntKind.u64.wrap ((Z:Int)+(Z:Int) / 4294967296)=(V:Int):=by rw [u64_in (by omega) (by omega)];omega
 have E12:IntKind.i64.wrap (V:Int)=(V:Int):=IntWalk.i64_in _ ⟨by omega,by omega⟩
 have E13:=bits_and_i64_127 V h6
 have G1:bits .and .u64 ((x:Int) / 2) (6148914691236517205:Int)=(A1:Int):=E1
 have G2:bits .and .u64 (x:Int) (6148914691236517205:Int)=(A2:Int):=E2
 have G4:bits .and .u64 ((X1:Int) / 4) (3689348814741910323:Int)=(A3:Int):=E4
 have G5:bits .and .u64 (X1:Int) (3689348814741910323:Int)=(A4:Int):=E5
 have G8:bits .and .u64 (S:Int) (1085102592571150095:Int)=(X3:Int):=E8
 clear h1 h2 h3 hY h4 hZ h5 hV h6 h7 h8 H1 H2 H3 F1 F2 hS E1 E2 E4 E5 E8
 go_enter Tryz.func102,Tryz.ntmps102
 go_wp2
 go_ret
 refine ⟨?_,rfl⟩
 rw [<- HP.out]
 rfl
theorem pop_word (N i:Nat):popB N (64*(i+1))=popB N (64*i)+popB (wdB N i) 64:=by
 rw [show 64*(i+1)=64*i+64 by omega,popB_add]
 congr 1
 unfold wdB
 exact (popB_mod _ 64).symm
theorem popB_zero:∀ n,popB 0 n=0
 | 0=>rfl
 | n+1=>by
  show popB 0 n+((0:Nat).testBit n).toNat=0
  rw [popB_zero n,Nat.zero_testBit]
  rfl
theorem pop_size {N m:Nat}(h:N < 2 ^ m):popB N (64*nwB m)=popB N m:=by
 have e:64*nwB m=m+(64*nwB m - m):=by unfold nwB;omega
 rw [e,popB_add,Nat.div_eq_of_lt h,popB_zero,Nat.add_zero]
set_option maxRecDepth 100000 in
set_option maxHeartbeats 4000000 in
theorem count_SB {w:World}{k m N:Nat}(h:SB w k m N):Calls Tryz.prog 86 #[.pointer (some ⟨k+1,0,none⟩)] w fun e w'=>e=.returned (.int .i64 (popB N m:Int))/\w'=w:=by
 have hnw:=nwB_le h.ml
 have HS:Hid (Calls Tryz.prog 101 #[.pointer (some ⟨k+1,0,none⟩)] w fun e w'=>e=.returned (.slice (some ⟨k,0,none⟩) (nwB m) (nwB m))/\w'=w):=held_SB h
 have HW:Hid (∀ i,i < nwB m->w.cell? ⟨k,i,none⟩=some (.int .u64 (wdB N i:Int))):=fun i hi=>h.word hi
 have HE:Hid (popB N (64*nwB m)=popB N m):=pop_size h.lt
 clear h
 go_enter Tryz.func86,Tryz.ntmps86
 go_wp2_with (go_at_call 101;refine HS.out.mono ?_;rintro e w1 ⟨rfl,hz⟩;rw [hz];clear hz w1)
 clear HS
 go_loopw [3,9] (fun z3 z9 wr=>∃ i:Nat,i<=nwB m/\z9=.int .i64 (i:Int)/\z3=.int .i64 (popB N (64*i):Int)/\w=wr) (fun _ z _=>nwB m - (intOf z).toNat)
 case atStart=>exact ⟨0,Nat.zero_le _,rfl,rfl,rfl⟩
 case round =>
  obtain ⟨i,hi,rfl,rfl,rfl⟩:=hrel
  by_cases hlt:i < nwB m
  ·have ilt:(i:Int) < ((nwB m:Nat):Int):=by omega
   have c:=HW.out i hlt
   have OC:Hid (Calls Tryz.prog 102 #[.int .u64 (wdB N i:Int)] w fun e w'=>e=.returned (.int .i64 (popB (wdB N i) 64:Int))/\w'=w):=ones_S _ (wdB_lt N i) w
   have HP:Hid (popB N (64*(i+1))=popB N (64*i)+popB (wdB N i) 64):=pop_word N i
   have b1:=popB_le N (64*i)
   have b2:=popB_le (wdB N i) 64
   generalize popB (wdB N i) 64=q at *
   generalize wdB N i=W at *
   generalize popB N (64*i)=p at *
   go_wp2_with (go_at_call 102;refine OC.out.mono ?_;rintro e w1 ⟨rfl,hz⟩;rw [hz];clear hz w1)
   go_roundw
   case rel=>exact ⟨i+1,by omega,by go_num,by rw [HP.out];go_num,trivial⟩
   case measure=>simp [intOf];omega
  ·obtain rfl:i=nwB m:=by omega
   have ilt:¬ ((nwB m:Nat):Int) < ((nwB m:Nat):Int):=by omega
   rw [HE.out]
   go_wp2
   go_ret
   exact ⟨rfl,rfl⟩
noncomputable def tzRen:Ren:=⟨fun _=>110,fun | 0=>0 | 3=>3 | 4=>4 | 5=>5 | 22=>135 | 25=>147 | 54=>159 | n=>n,fun _=>(Tryz.prog.globals.findIdx? (·.name == "math/bits.deBruijn64tab")).getD 0⟩
theorem tz_lays:Lays7.n29 Tryz.prog tzRen:={
 mixed:=by kernel_rfl
 f29:=by kernel_rfl
 t0:=by kernel_rfl
 a0:=fun _=>by kernel_rfl
 z0:=fun _=>by kernel_rfl
 v0:=fun _=>by kernel_rfl
 i0:=by kernel_rfl
 t3:=by kernel_rfl
 a3:=fun _=>by kernel_rfl
 z3:=fun _=>by kernel_rfl
 v3:=fun _=>by kernel_rfl
 i3:=by kernel_rfl
 t4:=by kernel_rfl
 a4:=fun _=>by kernel_rfl
 z4:=fun _=>by kernel_rfl
 v4:=fun _=>by kernel_rfl
 i4:=by kernel_rfl
 t5:=by kernel_rfl
 a5:=fun _=>by kernel_rfl
 z5:=fun _=>by kernel_rfl
 v5:=fun _=>by kernel_rfl
 i5:=by kernel_rfl
 t22:=by kernel_rfl
 a22:=fun _=>by kernel_rfl
 z22:=fun _=>by kernel_rfl
 v22:=fun _=>by kernel_rfl
 i22:=by kernel_rfl
 t25:=by kernel_rfl
 a25:=fun _=>by kernel_rfl
 z25:=fun _=>by kernel_rfl
 v25:=fun _=>by kernel_rfl
 i25:=by kernel_rfl
 t54:=by kernel_rfl
 a54:=fun _=>by kernel_rfl
 z54:=fun _=>by kernel_rfl
 g1:=by kernel_rfl }
def TabB (w:World):Prop:=TabAt (tzRen.g 1) Lib.deBruijn64tab w
theorem TabB.frB {X:Nat->Prop}{w w':World}(h:TabB w)(hf:FrB X w w')(hX:∀ j,X j->j≠tzRen.g 1):TabB w':=fun j hj=>by
 have c:=h j hj
 have hl:tzRen.g 1 < w.heap.size:=World.block_lt_of_cell? w _ c
 rw [<- c]
 have e:=hf.block _ hl (fun q=>hX _ q rfl)
 simp only [World.cell?,e]
theorem TabB.later {w w':World}(h:TabB w)(hb:Below w.heap.size w w'):TabB w':=h.frB (X:=fun _=>False) (Below.frB hb) (fun _ q=>q.elim)
theorem tz_S (x:Nat)(hx:x < 18446744073709551616)(w:World)(hT:TabB w):Calls Tryz.prog 110 #[.int .u64 (x:Int)] w fun e w'=>e=.returned (.int .i64 (Lib.ctz 64 x:Int))/\w'=w:=Any7.bits_TrailingZeros64 tz_lays x hx w (fun _=>hT)
theorem ctz_spec {x:Nat}(h0:x≠0)(hx:x < 18446744073709551616):Lib.ctz 64 x < 64/\x.testBit (Lib.ctz 64 x)=true/\(∀ j,j < Lib.ctz 64 x->x.testBit j=false):=by
 have h1:Lib.ctz 64 x=Lib.ctzFrom 64 x:=by unfold Lib.ctz;rw [if_neg h0]
 obtain ⟨q,hq,hl⟩:=Lib.ctzFrom_spec 64 x (by omega) hx
 rw [h1]
 generalize Lib.ctzFrom 64 x=c at *
 refine ⟨hl,?_,fun j hj=>?_⟩
 ·rw [hq,Nat.testBit_two_pow_mul]
  simp
 ·rw [hq,Nat.testBit_two_pow_mul]
  simp
  omega
set_option maxRecDepth 100000 in
set_option maxHeartbeats 4000000 in
theorem lowest_SB (i x:Nat)(hi:i<=1000)(hx:x < 18446744073709551616)(h0:x≠0)(w:World)(hT:TabB w):Calls Tryz.prog 103 #[.int .i64 (i:Int),.int .u64 (x:Int)] w fun e w'=>e=.returned (.int .i64 ((64*i+Lib.ctz 64 x:Nat):Int))/\w'=w:=by
 have TZ:Hid (Calls Tryz.prog 110 #[.int .u64 (x:Int)] w fun e w'=>e=.returned (.int .i64 (Lib.ctz 64 x:Int))/\w'=w):=tz_S x hx w hT
 have hc:=(ctz_spec h0 hx).1
 generalize Lib.ctz 64 x=c at *
 clear hT h0 hx
 go_enter Tryz.func103,Tryz.ntmps103
 go_wp2_with (go_at_call 110;refine TZ.out.mono ?_;rintro e w1 ⟨rfl,hz⟩;rw [hz];clear hz w1)
 go_ret
 refine ⟨?_,rfl⟩
 show Ending.returned (Value.int .i64 ((i:Int)*64+(c:Int)))=_
 rw [show ((64*i+c:Nat):Int)=(i:Int)*64+(c:Int) by omega]
def bitsU (N n:Nat):List Nat:=(List.range n).filter fun j=>N.testBit j
def bitsL (N n:Nat):List Int:=(bitsU N n).map fun (j:Nat)=>(j:Int)
theorem bitsU_add (N a b:Nat):bitsU N (a+b)=bitsU N a++((List.range b).filter fun j=>N.testBit (a+j)).map (a+·):=by
 unfold bitsU
 rw [List.range_add,List.filter_append,List.filter_map]
 rfl
theorem bitsU_none (N a:Nat):∀ b,(∀ j,a<=j->j < a+b->N.testBit j=false)->bitsU N (a+b)=bitsU N a:=fun b h=>by
 rw [bitsU_add,List.filter_eq_nil_iff.2 (fun j hj=>by rw [h (a+j) (by omega) (by have:=List.mem_range.1 hj;omega)];decide),List.map_nil,List.append_nil]
theorem bitsU_one (N a t:Nat)(ht:N.testBit (a+t)=true)(h:∀ j,j < t->N.testBit (a+j)=false):bitsU N (a+t+1)=bitsU N a++[a+t]:=by
 rw [bitsU_add N (a+t) 1,bitsU_none N a t (fun j h1 h2=>by have:=h (j - a) (by omega);rwa [show a+(j - a)=j by omega] at this)]
 congr 1
 simp [ht]
theorem bitsU_len (N:Nat):∀ n,(bitsU N n).length=popB N n
 | 0=>rfl
 | n+1=>by
  rw [bitsU_add N n 1,List.length_append,bitsU_len N n]
  show _=popB N n+(N.testBit n).toNat
  congr 1
  cases h:N.testBit n<;>simp [h]
theorem bitsL_len (N n:Nat):(bitsL N n).length=popB N n:=by rw [bitsL,List.length_map,bitsU_len]
theorem bitsL_size {N m:Nat}(h:N < 2 ^ m):bitsL N (64*nwB m)=bitsL N m:=by
 have e:64*nwB m=m+(64*nwB m - m):=by unfold nwB;omega
 unfold bitsL
 rw [e,bitsU_none N m _ (fun j h1 _=>Nat.testBit_lt_two_pow (Nat.lt_of_lt_of_le h (Nat.pow_le_pow_right (by decide) h1)))]
theorem clear_low {W:Nat}(h0:W≠0)(hx:W < 18446744073709551616)(j:Nat):(W &&& (W - 1)).testBit j=(W.testBit j && decide (Lib.ctz 64 W < j)):=by
 have h1:Lib.ctz 64 W=Lib.ctzFrom 64 W:=by unfold Lib.ctz;rw [if_neg h0]
 obtain ⟨q,hq,hl⟩:=Lib.ctzFrom_spec 64 W (by omega) hx
 rw [h1]
 generalize Lib.ctzFrom 64 W=t at *
 have hp:0 < 2 ^ t:=Nat.two_pow_pos t
 have e1:W=2 ^ (t+1)*q+2 ^ t:=by rw [hq,Nat.pow_succ,Nat.mul_add,Nat.mul_one,<- Nat.mul_assoc]
 have e2:W - 1=2 ^ (t+1)*q+(2 ^ t - 1):=by omega
 have l1:2 ^ t < 2 ^ (t+1):=Nat.pow_lt_pow_right (by decide) (Nat.lt_succ_self t)
 rw [Nat.testBit_and,e2]
 rw [e1]
 rw [Nat.testBit_two_pow_mul_add q l1 j,Nat.testBit_two_pow_mul_add q (show 2 ^ t - 1 < 2 ^ (t+1) by omega) j]
 by_cases hj:j < t+1
 ·rw [if_pos hj,if_pos hj,Nat.testBit_two_pow,Nat.testBit_two_pow_sub_one,decide_eq_false (show ¬ t < j by omega),Bool.and_false]
  by_cases e:t=j
  ·subst e;simp
  ·simp [e]
 ·rw [if_neg hj,if_neg hj,decide_eq_true (show t < j by omega),Bool.and_self,Bool.and_true]
theorem make_cap (c:Nat)(hc:c<=1048576)(w:World):(Instr.makeSlice 36 (.int .i64 0) (.int .i64 (c:Int))).run Tryz.prog w=.ok (.slice (some ⟨w.heap.size,0,none⟩) 0 c) (w.alloc (.cells (madeCells #[.int .i64 0] c) 3)):=by
 obtain ⟨i0,hi,hz0,hz1,hz2⟩:=infoInt_parts
 have:=run_makeSlice w 36 3 i0 (.int .i64 0) Tryz.underlying36 hi hz0 .i64 .i64 (0:Int) (c:Int) (by omega) (by omega) (by rw [hz1];simp;omega) (by rw [hz2];omega) (by omega)
 rw [hz1] at this
 simpa [Value.cells] using this
theorem IL.cap (w:World)(c:Nat)(hc:c<=1048576):IL (w.alloc (.cells (madeCells #[.int .i64 0] c) 3)) (.slice (some ⟨w.heap.size,0,none⟩) 0 c) [] :=
 World.ownsRow_made w _ c (Nat.zero_le _) (by unfold maxLen;omega) (by rw [made_listB];simp)
structure LBs (w:World)(l:List Int)(v:Value)(wr:World):Prop where
 il:IL wr v l
 own:∀ j,v.ownBlock=some j->w.heap.size<=j
 bel:Below w.heap.size w wr
theorem LBs.any {w wr w1:World}{l:List Int}{v:Value}(h:LBs w l v wr)(hb:Below wr.heap.size wr w1):LBs w l v w1:=⟨h.il.later hb,h.own,h.bel.trans (hb.mono h.bel.size)⟩
theorem LBs.app {w wr w1 w4:World}{l l':List Int}{v v':Value}(h:LBs w l v wr)(hb:Below wr.heap.size wr w1)(hg:Grew w1 w4 v v')(hi:IL w4 v' l'):LBs w l' v' w4:=by
 have b1:Below w.heap.size w w1:=h.bel.trans (hb.mono h.bel.size)
 refine ⟨hi,fun j hj=>?_,⟨hg.grown.os.trans b1.os,hg.grown.tape.trans b1.tape,hg.grown.output.trans b1.output,Nat.le_trans b1.size hg.grown.size,fun j hj=>(hg.grown.block j (by have:=b1.size;omega) (fun e=>by have:=h.own j e.symm;omega)).trans (b1.block j hj)⟩⟩
 rcases hg.moved with e | ⟨i,e,hi2⟩
 ·exact h.own j (by rw [<- e];exact hj)
 ·rw [e] at hj
  simp at hj
  have:=b1.size
  omega
theorem bitsL_one (N a t:Nat)(ht:N.testBit (a+t)=true)(h:∀ j,j < t->N.testBit (a+j)=false):bitsL N (a+t+1)=bitsL N a++[((a+t:Nat):Int)]:=by
 unfold bitsL
 rw [bitsU_one N a t ht h,List.map_append]
 rfl
theorem word_zero {N i c W:Nat}(hc:c<=64)(hW:∀ j,j < 64->W.testBit j=(decide (c<=j) && N.testBit (64*i+j)))(h0:W=0):bitsL N (64*i+c)=bitsL N (64*(i+1)):=by
 unfold bitsL
 rw [show 64*(i+1)=64*i+c+(64 - c) by omega,bitsU_none N (64*i+c) (64 - c) (fun j h1 h2=>by
  have:=hW (j - 64*i) (by omega)
  rw [h0,Nat.zero_testBit,decide_eq_true (show c<=j - 64*i by omega),Bool.true_and,show 64*i+(j - 64*i)=j by omega] at this
  exact this.symm)]
theorem word_next {N i c W:Nat}(hW:∀ j,j < 64->W.testBit j=(decide (c<=j) && N.testBit (64*i+j)))(hl:W < 18446744073709551616)(h0:W≠0):Lib.ctz 64 W < 64/\bitsL N (64*i+(Lib.ctz 64 W+1))=bitsL N (64*i+c)++[((64*i+Lib.ctz 64 W:Nat):Int)]/\∀ j,j < 64->(W &&& (W - 1)).testBit j=(decide (Lib.ctz 64 W+1<=j) && N.testBit (64*i+j)):=by
 obtain ⟨h1,h2,h3⟩:=ctz_spec h0 hl
 have hcl:=fun j=>clear_low h0 hl j
 generalize Lib.ctz 64 W=t at *
 have e1:=hW t h1
 rw [h2] at e1
 have hct:c<=t:=by
  by_cases q:c<=t
  ·exact q
  ·rw [decide_eq_false q] at e1;cases e1
 rw [decide_eq_true hct,Bool.true_and] at e1
 refine ⟨h1,?_,fun j hj=>?_⟩
 ·have:=bitsL_one N (64*i+c) (t - c) (by rw [show 64*i+c+(t - c)=64*i+t by omega];exact e1.symm) (fun j hj=>by
   have q:=hW (c+j) (by omega)
   rw [h3 (c+j) (by omega),decide_eq_true (show c<=c+j by omega),Bool.true_and,show 64*i+(c+j)=64*i+c+j by omega] at q
   exact q.symm)
  rw [show 64*i+(t+1)=64*i+c+(t - c)+1 by omega,this,show 64*i+c+(t - c)=64*i+t by omega]
 ·rw [hcl j,hW j hj]
  by_cases q:t < j
  ·rw [decide_eq_true q,decide_eq_true (show c<=j by omega),decide_eq_true (show t+1<=j by omega)]
   simp
  ·rw [decide_eq_false q,decide_eq_false (show ¬ t+1<=j by omega)]
   simp
set_option maxRecDepth 100000 in
set_option maxHeartbeats 4000000 in
theorem list_SB {w:World}{k m N:Nat}(h:SB w k m N)(hT:TabB w):Calls Tryz.prog 87 #[.pointer (some ⟨k+1,0,none⟩)] w fun e w'=>∃ v,e=.returned v/\LBs w (bitsL N m) v w':=by
 have hnw:=nwB_le h.ml
 have hml:=h.ml
 have HSB:Hid (SB w k m N):=h
 have HTB:Hid (TabB w):=hT
 have HC:Hid (Calls Tryz.prog 86 #[.pointer (some ⟨k+1,0,none⟩)] w fun e w'=>e=.returned (.int .i64 (popB N m:Int))/\w'=w):=count_SB h
 have hpm:=popB_le N m
 have hmk:=make_cap (popB N m) (by omega)
 have L0:Hid (LBs w [] (.slice (some ⟨w.heap.size,0,none⟩) 0 (popB N m)) (w.alloc (.cells (madeCells #[.int .i64 0] (popB N m)) 3))):=⟨IL.cap w _ (by omega),fun j hj=>by simp [Value.ownBlock] at hj;omega,bAl w _⟩
 have HS:Hid (Calls Tryz.prog 101 #[.pointer (some ⟨k+1,0,none⟩)] (w.alloc (.cells (madeCells #[.int .i64 0] (popB N m)) 3)) fun e w'=>e=.returned (.slice (some ⟨k,0,none⟩) (nwB m) (nwB m))/\w'=(w.alloc (.cells (madeCells #[.int .i64 0] (popB N m)) 3))):=held_SB (h.later (bAl w _))
 have HBL:Hid (∀ i,(bitsL N i).length<=i):=fun i=>by rw [bitsL_len];exact popB_le N i
 have HFIN:Hid (bitsL N (64*nwB m)=bitsL N m):=bitsL_size h.lt
 generalize popB N m=pc at *
 clear h hT
 go_enter Tryz.func87,Tryz.ntmps87
 go_wp2_with (first
  | (go_at_call 86;refine HC.out.mono ?_;rintro e w1 ⟨rfl,hz⟩;rw [hz];clear hz w1)
  | (go_at_call 101;refine HS.out.mono ?_;rintro e w1 ⟨rfl,hz⟩;rw [hz];clear hz w1))
 clear HC HS hmk
 go_loopw [3,12] (fun v z wr=>∃ i:Nat,i<=nwB m/\z=.int .i64 (i:Int)/\LBs w (bitsL N (64*i)) v wr) (fun _ z _=>nwB m - (intOf z).toNat)
 case atStart=>exact ⟨0,Nat.zero_le _,rfl,L0.out⟩
 case round =>
  clear L0
  obtain ⟨i,hi,rfl,hL⟩:=hrel
  by_cases hlt:i < nwB m
  ·have ilt:(i:Int) < ((nwB m:Nat):Int):=by omega
   have c:=(HSB.out.later hL.bel).word hlt
   have HL:Hid (LBs w (bitsL N (64*i)) u3 wr):=hL
   have HW0:Hid (∀ j,j < 64->(wdB N i).testBit j=(decide (0<=j) && N.testBit (64*i+j))):=fun j hj=>by rw [wdB_bit];simp [hj]
   have HWL:Hid (wdB N i < 18446744073709551616):=wdB_lt N i
   generalize wdB N i=W0 at *
   clear hL
   obtain ⟨wz,rfl⟩:∃ wz:World,wz=wr:=⟨_,rfl⟩
   go_wp2
   clear c
   go_loopw [3,5] (fun v z wr=>∃ c W:Nat,c<=64/\W < 18446744073709551616/\z=.int .u64 (W:Int)/\(∀ j,j < 64->W.testBit j=(decide (c<=j) && N.testBit (64*i+j)))/\LBs w (bitsL N (64*i+c)) v wr) (fun _ z _=>(intOf z).toNat)
   case atStart=>exact ⟨0,W0,Nat.zero_le _,HWL.out,rfl,HW0.out,HL.out⟩
   case round =>
    clear HL HW0 HWL
    obtain ⟨c,W,hc,hWl,rfl,hWb,hL⟩:=hrel
    by_cases h0:W=0
    ·have HZ:Hid (bitsL N (64*i+c)=bitsL N (64*(i+1))):=word_zero hc hWb h0
     have HL:Hid (LBs w (bitsL N (64*i+c)) u3 wr):=hL
     subst h0
     clear hWb hL
     go_wp2
     go_roundw
     case rel=>exact ⟨i+1,by omega,by go_num,by rw [<- HZ.out];exact HL.out⟩
     case measure=>simp [intOf];omega
    ·obtain ⟨ht,hb1,hb2⟩:=word_next hWb hWl h0
     have LO:Hid (Calls Tryz.prog 103 #[.int .i64 (i:Int),.int .u64 (W:Int)] wr fun e w'=>e=.returned (.int .i64 ((64*i+Lib.ctz 64 W:Nat):Int))/\w'=wr):=lowest_SB i W (by omega) hWl h0 wr (HTB.out.later hL.bel)
     have HL:Hid (LBs w (bitsL N (64*i+c)) u3 wr):=hL
     have nz:((W:Int) != 0)=true:=by simpa using h0
     have nz2:((W:Int) == 0)=false:=by simpa using h0
     have wS:IntKind.u64.wrap ((W:Int) - 1)=(W:Int) - 1:=u64_in (by omega) (by omega)
     have eS:bits .and .u64 (W:Int) ((W:Int) - 1)=((W &&& (W - 1):Nat):Int):=by
      have:=bits_and_u64_nat W (W - 1) hWl (by omega)
      rwa [show ((W - 1:Nat):Int)=(W:Int) - 1 by omega] at this
     have HX:Hid (W &&& (W - 1) < W):=Nat.lt_of_le_of_lt Nat.and_le_right (by omega)
     have HLN:Hid ((bitsL N (64*i+c)).length<=100000000):=Nat.le_trans (HBL.out _) (by omega)
     have HB1:Hid (bitsL N (64*i+(Lib.ctz 64 W+1))=bitsL N (64*i+c)++[((64*i+Lib.ctz 64 W:Nat):Int)]):=hb1
     have HB2:Hid (∀ j,j < 64->(W &&& (W - 1)).testBit j=(decide (Lib.ctz 64 W+1<=j) && N.testBit (64*i+j))):=hb2
     have HT1:Hid (Lib.ctz 64 W+1<=64):=ht
     have HWL:Hid (W < 18446744073709551616):=hWl
     generalize W &&& (W - 1)=V at *
     generalize Lib.ctz 64 W=t at *
     obtain ⟨y,hy⟩:∃ y:Int,((64*i+t:Nat):Int)=y:=⟨_,rfl⟩
     rw [hy] at LO HB1
     clear hWb hL hb1 hb2 ht h0 hy
     go_wp2_with (first
      | (go_at_call 103;refine LO.out.mono ?_;rintro e w1 ⟨rfl,hz⟩;rw [hz];clear hz w1)
      | (at_builtin;refine wpList_il_append_w rfl _ _ rfl u3 (bitsL N (64*i+c)) rfl (HL.out.il.later (bAl _ _)) wr.heap.size 1 y rfl (by simp) HLN.out ?_;intro a4 n4 c4 w4 ho4 hg4;have W4:Hid (LBs w (bitsL N (64*i+c)++[y]) (.slice a4 n4 c4) w4):=HL.out.app (bAl _ _) hg4 ho4;clear ho4 hg4))
     go_roundw
     case rel=>exact ⟨t+1,V,HT1.out,by have:=HX.out;have:=HWL.out;omega,rfl,HB2.out,by rw [HB1.out];exact W4.out⟩
     case measure=>simpa [intOf] using HX.out
  ·obtain rfl:i=nwB m:=by omega
   have ilt:¬ ((nwB m:Nat):Int) < ((nwB m:Nat):Int):=by omega
   rw [HFIN.out] at hL
   have HL:Hid (LBs w (bitsL N m) u3 wr):=hL
   clear hL
   go_wp2
   go_ret
   exact ⟨_,rfl,HL.out⟩
theorem wCells_len (N m:Nat):(wCells N m).length=nwB m:=by unfold wCells;rw [List.length_map,wdsB_len]
set_option maxRecDepth 100000 in
set_option maxHeartbeats 4000000 in
theorem copy_SB {w:World}{k m N:Nat}(h:SB w k m N):Calls Tryz.prog 107 #[.pointer (some ⟨k+1,0,none⟩)] w fun e w'=>e=.returned (.pointer (some ⟨w.heap.size+1,0,none⟩))/\SB w' w.heap.size m N/\Below w.heap.size w w':=by
 have hml:=h.ml
 have hnw:=nwB_le h.ml
 have hn0:0 < nwB m:=by unfold nwB;omega
 have HB:Hid (SB w k m N):=h
 have HS:Hid (Calls Tryz.prog 101 #[.pointer (some ⟨k+1,0,none⟩)] w fun e w'=>e=.returned (.slice (some ⟨k,0,none⟩) (nwB m) (nwB m))/\w'=w):=held_SB h
 have HE:Hid (Calls Tryz.prog 97 #[.int .i64 (m:Int)] w fun e w'=>e=.returned (.pointer (some ⟨w.heap.size+1,0,none⟩))/\SB w' w.heap.size m 0/\Below w.heap.size w w'/\w'.heap.size=w.heap.size+2):=empty_SB m hml w
 obtain ⟨c0,c1⟩:=h.cells
 have ne:(((nwB m:Nat):Int) == 0)=false:=by simp;omega
 have ne2:nwB m≠0:=by omega
 clear h
 go_enter Tryz.func107,Tryz.ntmps107
 go_wp2_with (first
  | (go_at_call 101;refine HS.out.mono ?_;rintro e w1 ⟨rfl,hz⟩;rw [hz];clear hz w1)
  | (go_at_call 97;refine HE.out.mono ?_;rintro e w1 ⟨rfl,s1,b1,z1⟩;have S1:Hid (SB w1 w.heap.size m 0/\Below w.heap.size w w1):=⟨s1,b1⟩;clear s1 b1 z1))
 obtain ⟨wd,hwd⟩:∃ wd:World,wd=w1.drew:=⟨_,rfl⟩
 have BD:Hid (Below w.heap.size w wd):=by rw [hwd];exact S1.out.2.drew
 have HD:Hid (SB wd k m N):=HB.out.later BD.out
 have HN:Hid (SB wd w.heap.size m 0):=by rw [hwd];exact S1.out.1.later (Below.refl _ _).drew
 obtain ⟨-,d1⟩:=HD.out.cells
 obtain ⟨-,d2⟩:=HN.out.cells
 refine wp_region_tail_s 8 (by kernel_rfl) (by kernel_rfl) wd hwd ?_
 clear hwd S1 HS HE c0 c1
 simp only [List.take_succ_cons,List.take_zero,List.drop_succ_cons,List.drop_zero]
 refine st_yes (v:=?_) (by rfl) ?_ ?_
 rotate_left
 ·(go_simp;with_reducible rfl)
 (try simp only [Act.put,List.setIfInBounds_toArray,List.set_cons_zero,List.set_cons_succ])
 refine st_yes (v:=?_) (by rfl) ?_ ?_
 rotate_left
 ·(go_simp;with_reducible rfl)
 (try simp only [Act.put,List.setIfInBounds_toArray,List.set_cons_zero,List.set_cons_succ])
 refine st_yes (v:=?_) (by rfl) ?_ ?_
 rotate_left
 ·(go_simp;with_reducible rfl)
 (try simp only [Act.put,List.setIfInBounds_toArray,List.set_cons_zero,List.set_cons_succ])
 refine st_yes (v:=?_) (by rfl) ?_ ?_
 rotate_left
 ·(go_simp;with_reducible rfl)
 (try simp only [Act.put,List.setIfInBounds_toArray,List.set_cons_zero,List.set_cons_succ])
 refine st_yes (v:=?_) (by rfl) ?_ ?_
 rotate_left
 ·(go_simp;with_reducible rfl)
 (try simp only [Act.put,List.setIfInBounds_toArray,List.set_cons_zero,List.set_cons_succ])
 refine st_yes (v:=?_) (by rfl) ?_ ?_
 rotate_left
 ·(go_simp;with_reducible rfl)
 (try simp only [Act.put,List.setIfInBounds_toArray,List.set_cons_zero,List.set_cons_succ])
 refine st_yes (v:=?_) (by rfl) ?_ ?_
 rotate_left
 ·(go_simp;with_reducible rfl)
 (try simp only [Act.put,List.setIfInBounds_toArray,List.set_cons_zero,List.set_cons_succ])
 refine st_yes (v:=?_) (by rfl) ?_ ?_
 rotate_left
 ·(go_simp;with_reducible rfl)
 (try simp only [Act.put,List.setIfInBounds_toArray,List.set_cons_zero,List.set_cons_succ])
 refine st_nil ?_
 have e4:((wCells 0 m).toArray.toList.take 0++(wCells N m++(wCells 0 m).toArray.toList.drop (0+(wCells N m).length))).toArray=(wCells N m).toArray:=by
  rw [List.take_zero,List.nil_append,Nat.zero_add,List.drop_eq_nil_of_le (by show (wCells 0 m).length<=_;rw [wCells_len,wCells_len];exact Nat.le_refl _),List.append_nil]
 have HR:Hid (SB (wd.setRow w.heap.size (wCells N m).toArray) w.heap.size m N/\Below w.heap.size w (wd.setRow w.heap.size (wCells N m).toArray)):=by
  refine ⟨⟨?_,?_,HB.out.lt,HB.out.ml⟩,below_setRow BD.out (Nat.le_refl _) _⟩
  ·rw [setRow_other wd w.heap.size (w.heap.size+1) _ (by omega)]
   exact HN.out.hd
  ·exact setRow_heap wd w.heap.size _ _ 135 _ HN.out.wd
 refine wpList_copy_own rfl _ _ 136 136 rfl 135 Tryz.underlying136 (by kernel_rfl) w.heap.size 0 (nwB m) (nwB m) ⟨k,0,none⟩ (nwB m) (nwB m) rfl rfl (wCells 0 m).toArray 135 HN.out.wd (wCells N m) (by rw [wCells_len];exact (Nat.min_self _).symm) (fun j v hj=>?_) (by rw [wCells_len,List.size_toArray,wCells_len];omega) (fun v hv=>?_) ?_
 ·have hjl:j < nwB m:=by
   have:=(List.getElem?_eq_some_iff.1 hj).1
   rwa [wCells_len] at this
  rw [aNn,Nat.zero_add,HD.out.word hjl]
  unfold wCells at hj
  rw [List.getElem?_map,wdsB_get _ _ hjl] at hj
  exact hj
 ·unfold wCells at hv
  obtain ⟨x,_,rfl⟩:=List.mem_map.1 hv
  rfl
 ·rw [e4]
  clear e4 HD HN HB BD d1 d2
  generalize wd.setRow w.heap.size (wCells N m).toArray=w5 at *
  go_wp2
  go_ret
  exact ⟨rfl,HR.out.1,HR.out.2⟩
theorem SB.apart {w:World}{k m N k2 m2 M:Nat}(h:SB w k m N)(h2:SB w k2 m2 M):k2+1≠k:=by
 intro e
 have a:=h.wd
 rw [<- e,h2.hd] at a
 simp only [Option.some.injEq,Obj.cells.injEq] at a
 exact absurd a.2.1 (by decide)
theorem oth_word {w:World}{k m N k2 m2 M:Nat}(h:SB w k m N)(h2:SB w k2 m2 M)(hne:k2≠k)(X:Nat):∀ wr i,i < nwB m->MXB w k m N X i wr->Calls Tryz.prog 129 #[.slice (some ⟨k2,0,none⟩) (nwB m2) (nwB m2),.int .i64 (i:Int)] wr fun e w'=>e=.returned (.int .u64 (wdB M i:Int))/\w'=wr :=
 fun wr i _ hx=>(h2.frB hx.fr hne (h.apart h2)).wordAt i
set_option maxRecDepth 100000 in
set_option maxHeartbeats 4000000 in
theorem union_SB {w:World}{k m N k2 m2 M:Nat}(h:SB w k m N)(h2:SB w k2 m2 M)(hne:k2≠k):Calls Tryz.prog 108 #[.pointer (some ⟨k+1,0,none⟩),.pointer (some ⟨k2+1,0,none⟩)] w fun e w'=>e=.returned (.bool (decide ((N ||| M) % 2 ^ m≠N)))/\SB w' k m ((N ||| M) % 2 ^ m)/\FrB (·=k) w w':=by
 have CH:Hid (Calls Tryz.prog 121 #[.pointer (some ⟨k+1,0,none⟩),.pointer (some ⟨k2+1,0,none⟩),.func (.func 122) #[] #[]] w fun e w'=>e=.returned (.bool (decide ((N ||| M) % 2 ^ m≠N)))/\SB w' k m ((N ||| M) % 2 ^ m)/\FrB (·=k) w w'):=union_ch (M:=M) (.pointer (some ⟨k2+1,0,none⟩)) (.slice (some ⟨k2,0,none⟩) (nwB m2) (nwB m2)) h (fun i _=>wdB_lt M i) (held_SB h2) (oth_word h h2 hne _)
 clear h h2 hne
 generalize (N ||| M) % 2 ^ m=X at *
 generalize hbv:decide (X≠N)=bv at *
 clear hbv
 go_enter Tryz.func108,Tryz.ntmps108
 go_wp2_with (go_at_call 121;refine CH.out.mono ?_;rintro e w1 ⟨rfl,s1,f1⟩;have S1:Hid (SB w1 k m X/\FrB (·=k) w w1):=⟨s1,f1⟩;clear s1 f1)
 go_ret
 exact ⟨rfl,S1.out.1,S1.out.2⟩
theorem minusB_lt {N M m:Nat}(hN:N < 2 ^ m):mB_ N M < 2 ^ m:=by
 unfold mB_
 exact Nat.xor_lt_two_pow hN (Nat.lt_of_le_of_lt Nat.and_le_left hN)
end Go.Proofs.YtockbobpmiagiaaGreatDoor
