import Derived.Test.YteciabdjkaackaaGreatPBBaseToFSet
namespace Go.Proofs.YteciabdjkaackaaGreat
set_option linter.unusedVariables false
open Go.RowKit Go.PlainAid
def digS (c:Int):Bool:=decide (48<=c/\c<=57)
def letS (c:Int):Bool:=decide (97<=c/\c<=122∨65<=c/\c<=90)
def wordC (c:Int):Bool:=letS c || digS c || c == 95
def quoC (c:Int):Bool:=decide (33<=c/\c<=126/\c≠39/\c≠92)
def wordS (s:ByteArray):Bool:=decide (1<=s.size) && decide (s.size<=32) && !digS (bt s 0) && (List.range s.size).all fun i=>wordC (bt s i)
def qS_ (s:ByteArray):Bool:=decide (3<=s.size) && decide (s.size<=32) && bt s 0 == 39 && bt s (s.size - 1) == 39 && (List.range (s.size - 2)).all fun i=>quoC (bt s (i+1))
def termS (s:ByteArray):Bool:=wordS s || qS_ s
theorem isdigit_any (c:Int)(w:World)(h0:0<=c)(h1:c<=255):Calls Tryz.prog 156 #[.int .u8 c] w fun e w'=>e=.returned (.bool (digS c))/\w=w':=by
 go_enter Tryz.func156,Tryz.ntmps156
 go_wp2
 all_goals go_ret
 all_goals refine ⟨congrArg (fun b=>Ending.returned (Value.bool b)) (Bool.eq_iff_iff.2 ?_),rfl⟩
 all_goals simp [digS]
 all_goals omega
theorem isletter_any (c:Int)(w:World)(h0:0<=c)(h1:c<=255):Calls Tryz.prog 157 #[.int .u8 c] w fun e w'=>e=.returned (.bool (letS c))/\w=w':=by
 go_enter Tryz.func157,Tryz.ntmps157
 go_wp2
 all_goals go_ret
 all_goals refine ⟨congrArg (fun b=>Ending.returned (Value.bool b)) (Bool.eq_iff_iff.2 ?_),rfl⟩
 all_goals simp [letS]
 all_goals omega
theorem maybe_any (c:Int)(w:World)(h0:0<=c)(h1:c<=255):Calls Tryz.prog 161 #[.int .u8 c] w fun e w'=>e=.returned (.bool (quoC c))/\w=w':=by
 go_enter Tryz.func161,Tryz.ntmps161
 go_wp2
 all_goals go_ret
 all_goals refine ⟨congrArg (fun b=>Ending.returned (Value.bool b)) (Bool.eq_iff_iff.2 ?_),rfl⟩
 all_goals simp [quoC]
 all_goals omega
theorem refletter_any (c:Int)(w:World)(h0:0<=c)(h1:c<=255):Calls Tryz.prog 136 #[.int .u8 c] w fun e w'=>e=.returned (.bool (wordC c))/\w=w':=by
 go_enter Tryz.func136,Tryz.ntmps136
 go_wp2
 all_goals go_ret
 all_goals refine ⟨congrArg (fun b=>Ending.returned (Value.bool b)) (Bool.eq_iff_iff.2 ?_),rfl⟩
 all_goals simp [wordC,letS,digS]
 all_goals omega
theorem wordS_false {s:ByteArray}{k:Nat}(hk:k < s.size)(h:wordC (bt s k)=false):wordS s=false:=by
 have:((List.range s.size).all fun i=>wordC (bt s i))=false:=List.all_eq_false.2 ⟨k,List.mem_range.2 hk,by simp [h]⟩
 simp [wordS,this]
theorem wordS_true {s:ByteArray}(h1:1<=s.size)(h2:s.size<=32)(h3:digS (bt s 0)=false)(h:∀ i,i < s.size->wordC (bt s i)=true):wordS s=true:=by
 simp only [wordS,decide_eq_true h1,decide_eq_true h2,h3,Bool.true_and,Bool.not_false]
 exact List.all_eq_true.2 fun i hi=>h i (List.mem_range.1 hi)
theorem quotedS_false {s:ByteArray}{k:Nat}(hk:1<=k)(hk2:k < s.size - 1)(h:quoC (bt s k)=false):qS_ s=false:=by
 have:((List.range (s.size - 2)).all fun i=>quoC (bt s (i+1)))=false:=List.all_eq_false.2 ⟨k - 1,List.mem_range.2 (by omega),by rw [Nat.sub_add_cancel hk];simp [h]⟩
 simp [qS_,this]
theorem quotedS_true {s:ByteArray}(h1:3<=s.size)(h2:s.size<=32)(h3:bt s 0=39)(h4:bt s (s.size - 1)=39)(h:∀ i,1<=i->i < s.size - 1->quoC (bt s i)=true):qS_ s=true:=by
 simp only [qS_,decide_eq_true h1,decide_eq_true h2,h3,h4,Bool.true_and,beq_self_eq_true]
 exact List.all_eq_true.2 fun i hi=>h (i+1) (by omega) (by have:=List.mem_range.1 hi;omega)
theorem word_step {s:ByteArray}{k:Nat}(h:∀ j,j < k->wordC (bt s j)=true)(hk:wordC (bt s k)=true):∀ j,j < k+1->wordC (bt s j)=true:=fun j hj=>by
 rcases Nat.lt_succ_iff_lt_or_eq.1 hj with q | rfl
 ·exact h j q
 ·exact hk
set_option maxHeartbeats 1000000 in
theorem isword_any (s:ByteArray)(w:World)(hs:s.size<=9223372036854775807):Calls Tryz.prog 139 #[.string s] w fun e w'=>e=.returned (.bool (wordS s))/\w=w':=by
 by_cases h0:s.size=0
 ·have hse:s=⟨#[]⟩:=ByteArray.ext (Array.eq_empty_of_size_eq_zero h0)
  subst hse
  go_enter Tryz.func139,Tryz.ntmps139
  go_wp2
  go_ret
  exact ⟨rfl,rfl⟩
 have hb:=get_bt s
 have hl:=bt_nonneg s
 have hu:=bt_le s
 have hemp:s.toList.isEmpty=false:=by
  have:s.toList≠[]:=fun e=>h0 (by rw [ByteArray.toList_eq] at e;show s.data.size=0;rw [<- Array.length_toList,e];rfl)
  cases h:s.toList with
  | nil=>exact absurd h this
  | cons=>rfl
 by_cases h1:32 < s.size
 ·have hf:wordS s=false:=by simp [wordS];omega
  rw [hf]
  go_enter Tryz.func139,Tryz.ntmps139
  go_wp2
  go_ret
  exact ⟨rfl,rfl⟩
 by_cases h2:digS (bt s 0)=true
 ·have hf:wordS s=false:=by simp [wordS,h2]
  rw [hf]
  go_enter Tryz.func139,Tryz.ntmps139
  go_wp2_with (first | (go_at_call 156;refine (isdigit_any _ _ (hl _) (hu _)).mono ?_;rintro e w' ⟨rfl,rfl⟩) | go_in)
  go_ret
  exact ⟨rfl,rfl⟩
 have h2:digS (bt s 0)=false:=by simpa using h2
 go_enter Tryz.func139,Tryz.ntmps139
 go_wp2_with (first | (go_at_call 156;refine (isdigit_any _ _ (hl _) (hu _)).mono ?_;rintro e w' ⟨rfl,rfl⟩) | go_in)
 go_loop [3] (fun i=>∃ k:Nat,k<=s.size/\i=.int .i64 k/\Hid (∀ j,j < k->wordC (bt s j)=true)) (fun i=>s.size - (intOf i).toNat)
 case atStart=>exact ⟨0,Nat.zero_le _,rfl,fun j hj=>by omega⟩
 case round =>
  obtain ⟨k,hk,rfl,HA⟩:=hrel
  by_cases hlt:k < s.size
  ·by_cases a:letS (bt s k)=true
   ·have HW:Hid (wordC (bt s k)=true):=by unfold Hid;simp [wordC,a]
    go_wp2_with (first | (go_at_call 157;refine (isletter_any _ _ (hl _) (hu _)).mono ?_;rintro e w' ⟨rfl,rfl⟩) | (go_at_call 156;refine (isdigit_any _ _ (hl _) (hu _)).mono ?_;rintro e w' ⟨rfl,rfl⟩) | go_in)
    go_round
    case rel=>exact ⟨k+1,by omega,by go_num,word_step HA.out HW.out⟩
    case measure=>simp [intOf];omega
   have a:letS (bt s k)=false:=by simpa using a
   by_cases d:digS (bt s k)=true
   ·have HW:Hid (wordC (bt s k)=true):=by unfold Hid;simp [wordC,d]
    go_wp2_with (first | (go_at_call 157;refine (isletter_any _ _ (hl _) (hu _)).mono ?_;rintro e w' ⟨rfl,rfl⟩) | (go_at_call 156;refine (isdigit_any _ _ (hl _) (hu _)).mono ?_;rintro e w' ⟨rfl,rfl⟩) | go_in)
    go_round
    case rel=>exact ⟨k+1,by omega,by go_num,word_step HA.out HW.out⟩
    case measure=>simp [intOf];omega
   have d:digS (bt s k)=false:=by simpa using d
   by_cases u:bt s k=95
   ·have HW:Hid (wordC (bt s k)=true):=by unfold Hid;simp [wordC,u]
    have u':(bt s k != 95)=false:=by simp [u]
    have HU:Hid (bt s k=95):=u
    clear u
    go_wp2_with (first | (go_at_call 157;refine (isletter_any _ _ (hl _) (hu _)).mono ?_;rintro e w' ⟨rfl,rfl⟩) | (go_at_call 156;refine (isdigit_any _ _ (hl _) (hu _)).mono ?_;rintro e w' ⟨rfl,rfl⟩) | go_in)
    go_round
    case rel=>exact ⟨k+1,by omega,by go_num,word_step HA.out HW.out⟩
    case measure=>simp [intOf];omega
   ·have HW:Hid (wordS s=false):=wordS_false hlt (by simp [wordC,a,d,u])
    have u':(bt s k != 95)=true:=by simp [u]
    go_wp2_with (first | (go_at_call 157;refine (isletter_any _ _ (hl _) (hu _)).mono ?_;rintro e w' ⟨rfl,rfl⟩) | (go_at_call 156;refine (isdigit_any _ _ (hl _) (hu _)).mono ?_;rintro e w' ⟨rfl,rfl⟩) | go_in)
    go_ret
    exact ⟨by rw [HW.out];rfl,rfl⟩
  ·have HW:Hid (wordS s=true):=wordS_true (by omega) (by omega) h2 fun i hi=>HA.out i (by omega)
   go_wp2
   go_ret
   exact ⟨by rw [HW.out];rfl,rfl⟩
set_option maxHeartbeats 1000000 in
theorem refword_any (s:ByteArray)(w:World)(hs:s.size<=9223372036854775807):Calls Tryz.prog 116 #[.string s] w fun e w'=>e=.returned (.bool (wordS s))/\w=w':=by
 have hb:=get_bt s
 have hl:=bt_nonneg s
 have hu:=bt_le s
 by_cases h0:s.size < 1
 ·have hf:wordS s=false:=by simp [wordS];omega
  rw [hf]
  go_enter Tryz.func116,Tryz.ntmps116
  go_wp2
  go_ret
  exact ⟨rfl,rfl⟩
 by_cases h1:32 < s.size
 ·have hf:wordS s=false:=by simp [wordS];omega
  rw [hf]
  go_enter Tryz.func116,Tryz.ntmps116
  go_wp2
  go_ret
  exact ⟨rfl,rfl⟩
 by_cases h2:digS (bt s 0)=true
 ·have hf:wordS s=false:=by simp [wordS,h2]
  have h3:48<=bt s 0/\bt s 0<=57:=of_decide_eq_true h2
  obtain ⟨h3,h4⟩:=h3
  rw [hf]
  clear h2
  go_enter Tryz.func116,Tryz.ntmps116
  go_wp2
  go_ret
  exact ⟨rfl,rfl⟩
 have h2:digS (bt s 0)=false:=by simpa using h2
 have h3:¬ (48<=bt s 0/\bt s 0<=57):=of_decide_eq_false h2
 go_enter Tryz.func116,Tryz.ntmps116
 go_wp2
 all_goals try (exfalso;omega)
 all_goals
  go_loop [3] (fun i=>∃ k:Nat,k<=s.size/\i=.int .i64 k/\Hid (∀ j,j < k->wordC (bt s j)=true)) (fun i=>s.size - (intOf i).toNat)
  case atStart=>exact ⟨0,Nat.zero_le _,rfl,fun j hj=>by omega⟩
  case round =>
   obtain ⟨k,hk,rfl,HA⟩:=hrel
   by_cases hlt:k < s.size
   ·by_cases a:wordC (bt s k)=true
    ·have HW:Hid (wordC (bt s k)=true):=a
     go_wp2_with (first | (go_at_call 136;refine (refletter_any _ _ (hl _) (hu _)).mono ?_;rintro e w' ⟨rfl,rfl⟩) | go_in)
     go_round
     case rel=>exact ⟨k+1,by omega,by go_num,word_step HA.out HW.out⟩
     case measure=>simp [intOf];omega
    ·have a:wordC (bt s k)=false:=by simpa using a
     have HW:Hid (wordS s=false):=wordS_false hlt a
     go_wp2_with (first | (go_at_call 136;refine (refletter_any _ _ (hl _) (hu _)).mono ?_;rintro e w' ⟨rfl,rfl⟩) | go_in)
     go_ret
     exact ⟨by rw [HW.out];rfl,rfl⟩
   ·have HW:Hid (wordS s=true):=wordS_true (by omega) (by omega) h2 fun i hi=>HA.out i (by omega)
    go_wp2
    go_ret
    exact ⟨by rw [HW.out];rfl,rfl⟩
theorem quo_step {s:ByteArray}{k:Nat}(h:∀ j,1<=j->j < k->quoC (bt s j)=true)(hk:quoC (bt s k)=true):∀ j,1<=j->j < k+1->quoC (bt s j)=true:=fun j h1 hj=>by
 rcases Nat.lt_succ_iff_lt_or_eq.1 hj with q | rfl
 ·exact h j h1 q
 ·exact hk
set_option maxHeartbeats 2000000 in
theorem isquoted_any (s:ByteArray)(w:World)(hs:s.size<=9223372036854775807):Calls Tryz.prog 155 #[.string s] w fun e w'=>e=.returned (.bool (qS_ s))/\w=w':=by
 have hb:=get_bt s
 have hl:=bt_nonneg s
 have hu:=bt_le s
 by_cases h0:s.size < 3
 ·have hf:qS_ s=false:=by simp [qS_];omega
  rw [hf]
  go_enter Tryz.func155,Tryz.ntmps155
  go_wp2
  go_ret
  exact ⟨rfl,rfl⟩
 by_cases h1:32 < s.size
 ·have hf:qS_ s=false:=by simp [qS_];omega
  rw [hf]
  go_enter Tryz.func155,Tryz.ntmps155
  go_wp2
  go_ret
  exact ⟨rfl,rfl⟩
 by_cases h2:¬ bt s 0=39
 ·have hf:qS_ s=false:=by simp [qS_,h2]
  have h2':(bt s 0 != 39)=true:=by simp [h2]
  rw [hf]
  go_enter Tryz.func155,Tryz.ntmps155
  go_wp2
  go_ret
  exact ⟨rfl,rfl⟩
 have h2:bt s 0=39:=Classical.not_not.1 h2
 have h2':(bt s 0 != 39)=false:=by simp [h2]
 have H2:Hid (bt s 0=39):=h2
 clear h2
 by_cases h3:¬ bt s (s.size - 1)=39
 ·have hf:qS_ s=false:=by simp [qS_,h3]
  have h3':(bt s (s.size - 1) != 39)=true:=by simp [h3]
  rw [hf]
  go_enter Tryz.func155,Tryz.ntmps155
  go_wp2
  go_ret
  exact ⟨rfl,rfl⟩
 have h3:bt s (s.size - 1)=39:=Classical.not_not.1 h3
 have h3':(bt s (s.size - 1) != 39)=false:=by simp [h3]
 have H3:Hid (bt s (s.size - 1)=39):=h3
 clear h3
 go_enter Tryz.func155,Tryz.ntmps155
 go_wp2
 go_loop [4] (fun i=>∃ k:Nat,1<=k/\k<=s.size - 1/\i=.int .i64 k/\Hid (∀ j,1<=j->j < k->quoC (bt s j)=true)) (fun i=>s.size - (intOf i).toNat)
 case atStart=>exact ⟨1,Nat.le_refl _,by omega,rfl,fun j h hj=>by omega⟩
 case round =>
  obtain ⟨k,hk1,hk,rfl,HA⟩:=hrel
  by_cases hlt:k < s.size - 1
  ·by_cases a:quoC (bt s k)=true
   ·have HW:Hid (quoC (bt s k)=true):=a
    go_wp2_with (first | (go_at_call 161;refine (maybe_any _ _ (hl _) (hu _)).mono ?_;rintro e w' ⟨rfl,rfl⟩) | go_in)
    go_round
    case rel=>exact ⟨k+1,by omega,by omega,by go_num,quo_step HA.out HW.out⟩
    case measure=>simp [intOf];omega
   ·have a:quoC (bt s k)=false:=by simpa using a
    have HW:Hid (qS_ s=false):=quotedS_false hk1 hlt a
    go_wp2_with (first | (go_at_call 161;refine (maybe_any _ _ (hl _) (hu _)).mono ?_;rintro e w' ⟨rfl,rfl⟩) | go_in)
    go_ret
    exact ⟨by rw [HW.out];rfl,rfl⟩
  ·have HW:Hid (qS_ s=true):=quotedS_true (by omega) (by omega) H2.out H3.out fun i h1 hi=>HA.out i h1 (by omega)
   go_wp2
   go_ret
   exact ⟨by rw [HW.out];rfl,rfl⟩
set_option maxHeartbeats 2000000 in
theorem refquoted_any (s:ByteArray)(w:World)(hs:s.size<=9223372036854775807):Calls Tryz.prog 117 #[.string s] w fun e w'=>e=.returned (.bool (qS_ s))/\w=w':=by
 have hb:=get_bt s
 have hl:=bt_nonneg s
 have hu:=bt_le s
 by_cases h0:s.size < 3
 ·have hf:qS_ s=false:=by simp [qS_];omega
  rw [hf]
  go_enter Tryz.func117,Tryz.ntmps117
  go_wp2
  go_ret
  exact ⟨rfl,rfl⟩
 by_cases h1:32 < s.size
 ·have hf:qS_ s=false:=by simp [qS_];omega
  rw [hf]
  go_enter Tryz.func117,Tryz.ntmps117
  go_wp2
  go_ret
  exact ⟨rfl,rfl⟩
 by_cases h2:¬ bt s 0=39
 ·have hf:qS_ s=false:=by simp [qS_,h2]
  have h2':(bt s 0 != 39)=true:=by simp [h2]
  rw [hf]
  go_enter Tryz.func117,Tryz.ntmps117
  go_wp2
  go_ret
  exact ⟨rfl,rfl⟩
 have h2:bt s 0=39:=Classical.not_not.1 h2
 have h2':(bt s 0 != 39)=false:=by simp [h2]
 have H2:Hid (bt s 0=39):=h2
 clear h2
 by_cases h3:¬ bt s (s.size - 1)=39
 ·have hf:qS_ s=false:=by simp [qS_,h3]
  have h3':(bt s (s.size - 1) != 39)=true:=by simp [h3]
  rw [hf]
  go_enter Tryz.func117,Tryz.ntmps117
  go_wp2
  go_ret
  exact ⟨rfl,rfl⟩
 have h3:bt s (s.size - 1)=39:=Classical.not_not.1 h3
 have h3':(bt s (s.size - 1) != 39)=false:=by simp [h3]
 have H3:Hid (bt s (s.size - 1)=39):=h3
 clear h3
 go_enter Tryz.func117,Tryz.ntmps117
 go_wp2
 go_loop [4] (fun i=>∃ k:Nat,1<=k/\k<=s.size - 1/\i=.int .i64 k/\Hid (∀ j,1<=j->j < k->quoC (bt s j)=true)) (fun i=>s.size - (intOf i).toNat)
 case atStart=>exact ⟨1,Nat.le_refl _,by omega,rfl,fun j h hj=>by omega⟩
 case round =>
  obtain ⟨k,hk1,hk,rfl,HA⟩:=hrel
  by_cases hlt:k < s.size - 1
  ·have hlk:=hl k
   have huk:=hu k
   by_cases a1:bt s k < 33
   ·have HW:Hid (qS_ s=false):=quotedS_false hk1 hlt (by simp [quoC];omega)
    go_wp2
    go_ret
    exact ⟨by rw [HW.out];rfl,rfl⟩
   by_cases a2:126 < bt s k
   ·have HW:Hid (qS_ s=false):=quotedS_false hk1 hlt (by simp [quoC];omega)
    go_wp2
    go_ret
    exact ⟨by rw [HW.out];rfl,rfl⟩
   by_cases a3:bt s k=39
   ·have HW:Hid (qS_ s=false):=quotedS_false hk1 hlt (by simp [quoC];omega)
    go_wp2
    go_ret
    exact ⟨by rw [HW.out];rfl,rfl⟩
   by_cases a4:bt s k=92
   ·have HW:Hid (qS_ s=false):=quotedS_false hk1 hlt (by simp [quoC];omega)
    go_wp2
    go_ret
    exact ⟨by rw [HW.out];rfl,rfl⟩
   have HW:Hid (quoC (bt s k)=true):=by unfold Hid;simp [quoC];omega
   have a3':(bt s k == 39)=false:=by simp [a3]
   have a4':(bt s k == 92)=false:=by simp [a4]
   go_wp2
   go_round
   case rel=>exact ⟨k+1,by omega,by omega,by go_num,quo_step HA.out HW.out⟩
   case measure=>simp [intOf];omega
  ·have HW:Hid (qS_ s=true):=quotedS_true (by omega) (by omega) H2.out H3.out fun i h1 hi=>HA.out i h1 (by omega)
   go_wp2
   go_ret
   exact ⟨by rw [HW.out];rfl,rfl⟩
theorem istermname_any (s:ByteArray)(w:World)(hs:s.size<=9223372036854775807):Calls Tryz.prog 138 #[.string s] w fun e w'=>e=.returned (.bool (termS s))/\w=w':=by
 by_cases h:wordS s=true
 ·have hf:termS s=true:=by simp [termS,h]
  rw [hf]
  go_enter Tryz.func138,Tryz.ntmps138
  go_wp2_with (first | (go_at_call 139;refine (isword_any _ _ hs).mono ?_;rintro e w' ⟨rfl,rfl⟩) | (go_at_call 155;refine (isquoted_any _ _ hs).mono ?_;rintro e w' ⟨rfl,rfl⟩) | go_in)
  go_ret
  exact ⟨rfl,rfl⟩
 ·have h:wordS s=false:=by simpa using h
  have hf:termS s=qS_ s:=by simp [termS,h]
  rw [hf]
  go_enter Tryz.func138,Tryz.ntmps138
  go_wp2_with (first | (go_at_call 139;refine (isword_any _ _ hs).mono ?_;rintro e w' ⟨rfl,rfl⟩) | (go_at_call 155;refine (isquoted_any _ _ hs).mono ?_;rintro e w' ⟨rfl,rfl⟩) | go_in)
  go_ret
  exact ⟨rfl,rfl⟩
open Go.RowKit Go.Maps
def inB (seen:List ByteArray)(s:ByteArray):Bool:=seen.any fun t=>decide (t=s)
theorem inB_snoc (seen:List ByteArray)(s t:ByteArray):inB (seen++[s]) t=(inB seen t || decide (s=t)):=by simp [inB]
structure USet (D:DataW Unit)(seen:List ByteArray):Prop where
 tidy:Tidy D
 has_:∀ s,Maps.has D (keyL s)=inB seen s
 size:Maps.size D=seen.length
theorem USet.empty:USet (.map []) []:=⟨tidy_empty,fun _=>rfl,rfl⟩
theorem USet.put {D:DataW Unit}{seen:List ByteArray}(h:USet D seen){s:ByteArray}(hs:inB seen s=false):USet (D.put (keyL s) (.agg [])) (seen++[s]):=by
 refine ⟨h.tidy.put (keyL_is s) _,fun t=>?_,?_⟩
 ·by_cases e:t=s
  ·subst e;rw [has_put_same h.tidy.isMap (keyL_is t),inB_snoc];simp
  ·rw [has_put_other (fun q=>e (keyL_inj q)),h.has_ t,inB_snoc];simp [Ne.symm e]
 ·rw [size_put h.tidy,h.has_ s,h.size];simp [hs]
def fF_ (form:ByteArray->Bool):List ByteArray->List ByteArray->Int×Int×List ByteArray
 | [],seen=>(0,0,seen)
 | s :: r,seen=>if form s=false then (21,seen.length,seen) else if inB seen s=true then (6,seen.length,seen) else fF_ form r (seen++[s])
theorem zeroUnit (w:World):(zeroValue 186).run Tryz.prog w=.ok (.agg #[]) w:=by kernel_rfl
structure FOut (w w':World)(b:Nat)(r:Int×Int×List ByteArray)(e:Ending)(D':DataW Unit):Prop where
 ret:e=.returned (.tuple #[.int .i64 r.1,.int .i64 r.2.1])
 own:w'.ownsMap Tryz.prog 9 unitElem b (Maps.size D') D'
 set_:USet D' r.2.2
 grown:w.grownBy w' (some b)
theorem grow_alloc {w w1:World}{r:Option Nat}(h:w.grownBy w1 r)(o:Obj):w.grownBy (w1.alloc o) r:=h.trans (World.grownBy_alloc w1 o r)
set_option maxRecDepth 100000 in
set_option maxHeartbeats 2000000 in
theorem forms_word (ao:Option Addr)(cap b:Nat)(ss seen:List ByteArray)(D:DataW Unit)(w:World)(hl:ss.length<=64)(hsz:∀ s∈ss,s.size<=maxLen)(hn:seen.length<=1000)(hr:StrRow w ao ss)
  (hown:w.ownsMap Tryz.prog 9 unitElem b (Maps.size D) D) (hU:USet D seen) :
  Calls Tryz.prog 137 #[.slice ao ss.length cap,.func (.func 139) #[] #[],.map (some b)] w fun e w'=>∃ D',FOut w w' b (fF_ wordS ss seen) e D':=by
 go_enter Tryz.func137,Tryz.ntmps137
 go_wp2
 go_loopw [15] (fun i wr=>∃ (k:Nat) (D':DataW Unit) (sn:List ByteArray),k<=ss.length/\i=.int .i64 k/\wr.ownsMap Tryz.prog 9 unitElem b (Maps.size D') D'/\Hid (USet D' sn)/\w.grownBy wr (some b)/\Hid (fF_ wordS (ss.drop k) sn=fF_ wordS ss seen)/\Hid (sn.length=seen.length+k)) (fun i _=>ss.length - (intOf i).toNat)
 case atStart=>exact ⟨0,D,seen,Nat.zero_le _,rfl,hown,hU,⟨rfl,rfl,rfl,Nat.le_refl _,fun _ _ _=>rfl⟩,rfl,rfl⟩
 case round =>
  obtain ⟨k,D',sn,hk,rfl,hown1,hU1,hG,HF,HN⟩:=hrel
  by_cases hlt:k < ss.length
  ·obtain ⟨q,off,rfl,hq,hc⟩:=hr (by intro h;subst h;simp at hlt)
   have hqb:q≠b:=by
    intro e
    obtain ⟨es,cl,hbm,_⟩:=hown
    have:=hc k hlt
    subst e
    simp [World.cell?,hbm] at this
   have h1:wr.cell? ⟨q,off+k,none⟩=some (.string (ss.getD k ByteArray.empty)):=by
    rw [<- hc k hlt]
    simp [World.cell?,hG.block q hq (by simpa using hqb)]
   have hs1:(ss.getD k ByteArray.empty).size<=maxLen:=hsz _ (by simp [List.getD,hlt])
   have HD:Hid (ss.drop k=ss.getD k ByteArray.empty :: ss.drop (k+1)):=by
    unfold Hid
    rw [List.drop_eq_getElem_cons hlt]
    simp [List.getD,hlt]
   clear hc hr
   generalize ss.getD k ByteArray.empty=s at *
   have hs2:s.size<=9223372036854775807:=by unfold maxLen at hs1;omega
   have klt:(k:Int) < (ss.length:Int):=by omega
   have HS:Hid (Maps.size D'=sn.length):=hU1.out.size
   have hml:Maps.size D' < maxLen:=by have e1:=HS.out;have e2:=HN.out;unfold maxLen;omega
   by_cases hf:wordS s=true
   ·by_cases hin:inB sn s=true
    ·have HE:Hid (fF_ wordS ss seen=((6:Int),(sn.length:Int),sn)):=by
      unfold Hid
      rw [<- HF.out,HD.out]
      simp [fF_,hf,hin]
     have hh:Maps.has D' (keyL s)=true:=(hU1.out.has_ s).trans hin
     go_wp2_with (first | (at_len;refine wpList_len_own _ rfl _ 201 rfl 9 186 Tryz.underlying201 unitElem b _ D' rfl hown1 ?_) | (go_at_call 139;refine (isword_any s _ hs2).mono ?_;rintro e w' ⟨rfl,rfl⟩) | (at_lookup;refine wpList_lookup_own_unit _ rfl _ _ 201 rfl 9 186 law Tryz.underlying201 (zeroUnit _) b _ D' rfl hown1 _ _ rfl (keyOf_name hs1) ?_) | (at_mapUpdate;refine wpList_mapUpdate_in _ rfl _ _ _ 201 rfl 9 186 law Tryz.underlying201 unitElem b _ D' rfl (World.ownsMap.alloc hown1 _) hml _ _ (keyL s) rfl rfl (keyOf_name hs1) (.agg []) [] unitElem_mk ?_;intro w2 hown2 hturn2))
     go_returns
     exact ⟨D',by rw [HE.out,<- HS.out];rfl,World.ownsMap.alloc hown1 _,by rw [HE.out];exact hU1.out,grow_alloc hG _⟩
    ·have hnin:inB sn s=false:=by simpa using hin
     have HE:Hid (fF_ wordS (ss.drop (k+1)) (sn++[s])=fF_ wordS ss seen):=by
      unfold Hid
      rw [<- HF.out,HD.out]
      simp [fF_,hf,hnin]
     have hh:Maps.has D' (keyL s)=false:=(hU1.out.has_ s).trans hnin
     go_wp2_with (first | (at_len;refine wpList_len_own _ rfl _ 201 rfl 9 186 Tryz.underlying201 unitElem b _ D' rfl hown1 ?_) | (go_at_call 139;refine (isword_any s _ hs2).mono ?_;rintro e w' ⟨rfl,rfl⟩) | (at_lookup;refine wpList_lookup_own_unit _ rfl _ _ 201 rfl 9 186 law Tryz.underlying201 (zeroUnit _) b _ D' rfl hown1 _ _ rfl (keyOf_name hs1) ?_) | (at_mapUpdate;refine wpList_mapUpdate_in _ rfl _ _ _ 201 rfl 9 186 law Tryz.underlying201 unitElem b _ D' rfl (World.ownsMap.alloc hown1 _) hml _ _ (keyL s) rfl rfl (keyOf_name hs1) (.agg []) [] unitElem_mk ?_;intro w2 hown2 hturn2))
     have hput:=hU1.out.put hnin
     have e0:=HS.out
     have e1:=hput.size
     simp only [List.length_append,List.length_singleton] at e1
     have e2:Maps.size (D'.put (keyL s) (.agg []))=Maps.size D'+1:=by rw [e1,e0]
     go_roundw
     case rel=>exact ⟨k+1,_,sn++[s],by omega,by go_num,by rw [e2];exact hown2,hput,(grow_alloc hG _).trans hturn2.grown,HE,by unfold Hid;have e3:=HN.out;simp;omega⟩
     case measure=>simp [intOf];omega
   ·have hf0:wordS s=false:=by simpa using hf
    have HE:Hid (fF_ wordS ss seen=((21:Int),(sn.length:Int),sn)):=by
     unfold Hid
     rw [<- HF.out,HD.out]
     simp [fF_,hf0]
    go_wp2_with (first | (at_len;refine wpList_len_own _ rfl _ 201 rfl 9 186 Tryz.underlying201 unitElem b _ D' rfl hown1 ?_) | (go_at_call 139;refine (isword_any s _ hs2).mono ?_;rintro e w' ⟨rfl,rfl⟩) | (at_lookup;refine wpList_lookup_own_unit _ rfl _ _ 201 rfl 9 186 law Tryz.underlying201 (zeroUnit _) b _ D' rfl hown1 _ _ rfl (keyOf_name hs1) ?_) | (at_mapUpdate;refine wpList_mapUpdate_in _ rfl _ _ _ 201 rfl 9 186 law Tryz.underlying201 unitElem b _ D' rfl (World.ownsMap.alloc hown1 _) hml _ _ (keyL s) rfl rfl (keyOf_name hs1) (.agg []) [] unitElem_mk ?_;intro w2 hown2 hturn2))
    go_returns
    exact ⟨D',by rw [HE.out,<- HS.out];rfl,hown1,by rw [HE.out];exact hU1.out,hG⟩
  ·have HE:Hid (fF_ wordS ss seen=((0:Int),(0:Int),sn)):=by
    unfold Hid
    rw [<- HF.out,List.drop_eq_nil_of_le (by omega)]
    rfl
   go_wp2
   go_returns
   exact ⟨D',by rw [HE.out];rfl,hown1,by rw [HE.out];exact hU1.out,hG⟩
set_option maxRecDepth 100000 in
set_option maxHeartbeats 2000000 in
theorem forms_term (ao:Option Addr)(cap b:Nat)(ss seen:List ByteArray)(D:DataW Unit)(w:World)(hl:ss.length<=64)(hsz:∀ s∈ss,s.size<=maxLen)(hn:seen.length<=1000)(hr:StrRow w ao ss)
  (hown:w.ownsMap Tryz.prog 9 unitElem b (Maps.size D) D) (hU:USet D seen) :
  Calls Tryz.prog 137 #[.slice ao ss.length cap,.func (.func 138) #[] #[],.map (some b)] w fun e w'=>∃ D',FOut w w' b (fF_ termS ss seen) e D':=by
 go_enter Tryz.func137,Tryz.ntmps137
 go_wp2
 go_loopw [15] (fun i wr=>∃ (k:Nat) (D':DataW Unit) (sn:List ByteArray),k<=ss.length/\i=.int .i64 k/\wr.ownsMap Tryz.prog 9 unitElem b (Maps.size D') D'/\Hid (USet D' sn)/\w.grownBy wr (some b)/\Hid (fF_ termS (ss.drop k) sn=fF_ termS ss seen)/\Hid (sn.length=seen.length+k)) (fun i _=>ss.length - (intOf i).toNat)
 case atStart=>exact ⟨0,D,seen,Nat.zero_le _,rfl,hown,hU,⟨rfl,rfl,rfl,Nat.le_refl _,fun _ _ _=>rfl⟩,rfl,rfl⟩
 case round =>
  obtain ⟨k,D',sn,hk,rfl,hown1,hU1,hG,HF,HN⟩:=hrel
  by_cases hlt:k < ss.length
  ·obtain ⟨q,off,rfl,hq,hc⟩:=hr (by intro h;subst h;simp at hlt)
   have hqb:q≠b:=by
    intro e
    obtain ⟨es,cl,hbm,_⟩:=hown
    have:=hc k hlt
    subst e
    simp [World.cell?,hbm] at this
   have h1:wr.cell? ⟨q,off+k,none⟩=some (.string (ss.getD k ByteArray.empty)):=by
    rw [<- hc k hlt]
    simp [World.cell?,hG.block q hq (by simpa using hqb)]
   have hs1:(ss.getD k ByteArray.empty).size<=maxLen:=hsz _ (by simp [List.getD,hlt])
   have HD:Hid (ss.drop k=ss.getD k ByteArray.empty :: ss.drop (k+1)):=by
    unfold Hid
    rw [List.drop_eq_getElem_cons hlt]
    simp [List.getD,hlt]
   clear hc hr
   generalize ss.getD k ByteArray.empty=s at *
   have hs2:s.size<=9223372036854775807:=by unfold maxLen at hs1;omega
   have klt:(k:Int) < (ss.length:Int):=by omega
   have HS:Hid (Maps.size D'=sn.length):=hU1.out.size
   have hml:Maps.size D' < maxLen:=by have e1:=HS.out;have e2:=HN.out;unfold maxLen;omega
   by_cases hf:termS s=true
   ·by_cases hin:inB sn s=true
    ·have HE:Hid (fF_ termS ss seen=((6:Int),(sn.length:Int),sn)):=by
      unfold Hid
      rw [<- HF.out,HD.out]
      simp [fF_,hf,hin]
     have hh:Maps.has D' (keyL s)=true:=(hU1.out.has_ s).trans hin
     go_wp2_with (first | (at_len;refine wpList_len_own _ rfl _ 201 rfl 9 186 Tryz.underlying201 unitElem b _ D' rfl hown1 ?_) | (go_at_call 138;refine (istermname_any s _ hs2).mono ?_;rintro e w' ⟨rfl,rfl⟩) | (at_lookup;refine wpList_lookup_own_unit _ rfl _ _ 201 rfl 9 186 law Tryz.underlying201 (zeroUnit _) b _ D' rfl hown1 _ _ rfl (keyOf_name hs1) ?_) | (at_mapUpdate;refine wpList_mapUpdate_in _ rfl _ _ _ 201 rfl 9 186 law Tryz.underlying201 unitElem b _ D' rfl (World.ownsMap.alloc hown1 _) hml _ _ (keyL s) rfl rfl (keyOf_name hs1) (.agg []) [] unitElem_mk ?_;intro w2 hown2 hturn2))
     go_returns
     exact ⟨D',by rw [HE.out,<- HS.out];rfl,World.ownsMap.alloc hown1 _,by rw [HE.out];exact hU1.out,grow_alloc hG _⟩
    ·have hnin:inB sn s=false:=by simpa using hin
     have HE:Hid (fF_ termS (ss.drop (k+1)) (sn++[s])=fF_ termS ss seen):=by
      unfold Hid
      rw [<- HF.out,HD.out]
      simp [fF_,hf,hnin]
     have hh:Maps.has D' (keyL s)=false:=(hU1.out.has_ s).trans hnin
     go_wp2_with (first | (at_len;refine wpList_len_own _ rfl _ 201 rfl 9 186 Tryz.underlying201 unitElem b _ D' rfl hown1 ?_) | (go_at_call 138;refine (istermname_any s _ hs2).mono ?_;rintro e w' ⟨rfl,rfl⟩) | (at_lookup;refine wpList_lookup_own_unit _ rfl _ _ 201 rfl 9 186 law Tryz.underlying201 (zeroUnit _) b _ D' rfl hown1 _ _ rfl (keyOf_name hs1) ?_) | (at_mapUpdate;refine wpList_mapUpdate_in _ rfl _ _ _ 201 rfl 9 186 law Tryz.underlying201 unitElem b _ D' rfl (World.ownsMap.alloc hown1 _) hml _ _ (keyL s) rfl rfl (keyOf_name hs1) (.agg []) [] unitElem_mk ?_;intro w2 hown2 hturn2))
     have hput:=hU1.out.put hnin
     have e0:=HS.out
     have e1:=hput.size
     simp only [List.length_append,List.length_singleton] at e1
     have e2:Maps.size (D'.put (keyL s) (.agg []))=Maps.size D'+1:=by rw [e1,e0]
     go_roundw
     case rel=>exact ⟨k+1,_,sn++[s],by omega,by go_num,by rw [e2];exact hown2,hput,(grow_alloc hG _).trans hturn2.grown,HE,by unfold Hid;have e3:=HN.out;simp;omega⟩
     case measure=>simp [intOf];omega
   ·have hf0:termS s=false:=by simpa using hf
    have HE:Hid (fF_ termS ss seen=((21:Int),(sn.length:Int),sn)):=by
     unfold Hid
     rw [<- HF.out,HD.out]
     simp [fF_,hf0]
    go_wp2_with (first | (at_len;refine wpList_len_own _ rfl _ 201 rfl 9 186 Tryz.underlying201 unitElem b _ D' rfl hown1 ?_) | (go_at_call 138;refine (istermname_any s _ hs2).mono ?_;rintro e w' ⟨rfl,rfl⟩) | (at_lookup;refine wpList_lookup_own_unit _ rfl _ _ 201 rfl 9 186 law Tryz.underlying201 (zeroUnit _) b _ D' rfl hown1 _ _ rfl (keyOf_name hs1) ?_) | (at_mapUpdate;refine wpList_mapUpdate_in _ rfl _ _ _ 201 rfl 9 186 law Tryz.underlying201 unitElem b _ D' rfl (World.ownsMap.alloc hown1 _) hml _ _ (keyL s) rfl rfl (keyOf_name hs1) (.agg []) [] unitElem_mk ?_;intro w2 hown2 hturn2))
    go_returns
    exact ⟨D',by rw [HE.out,<- HS.out];rfl,hown1,by rw [HE.out];exact hU1.out,hG⟩
  ·have HE:Hid (fF_ termS ss seen=((0:Int),(0:Int),sn)):=by
    unfold Hid
    rw [<- HF.out,List.drop_eq_nil_of_le (by omega)]
    rfl
   go_wp2
   go_returns
   exact ⟨D',by rw [HE.out];rfl,hown1,by rw [HE.out];exact hU1.out,hG⟩
def cF_ (ts ns:List ByteArray):Int×Int :=
 if 64 < ts.length then (31,0) else if 64 < ns.length then (32,0) else
  if (fF_ termS ts []).1≠0 then ((fF_ termS ts []).1,(fF_ termS ts []).2.1) else
   if (fF_ wordS ns (fF_ termS ts []).2.2).1≠0 then ((fF_ wordS ns (fF_ termS ts []).2.2).1,(fF_ wordS ns (fF_ termS ts []).2.2).2.1) else (0,(fF_ wordS ns (fF_ termS ts []).2.2).2.2.length)
theorem formsF_len (form:ByteArray->Bool):∀ (ss seen:List ByteArray),(fF_ form ss seen).2.2.length<=seen.length+ss.length
 | [],seen=>by simp [fF_]
 | s :: r,seen=>by
  unfold fF_
  split
  ·simp
  ·split
   ·simp
   ·have:=formsF_len form r (seen++[s]);simp at this ⊢;omega
theorem below_grown {w w0 w1:World}{b:Nat}(h:Below w.heap.size w w0)(hb:w.heap.size<=b)(g:w0.grownBy w1 (some b)):Below w.heap.size w w1 :=
 ⟨g.os.trans h.os,g.tape.trans h.tape,g.output.trans h.output,Nat.le_trans h.size g.size,fun k hk=>(g.block k (Nat.lt_of_lt_of_le hk h.size) (by simp;omega)).trans (h.block k hk)⟩
end Go.Proofs.YteciabdjkaackaaGreat
