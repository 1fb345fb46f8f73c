import Derived.Test.YtfckmbdcfeljiaaChecked
import Derived.WalkKit
import Derived.PlainAid
namespace Go.Proofs.Ytfckmbdcfeljiaa
set_option linter.unusedVariables false
open Go.RowKit Go.PlainAid

def digS (c : Int) : Bool := decide (48 ≤ c ∧ c ≤ 57)
def letS (c : Int) : Bool := decide (97 ≤ c ∧ c ≤ 122 ∨ 65 ≤ c ∧ c ≤ 90)
def wordC (c : Int) : Bool := letS c || digS c || c == 95
def quoC (c : Int) : Bool := decide (33 ≤ c ∧ c ≤ 126 ∧ c ≠ 39 ∧ c ≠ 92)
/-- A word; a quoted name; a terminal's name. -/
def wordS (s : ByteArray) : Bool := decide (1 ≤ s.size) && decide (s.size ≤ 32) && !digS (bt s 0) && (List.range s.size).all fun i => wordC (bt s i)
def quotedS (s : ByteArray) : Bool := decide (3 ≤ s.size) && decide (s.size ≤ 32) && bt s 0 == 39 && bt s (s.size - 1) == 39 && (List.range (s.size - 2)).all fun i => quoC (bt s (i + 1))
def termS (s : ByteArray) : Bool := wordS s || quotedS s

theorem isdigit_any (c : Int) (w : World) (h0 : 0 ≤ c) (h1 : c ≤ 255) : Calls Try.prog 43 #[.int .u8 c] w fun e w' => e = .returned (.bool (digS c)) ∧ w = w' := by
  go_enter Try.func43, Try.ntmps43
  go_wp2
  all_goals go_ret
  all_goals refine ⟨congrArg (fun b => Ending.returned (Value.bool b)) (Bool.eq_iff_iff.2 ?_), rfl⟩
  all_goals simp [digS]
  all_goals omega
theorem isletter_any (c : Int) (w : World) (h0 : 0 ≤ c) (h1 : c ≤ 255) : Calls Try.prog 44 #[.int .u8 c] w fun e w' => e = .returned (.bool (letS c)) ∧ w = w' := by
  go_enter Try.func44, Try.ntmps44
  go_wp2
  all_goals go_ret
  all_goals refine ⟨congrArg (fun b => Ending.returned (Value.bool b)) (Bool.eq_iff_iff.2 ?_), rfl⟩
  all_goals simp [letS]
  all_goals omega
theorem maybe_any (c : Int) (w : World) (h0 : 0 ≤ c) (h1 : c ≤ 255) : Calls Try.prog 63 #[.int .u8 c] w fun e w' => e = .returned (.bool (quoC c)) ∧ w = w' := by
  go_enter Try.func63, Try.ntmps63
  go_wp2
  all_goals go_ret
  all_goals refine ⟨congrArg (fun b => Ending.returned (Value.bool b)) (Bool.eq_iff_iff.2 ?_), rfl⟩
  all_goals simp [quoC]
  all_goals omega
end Go.Proofs.Ytfckmbdcfeljiaa
