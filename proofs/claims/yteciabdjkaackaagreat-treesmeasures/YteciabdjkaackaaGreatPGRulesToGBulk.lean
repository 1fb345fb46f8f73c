import Derived.Test.YteciabdjkaackaaGreatPBBaseToGRow
import Derived.Test.YteciabdjkaackaaGreatRows
import Derived.ProofKit
import Derived.OpenShut
import Derived.ShutString
import Derived.ChangeOld
import Derived.Below
import Derived.SizedLaws
import Derived.Deep.Slices
import Derived.Lib.SmallJoins
namespace Go.Proofs.YteciabdjkaackaaGreat
set_option linter.unusedVariables false
open Go.RowKit
abbrev gBox (g : GV) : Obj := .cells #[.slice g.ta g.ts.length g.tc, .slice g.na g.ns.length g.nc, .int .i64 g.start, .slice g.pa g.ps.length g.pc, .slice g.la g.ls.length g.lc] 63
def inT (g : GV) (n : Int) : Bool := decide (0 <= n /\ n < g.ts.length)
def inN (g : GV) (n : Int) : Bool := decide (0 <= n /\ n < g.ns.length)
def inG (g : GV) (k n : Int) : Bool := if k = 1 then inT g n else if k = 2 then inN g n else false
set_option maxRecDepth 100000 in
set_option maxHeartbeats 2000000 in
theorem isterm_any (g : GV) (n : Int) (w : World) (hl : g.ts.length <= 140737488355328) : Calls Tryz.prog 146 #[g.val, .int .i64 n] w fun e w' => e = .returned (.bool (inT g n)) /\ Below w.heap.size w w' := by
 have fin := below_alloc w (gBox g)
 by_cases h0 : 0 <= n
 ·by_cases h1 : n < g.ts.length
  ·have E : Hid (inT g n = true) := by show _ = _; simp [inT, h0, h1]
   go_enter Tryz.func146, Tryz.ntmps146
   go_wp2
   go_ret
   exact ⟨by rw [E.out]; rfl, fin⟩
  ·have E : Hid (inT g n = false) := by show _ = _; simp [inT, h1]
   go_enter Tryz.func146, Tryz.ntmps146
   go_wp2
   go_ret
   exact ⟨by rw [E.out]; rfl, fin⟩
 ·have E : Hid (inT g n = false) := by show _ = _; simp [inT, h0]
  go_enter Tryz.func146, Tryz.ntmps146
  go_wp2
  go_ret
  exact ⟨by rw [E.out]; rfl, fin⟩
set_option maxRecDepth 100000 in
set_option maxHeartbeats 2000000 in
theorem isnon_any (g : GV) (n : Int) (w : World) (hl : g.ns.length <= 140737488355328) : Calls Tryz.prog 121 #[g.val, .int .i64 n] w fun e w' => e = .returned (.bool (inN g n)) /\ Below w.heap.size w w' := by
 have fin := below_alloc w (gBox g)
 by_cases h0 : 0 <= n
 ·by_cases h1 : n < g.ns.length
  ·have E : Hid (inN g n = true) := by show _ = _; simp [inN, h0, h1]
   go_enter Tryz.func121, Tryz.ntmps121
   go_wp2
   go_ret
   exact ⟨by rw [E.out]; rfl, fin⟩
  ·have E : Hid (inN g n = false) := by show _ = _; simp [inN, h1]
   go_enter Tryz.func121, Tryz.ntmps121
   go_wp2
   go_ret
   exact ⟨by rw [E.out]; rfl, fin⟩
 ·have E : Hid (inN g n = false) := by show _ = _; simp [inN, h0]
  go_enter Tryz.func121, Tryz.ntmps121
  go_wp2
  go_ret
  exact ⟨by rw [E.out]; rfl, fin⟩
abbrev syBox (k n : Int) : Obj := .cells #[.int .i64 k, .int .i64 n] 82
theorem two_box (w : World) (g : GV) (k n : Int) : Below w.heap.size w ((w.alloc (gBox g)).alloc (syBox k n)) := (below_alloc w _).alloc (below_alloc w _).size _
set_option maxRecDepth 100000 in
set_option maxHeartbeats 2000000 in
theorem in_g (g : GV) (k n : Int) (w : World) (h1 : g.ts.length <= 140737488355328) (h2 : g.ns.length <= 140737488355328) : Calls Tryz.prog 141 #[g.val, .agg #[.int .i64 k, .int .i64 n]] w fun e w' => e = .returned (.bool (inG g k n)) /\ Below w.heap.size w w' := by
 have fin := two_box w g k n
 by_cases k1 : k = 1
 ·subst k1
  have E : Hid (inG g 1 n = inT g n) := rfl
  go_enter Tryz.func141, Tryz.ntmps141
  go_wp2_with (first
   | (go_at_call 146; refine (isterm_any g n _ h1).mono ?_; rintro e w1 ⟨rfl, b1⟩; have B1 := fin.trans (b1.mono fin.size); clear b1))
  go_ret
  exact ⟨by rw [E.out]; rfl, B1⟩
 by_cases k2 : k = 2
 ·subst k2
  have E : Hid (inG g 2 n = inN g n) := rfl
  go_enter Tryz.func141, Tryz.ntmps141
  go_wp2_with (first
   | (go_at_call 121; refine (isnon_any g n _ h2).mono ?_; rintro e w1 ⟨rfl, b1⟩; have B1 := fin.trans (b1.mono fin.size); clear b1))
  go_ret
  exact ⟨by rw [E.out]; rfl, B1⟩
 have q1 : (k == 1) = false := by simp [k1]
 have q2 : (k == 2) = false := by simp [k2]
 have E : Hid (inG g k n = false) := by show _ = _; unfold inG; rw [if_neg k1, if_neg k2]
 go_enter Tryz.func141, Tryz.ntmps141
 go_wp2
 go_ret
 exact ⟨by rw [E.out]; rfl, fin⟩
open Go.ChangeShapes Go.WideShapes Go.ChangeAt Go.RowKit
theorem gown : ownKnob Tryz.prog.godebug = none := by kernel_rfl
theorem glaid : laidOutB Tryz.prog = true := by kernel_rfl
theorem gcellsInt : Tryz.prog.cellsOf 3 = 1 := by kernel_rfl
def LD {H : Type} (n : Nat) (d : DataW H) : Prop := (d = .nil /\ n = 0) ∨ ∃ el sp, d = .slice el sp /\ el.length = n
section
variable {H : Type} {enc : TypeId × Value -> H} {W : World}
def PD (p : PV) (d : DataW H) : Prop := ∃ r, d = .agg [.lit (.int .i64 p.left), r, .lit (.int .i64 p.prec)] /\ LD p.right.length r /\ p.right.length <= p.rc
def VD (p : LV) (d : DataW H) : Prop := ∃ r, d = .agg [.lit (.int .i64 p.assoc), r] /\ LD p.terms.length r
structure GD (g : GV) (d : DataW H) : Prop where
 all : ∃ dt dn dp dl, d = .agg [dt, dn, .lit (.int .i64 g.start), dp, dl] /\
  ((dt = .nil /\ g.ts = []) ∨ ∃ sp, dt = .slice (g.ts.map fun s => .lit (.string s.data.toList)) sp) /\
  ((dn = .nil /\ g.ns = []) ∨ ∃ sp, dn = .slice (g.ns.map fun s => .lit (.string s.data.toList)) sp) /\
  ((dp = .nil /\ g.ps = []) ∨ ∃ el sp, dp = .slice el sp /\ el.length = g.ps.length /\ ∀ i, i < g.ps.length -> PD (g.ps.getD i .none) (el.getD i .nil)) /\
  ((dl = .nil /\ g.ls = []) ∨ ∃ el sp, dl = .slice el sp /\ el.length = g.ls.length /\ ∀ i, i < g.ls.length -> VD (g.ls.getD i .none) (el.getD i .nil))
end
section
variable {H : Type}
end
theorem gbulk_pos {H : Type} (d : DataW H) : 1 <= Rows.uptoBulk d := by
 cases d with
 | lit x => cases x <;> simp [Rows.uptoBulk]
 | nil => simp [Rows.uptoBulk]
 | ptr d => simp [Rows.uptoBulk]
 | slice a b => simp [Rows.uptoBulk]
 | agg a => simp [Rows.uptoBulk]
 | iface a d => simp [Rows.uptoBulk]
 | map a => simp [Rows.uptoBulk]
 | held a => simp [Rows.uptoBulk]
theorem gbulk_mem {H : Type} : ∀ {ds : List (DataW H)} {d : DataW H}, d ∈ ds -> Rows.uptoBulk d <= Rows.uptoBulkAll ds
 | [], _, h => by cases h
 | a :: r, d, h => by
  simp only [Rows.uptoBulkAll]
  rcases List.mem_cons.1 h with rfl | h
  ·omega
  ·have := gbulk_mem h
   omega
end Go.Proofs.YteciabdjkaackaaGreat
