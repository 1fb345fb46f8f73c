import Derived.Test.YtflcnlefcnclkaaFChk7
namespace Go.Proofs.Ytflcnlefcnclkaa
set_option linter.unusedVariables false
open Go.RowKit

set_option maxRecDepth 100000 in
set_option maxHeartbeats 2000000 in
theorem chkNull_no (g : GV) (na : Option Addr) (n nc : Nat) (w : World) (h : GAt 140737488355328 w g) (hpc : g.ps.length ≤ g.pc) (er at_ : Int) (hE : checkG g (checkF g.ts g.ns) = (er, at_)) (h0 : askU g n er ≠ 0) :
    Calls Try.prog 7 #[g.val, .slice na n nc] w fun e w' => e = .returned (.tuple #[.int .i64 (askU g n er), .int .i64 0]) ∧ Below w.heap.size w w' := by
  have X0 : Hid ((w.alloc (gBox g)).heap[w.heap.size]? = some (gBox g)) := heap_alloc_new _ _
  have CK : Hid (Calls Try.prog 18 #[g.val, .slice na n nc] (w.alloc (gBox g)) fun e w' => e = .returned (.int .i64 (askU g n er)) ∧ Below (w.alloc (gBox g)).heap.size (w.alloc (gBox g)) w') := askNull_S g na n nc _ (h.later (below_alloc w (gBox g))) hpc er at_ hE
  obtain ⟨x0, x1, x2, x3, x4⟩ := gb_cells X0.out
  have t1 : (askU g n er != 0) = true := by simpa using h0
  generalize askU g n er = U at *
  clear h hE
  go_enter Try.func7, Try.ntmps7
  go_wp2_with (go_at_call 18; refine CK.out.mono ?_; rintro e w2 ⟨rfl, b2⟩; have B2 : Hid (Below w.heap.size w w2) := (below_alloc w _).trans (b2.mono (below_alloc w _).size); clear b2)
  refine bodyPost_ret (results_tmp2 rfl _ _ _) rfl ?_
  exact ⟨rfl, B2.out⟩
set_option maxRecDepth 100000 in
set_option maxHeartbeats 2000000 in
theorem chkFirst_no (g : GV) (na fa : Option Addr) (n nc m fc : Nat) (w : World) (h : GAt 140737488355328 w g) (hpc : g.ps.length ≤ g.pc) (er at_ : Int) (hE : checkG g (checkF g.ts g.ns) = (er, at_)) (h0 : askC g n m er ≠ 0) :
    Calls Try.prog 8 #[g.val, .slice na n nc, .slice fa m fc] w fun e w' => e = .returned (.tuple #[.int .i64 (askC g n m er), .int .i64 0]) ∧ Below w.heap.size w w' := by
  have X0 : Hid ((w.alloc (gBox g)).heap[w.heap.size]? = some (gBox g)) := heap_alloc_new _ _
  have CK : Hid (Calls Try.prog 20 #[g.val, .slice na n nc, .slice fa m fc] (w.alloc (gBox g)) fun e w' => e = .returned (.int .i64 (askC g n m er)) ∧ Below (w.alloc (gBox g)).heap.size (w.alloc (gBox g)) w') := askC_S g na fa n nc m fc _ (h.later (below_alloc w (gBox g))) hpc er at_ hE
  obtain ⟨x0, x1, x2, x3, x4⟩ := gb_cells X0.out
  have t1 : (askC g n m er != 0) = true := by simpa using h0
  generalize askC g n m er = U at *
  clear h hE
  go_enter Try.func8, Try.ntmps8
  go_wp2_with (go_at_call 20; refine CK.out.mono ?_; rintro e w2 ⟨rfl, b2⟩; have B2 : Hid (Below w.heap.size w w2) := (below_alloc w _).trans (b2.mono (below_alloc w _).size); clear b2)
  refine bodyPost_ret (results_tmp2 rfl _ _ _) rfl ?_
  exact ⟨rfl, B2.out⟩
/-- What CheckNullable and CheckFirst answer. -/
def chkNU (g : GV) (N : List Bool) (er : Int) : Int × Int := if askU g N.length er ≠ 0 then (askU g N.length er, 0) else chkN N g.ps
def chkFU (g : GV) (N : List Bool) (L : List (List Int)) (er : Int) : Int × Int := if askC g N.length L.length er ≠ 0 then (askC g N.length L.length er, 0) else chkF N L g.ps g.ts.length
theorem chkNull_S (g : GV) (na : Option Addr) (nc : Nat) (N : List Bool) (w : World) (h : GAt 140737488355328 w g) (hpc : g.ps.length ≤ g.pc) (er at_ : Int) (hE : checkG g (checkF g.ts g.ns) = (er, at_)) (hN : BRow w na N) :
    Calls Try.prog 7 #[g.val, .slice na N.length nc] w fun e w' => e = .returned (.tuple #[.int .i64 (chkNU g N er).1, .int .i64 (chkNU g N er).2]) ∧ Below w.heap.size w w' := by
  by_cases h0 : askU g N.length er ≠ 0
  · have := chkNull_no g na N.length nc w h hpc er at_ hE h0
    simpa [chkNU, h0] using this
  · have e0 : er = 0 := by
      by_cases q : er = 0
      · exact q
      · exact absurd (by simp [askU, q] : askU g N.length er ≠ 0) h0
    subst e0
    have e1 : N.length = g.ns.length := by
      by_cases q : N.length = g.ns.length
      · exact q
      · exact absurd (by simp [askU, q] : askU g N.length 0 ≠ 0) h0
    have := chkNull_ok g na nc N w h hpc at_ hE hN e1
    rwa [show chkNU g N 0 = chkN N g.ps by rw [chkNU, if_neg h0]]
theorem chkFirst_S (g : GV) (na : Option Addr) (nc : Nat) (N : List Bool) (fa : Option Addr) (fc : Nat) (L : List (List Int)) (w : World) (h : GAt 140737488355328 w g) (hpc : g.ps.length ≤ g.pc) (er at_ : Int) (hE : checkG g (checkF g.ts g.ns) = (er, at_)) (hN : BRow w na N) (hL : LsRow w fa L) (hll : ∀ l ∈ L, l.length ≤ 140737488355328) :
    Calls Try.prog 8 #[g.val, .slice na N.length nc, .slice fa L.length fc] w fun e w' => e = .returned (.tuple #[.int .i64 (chkFU g N L er).1, .int .i64 (chkFU g N L er).2]) ∧ Below w.heap.size w w' := by
  by_cases h0 : askC g N.length L.length er ≠ 0
  · have := chkFirst_no g na fa N.length nc L.length fc w h hpc er at_ hE h0
    simpa [chkFU, h0] using this
  · have e0 : er = 0 := by
      by_cases q : er = 0
      · exact q
      · exact absurd (by simp [askC, askU, q] : askC g N.length L.length er ≠ 0) h0
    subst e0
    have e1 : N.length = g.ns.length := by
      by_cases q : N.length = g.ns.length
      · exact q
      · exact absurd (by simp [askC, askU, q] : askC g N.length L.length 0 ≠ 0) h0
    have e2 : L.length = g.ns.length := by
      by_cases q : L.length = g.ns.length
      · exact q
      · exact absurd (by simp [askC, askU, q, e1] : askC g N.length L.length 0 ≠ 0) h0
    have := chkFirst_ok g na nc N fa fc L w h hpc at_ hE hN e1 hL e2 hll
    rwa [show chkFU g N L 0 = chkF N L g.ps g.ts.length by rw [chkFU, if_neg h0]]
end Go.Proofs.Ytflcnlefcnclkaa
