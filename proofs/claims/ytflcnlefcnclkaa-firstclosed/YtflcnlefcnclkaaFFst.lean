import Derived.Test.YtflcnlefcnclkaaFLst
namespace Go.Proofs.Ytflcnlefcnclkaa
set_option linter.unusedVariables false
open Go.RowKit

/-- A claim of first that least may end with. -/
def LeastF (g : GV) (F : List BS) : Prop := ∃ k, F = iterS (nullU g.ps g.ns.length) g.ps (List.replicate g.ns.length (0, 0)) k ∧ roundS (nullU g.ps g.ns.length) g.ps F = F ∧ (∀ i, OkS (F.getD i (0, 0))) ∧ F.length = g.ns.length
set_option maxRecDepth 100000 in
set_option maxHeartbeats 2000000 in
theorem first_no (g : GV) (w : World) (h : GAt 140737488355328 w g) (hpc : g.ps.length ≤ g.pc) (er at_ : Int) (hE : checkG g (checkF g.ts g.ns) = (er, at_)) (h0 : er ≠ 0) :
    Calls Try.prog 6 #[g.val] w fun e w' => e = .returned (.tuple #[.slice none 0 0, .int .i64 er]) ∧ Below w.heap.size w w' := by
  have X0 : Hid ((w.alloc (gBox g)).heap[w.heap.size]? = some (gBox g)) := heap_alloc_new _ _
  have CK : Hid (Calls Try.prog 14 #[g.val] (w.alloc (gBox g)) fun e w' => e = .returned (.tuple #[.int .i64 er, .int .i64 at_]) ∧ Below (w.alloc (gBox g)).heap.size (w.alloc (gBox g)) w') := check_G g _ (h.later (below_alloc _ _)) hpc er at_ hE
  obtain ⟨x0, x1, x2, x3, x4⟩ := gb_cells X0.out
  have t1 : (er != 0) = true := by simpa using h0
  clear h hE
  go_enter Try.func6, Try.ntmps6
  go_wp2_with (go_at_call 14; refine CK.out.mono ?_; rintro e w2 ⟨rfl, b2⟩; have B2 : Hid (Below w.heap.size w w2) := (below_alloc w _).trans (b2.mono (below_alloc w _).size); clear b2)
  refine bodyPost_ret (results_tmp2 rfl _ _ _) rfl ?_
  exact ⟨rfl, B2.out⟩
theorem clm_field (a : Option Addr) (b m n c d : Nat) (w : World) : (Instr.field 50 (.agg #[.slice a m c, .slice (some ⟨b, 0, none⟩) n d]) 1).run Try.prog w = .ok (.slice (some ⟨b, 0, none⟩) n d) w := by kernel_rfl
set_option maxRecDepth 100000 in
set_option maxHeartbeats 2000000 in
theorem first_ok (g : GV) (w : World) (h : GAt 140737488355328 w g) (hpc : g.ps.length ≤ g.pc) (at_ : Int) (hE : checkG g (checkF g.ts g.ns) = (0, at_)) :
    Calls Try.prog 6 #[g.val] w fun e w' => ∃ b F, LeastF g F ∧ e = .returned (.tuple #[.slice (some ⟨b, 0, none⟩) g.ns.length g.ns.length, .int .i64 0]) ∧ LLk w' b (listsU F) g.ns.length ∧ w.heap.size ≤ b ∧ Below w.heap.size w w' := by
  have ok : OkC g := OkC.of (by rw [hE])
  have X0 : Hid ((w.alloc (gBox g)).heap[w.heap.size]? = some (gBox g)) := heap_alloc_new _ _
  have CK : Hid (Calls Try.prog 14 #[g.val] (w.alloc (gBox g)) fun e w' => e = .returned (.tuple #[.int .i64 0, .int .i64 at_]) ∧ Below (w.alloc (gBox g)).heap.size (w.alloc (gBox g)) w') := check_G g _ (h.later (below_alloc _ _)) hpc 0 at_ hE
  have HFG : Hid (∀ w', Below w.heap.size w w' → FG w' g) := fun w' hb => ok.fg (h.later hb)
  have HN64 : Hid (g.ns.length ≤ 64) := ok.nl.2
  have LC : Hid (∀ w', FG w' g → Calls Try.prog 17 #[g.val] w' fun e w'' => ∃ nb fb F, LeastF g F ∧ e = .returned (.agg #[.slice (some ⟨nb, 0, none⟩) g.ns.length g.ns.length, .slice (some ⟨fb, 0, none⟩) g.ns.length g.ns.length]) ∧ SBk w'' fb F ∧ Below w'.heap.size w' w'') := fun w' hf => by
    refine (least_S g w' hf).mono ?_
    rintro e w'' ⟨nb, fb, k, q1, q2, q3, q4, q5, q6, q7, q8, q9⟩
    exact ⟨nb, fb, _, ⟨k, rfl, q4, q5, q6⟩, q1, q3, q9⟩
  have LS : Hid (∀ w' fb F, LeastF g F → SBk w' fb F → Calls Try.prog 16 #[.slice (some ⟨fb, 0, none⟩) g.ns.length g.ns.length] w' fun e w'' => ∃ b, e = .returned (.slice (some ⟨b, 0, none⟩) g.ns.length g.ns.length) ∧ LLk w'' b (listsU F) g.ns.length ∧ w'.heap.size ≤ b ∧ Below w'.heap.size w' w'') := fun w' fb F ⟨k, e1, e2, e3, e4⟩ hS => by
    have := listsOf_S fb g.ns.length F w' hS (by rw [e4]; have := HN64.out; omega) e3
    rwa [e4] at this
  obtain ⟨x0, x1, x2, x3, x4⟩ := gb_cells X0.out
  have t1 : ((0 : Int) != 0) = false := by decide
  have hfl := fun nb fb w => clm_field (some ⟨nb, 0, none⟩) fb g.ns.length g.ns.length g.ns.length g.ns.length w
  clear h hE ok
  go_enter Try.func6, Try.ntmps6
  go_wp2_with (first
    | (go_at_call 14; refine CK.out.mono ?_; rintro e w2 ⟨rfl, b2⟩; have B2 : Hid (Below w.heap.size w w2 ∧ w2.heap[w.heap.size]? = some (gBox g)) := ⟨(below_alloc w _).trans (b2.mono (below_alloc w _).size), (b2.block _ (lt_of_block X0.out)).trans X0.out⟩; clear b2 x0 x1 x2 x3 x4; obtain ⟨x0, x1, x2, x3, x4⟩ := gb_cells B2.out.2)
    | (go_at_call 17; refine (LC.out _ (HFG.out _ B2.out.1)).mono ?_; rintro e w3 ⟨nb, fb, F, hF, rfl, n3, b3⟩; have B3 : Hid (LeastF g F ∧ SBk w3 fb F ∧ Below w.heap.size w w3) := ⟨hF, n3, B2.out.1.trans (b3.mono B2.out.1.size)⟩; clear n3 b3 hF)
    | (go_at_call 16; refine (LS.out w3 fb F B3.out.1 B3.out.2.1).mono ?_; rintro e w4 ⟨b, rfl, n4, l4, b4⟩; have B4 : Hid (LLk w4 b (listsU F) g.ns.length ∧ w.heap.size ≤ b ∧ Below w.heap.size w w4) := ⟨n4, Nat.le_trans B3.out.2.2.size l4, B3.out.2.2.trans (b4.mono B3.out.2.2.size)⟩; clear n4 l4 b4))
  refine bodyPost_ret (results_tmp2 rfl _ _ _) rfl ?_
  exact ⟨b, F, B3.out.1, rfl, B4.out⟩
/-- What askClaims tells. -/
def askC (g : GV) (n m : Nat) (er : Int) : Int := if askU g n er ≠ 0 then askU g n er else if m ≠ g.ns.length then 3 else 0
set_option maxRecDepth 100000 in
set_option maxHeartbeats 2000000 in
theorem askC_S (g : GV) (na fa : Option Addr) (n nc m fc : Nat) (w : World) (h : GAt 140737488355328 w g) (hpc : g.ps.length ≤ g.pc) (er at_ : Int) (hE : checkG g (checkF g.ts g.ns) = (er, at_)) :
    Calls Try.prog 20 #[g.val, .slice na n nc, .slice fa m fc] w fun e w' => e = .returned (.int .i64 (askC g n m er)) ∧ Below w.heap.size w w' := by
  have X0 : Hid ((w.alloc (gBox g)).heap[w.heap.size]? = some (gBox g)) := heap_alloc_new _ _
  have CK : Hid (Calls Try.prog 18 #[g.val, .slice na n nc] (w.alloc (gBox g)) fun e w' => e = .returned (.int .i64 (askU g n er)) ∧ Below (w.alloc (gBox g)).heap.size (w.alloc (gBox g)) w') := askNull_S g na n nc _ (h.later (below_alloc _ _)) hpc er at_ hE
  obtain ⟨x0, x1, x2, x3, x4⟩ := gb_cells X0.out
  clear h hE
  have HC : Hid (askC g n m er = if askU g n er ≠ 0 then askU g n er else if m ≠ g.ns.length then 3 else 0) := rfl
  generalize askU g n er = U at *
  generalize askC g n m er = R at *
  by_cases h0 : U = 0
  · subst h0
    have t1 : ((0 : Int) != 0) = false := by decide
    by_cases h1 : m = g.ns.length
    · have t2 : ((m : Int) != (g.ns.length : Int)) = false := by simp; omega
      have R2 : Hid (R = 0) := by show _ = _; rw [HC.out]; simp [h1]
      clear h1
      go_enter Try.func20, Try.ntmps20
      go_wp2_with (go_at_call 18; refine CK.out.mono ?_; rintro e w2 ⟨rfl, b2⟩; have B2 : Hid (Below w.heap.size w w2 ∧ w2.heap[w.heap.size]? = some (gBox g)) := ⟨(below_alloc w _).trans (b2.mono (below_alloc w _).size), (b2.block _ (lt_of_block X0.out)).trans X0.out⟩; clear b2 x0 x1 x2 x3 x4; obtain ⟨x0, x1, x2, x3, x4⟩ := gb_cells B2.out.2)
      go_ret
      exact ⟨by rw [R2.out]; rfl, B2.out.1⟩
    · have t2 : ((m : Int) != (g.ns.length : Int)) = true := by simp; omega
      have R2 : Hid (R = 3) := by show _ = _; rw [HC.out]; simp [h1]
      clear h1
      go_enter Try.func20, Try.ntmps20
      go_wp2_with (go_at_call 18; refine CK.out.mono ?_; rintro e w2 ⟨rfl, b2⟩; have B2 : Hid (Below w.heap.size w w2 ∧ w2.heap[w.heap.size]? = some (gBox g)) := ⟨(below_alloc w _).trans (b2.mono (below_alloc w _).size), (b2.block _ (lt_of_block X0.out)).trans X0.out⟩; clear b2 x0 x1 x2 x3 x4; obtain ⟨x0, x1, x2, x3, x4⟩ := gb_cells B2.out.2)
      go_ret
      exact ⟨by rw [R2.out]; rfl, B2.out.1⟩
  · have t1 : (U != 0) = true := by simpa using h0
    have R2 : Hid (R = U) := by show _ = _; rw [HC.out]; simp [h0]
    go_enter Try.func20, Try.ntmps20
    go_wp2_with (go_at_call 18; refine CK.out.mono ?_; rintro e w2 ⟨rfl, b2⟩; have B2 : Hid (Below w.heap.size w w2) := (below_alloc w _).trans (b2.mono (below_alloc w _).size); clear b2)
    go_ret
    exact ⟨by rw [R2.out]; rfl, B2.out⟩
end Go.Proofs.Ytflcnlefcnclkaa
