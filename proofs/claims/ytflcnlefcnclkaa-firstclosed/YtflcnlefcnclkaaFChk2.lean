import Derived.Test.YtflcnlefcnclkaaFChk1
namespace Go.Proofs.Ytflcnlefcnclkaa
set_option linter.unusedVariables false
open Go.RowKit

theorem sym_of {g : GV} (h : OkC g) (i : Nat) (hi : i < g.ps.length) : ∀ s ∈ (g.ps.getD i .none).right, (s.1 = 1 ∧ 0 ≤ s.2 ∧ s.2 < g.ts.length) ∨ (s.1 = 2 ∧ 0 ≤ s.2 ∧ s.2 < g.ns.length) := fun s hs => by
  have := h.inG i hi s hs
  unfold inG at this
  by_cases e1 : s.1 = 1
  · simp [e1, inT] at this
    exact .inl ⟨e1, this⟩
  · by_cases e2 : s.1 = 2
    · simp [e2, inN] at this
      exact .inr ⟨e2, this⟩
    · simp [e1, e2] at this
/-- What Check takes the walks can go over. -/
theorem OkC.fg {g : GV} (ok : OkC g) {n : Nat} {w : World} (h : GAt n w g) : FG w g := by
  have each : ∀ p ∈ g.ps, ∃ i, i < g.ps.length ∧ g.ps.getD i .none = p := fun p hp => by
    obtain ⟨i, hi, rfl⟩ := List.getElem_of_mem hp
    exact ⟨i, hi, by simp [List.getD, hi]⟩
  refine ⟨h.p, ok.nl, ok.pl.2, fun p hp => ?_, fun p hp => ?_, fun p hp => ?_, ok.tl⟩
  · obtain ⟨i, hi, rfl⟩ := each p hp
    exact ok.left i hi
  · obtain ⟨i, hi, rfl⟩ := each p hp
    exact ok.right i hi
  · obtain ⟨i, hi, rfl⟩ := each p hp
    exact sym_of ok i hi
set_option maxRecDepth 100000 in
set_option maxHeartbeats 2000000 in
theorem nullable_no (g : GV) (w : World) (h : GAt 140737488355328 w g) (hpc : g.ps.length ≤ g.pc) (er at_ : Int) (hE : checkG g (checkF g.ts g.ns) = (er, at_)) (h0 : er ≠ 0) :
    Calls Try.prog 5 #[g.val] w fun e w' => e = .returned (.tuple #[.slice none 0 0, .int .i64 er]) ∧ Below w.heap.size w w' := by
  have X0 : Hid ((w.alloc (gBox g)).heap[w.heap.size]? = some (gBox g)) := heap_alloc_new _ _
  have CK : Hid (Calls Try.prog 14 #[g.val] (w.alloc (gBox g)) fun e w' => e = .returned (.tuple #[.int .i64 er, .int .i64 at_]) ∧ Below (w.alloc (gBox g)).heap.size (w.alloc (gBox g)) w') := check_G g _ (h.later (below_alloc _ _)) hpc er at_ hE
  obtain ⟨x0, x1, x2, x3, x4⟩ := gb_cells X0.out
  have t1 : (er != 0) = true := by simpa using h0
  clear h hE
  go_enter Try.func5, Try.ntmps5
  go_wp2_with (go_at_call 14; refine CK.out.mono ?_; rintro e w2 ⟨rfl, b2⟩; have B2 : Hid (Below w.heap.size w w2) := (below_alloc w _).trans (b2.mono (below_alloc w _).size); clear b2)
  refine bodyPost_ret (results_tmp2 rfl _ _ _) rfl ?_
  exact ⟨rfl, B2.out⟩
set_option maxRecDepth 100000 in
set_option maxHeartbeats 2000000 in
theorem nullable_ok (g : GV) (w : World) (h : GAt 140737488355328 w g) (hpc : g.ps.length ≤ g.pc) (at_ : Int) (hE : checkG g (checkF g.ts g.ns) = (0, at_)) :
    Calls Try.prog 5 #[g.val] w fun e w' => ∃ nb, e = .returned (.tuple #[.slice (some ⟨nb, 0, none⟩) g.ns.length g.ns.length, .int .i64 0]) ∧ BB w' nb (nullU g.ps g.ns.length) ∧ w.heap.size ≤ nb ∧ Below w.heap.size w w' := by
  have ok : OkC g := OkC.of (by rw [hE])
  have X0 : Hid ((w.alloc (gBox g)).heap[w.heap.size]? = some (gBox g)) := heap_alloc_new _ _
  have CK : Hid (Calls Try.prog 14 #[g.val] (w.alloc (gBox g)) fun e w' => e = .returned (.tuple #[.int .i64 0, .int .i64 at_]) ∧ Below (w.alloc (gBox g)).heap.size (w.alloc (gBox g)) w') := check_G g _ (h.later (below_alloc _ _)) hpc 0 at_ hE
  have HFG : Hid (∀ w', Below w.heap.size w w' → FG w' g) := fun w' hb => ok.fg (h.later hb)
  obtain ⟨x0, x1, x2, x3, x4⟩ := gb_cells X0.out
  have t1 : ((0 : Int) != 0) = false := by decide
  clear h hE ok
  go_enter Try.func5, Try.ntmps5
  go_wp2_with (first
    | (go_at_call 14; refine CK.out.mono ?_; rintro e w2 ⟨rfl, b2⟩; have B2 : Hid (Below w.heap.size w w2 ∧ w2.heap[w.heap.size]? = some (gBox g)) := ⟨(below_alloc w _).trans (b2.mono (below_alloc w _).size), (b2.block _ (lt_of_block X0.out)).trans X0.out⟩; clear b2 x0 x1 x2 x3 x4; obtain ⟨x0, x1, x2, x3, x4⟩ := gb_cells B2.out.2)
    | (go_at_call 15; refine (nullables_S g _ (HFG.out _ B2.out.1)).mono ?_; rintro e w3 ⟨nb, rfl, n3, l3, b3⟩; have B3 : Hid (BB w3 nb (nullU g.ps g.ns.length) ∧ w.heap.size ≤ nb ∧ Below w.heap.size w w3) := ⟨n3, Nat.le_trans B2.out.1.size l3, B2.out.1.trans (b3.mono B2.out.1.size)⟩; clear n3 l3 b3))
  refine bodyPost_ret (results_tmp2 rfl _ _ _) rfl ?_
  exact ⟨nb, rfl, B3.out⟩
/-- What askNullable tells. -/
def askU (g : GV) (n : Nat) (er : Int) : Int := if er ≠ 0 then er else if n ≠ g.ns.length then 3 else 0
set_option maxRecDepth 100000 in
set_option maxHeartbeats 2000000 in
theorem askNull_S (g : GV) (na : Option Addr) (n nc : Nat) (w : World) (h : GAt 140737488355328 w g) (hpc : g.ps.length ≤ g.pc) (er at_ : Int) (hE : checkG g (checkF g.ts g.ns) = (er, at_)) :
    Calls Try.prog 18 #[g.val, .slice na n nc] w fun e w' => e = .returned (.int .i64 (askU g n er)) ∧ Below w.heap.size w w' := by
  have X0 : Hid ((w.alloc (gBox g)).heap[w.heap.size]? = some (gBox g)) := heap_alloc_new _ _
  have CK : Hid (Calls Try.prog 14 #[g.val] (w.alloc (gBox g)) fun e w' => e = .returned (.tuple #[.int .i64 er, .int .i64 at_]) ∧ Below (w.alloc (gBox g)).heap.size (w.alloc (gBox g)) w') := check_G g _ (h.later (below_alloc _ _)) hpc er at_ hE
  obtain ⟨x0, x1, x2, x3, x4⟩ := gb_cells X0.out
  clear h hE
  by_cases h0 : er = 0
  · subst h0
    have t1 : ((0 : Int) != 0) = false := by decide
    by_cases h1 : n = g.ns.length
    · have t2 : ((n : Int) != (g.ns.length : Int)) = false := by simp; omega
      have R : Hid (askU g n 0 = 0) := by show _ = _; simp [askU, h1]
      go_enter Try.func18, Try.ntmps18
      go_wp2_with (go_at_call 14; refine CK.out.mono ?_; rintro e w2 ⟨rfl, b2⟩; have B2 : Hid (Below w.heap.size w w2 ∧ w2.heap[w.heap.size]? = some (gBox g)) := ⟨(below_alloc w _).trans (b2.mono (below_alloc w _).size), (b2.block _ (lt_of_block X0.out)).trans X0.out⟩; clear b2 x0 x1 x2 x3 x4; obtain ⟨x0, x1, x2, x3, x4⟩ := gb_cells B2.out.2)
      go_ret
      exact ⟨by rw [R.out]; rfl, B2.out.1⟩
    · have t2 : ((n : Int) != (g.ns.length : Int)) = true := by simp; omega
      have R : Hid (askU g n 0 = 3) := by show _ = _; simp [askU, h1]
      go_enter Try.func18, Try.ntmps18
      go_wp2_with (go_at_call 14; refine CK.out.mono ?_; rintro e w2 ⟨rfl, b2⟩; have B2 : Hid (Below w.heap.size w w2 ∧ w2.heap[w.heap.size]? = some (gBox g)) := ⟨(below_alloc w _).trans (b2.mono (below_alloc w _).size), (b2.block _ (lt_of_block X0.out)).trans X0.out⟩; clear b2 x0 x1 x2 x3 x4; obtain ⟨x0, x1, x2, x3, x4⟩ := gb_cells B2.out.2)
      go_ret
      exact ⟨by rw [R.out]; rfl, B2.out.1⟩
  · have t1 : (er != 0) = true := by simpa using h0
    have R : Hid (askU g n er = er) := by show _ = _; simp [askU, h0]
    go_enter Try.func18, Try.ntmps18
    go_wp2_with (go_at_call 14; refine CK.out.mono ?_; rintro e w2 ⟨rfl, b2⟩; have B2 : Hid (Below w.heap.size w w2) := (below_alloc w _).trans (b2.mono (below_alloc w _).size); clear b2)
    go_ret
    exact ⟨by rw [R.out]; rfl, B2.out⟩
end Go.Proofs.Ytflcnlefcnclkaa
