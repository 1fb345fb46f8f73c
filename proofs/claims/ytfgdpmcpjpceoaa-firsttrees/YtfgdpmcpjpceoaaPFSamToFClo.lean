import Derived.Test.YtfgdpmcpjpceoaaPFThyToFSame
namespace Go.Proofs.Ytfgdpmcpjpceoaa
set_option linter.unusedVariables false
set_option maxRecDepth 100000
set_option maxHeartbeats 16000000
open Go.RowKit
theorem below_al {w w' : World} {o : Obj} (h : Below w.heap.size w w') : Below w.heap.size w (w'.alloc o) := h.trans ((below_alloc _ _).mono h.size)
theorem sample_at (w : World) :
  Calls Try.prog 16 #[] w fun e w' => ∃ g : GV, e = .returned g.val /\ GAt 8 w' g /\ g.ts = [⟨#[97]⟩, ⟨#[98]⟩] /\ g.ns = [⟨#[83]⟩, ⟨#[65]⟩] /\ g.start = 0 /\ g.ps.map (fun p => (p.left, p.right, p.prec)) = [(0, [(2, 1), (1, 1)], -1), (1, [(1, 0)], -1), (1, [], -1)] /\ g.ls = [] /\ g.ps.length <= g.pc /\ Below w.heap.size w w' := by
 go_enter Try.func16, Try.ntmps16
 go_wp2
 refine bodyPost_ret (v := .agg #[.slice (some ⟨w.heap.size + 1 + 1 + 1, 0, none⟩) 2 2, .slice (some ⟨w.heap.size + 1 + 1 + 1 + 1, 0, none⟩) 2 2, .int .i64 0, .slice (some ⟨w.heap.size + 1 + 1 + 1 + 1 + 1 + 1 + 1, 0, none⟩) 3 3, .slice none 0 0]) (by simp [results, Try.results16, go_sem]) rfl ?_
 refine ⟨⟨some ⟨w.heap.size + 1 + 1 + 1, 0, none⟩, 2, [⟨#[97]⟩, ⟨#[98]⟩], some ⟨w.heap.size + 1 + 1 + 1 + 1, 0, none⟩, 2, [⟨#[83]⟩, ⟨#[65]⟩], 0, some ⟨w.heap.size + 1 + 1 + 1 + 1 + 1 + 1 + 1, 0, none⟩, 3, [⟨0, some ⟨w.heap.size + 1 + 1 + 1 + 1 + 1, 0, none⟩, 2, [(2, 1), (1, 1)], -1⟩, ⟨1, some ⟨w.heap.size + 1 + 1 + 1 + 1 + 1 + 1, 0, none⟩, 1, [(1, 0)], -1⟩, ⟨1, none, 0, [], -1⟩], none, 0, []⟩, rfl, ⟨?_, ?_, ⟨?_, ?_⟩, ⟨?_, ?_⟩, ?_, ?_, ?_, ?_, ?_, ?_, ?_, ?_⟩, rfl, rfl, rfl, rfl, rfl, Nat.le_refl _, ?_⟩
 ·intro _
  refine ⟨w.heap.size + 1 + 1 + 1, 0, rfl, by simp, fun i hi => ?_⟩
  rcases (show i = 0 ∨ i = 1 by simp at hi; omega) with rfl | rfl <;> simp [go_sem]
 ·intro _
  refine ⟨w.heap.size + 1 + 1 + 1 + 1, 0, rfl, by simp, fun i hi => ?_⟩
  rcases (show i = 0 ∨ i = 1 by simp at hi; omega) with rfl | rfl <;> simp [go_sem]
 ·intro _
  refine ⟨w.heap.size + 1 + 1 + 1 + 1 + 1 + 1 + 1, 0, rfl, by simp, fun i hi => ?_⟩
  rcases (show i = 0 ∨ i = 1 ∨ i = 2 by simp at hi; omega) with rfl | rfl | rfl <;> simp [go_sem]
 ·intro p hp hn
  simp only [List.mem_cons, List.not_mem_nil, or_false] at hp
  rcases hp with rfl | rfl | rfl
  ·refine ⟨w.heap.size + 1 + 1 + 1 + 1 + 1, 0, rfl, by simp, fun i hi => ?_⟩
   rcases (show i = 0 ∨ i = 1 by simp at hi; omega) with rfl | rfl <;> simp [go_sem]
  ·refine ⟨w.heap.size + 1 + 1 + 1 + 1 + 1 + 1, 0, rfl, by simp, fun i hi => ?_⟩
   obtain rfl : i = 0 := by simpa using hi
   simp [go_sem]
  ·exact absurd rfl hn
 ·intro h; exact absurd rfl h
 ·intro p hp; cases hp
 ·intro s hs; simp only [List.mem_cons, List.not_mem_nil, or_false] at hs; rcases hs with rfl | rfl <;> first | decide | simp
 ·intro s hs; simp only [List.mem_cons, List.not_mem_nil, or_false] at hs; rcases hs with rfl | rfl <;> first | decide | simp
 ·simp
 ·simp
 ·simp
 ·simp
 ·intro p hp; simp only [List.mem_cons, List.not_mem_nil, or_false] at hp; rcases hp with rfl | rfl | rfl <;> first | decide | simp
 ·intro p hp; cases hp
 ·exact below_al (below_al (below_al (below_al (below_al (below_al (below_al (below_al (Below.refl _ _))))))))
structure Sam (g : GV) : Prop where
 ts : g.ts = [⟨#[97]⟩, ⟨#[98]⟩]
 ns : g.ns = [⟨#[83]⟩, ⟨#[65]⟩]
 start : g.start = 0
 ps : g.ps.map (fun p => (p.left, p.right, p.prec)) = [(0, [(2, 1), (1, 1)], -1), (1, [(1, 0)], -1), (1, [], -1)]
 ls : g.ls = []
theorem Sam.prods {g : GV} (h : Sam g) : ∃ a0 c0 a1 c1 a2 c2, g.ps = [⟨0, a0, c0, [(2, 1), (1, 1)], -1⟩, ⟨1, a1, c1, [(1, 0)], -1⟩, ⟨1, a2, c2, [], -1⟩] := by
 have e := h.ps
 match hp : g.ps with
 | [] => rw [hp] at e; simp at e
 | [_] => rw [hp] at e; simp at e
 | [_, _] => rw [hp] at e; simp at e
 | [⟨l0, a0, c0, r0, p0⟩, ⟨l1, a1, c1, r1, p1⟩, ⟨l2, a2, c2, r2, p2⟩] =>
  rw [hp] at e
  simp only [List.map_cons, List.map_nil, List.cons.injEq, Prod.mk.injEq, and_true] at e
  obtain ⟨⟨rfl, rfl, rfl⟩, ⟨rfl, rfl, rfl⟩, ⟨rfl, rfl, rfl⟩⟩ := e
  exact ⟨a0, c0, a1, c1, a2, c2, rfl⟩
 | _ :: _ :: _ :: _ :: _ => rw [hp] at e; simp at e
theorem Sam.null {g : GV} (h : Sam g) : nullU g.ps g.ns.length = [false, true] := by
 obtain ⟨a0, c0, a1, c1, a2, c2, e⟩ := h.prods
 rw [e, h.ns]
 rfl
theorem Sam.bad {g : GV} (h : Sam g) : chkN [false, false] g.ps = (61, 2) := by
 obtain ⟨a0, c0, a1, c1, a2, c2, e⟩ := h.prods
 rw [e]
 rfl
theorem Sam.least {g : GV} (h : Sam g) {F : List BS} (hF : LeastF g F) : F = [(3, 0), (1, 0)] := by
 obtain ⟨k, e1, e2, _⟩ := hF
 rw [h.null] at e1 e2
 obtain ⟨a0, c0, a1, c1, a2, c2, e⟩ := h.prods
 rw [e] at e1 e2
 rw [h.ns] at e1
 have r0 : roundS [false, true] [⟨0, a0, c0, [(2, 1), (1, 1)], -1⟩, ⟨1, a1, c1, [(1, 0)], -1⟩, ⟨1, a2, c2, [], -1⟩] [(0, 0), (0, 0)] = [(2, 0), (1, 0)] := by kernel_rfl
 have r1 : roundS [false, true] [⟨0, a0, c0, [(2, 1), (1, 1)], -1⟩, ⟨1, a1, c1, [(1, 0)], -1⟩, ⟨1, a2, c2, [], -1⟩] [(2, 0), (1, 0)] = [(3, 0), (1, 0)] := by kernel_rfl
 have r2 : roundS [false, true] [⟨0, a0, c0, [(2, 1), (1, 1)], -1⟩, ⟨1, a1, c1, [(1, 0)], -1⟩, ⟨1, a2, c2, [], -1⟩] [(3, 0), (1, 0)] = [(3, 0), (1, 0)] := by kernel_rfl
 have key : ∀ k, iterS [false, true] [⟨0, a0, c0, [(2, 1), (1, 1)], -1⟩, ⟨1, a1, c1, [(1, 0)], -1⟩, ⟨1, a2, c2, [], -1⟩] [(0, 0), (0, 0)] (k + 2) = [(3, 0), (1, 0)] := fun k => by
  induction k with
  | zero => rw [iterS, iterS, iterS, r0, r1]
  | succ k ih => rw [iterS, ih, r2]
 match k with
 | 0 =>
  rw [show F = [(0, 0), (0, 0)] from e1, r0] at e2
  exact absurd e2 (by decide)
 | 1 =>
  have e3 : F = [(2, 0), (1, 0)] := by rw [e1]; exact r0
  rw [e3, r1] at e2
  exact absurd e2 (by decide)
 | k + 2 => rw [e1]; exact key k
theorem Sam.lists {g : GV} (h : Sam g) {F : List BS} (hF : LeastF g F) : listsU F = [[0, 1], [0]] := by
 rw [h.least hF]
 decide +kernel
theorem Sam.check {g : GV} (h : Sam g) : checkG g (checkF g.ts g.ns) = (0, 0) := by
 obtain ⟨a0, c0, a1, c1, a2, c2, e⟩ := h.prods
 obtain ⟨ta, tc, ts, na, nc, ns, st, pa, pc, ps, la, lc, ls⟩ := g
 obtain ⟨rfl, rfl, rfl, _, rfl⟩ := h
 simp only at e
 subst e
 rfl
theorem num_S (x : Int) (w : World) : Calls Try.prog 8 #[.int .i64 x] w fun e w' => e = .returned (.int .i64 x) /\ w = w' := by
 go_enter Try.func8, Try.ntmps8
 go_wp2
 go_ret
 exact ⟨rfl, rfl⟩
def SamAt (w : World) (g : GV) : Prop := Sam g /\ GAt 8 w g /\ g.ps.length <= g.pc
theorem sam_S (w : World) : Calls Try.prog 16 #[] w fun e w' => ∃ g : GV, e = .returned g.val /\ SamAt w' g /\ Below w.heap.size w w' :=
 (sample_at w).mono (by rintro e w' ⟨g, q1, q2, q3, q4, q5, q6, q7, q8, q9⟩; exact ⟨g, q1, ⟨⟨q3, q4, q5, q6, q7⟩, q2, q8⟩, q9⟩)
theorem SamAt.later {w w' : World} {g : GV} (h : SamAt w g) (hb : Below w.heap.size w w') : SamAt w' g := ⟨h.1, h.2.1.later hb, h.2.2⟩
theorem SamAt.len {w : World} {g : GV} (h : SamAt w g) : g.ns.length = 2 := by rw [h.1.ns]; rfl
theorem sam_null (g : GV) (w : World) (h : SamAt w g) : Calls Try.prog 5 #[g.val] w fun e w' => ∃ nb, e = .returned (.tuple #[.slice (some ⟨nb, 0, none⟩) 2 2, .int .i64 0]) /\ BRow w' (some ⟨nb, 0, none⟩) [false, true] /\ Below w.heap.size w w' :=
 (nullable_ok g w (h.2.1.mono (by decide)) h.2.2 0 h.1.check).mono (by
  rintro e w' ⟨nb, q1, q2, _, q4⟩
  rw [h.len] at q1
  rw [h.1.null] at q2
  exact ⟨nb, q1, q2.row, q4⟩)
theorem sam_first (g : GV) (w : World) (h : SamAt w g) : Calls Try.prog 6 #[g.val] w fun e w' => ∃ b, e = .returned (.tuple #[.slice (some ⟨b, 0, none⟩) 2 2, .int .i64 0]) /\ LsRow w' (some ⟨b, 0, none⟩) [[0, 1], [0]] /\ Below w.heap.size w w' :=
 (first_ok g w (h.2.1.mono (by decide)) h.2.2 0 h.1.check).mono (by
  rintro e w' ⟨b, F, hF, q1, q2, _, q4⟩
  rw [h.len] at q1 q2
  rw [h.1.lists hF] at q2
  exact ⟨b, q1, LLk.row q2, q4⟩)
theorem sam_bad (g : GV) (w : World) (b : Nat) (h : SamAt w g) (hN : BRow w (some ⟨b, 0, none⟩) [false, false]) : Calls Try.prog 11 #[g.val, .slice (some ⟨b, 0, none⟩) 2 2] w fun e w' => e = .returned (.tuple #[.int .i64 61, .int .i64 2]) /\ Below w.heap.size w w' := by
 have := chkNull_ok g (some ⟨b, 0, none⟩) 2 [false, false] w (h.2.1.mono (by decide)) h.2.2 0 h.1.check hN h.len.symm
 rw [h.1.bad] at this
 exact this
theorem brow_new (w : World) (a b : Bool) : BRow (w.alloc (.cells #[.bool a, .bool b] 4)) (some ⟨w.heap.size, 0, none⟩) [a, b] := fun _ => ⟨w.heap.size, 0, rfl, by simp, fun i hi => by
 rcases (show i = 0 ∨ i = 1 by simp at hi; omega) with rfl | rfl <;> simp [go_sem]⟩
theorem sam_same (w : World) (nb : Nat) (h : BRow w (some ⟨nb, 0, none⟩) [false, true]) : Calls Try.prog 17 #[.slice (some ⟨nb, 0, none⟩) 2 2, .slice (some ⟨w.heap.size, 0, none⟩) 2 2] (w.alloc (.cells #[.bool false, .bool true] 4)) fun e w' => e = .returned (.bool true) /\ Below w.heap.size w w' :=
 (samebools_S (some ⟨nb, 0, none⟩) (some ⟨w.heap.size, 0, none⟩) 2 2 [false, true] _ (by decide) (h.later (below_alloc _ _)) (brow_new w false true)).mono (by
  rintro e w' ⟨q, d, rfl⟩
  exact ⟨q, (below_alloc w _).trans ((drewN_below _ d).mono (below_alloc w _).size)⟩)
theorem lsrow_new (w : World) : LsRow (((w.alloc (.cells #[.int .i64 0, .int .i64 1] 3)).alloc (.cells #[.int .i64 0] 3)).alloc (.cells #[.slice (some ⟨w.heap.size, 0, none⟩) 2 2, .slice (some ⟨w.heap.size + 1, 0, none⟩) 1 1] 52)) (some ⟨w.heap.size + 1 + 1, 0, none⟩) [[0, 1], [0]] := fun _ => ⟨w.heap.size + 1 + 1, 0, rfl, by simp, fun i hi => by
 rcases (show i = 0 ∨ i = 1 by simp at hi; omega) with rfl | rfl
 ·refine ⟨some ⟨w.heap.size, 0, none⟩, 2, by simp [go_sem], fun _ => ⟨w.heap.size, 0, rfl, by simp; omega, fun j hj => ?_⟩⟩
  rcases (show j = 0 ∨ j = 1 by simp at hj; omega) with rfl | rfl <;> simp [go_sem]
 ·refine ⟨some ⟨w.heap.size + 1, 0, none⟩, 1, by simp [go_sem], fun _ => ⟨w.heap.size + 1, 0, rfl, by simp, fun j hj => ?_⟩⟩
  obtain rfl : j = 0 := by simpa using hj
  simp [go_sem]⟩
theorem sam_lists (w : World) (fb : Nat) (h : LsRow w (some ⟨fb, 0, none⟩) [[0, 1], [0]]) : Calls Try.prog 18 #[.slice (some ⟨fb, 0, none⟩) 2 2, .slice (some ⟨w.heap.size + 1 + 1, 0, none⟩) 2 2] (((w.alloc (.cells #[.int .i64 0, .int .i64 1] 3)).alloc (.cells #[.int .i64 0] 3)).alloc (.cells #[.slice (some ⟨w.heap.size, 0, none⟩) 2 2, .slice (some ⟨w.heap.size + 1, 0, none⟩) 1 1] 52)) fun e w' => e = .returned (.bool true) /\ Below w.heap.size w w' := by
 have hb : Below w.heap.size w (((w.alloc (.cells #[.int .i64 0, .int .i64 1] 3)).alloc (.cells #[.int .i64 0] 3)).alloc (.cells #[.slice (some ⟨w.heap.size, 0, none⟩) 2 2, .slice (some ⟨w.heap.size + 1, 0, none⟩) 1 1] 52)) := below_al (below_al (below_alloc _ _))
 exact (samelists_S (some ⟨fb, 0, none⟩) (some ⟨w.heap.size + 1 + 1, 0, none⟩) 2 2 [[0, 1], [0]] _ (by decide) (by decide) (h.later hb) (lsrow_new w)).mono (by
  rintro e w' ⟨q, b⟩
  exact ⟨q, hb.trans (b.mono hb.size)⟩)
theorem works_S (w : World) : Calls Try.prog 4 #[] w fun e w' => e = .returned (.bool true) /\ Below w.heap.size w w' := by
 have T0 : Hid True := trivial
 go_enter Try.func4, Try.ntmps4
 go_wp2_with (first
  | (go_at_call 16; have T1 : Hid True := T0; clear T0; refine (sam_S _).mono ?_; rintro e w1 ⟨g1, rfl, s1, b1⟩; have S1 : Hid (SamAt w1 g1 /\ Below w.heap.size w w1) := ⟨s1, b1⟩; clear s1 b1)
  | (go_at_call 5; refine (sam_null g1 w1 S1.out.1).mono ?_; rintro e w2 ⟨nb, rfl, n2, b2⟩; have S2 : Hid (BRow w2 (some ⟨nb, 0, none⟩) [false, true] /\ Below w.heap.size w w2) := ⟨n2, S1.out.2.trans (b2.mono S1.out.2.size)⟩; clear n2 b2)
  | (go_at_call 16; have T2 : Hid True := T1; clear T1; refine (sam_S _).mono ?_; rintro e w3 ⟨g3, rfl, s3, b3⟩; have S3 : Hid (SamAt w3 g3 /\ Below w2.heap.size w2 w3) := ⟨s3, b3⟩; clear s3 b3)
  | (go_at_call 6; refine (sam_first g3 w3 S3.out.1).mono ?_; rintro e w4 ⟨fb, rfl, n4, b4⟩; have S4 : Hid (LsRow w4 (some ⟨fb, 0, none⟩) [[0, 1], [0]] /\ BRow w4 (some ⟨nb, 0, none⟩) [false, true] /\ Below w.heap.size w w4) := ⟨n4, (S2.out.1.later S3.out.2).later b4, S2.out.2.trans ((S3.out.2.trans (b4.mono S3.out.2.size)).mono S2.out.2.size)⟩; clear n4 b4)
  | (go_at_call 16; have T3 : Hid True := T2; clear T2; refine (sam_S _).mono ?_; rintro e w5 ⟨g5, rfl, s5, b5⟩; have S5 : Hid (SamAt w5 g5 /\ Below w4.heap.size w4 w5) := ⟨s5, b5⟩; clear s5 b5)
  | (go_at_call 11; refine (sam_bad g5 _ _ (S5.out.1.later (below_alloc _ _)) (brow_new w5 false false)).mono ?_; rintro e w6 ⟨rfl, b6⟩; have S6 : Hid (Below w4.heap.size w4 w6) := S5.out.2.trans (((below_alloc w5 _).trans (b6.mono (below_alloc w5 _).size)).mono S5.out.2.size); have S7 : Hid (LsRow w6 (some ⟨fb, 0, none⟩) [[0, 1], [0]] /\ BRow w6 (some ⟨nb, 0, none⟩) [false, true] /\ Below w.heap.size w w6) := ⟨S4.out.1.later S6.out, S4.out.2.1.later S6.out, S4.out.2.2.trans (S6.out.mono S4.out.2.2.size)⟩; clear b6)
  | (go_at_call 17; refine (sam_same w6 nb S7.out.2.1).mono ?_; rintro e w8 ⟨rfl, b8⟩; have S8 : Hid (LsRow w8 (some ⟨fb, 0, none⟩) [[0, 1], [0]] /\ Below w.heap.size w w8) := ⟨S7.out.1.later b8, S7.out.2.2.trans (b8.mono S7.out.2.2.size)⟩; clear b8)
  | (go_at_call 18; refine (sam_lists w8 fb S8.out.1).mono ?_; rintro e w9 ⟨rfl, b9⟩; have S9 : Hid (Below w.heap.size w w9) := S8.out.2.trans (b9.mono S8.out.2.size); clear b9)
  | (go_at_call 8; refine (num_S _ _).mono ?_; rintro e w7 ⟨rfl, rfl⟩))
 go_ret
 exact ⟨rfl, S9.out⟩
end Go.Proofs.Ytfgdpmcpjpceoaa
