import Derived.Test.YtjpknihkcndoiaaGreatPPC8ToPC9
import Derived.Test.YtjpknihkcndoiaaGreatPGCheckPToGSame2
namespace Go.Proofs.YtjpknihkcndoiaaGreat
set_option linter.unusedVariables false
set_option maxRecDepth 100000
set_option maxHeartbeats 16000000
open Go.RowKit Go.Maps
theorem bel_al {w w' : World} {o : Obj} (h : Below w.heap.size w w') : Below w.heap.size w (w'.alloc o) := h.trans ((below_alloc _ _).mono h.size)
def samG (n : Nat) : GV := ⟨(some ⟨n + 1 + 1, 0, none⟩), 3, [⟨#[97]⟩, ⟨#[98]⟩, ⟨#[110]⟩], (some ⟨n + 1 + 1 + 1, 0, none⟩), 1, [⟨#[69]⟩], 0, (some ⟨n + 1 + 1 + 1 + 1 + 1 + 1 + 1, 0, none⟩), 3, [⟨0, (some ⟨n + 1 + 1 + 1 + 1, 0, none⟩), 3, [(2, 0), (1, 0), (2, 0)], -1⟩, ⟨0, (some ⟨n + 1 + 1 + 1 + 1 + 1, 0, none⟩), 3, [(2, 0), (1, 1), (2, 0)], -1⟩, ⟨0, (some ⟨n + 1 + 1 + 1 + 1 + 1 + 1, 0, none⟩), 1, [(1, 2)], -1⟩], (some ⟨n + 1 + 1 + 1 + 1 + 1 + 1 + 1 + 1 + 1 + 1, 0, none⟩), 2, [⟨1, (some ⟨n + 1 + 1 + 1 + 1 + 1 + 1 + 1 + 1, 0, none⟩), 1, [0]⟩, ⟨2, (some ⟨n + 1 + 1 + 1 + 1 + 1 + 1 + 1 + 1 + 1, 0, none⟩), 1, [1]⟩]⟩
theorem samG_check (n : Nat) : checkG (samG n) (checkF (samG n).ts (samG n).ns) = (0, 0) := by kernel_rfl
theorem sample_P (w : World) : Calls Tryz.prog 36 #[] w fun e w' => e = .returned (samG w.heap.size).val /\ GAt 140737488355328 w' (samG w.heap.size) /\ Below w.heap.size w w' := by
 go_enter Tryz.func36, Tryz.ntmps36
 go_wp2
 refine bodyPost_ret (v := .agg #[.slice (some ⟨w.heap.size + 1 + 1, 0, none⟩) 3 3, .slice (some ⟨w.heap.size + 1 + 1 + 1, 0, none⟩) 1 1, .int .i64 0, .slice (some ⟨w.heap.size + 1 + 1 + 1 + 1 + 1 + 1 + 1, 0, none⟩) 3 3, .slice (some ⟨w.heap.size + 1 + 1 + 1 + 1 + 1 + 1 + 1 + 1 + 1 + 1, 0, none⟩) 2 2]) (by simp [results, Tryz.results36, go_sem]) rfl ?_
 refine ⟨rfl, GAt.mono (n := 8) ⟨?_, ?_, ⟨?_, ?_⟩, ⟨?_, ?_⟩, ?_, ?_, by simp [samG], by simp [samG], by simp [samG], by simp [samG], ?_, ?_⟩ (by decide), ?_⟩
 ·intro _
  refine ⟨w.heap.size + 1 + 1, 0, rfl, by simp, fun i hi => ?_⟩
  have hi : i < 3 := hi
  rcases (show i = 0 ∨ i = 1 ∨ i = 2 by omega) with rfl | rfl | rfl <;> simp [go_sem, samG]
 ·intro _
  refine ⟨w.heap.size + 1 + 1 + 1, 0, rfl, by simp, fun i hi => ?_⟩
  have hi : i < 1 := hi
  obtain rfl : i = 0 := by omega
  simp [go_sem, samG]
 ·intro _
  refine ⟨w.heap.size + 1 + 1 + 1 + 1 + 1 + 1 + 1, 0, rfl, by simp, fun i hi => ?_⟩
  have hi : i < 3 := hi
  rcases (show i = 0 ∨ i = 1 ∨ i = 2 by omega) with rfl | rfl | rfl <;> simp [go_sem, samG]
 ·intro p hp hn
  simp only [samG, List.mem_cons, List.not_mem_nil, or_false] at hp
  rcases hp with rfl | rfl | rfl
  ·refine ⟨w.heap.size + 1 + 1 + 1 + 1, 0, rfl, by simp, fun i hi => ?_⟩
   have hi : i < 3 := hi
   rcases (show i = 0 ∨ i = 1 ∨ i = 2 by omega) with rfl | rfl | rfl <;> simp [go_sem]
  ·refine ⟨w.heap.size + 1 + 1 + 1 + 1 + 1, 0, rfl, by simp, fun i hi => ?_⟩
   have hi : i < 3 := hi
   rcases (show i = 0 ∨ i = 1 ∨ i = 2 by omega) with rfl | rfl | rfl <;> simp [go_sem]
  ·refine ⟨w.heap.size + 1 + 1 + 1 + 1 + 1 + 1, 0, rfl, by simp, fun i hi => ?_⟩
   have hi : i < 1 := hi
   obtain rfl : i = 0 := by omega
   simp [go_sem]
 ·intro _
  refine ⟨w.heap.size + 1 + 1 + 1 + 1 + 1 + 1 + 1 + 1 + 1 + 1, 0, rfl, by simp, fun i hi => ?_⟩
  have hi : i < 2 := hi
  rcases (show i = 0 ∨ i = 1 by omega) with rfl | rfl <;> simp [go_sem, samG]
 ·intro p hp hn
  simp only [samG, List.mem_cons, List.not_mem_nil, or_false] at hp
  rcases hp with rfl | rfl
  ·refine ⟨w.heap.size + 1 + 1 + 1 + 1 + 1 + 1 + 1 + 1, 0, rfl, by simp, fun i hi => ?_⟩
   have hi : i < 1 := hi
   obtain rfl : i = 0 := by omega
   simp [go_sem]
  ·refine ⟨w.heap.size + 1 + 1 + 1 + 1 + 1 + 1 + 1 + 1 + 1, 0, rfl, by simp, fun i hi => ?_⟩
   have hi : i < 1 := hi
   obtain rfl : i = 0 := by omega
   simp [go_sem]
 ·intro s hs; simp only [samG, List.mem_cons, List.not_mem_nil, or_false] at hs; rcases hs with rfl | rfl | rfl <;> first | decide | simp
 ·intro s hs; simp only [samG, List.mem_cons, List.not_mem_nil, or_false] at hs; rcases hs with rfl <;> first | decide | simp
 ·intro p hp; simp only [samG, List.mem_cons, List.not_mem_nil, or_false] at hp; rcases hp with rfl | rfl | rfl <;> first | decide | simp
 ·intro p hp; simp only [samG, List.mem_cons, List.not_mem_nil, or_false] at hp; rcases hp with rfl | rfl <;> first | decide | simp
 ·repeat (first | exact Below.refl _ _ | refine bel_al ?_)
theorem num14_P (x : Int) (w : World) : Calls Tryz.prog 8 #[.int .i64 x] w fun e w' => e = .returned (.int .i64 x) /\ w = w' := by
 go_enter Tryz.func8, Tryz.ntmps8
 go_wp2
 go_ret
 exact ⟨rfl, rfl⟩
theorem sam_dec (n : Nat) : decF (samG n) 0 0 1 = (shiD 0 1 1, 0) /\ decF (samG n) 0 1 0 = (redD 1 0 1, 0) /\ decF (samG n) 0 2 0 = (noneD 0, 0) := ⟨by kernel_rfl, by kernel_rfl, by kernel_rfl⟩
def SamX (w : World) (g : GV) : Prop := GAt 140737488355328 w g /\ ∃ n, g = samG n
theorem sampleX_P (w : World) : Calls Tryz.prog 36 #[] w fun e w' => ∃ g : GV, e = .returned g.val /\ SamX w' g /\ Below w.heap.size w w' :=
 (sample_P w).mono fun e w' ⟨h1, h2, h3⟩ => ⟨_, h1, ⟨h2, _, rfl⟩, h3⟩
theorem samDec01 (w : World) (g : GV) (hg : SamX w g) : Calls Tryz.prog 35 #[g.val, .int .i64 0, .int .i64 1] w (DcO w (shiD 0 1 1, 0)) := by
 obtain ⟨h, n, rfl⟩ := hg
 have := Decide_P (samG n) 0 1 w h (by simp [samG]) 0 0 (samG_check n)
 rw [show decF (samG n) 0 0 1 = (shiD 0 1 1, 0) from (sam_dec n).1] at this
 exact this
theorem samDec10 (w : World) (g : GV) (hg : SamX w g) : Calls Tryz.prog 35 #[g.val, .int .i64 1, .int .i64 0] w (DcO w (redD 1 0 1, 0)) := by
 obtain ⟨h, n, rfl⟩ := hg
 have := Decide_P (samG n) 1 0 w h (by simp [samG]) 0 0 (samG_check n)
 rw [show decF (samG n) 0 1 0 = (redD 1 0 1, 0) from (sam_dec n).2.1] at this
 exact this
theorem samDec20 (w : World) (g : GV) (hg : SamX w g) : Calls Tryz.prog 35 #[g.val, .int .i64 2, .int .i64 0] w (DcO w (noneD 0, 0)) := by
 obtain ⟨h, n, rfl⟩ := hg
 have := Decide_P (samG n) 2 0 w h (by simp [samG]) 0 0 (samG_check n)
 rw [show decF (samG n) 0 2 0 = (noneD 0, 0) from (sam_dec n).2.2] at this
 exact this
end Go.Proofs.YtjpknihkcndoiaaGreat
namespace Go.Proofs.YtjpknihkcndoiaaGreat
set_option linter.unusedVariables false
set_option maxRecDepth 100000
set_option maxHeartbeats 16000000
open Go.RowKit Go.Maps
set_option linter.unusedSimpArgs false in
theorem works_P (w : World) : Calls Tryz.prog 10 #[] w fun e w' => e = .returned (.bool true) /\ Below w.heap.size w w' := by
 have T0 : Hid True := trivial
 go_enter Tryz.func10, Tryz.ntmps10
 go_wp2_with (first
  | (go_at_call 36; have T1 : Hid True := T0; clear T0; refine (sampleX_P _).mono ?_; rintro e w1 ⟨G1, rfl, g1, b1⟩; have S1 : Hid (SamX w1 G1 /\ Below w.heap.size w w1) := ⟨g1, b1⟩; clear g1 b1)
  | (go_at_call 35; have D1_ : Hid True := T1; have T1' : Hid True := T1; clear T1; refine (samDec01 _ _ S1.out.1).mono ?_; rintro e w2 ⟨ao1, c1, rfl, -, b2⟩; have S2 : Hid (Below w.heap.size w (w2.alloc (.cells #[.int .i64 (shiD 0 1 1).look, .int .i64 (shiD 0 1 1).kind, .int .i64 (shiD 0 1 1).prod, .slice ao1 (shiD 0 1 1).drop.length c1, .bool (shiD 0 1 1).sd, .int .i64 (shiD 0 1 1).lev] 58)) /\ (w2.alloc (.cells #[.int .i64 (shiD 0 1 1).look, .int .i64 (shiD 0 1 1).kind, .int .i64 (shiD 0 1 1).prod, .slice ao1 (shiD 0 1 1).drop.length c1, .bool (shiD 0 1 1).sd, .int .i64 (shiD 0 1 1).lev] 58)).heap[w2.heap.size]? = some (.cells #[.int .i64 (shiD 0 1 1).look, .int .i64 (shiD 0 1 1).kind, .int .i64 (shiD 0 1 1).prod, .slice ao1 (shiD 0 1 1).drop.length c1, .bool (shiD 0 1 1).sd, .int .i64 (shiD 0 1 1).lev] 58 (0, 0))) := ⟨bel_al (S1.out.2.trans (b2.mono S1.out.2.size)), heap_alloc_new _ _⟩; clear b2 D1_)
  | (go_at_call 36; have T2 : Hid True := T1'; clear T1'; refine (sampleX_P _).mono ?_; rintro e w3 ⟨G3, rfl, g3, b3⟩; have S3 : Hid (SamX w3 G3 /\ Below w.heap.size w w3 /\ w3.heap[w2.heap.size]? = some (.cells #[.int .i64 (shiD 0 1 1).look, .int .i64 (shiD 0 1 1).kind, .int .i64 (shiD 0 1 1).prod, .slice ao1 (shiD 0 1 1).drop.length c1, .bool (shiD 0 1 1).sd, .int .i64 (shiD 0 1 1).lev] 58 (0, 0))) := ⟨g3, S2.out.1.trans (b3.mono S2.out.1.size), blk_later S2.out.2 b3⟩; clear g3 b3)
  | (go_at_call 35; have T2' : Hid True := T2; clear T2; refine (samDec10 _ _ S3.out.1).mono ?_; rintro e w4 ⟨ao2, c2, rfl, -, b4⟩; have S4 : Hid (Below w.heap.size w (w4.alloc (.cells #[.int .i64 (redD 1 0 1).look, .int .i64 (redD 1 0 1).kind, .int .i64 (redD 1 0 1).prod, .slice ao2 (redD 1 0 1).drop.length c2, .bool (redD 1 0 1).sd, .int .i64 (redD 1 0 1).lev] 58)) /\ (w4.alloc (.cells #[.int .i64 (redD 1 0 1).look, .int .i64 (redD 1 0 1).kind, .int .i64 (redD 1 0 1).prod, .slice ao2 (redD 1 0 1).drop.length c2, .bool (redD 1 0 1).sd, .int .i64 (redD 1 0 1).lev] 58)).heap[w2.heap.size]? = some (.cells #[.int .i64 (shiD 0 1 1).look, .int .i64 (shiD 0 1 1).kind, .int .i64 (shiD 0 1 1).prod, .slice ao1 (shiD 0 1 1).drop.length c1, .bool (shiD 0 1 1).sd, .int .i64 (shiD 0 1 1).lev] 58 (0, 0)) /\ (w4.alloc (.cells #[.int .i64 (redD 1 0 1).look, .int .i64 (redD 1 0 1).kind, .int .i64 (redD 1 0 1).prod, .slice ao2 (redD 1 0 1).drop.length c2, .bool (redD 1 0 1).sd, .int .i64 (redD 1 0 1).lev] 58)).heap[w4.heap.size]? = some (.cells #[.int .i64 (redD 1 0 1).look, .int .i64 (redD 1 0 1).kind, .int .i64 (redD 1 0 1).prod, .slice ao2 (redD 1 0 1).drop.length c2, .bool (redD 1 0 1).sd, .int .i64 (redD 1 0 1).lev] 58 (0, 0))) := ⟨bel_al (S3.out.2.1.trans (b4.mono S3.out.2.1.size)), blk_later (blk_later S3.out.2.2 b4) (below_alloc _ _), heap_alloc_new _ _⟩; clear b4)
  | (go_at_call 36; have T3 : Hid True := T2'; clear T2'; refine (sampleX_P _).mono ?_; rintro e w5 ⟨G5, rfl, g5, b5⟩; have S5 : Hid (SamX w5 G5 /\ Below w.heap.size w w5 /\ w5.heap[w2.heap.size]? = some (.cells #[.int .i64 (shiD 0 1 1).look, .int .i64 (shiD 0 1 1).kind, .int .i64 (shiD 0 1 1).prod, .slice ao1 (shiD 0 1 1).drop.length c1, .bool (shiD 0 1 1).sd, .int .i64 (shiD 0 1 1).lev] 58 (0, 0)) /\ w5.heap[w4.heap.size]? = some (.cells #[.int .i64 (redD 1 0 1).look, .int .i64 (redD 1 0 1).kind, .int .i64 (redD 1 0 1).prod, .slice ao2 (redD 1 0 1).drop.length c2, .bool (redD 1 0 1).sd, .int .i64 (redD 1 0 1).lev] 58 (0, 0))) := ⟨g5, S4.out.1.trans (b5.mono S4.out.1.size), blk_later S4.out.2.1 b5, blk_later S4.out.2.2 b5⟩; clear g5 b5)
  | (go_at_call 35; refine (samDec20 _ _ S5.out.1).mono ?_; rintro e w6 ⟨ao3, c3, rfl, -, b6⟩; have S6 : Hid (Below w.heap.size w (w6.alloc (.cells #[.int .i64 (noneD 0).look, .int .i64 (noneD 0).kind, .int .i64 (noneD 0).prod, .slice ao3 (noneD 0).drop.length c3, .bool (noneD 0).sd, .int .i64 (noneD 0).lev] 58))) := bel_al (S5.out.2.1.trans (b6.mono S5.out.2.1.size)); have x1 : (w6.alloc (.cells #[.int .i64 (noneD 0).look, .int .i64 (noneD 0).kind, .int .i64 (noneD 0).prod, .slice ao3 (noneD 0).drop.length c3, .bool (noneD 0).sd, .int .i64 (noneD 0).lev] 58)).cell? ⟨w2.heap.size, 1, none⟩ = some (.int .i64 1) := (cellq_any (blk_later (blk_later S5.out.2.2.1 b6) (below_alloc _ _))).trans rfl; have x2 : (w6.alloc (.cells #[.int .i64 (noneD 0).look, .int .i64 (noneD 0).kind, .int .i64 (noneD 0).prod, .slice ao3 (noneD 0).drop.length c3, .bool (noneD 0).sd, .int .i64 (noneD 0).lev] 58)).cell? ⟨w4.heap.size, 1, none⟩ = some (.int .i64 2) := (cellq_any (blk_later (blk_later S5.out.2.2.2 b6) (below_alloc _ _))).trans rfl; have x3 : (w6.alloc (.cells #[.int .i64 (noneD 0).look, .int .i64 (noneD 0).kind, .int .i64 (noneD 0).prod, .slice ao3 (noneD 0).drop.length c3, .bool (noneD 0).sd, .int .i64 (noneD 0).lev] 58)).cell? ⟨w6.heap.size, 1, none⟩ = some (.int .i64 0) := (cellq_any (heap_alloc_new _ _)).trans rfl; have x5 : (w6.alloc (.cells #[.int .i64 (noneD 0).look, .int .i64 (noneD 0).kind, .int .i64 (noneD 0).prod, .slice ao3 (noneD 0).drop.length c3, .bool (noneD 0).sd, .int .i64 (noneD 0).lev] 58)).cell? ⟨w6.heap.size, 5, none⟩ = some (.int .i64 (-1)) := (cellq_any (heap_alloc_new _ _)).trans rfl; clear b6)
  | (go_at_call 8; refine (num14_P _ _).mono ?_; rintro e w9 ⟨rfl, rfl⟩))
 go_ret
 exact ⟨rfl, S6.out⟩
end Go.Proofs.YtjpknihkcndoiaaGreat
