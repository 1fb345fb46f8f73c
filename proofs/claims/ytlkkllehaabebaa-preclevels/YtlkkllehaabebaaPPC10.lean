import Derived.Test.YtlkkllehaabebaaPPC9
import Derived.Test.YtlkkllehaabebaaPGCheckPToGSame2
namespace Go.Proofs.Ytlkkllehaabebaa
set_option linter.unusedVariables false
set_option maxRecDepth 100000
set_option maxHeartbeats 16000000
open Go.RowKit Go.Maps
theorem bel_al {w w' : World} {o : Obj} (h : Below w.heap.size w w') : Below w.heap.size w (w'.alloc o) := h.trans ((below_alloc _ _).mono h.size)
def samG (n : Nat) : GV := ⟨(some ⟨n + 1 + 1, 0, none⟩), 3, [⟨#[97]⟩, ⟨#[98]⟩, ⟨#[110]⟩], (some ⟨n + 1 + 1 + 1, 0, none⟩), 1, [⟨#[69]⟩], 0, (some ⟨n + 1 + 1 + 1 + 1 + 1 + 1 + 1, 0, none⟩), 3, [⟨0, (some ⟨n + 1 + 1 + 1 + 1, 0, none⟩), 3, [(2, 0), (1, 0), (2, 0)], -1⟩, ⟨0, (some ⟨n + 1 + 1 + 1 + 1 + 1, 0, none⟩), 3, [(2, 0), (1, 1), (2, 0)], -1⟩, ⟨0, (some ⟨n + 1 + 1 + 1 + 1 + 1 + 1, 0, none⟩), 1, [(1, 2)], -1⟩], (some ⟨n + 1 + 1 + 1 + 1 + 1 + 1 + 1 + 1 + 1 + 1, 0, none⟩), 2, [⟨1, (some ⟨n + 1 + 1 + 1 + 1 + 1 + 1 + 1 + 1, 0, none⟩), 1, [0]⟩, ⟨2, (some ⟨n + 1 + 1 + 1 + 1 + 1 + 1 + 1 + 1 + 1, 0, none⟩), 1, [1]⟩]⟩
theorem samG_check (n : Nat) : checkG (samG n) (checkF (samG n).ts (samG n).ns) = (0, 0) := by kernel_rfl
theorem sample_P (w : World) : Calls Try.prog 50 #[] w fun e w' => e = .returned (samG w.heap.size).val /\ GAt 140737488355328 w' (samG w.heap.size) /\ Below w.heap.size w w' := by
 go_enter Try.func50, Try.ntmps50
 go_wp2
 refine bodyPost_ret (v := .agg #[.slice (some ⟨w.heap.size + 1 + 1, 0, none⟩) 3 3, .slice (some ⟨w.heap.size + 1 + 1 + 1, 0, none⟩) 1 1, .int .i64 0, .slice (some ⟨w.heap.size + 1 + 1 + 1 + 1 + 1 + 1 + 1, 0, none⟩) 3 3, .slice (some ⟨w.heap.size + 1 + 1 + 1 + 1 + 1 + 1 + 1 + 1 + 1 + 1, 0, none⟩) 2 2]) (by simp [results, Try.results50, go_sem]) rfl ?_
 refine ⟨rfl, GAt.mono (n := 8) ⟨?_, ?_, ⟨?_, ?_⟩, ⟨?_, ?_⟩, ?_, ?_, by simp [samG], by simp [samG], by simp [samG], by simp [samG], ?_, ?_⟩ (by decide), ?_⟩
 ·intro _
  refine ⟨w.heap.size + 1 + 1, 0, rfl, by simp, fun i hi => ?_⟩
  have hi : i < 3 := hi
  rcases (show i = 0 ∨ i = 1 ∨ i = 2 by omega) with rfl | rfl | rfl <;> simp [go_sem, samG]
 ·intro _
  refine ⟨w.heap.size + 1 + 1 + 1, 0, rfl, by simp, fun i hi => ?_⟩
  have hi : i < 1 := hi
  obtain rfl : i = 0 := by omega
  simp [go_sem, samG]
 ·intro _
  refine ⟨w.heap.size + 1 + 1 + 1 + 1 + 1 + 1 + 1, 0, rfl, by simp, fun i hi => ?_⟩
  have hi : i < 3 := hi
  rcases (show i = 0 ∨ i = 1 ∨ i = 2 by omega) with rfl | rfl | rfl <;> simp [go_sem, samG]
 ·intro p hp hn
  simp only [samG, List.mem_cons, List.not_mem_nil, or_false] at hp
  rcases hp with rfl | rfl | rfl
  ·refine ⟨w.heap.size + 1 + 1 + 1 + 1, 0, rfl, by simp, fun i hi => ?_⟩
   have hi : i < 3 := hi
   rcases (show i = 0 ∨ i = 1 ∨ i = 2 by omega) with rfl | rfl | rfl <;> simp [go_sem]
  ·refine ⟨w.heap.size + 1 + 1 + 1 + 1 + 1, 0, rfl, by simp, fun i hi => ?_⟩
   have hi : i < 3 := hi
   rcases (show i = 0 ∨ i = 1 ∨ i = 2 by omega) with rfl | rfl | rfl <;> simp [go_sem]
  ·refine ⟨w.heap.size + 1 + 1 + 1 + 1 + 1 + 1, 0, rfl, by simp, fun i hi => ?_⟩
   have hi : i < 1 := hi
   obtain rfl : i = 0 := by omega
   simp [go_sem]
 ·intro _
  refine ⟨w.heap.size + 1 + 1 + 1 + 1 + 1 + 1 + 1 + 1 + 1 + 1, 0, rfl, by simp, fun i hi => ?_⟩
  have hi : i < 2 := hi
  rcases (show i = 0 ∨ i = 1 by omega) with rfl | rfl <;> simp [go_sem, samG]
 ·intro p hp hn
  simp only [samG, List.mem_cons, List.not_mem_nil, or_false] at hp
  rcases hp with rfl | rfl
  ·refine ⟨w.heap.size + 1 + 1 + 1 + 1 + 1 + 1 + 1 + 1, 0, rfl, by simp, fun i hi => ?_⟩
   have hi : i < 1 := hi
   obtain rfl : i = 0 := by omega
   simp [go_sem]
  ·refine ⟨w.heap.size + 1 + 1 + 1 + 1 + 1 + 1 + 1 + 1 + 1, 0, rfl, by simp, fun i hi => ?_⟩
   have hi : i < 1 := hi
   obtain rfl : i = 0 := by omega
   simp [go_sem]
 ·intro s hs; simp only [samG, List.mem_cons, List.not_mem_nil, or_false] at hs; rcases hs with rfl | rfl | rfl <;> first | decide | simp
 ·intro s hs; simp only [samG, List.mem_cons, List.not_mem_nil, or_false] at hs; rcases hs with rfl <;> first | decide | simp
 ·intro p hp; simp only [samG, List.mem_cons, List.not_mem_nil, or_false] at hp; rcases hp with rfl | rfl | rfl <;> first | decide | simp
 ·intro p hp; simp only [samG, List.mem_cons, List.not_mem_nil, or_false] at hp; rcases hp with rfl | rfl <;> first | decide | simp
 ·repeat (first | exact Below.refl _ _ | refine bel_al ?_)
theorem num14_P (x : Int) (w : World) : Calls Try.prog 16 #[.int .i64 x] w fun e w' => e = .returned (.int .i64 x) /\ w = w' := by
 go_enter Try.func16, Try.ntmps16
 go_wp2
 go_ret
 exact ⟨rfl, rfl⟩
theorem sam_dec (n : Nat) : decF (samG n) 0 0 1 = (shiD 0 1 1, 0) /\ decF (samG n) 0 1 0 = (redD 1 0 1, 0) /\ decF (samG n) 0 2 0 = (noneD 0, 0) := ⟨by kernel_rfl, by kernel_rfl, by kernel_rfl⟩
def SamX (w : World) (g : GV) : Prop := GAt 140737488355328 w g /\ ∃ n, g = samG n
theorem sampleX_P (w : World) : Calls Try.prog 50 #[] w fun e w' => ∃ g : GV, e = .returned g.val /\ SamX w' g /\ Below w.heap.size w w' :=
 (sample_P w).mono fun e w' ⟨h1, h2, h3⟩ => ⟨_, h1, ⟨h2, _, rfl⟩, h3⟩
theorem samDec01 (w : World) (g : GV) (hg : SamX w g) : Calls Try.prog 12 #[g.val, .int .i64 0, .int .i64 1] w (DcO w (shiD 0 1 1, 0)) := by
 obtain ⟨h, n, rfl⟩ := hg
 have := Decide_P (samG n) 0 1 w h (by simp [samG]) 0 0 (samG_check n)
 rw [show decF (samG n) 0 0 1 = (shiD 0 1 1, 0) from (sam_dec n).1] at this
 exact this
theorem samDec10 (w : World) (g : GV) (hg : SamX w g) : Calls Try.prog 12 #[g.val, .int .i64 1, .int .i64 0] w (DcO w (redD 1 0 1, 0)) := by
 obtain ⟨h, n, rfl⟩ := hg
 have := Decide_P (samG n) 1 0 w h (by simp [samG]) 0 0 (samG_check n)
 rw [show decF (samG n) 0 1 0 = (redD 1 0 1, 0) from (sam_dec n).2.1] at this
 exact this
theorem samDec20 (w : World) (g : GV) (hg : SamX w g) : Calls Try.prog 12 #[g.val, .int .i64 2, .int .i64 0] w (DcO w (noneD 0, 0)) := by
 obtain ⟨h, n, rfl⟩ := hg
 have := Decide_P (samG n) 2 0 w h (by simp [samG]) 0 0 (samG_check n)
 rw [show decF (samG n) 0 2 0 = (noneD 0, 0) from (sam_dec n).2.2] at this
 exact this
end Go.Proofs.Ytlkkllehaabebaa
