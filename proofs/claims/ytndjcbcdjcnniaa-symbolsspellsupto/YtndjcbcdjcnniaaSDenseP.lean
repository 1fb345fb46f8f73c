import Derived.Test.YtndjcbcdjcnniaaSExt
import Derived.Deep.RegionHeld3
namespace Go.Proofs.Ytndjcbcdjcnniaa
set_option linter.unusedVariables false
open Go.RowKit

def denseF (T k n : Int) : Int × Int := if T < 0 then (0, 1) else if 64 < T then (0, 1) else if k = 1 then (if 0 ≤ n then (if n ≤ T then (n, 0) else (0, 35)) else (0, 35)) else if k = 2 then (if 0 ≤ n then (if n < 64 then (T + 1 + n, 0) else (0, 35)) else (0, 35)) else (0, 35)
def sparseF (T N n : Int) : Int × Int × Int := if T < 0 then (0, 0, 1) else if 64 < T then (0, 0, 1) else if N < 0 then (0, 0, 1) else if 64 < N then (0, 0, 1) else if n < 0 then (0, 0, 35) else if T + N < n then (0, 0, 35) else if n ≤ T then (1, n, 0) else (2, n - T - 1, 0)
set_option maxHeartbeats 2000000 in
theorem dense_any (T k n : Int) (w : World) (hn : -9223372036854775808 ≤ n) (hn' : n ≤ 9223372036854775807) : Calls Try.prog 20 #[.int .i64 T, .agg #[.int .i64 k, .int .i64 n]] w fun e w' => ∃ x y, e = .returned (.tuple #[.int .i64 x, .int .i64 y]) ∧ denseF T k n = (x, y) ∧ Below w.heap.size w w' := by
  have fin := below_alloc w (.cells #[.int .i64 k, .int .i64 n] 61)

  by_cases h1 : T < 0
  · have HE : Hid (denseF T k n = (0, 1)) := by unfold Hid; simp [denseF, *]
    go_enter Try.func20, Try.ntmps20
    go_wp2
    go_returns
    exact ⟨_, _, rfl, HE.out, fin⟩
  by_cases h2 : 64 < T
  · have HE : Hid (denseF T k n = (0, 1)) := by unfold Hid; simp [denseF, *]
    go_enter Try.func20, Try.ntmps20
    go_wp2
    go_returns
    exact ⟨_, _, rfl, HE.out, fin⟩
  by_cases h3 : k = 1
  · by_cases h4 : 0 ≤ n
    · by_cases h5 : n ≤ T
      · have HE : Hid (denseF T k n = (n, 0)) := by unfold Hid; simp [denseF, *]
        have g1 : (k == 1) = true := by simp [h3]
        clear h3
        go_enter Try.func20, Try.ntmps20
        go_wp2
        go_returns
        exact ⟨_, _, rfl, HE.out, fin⟩
      · have HE : Hid (denseF T k n = (0, 35)) := by unfold Hid; simp [denseF, *]
        have g1 : (k == 1) = true := by simp [h3]
        have g2 : (k == 2) = false := by simp [h3]
        clear h3
        go_enter Try.func20, Try.ntmps20
        go_wp2
        go_returns
        exact ⟨_, _, rfl, HE.out, fin⟩
    · have HE : Hid (denseF T k n = (0, 35)) := by unfold Hid; simp [denseF, *]
      have g1 : (k == 1) = true := by simp [h3]
      have g2 : (k == 2) = false := by simp [h3]
      clear h3
      go_enter Try.func20, Try.ntmps20
      go_wp2
      go_returns
      exact ⟨_, _, rfl, HE.out, fin⟩
  by_cases h6 : k = 2
  · by_cases h4 : 0 ≤ n
    · by_cases h5 : n < 64
      · have HE : Hid (denseF T k n = (T + 1 + n, 0)) := by unfold Hid; simp [denseF, *]
        have g1 : (k == 1) = false := by simp [h3]
        have g2 : (k == 2) = true := by simp [h6]
        clear h6
        go_enter Try.func20, Try.ntmps20
        go_wp2
        go_returns
        exact ⟨_, _, rfl, HE.out, fin⟩
      · have HE : Hid (denseF T k n = (0, 35)) := by unfold Hid; simp [denseF, *]
        have g1 : (k == 1) = false := by simp [h3]
        have g2 : (k == 2) = true := by simp [h6]
        clear h6
        go_enter Try.func20, Try.ntmps20
        go_wp2
        go_returns
        exact ⟨_, _, rfl, HE.out, fin⟩
    · have HE : Hid (denseF T k n = (0, 35)) := by unfold Hid; simp [denseF, *]
      have g1 : (k == 1) = false := by simp [h3]
      have g2 : (k == 2) = true := by simp [h6]
      clear h6
      go_enter Try.func20, Try.ntmps20
      go_wp2
      go_returns
      exact ⟨_, _, rfl, HE.out, fin⟩
  · have HE : Hid (denseF T k n = (0, 35)) := by unfold Hid; simp [denseF, *]
    have g1 : (k == 1) = false := by simp [h3]
    have g2 : (k == 2) = false := by simp [h6]
    go_enter Try.func20, Try.ntmps20
    go_wp2
    go_returns
    exact ⟨_, _, rfl, HE.out, fin⟩
set_option maxHeartbeats 2000000 in
theorem sparse_any (T N n : Int) (w : World) (hn : -9223372036854775808 ≤ n) (hn' : n ≤ 9223372036854775807) : Calls Try.prog 21 #[.int .i64 T, .int .i64 N, .int .i64 n] w fun e w' => ∃ x y z, e = .returned (.tuple #[.agg #[.int .i64 x, .int .i64 y], .int .i64 z]) ∧ sparseF T N n = (x, y, z) ∧ Below w.heap.size w w' := by
  by_cases h1 : T < 0
  · have HE : Hid (sparseF T N n = (0, 0, 1)) := by unfold Hid; simp [sparseF, *]
    go_enter Try.func21, Try.ntmps21
    go_wp2
    go_returns
    exact ⟨_, _, _, rfl, HE.out, below_alloc w _⟩
  by_cases h2 : 64 < T
  · have HE : Hid (sparseF T N n = (0, 0, 1)) := by unfold Hid; simp [sparseF, *]
    go_enter Try.func21, Try.ntmps21
    go_wp2
    go_returns
    exact ⟨_, _, _, rfl, HE.out, below_alloc w _⟩
  by_cases h3 : N < 0
  · have HE : Hid (sparseF T N n = (0, 0, 1)) := by unfold Hid; simp [sparseF, *]
    go_enter Try.func21, Try.ntmps21
    go_wp2
    go_returns
    exact ⟨_, _, _, rfl, HE.out, below_alloc w _⟩
  by_cases h4 : 64 < N
  · have HE : Hid (sparseF T N n = (0, 0, 1)) := by unfold Hid; simp [sparseF, *]
    go_enter Try.func21, Try.ntmps21
    go_wp2
    go_returns
    exact ⟨_, _, _, rfl, HE.out, below_alloc w _⟩
  by_cases h5 : n < 0
  · have HE : Hid (sparseF T N n = (0, 0, 35)) := by unfold Hid; simp [sparseF, *]
    go_enter Try.func21, Try.ntmps21
    go_wp2
    go_returns
    exact ⟨_, _, _, rfl, HE.out, below_alloc w _⟩
  by_cases h6 : T + N < n
  · have HE : Hid (sparseF T N n = (0, 0, 35)) := by unfold Hid; simp [sparseF, *]
    go_enter Try.func21, Try.ntmps21
    go_wp2
    go_returns
    exact ⟨_, _, _, rfl, HE.out, below_alloc w _⟩
  by_cases h7 : n ≤ T
  · have HE : Hid (sparseF T N n = (1, n, 0)) := by unfold Hid; simp [sparseF, *]
    go_enter Try.func21, Try.ntmps21
    go_wp2
    go_returns
    exact ⟨_, _, _, rfl, HE.out, below_alloc w _⟩
  · have HE : Hid (sparseF T N n = (2, n - T - 1, 0)) := by unfold Hid; simp [sparseF, *]
    go_enter Try.func21, Try.ntmps21
    go_wp2
    go_returns
    exact ⟨_, _, _, rfl, HE.out, below_alloc w _⟩
/-- A box that holds a symbol. -/
structure BoxAt (w : World) (q : Nat) (k n : Int) : Prop where
  c0 : w.cell? ⟨q, 0, none⟩ = some (.int .i64 k)
  c1 : w.cell? ⟨q, 1, none⟩ = some (.int .i64 n)
  lt : q < w.heap.size
theorem BoxAt.later {w w' : World} {q : Nat} {k n : Int} (h : BoxAt w q k n) (hb : Below w.heap.size w w') : BoxAt w' q k n :=
  ⟨(hb.cell (p := ⟨q, 0, none⟩) h.lt).trans h.c0, (hb.cell (p := ⟨q, 1, none⟩) h.lt).trans h.c1, Nat.lt_of_lt_of_le h.lt hb.size⟩
theorem boxAt_new (w : World) (k n : Int) (t : TypeId) : BoxAt (w.alloc (.cells #[.int .i64 k, .int .i64 n] t)) w.heap.size k n := by
  have h : (w.alloc (.cells #[.int .i64 k, .int .i64 n] t)).heap[w.heap.size]? = some (.cells #[.int .i64 k, .int .i64 n] t (0, 0)) := heap_alloc_new w _
  exact ⟨by rw [cellq_any h]; rfl, by rw [cellq_any h]; rfl, by simp⟩
theorem BoxAt.alloc {w : World} {q : Nat} {k n : Int} (h : BoxAt w q k n) (o : Obj) : BoxAt (w.alloc o) q k n := h.later (below_alloc w o)
theorem BoxAt.ext {w : World} {q : Nat} {k n : Int} (h : BoxAt w q k n) (x : Ext w) : x.w.cell? ⟨q, 0, none⟩ = some (.int .i64 k) ∧ x.w.cell? ⟨q, 1, none⟩ = some (.int .i64 n) := ⟨(x.cell h.lt).trans h.c0, (x.cell h.lt).trans h.c1⟩
theorem dense_at {T k n x y : Int} (w : World) (hn : -9223372036854775808 ≤ n) (hn' : n ≤ 9223372036854775807) (h : denseF T k n = (x, y)) : Calls Try.prog 20 #[.int .i64 T, .agg #[.int .i64 k, .int .i64 n]] w fun e w' => e = .returned (.tuple #[.int .i64 x, .int .i64 y]) ∧ Below w.heap.size w w' :=
  (dense_any T k n w hn hn').mono fun e w' ⟨x', y', he, h2, hb⟩ => by rw [h] at h2; simp at h2; obtain ⟨rfl, rfl⟩ := h2; exact ⟨he, hb⟩
theorem sparse_at {T N n x y z : Int} (w : World) (hn : -9223372036854775808 ≤ n) (hn' : n ≤ 9223372036854775807) (h : sparseF T N n = (x, y, z)) : Calls Try.prog 21 #[.int .i64 T, .int .i64 N, .int .i64 n] w fun e w' => e = .returned (.tuple #[.agg #[.int .i64 x, .int .i64 y], .int .i64 z]) ∧ Below w.heap.size w w' :=
  (sparse_any T N n w hn hn').mono fun e w' ⟨x', y', z', he, h2, hb⟩ => by rw [h] at h2; simp at h2; obtain ⟨rfl, rfl, rfl⟩ := h2; exact ⟨he, hb⟩
end Go.Proofs.Ytndjcbcdjcnniaa
