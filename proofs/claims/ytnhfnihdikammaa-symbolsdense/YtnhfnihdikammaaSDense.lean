import Derived.Test.YtnhfnihdikammaaSDense1
namespace Go.Proofs.Ytnhfnihdikammaa
set_option linter.unusedVariables false
open Go.RowKit

/-- A box that holds a symbol. -/
structure BoxAt (w : World) (q : Nat) (k n : Int) : Prop where
  c0 : w.cell? ⟨q, 0, none⟩ = some (.int .i64 k)
  c1 : w.cell? ⟨q, 1, none⟩ = some (.int .i64 n)
  lt : q < w.heap.size
theorem BoxAt.later {w w' : World} {q : Nat} {k n : Int} (h : BoxAt w q k n) (hb : Below w.heap.size w w') : BoxAt w' q k n :=
  ⟨(hb.cell (p := ⟨q, 0, none⟩) h.lt).trans h.c0, (hb.cell (p := ⟨q, 1, none⟩) h.lt).trans h.c1, Nat.lt_of_lt_of_le h.lt hb.size⟩
theorem boxAt_new (w : World) (k n : Int) (t : TypeId) : BoxAt (w.alloc (.cells #[.int .i64 k, .int .i64 n] t)) w.heap.size k n := by
  have h : (w.alloc (.cells #[.int .i64 k, .int .i64 n] t)).heap[w.heap.size]? = some (.cells #[.int .i64 k, .int .i64 n] t (0, 0)) := heap_alloc_new w _
  exact ⟨by rw [cellq_any h]; rfl, by rw [cellq_any h]; rfl, by simp⟩
theorem BoxAt.alloc {w : World} {q : Nat} {k n : Int} (h : BoxAt w q k n) (o : Obj) : BoxAt (w.alloc o) q k n := h.later (below_alloc w o)
theorem BoxAt.ext {w : World} {q : Nat} {k n : Int} (h : BoxAt w q k n) (x : Ext w) : x.w.cell? ⟨q, 0, none⟩ = some (.int .i64 k) ∧ x.w.cell? ⟨q, 1, none⟩ = some (.int .i64 n) := ⟨(x.cell h.lt).trans h.c0, (x.cell h.lt).trans h.c1⟩
theorem dense_at {T k n x y : Int} (w : World) (hn : -9223372036854775808 ≤ n) (hn' : n ≤ 9223372036854775807) (h : denseF T k n = (x, y)) : Calls Try.prog 17 #[.int .i64 T, .agg #[.int .i64 k, .int .i64 n]] w fun e w' => e = .returned (.tuple #[.int .i64 x, .int .i64 y]) ∧ Below w.heap.size w w' :=
  (dense_any T k n w hn hn').mono fun e w' ⟨x', y', he, h2, hb⟩ => by rw [h] at h2; simp at h2; obtain ⟨rfl, rfl⟩ := h2; exact ⟨he, hb⟩
theorem refdense_at {T k n x y : Int} (w : World) (hn : -9223372036854775808 ≤ n) (hn' : n ≤ 9223372036854775807) (h : denseF T k n = (x, y)) : Calls Try.prog 18 #[.int .i64 T, .agg #[.int .i64 k, .int .i64 n]] w fun e w' => e = .returned (.tuple #[.int .i64 x, .int .i64 y]) ∧ Below w.heap.size w w' :=
  (refdense_any T k n w hn hn').mono fun e w' ⟨x', y', he, h2, hb⟩ => by rw [h] at h2; simp at h2; obtain ⟨rfl, rfl⟩ := h2; exact ⟨he, hb⟩
theorem sparse_at {T N n x y z : Int} (w : World) (hn : -9223372036854775808 ≤ n) (hn' : n ≤ 9223372036854775807) (h : sparseF T N n = (x, y, z)) : Calls Try.prog 19 #[.int .i64 T, .int .i64 N, .int .i64 n] w fun e w' => e = .returned (.tuple #[.agg #[.int .i64 x, .int .i64 y], .int .i64 z]) ∧ Below w.heap.size w w' :=
  (sparse_any T N n w hn hn').mono fun e w' ⟨x', y', z', he, h2, hb⟩ => by rw [h] at h2; simp at h2; obtain ⟨rfl, rfl, rfl⟩ := h2; exact ⟨he, hb⟩
theorem refsparse_at {T N n x y z : Int} (w : World) (hn : -9223372036854775808 ≤ n) (hn' : n ≤ 9223372036854775807) (h : sparseF T N n = (x, y, z)) : Calls Try.prog 20 #[.int .i64 T, .int .i64 N, .int .i64 n] w fun e w' => e = .returned (.tuple #[.agg #[.int .i64 x, .int .i64 y], .int .i64 z]) ∧ Below w.heap.size w w' :=
  (refsparse_any T N n w hn hn').mono fun e w' ⟨x', y', z', he, h2, hb⟩ => by rw [h] at h2; simp at h2; obtain ⟨rfl, rfl, rfl⟩ := h2; exact ⟨he, hb⟩

set_option maxRecDepth 100000 in
set_option maxHeartbeats 2000000 in
theorem dense_walk (T N n k1 n1 k2 n2 : Int) (w : World) (hn : -9223372036854775808 ≤ n) (hn' : n ≤ 9223372036854775807) (h1 : -9223372036854775808 ≤ n1) (h1' : n1 ≤ 9223372036854775807) :
    Calls Try.prog 5 #[.int .i64 T, .int .i64 N, .int .i64 n, .agg #[.int .i64 k1, .int .i64 n1], .agg #[.int .i64 k2, .int .i64 n2]] w fun e w' => e = .returned (.bool true) ∧ Below w.heap.size w w' := by
  obtain ⟨x, y, HD⟩ : ∃ x y, Hid (denseF T k1 n1 = (x, y)) := ⟨_, _, rfl⟩
  obtain ⟨x2, y2, z2, HS⟩ : ∃ x y z, Hid (sparseF T N n = (x, y, z)) := ⟨_, _, _, rfl⟩
  have hA0 := (boxAt_new w k1 n1 48).alloc (.cells #[.int .i64 k2, .int .i64 n2] 48)
  have hB0 : BoxAt ((w.alloc (.cells #[.int .i64 k1, .int .i64 n1] 48)).alloc (.cells #[.int .i64 k2, .int .i64 n2] 48)) (w.heap.size + 1) k2 n2 := by
    have := boxAt_new (w.alloc (.cells #[.int .i64 k1, .int .i64 n1] 48)) k2 n2 48
    simpa using this
  have hW0 : Below w.heap.size w ((w.alloc (.cells #[.int .i64 k1, .int .i64 n1] 48)).alloc (.cells #[.int .i64 k2, .int .i64 n2] 48)) := (below_alloc w _).alloc (by simp) _
  go_enter Try.func5, Try.ntmps5
  go_wp2_with (first
    | (go_at_call 17; refine (dense_at _ h1 h1' HD.out).mono ?_; rintro e w1 ⟨rfl, hb1⟩; have hA1 := hA0.later hb1; have hB1 := hB0.later hb1; have a10 := hA1.c0; have a11 := hA1.c1)
    | (go_at_call 18; refine (refdense_at _ h1 h1' HD.out).mono ?_; rintro e w2 ⟨rfl, hb2⟩; have hA2 := hA1.later hb2; have hB2 := hB1.later hb2)
    | (go_at_call 19; refine (sparse_at _ hn hn' HS.out).mono ?_; rintro e w3 ⟨rfl, hb3⟩; have hA3 := hA2.later hb3; have hB3 := hB2.later hb3)
    | (go_at_call 20; refine (refsparse_at _ hn hn' HS.out).mono ?_; rintro e w4 ⟨rfl, hb4⟩))
  refine wp_world (fun w5 => BoxAt w5 w.heap.size k1 n1 ∧ BoxAt w5 (w.heap.size + 1) k2 n2 ∧ BoxAt w5 w3.heap.size x2 y2 ∧ BoxAt w5 w4.heap.size x2 y2 ∧ Below w.heap.size w w5) ?_ ?_
  · have hC4 := (boxAt_new w3 x2 y2 48).later hb4
    have l0 := hW0.size
    have l1 := hb1.size
    have l2 := hb2.size
    have l3 := hb3.size
    have l4 := hb4.size
    simp at l0 l1 l4
    refine ⟨((hA3.alloc _).later hb4).alloc _, ((hB3.alloc _).later hb4).alloc _, hC4.alloc _, boxAt_new w4 x2 y2 _, ?_⟩
    have k1 : Below w.heap.size w w1 := hW0.trans (hb1.mono (by simp; omega))
    have k2 : Below w.heap.size w w2 := k1.trans (hb2.mono (by omega))
    have k3 : Below w.heap.size w w3 := k2.trans (hb3.mono (by omega))
    have k4 : Below w.heap.size w w4 := (k3.alloc (by omega) _).trans (hb4.mono (by simp; omega))
    exact k4.alloc (by omega) _
  clear hA0 hB0 hW0 hb1 hA1 hB1 a10 a11 hb2 hA2 hB2 hb3 hA3 hB3 hb4
  rintro w5 ⟨hA, hB, hC, hD, hW⟩
  have xA0 := fun x : Ext w5 => (hA.ext x).1
  have xA1 := fun x : Ext w5 => (hA.ext x).2
  have xB0 := fun x : Ext w5 => (hB.ext x).1
  have xB1 := fun x : Ext w5 => (hB.ext x).2
  have xC0 := fun x : Ext w5 => (hC.ext x).1
  have xC1 := fun x : Ext w5 => (hC.ext x).2
  have xD0 := fun x : Ext w5 => (hD.ext x).1
  have xD1 := fun x : Ext w5 => (hD.ext x).2
  have e1 : (x == x) = true := by simp
  have e2 : (y == y) = true := by simp
  have e3 : (x2 == x2) = true := by simp
  have e4 : (y2 == y2) = true := by simp
  have e5 : (z2 == z2) = true := by simp
  have e6 : (symCmp k1 n1 k2 n2 == symCmp k1 n1 k2 n2) = true := by simp
  clear hA hB hC hD
  refine wp_region_ext (by kernel_rfl) (by kernel_rfl) ?_
  repeat (quiet_step (first
    | (go_at_call 15; exact Calls.ext_of_same (num_any _ _))
    | (go_at_call 21; exact Calls.ext_of (compare_any _ _ _ _ _))
    | (go_at_call 22; exact Calls.ext_of (refcompare_any _ _ _ _ _))
    | (go_at_call 11; exact Calls.ext_of (works_any _))))
  refine wpQuiet_nil ?_
  rintro _ ⟨x6, rfl⟩
  go_wp2
  go_ret
  exact ⟨rfl, hW.trans (x6.h.mono hW.size)⟩
end Go.Proofs.Ytnhfnihdikammaa
