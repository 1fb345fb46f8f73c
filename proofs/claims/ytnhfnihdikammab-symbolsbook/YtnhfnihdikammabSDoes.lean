import Derived.Test.YtnhfnihdikammabSTwo
namespace Go.Proofs.Ytnhfnihdikammab
set_option linter.unusedVariables false
open Go.RowKit Go.Maps

abbrev opV (kd : Int) (s : ByteArray) (k n x y : Int) : Value := .agg #[.int .i64 kd, .string s, .int .i64 k, .int .i64 n, .int .i64 x, .int .i64 y]
abbrev opC (kd : Int) (s : ByteArray) (k n x y : Int) : Obj := .cells #[.int .i64 kd, .string s, .int .i64 k, .int .i64 n, .int .i64 x, .int .i64 y] 37
def Done (B : Nat) (w : World) (p g b q : Nat) (e : Ending) (w' : World) : Prop := e = .returned (.bool true) ∧ ∃ T N D T2 N2 ts ns, Two B w' p g b q T N D T2 N2 ts ns ∧ Below B w w'
/-- The call's own copy of the order. -/
structure OpAt (w : World) (z : Nat) (kd : Int) (s : ByteArray) (k n x y : Int) : Prop where
  h : w.heap[z]? = some (opC kd s k n x y)
theorem OpAt.cells {w : World} {z : Nat} {kd : Int} {s : ByteArray} {k n x y : Int} (o : OpAt w z kd s k n x y) : w.cell? ⟨z, 0, none⟩ = some (.int .i64 kd) ∧ w.cell? ⟨z, 1, none⟩ = some (.string s) ∧ w.cell? ⟨z, 2, none⟩ = some (.int .i64 k) ∧ w.cell? ⟨z, 3, none⟩ = some (.int .i64 n) ∧ w.cell? ⟨z, 4, none⟩ = some (.int .i64 x) ∧ w.cell? ⟨z, 5, none⟩ = some (.int .i64 y) ∧ z < w.heap.size :=
  ⟨by rw [cellq_any o.h]; rfl, by rw [cellq_any o.h]; rfl, by rw [cellq_any o.h]; rfl, by rw [cellq_any o.h]; rfl, by rw [cellq_any o.h]; rfl, by rw [cellq_any o.h]; rfl, lt_of_block o.h⟩
theorem OpAt.later {w w' : World} {z : Nat} {kd : Int} {s : ByteArray} {k n x y : Int} (o : OpAt w z kd s k n x y) (hb : Below w.heap.size w w') : OpAt w' z kd s k n x y := ⟨(hb.block z (lt_of_block o.h)).trans o.h⟩
theorem opAt_new (w : World) (kd : Int) (s : ByteArray) (k n x y : Int) : OpAt (w.alloc (opC kd s k n x y)) w.heap.size kd s k n x y := ⟨heap_alloc_new w _⟩

set_option maxHeartbeats 2000000 in
theorem does_term {B : Nat} {w : World} {p g b q : Nat} {T N T2 N2 : Value} {D : DataW Unit} {ts ns : List ByteArray} (h : Two B w p g b q T N D T2 N2 ts ns) (s : ByteArray) (k n x y : Int) (hs : s.size ≤ 9223372036854775807) :
    Calls Try.prog 10 #[.pointer (some ⟨p, 0, none⟩), .pointer (some ⟨q, 0, none⟩), opV 0 s k n x y] w (Done B w p g b q) := by
  have hA := h.later (below_alloc w (opC 0 s k n x y))
  have oA := opAt_new w 0 s k n x y
  obtain ⟨r, er, ts', HT⟩ : ∃ r er ts', Hid (termF ts ns s = (r, er, ts')) := ⟨_, _, _, rfl⟩
  have HB : Hid (Below B w (w.alloc (opC 0 s k n x y))) := (below_alloc w _).mono h.lo.2.2.2.2
  have e1 : (r == r) = true := by simp
  have e2 : (er == er) = true := by simp
  have AF : Hid (∀ w1 T1 D1, BInv w1 p g b T1 N D1 ts' ns → BFr (w.alloc (opC 0 s k n x y)) w1 g b T N T1 N → Half B w1 p g b q T1 N D1 T2 N2 ts' ns ts ns ∧ w1.cell? ⟨w.heap.size, 1, none⟩ = some (.string s)) := fun w1 T1 D1 h1 f1 =>
    ⟨hA.half f1 h1, (OpAt.cells ⟨BFr.other hA.bk f1 (by decide) (by decide) oA.h⟩).2.1⟩
  go_enter Try.func10, Try.ntmps10
  go_wp2_with (first
    | (go_at_call 31; refine (term_at hA.bk s hs HT.out).mono ?_; rintro e w1 ⟨rfl, T1, D1, h1, f1⟩; obtain ⟨g1, c1⟩ := AF.out w1 T1 D1 h1 f1)
    | (go_at_call 34; refine (refTerm_at g1.rf s hs HT.out).mono ?_; rintro e w2 ⟨rfl, T3, h2, f2⟩)
    | (go_at_call 33; refine (num_any _ _).mono ?_; rintro e w' ⟨rfl, rfl⟩))
  go_ret
  exact ⟨rfl, _, _, _, _, _, _, _, g1.two f2 h2 (termF_fine h.fine HT.out), (HB.out.trans (hA.below f1)).trans (g1.below2 f2)⟩
set_option maxHeartbeats 2000000 in
theorem does_non {B : Nat} {w : World} {p g b q : Nat} {T N T2 N2 : Value} {D : DataW Unit} {ts ns : List ByteArray} (h : Two B w p g b q T N D T2 N2 ts ns) (s : ByteArray) (k n x y : Int) (hs : s.size ≤ 9223372036854775807) :
    Calls Try.prog 10 #[.pointer (some ⟨p, 0, none⟩), .pointer (some ⟨q, 0, none⟩), opV 1 s k n x y] w (Done B w p g b q) := by
  have hA := h.later (below_alloc w (opC 1 s k n x y))
  have oA := opAt_new w 1 s k n x y
  obtain ⟨r, er, ns', HT⟩ : ∃ r er ns', Hid (nonF ts ns s = (r, er, ns')) := ⟨_, _, _, rfl⟩
  have HB : Hid (Below B w (w.alloc (opC 1 s k n x y))) := (below_alloc w _).mono h.lo.2.2.2.2
  have e1 : (r == r) = true := by simp
  have e2 : (er == er) = true := by simp
  have AF : Hid (∀ w1 N1 D1, BInv w1 p g b T N1 D1 ts ns' → BFr (w.alloc (opC 1 s k n x y)) w1 g b T N T N1 → Half B w1 p g b q T N1 D1 T2 N2 ts ns' ts ns ∧ w1.cell? ⟨w.heap.size, 1, none⟩ = some (.string s)) := fun w1 T1 D1 h1 f1 =>
    ⟨hA.half f1 h1, (OpAt.cells ⟨BFr.other hA.bk f1 (by decide) (by decide) oA.h⟩).2.1⟩
  have HAP : Hid (∀ s i, placeS ns s = some i → placeS ts s = none) := h.fine.apart
  go_enter Try.func10, Try.ntmps10
  go_wp2_with (first
    | (go_at_call 32; refine (non_at hA.bk s hs HT.out).mono ?_; rintro e w1 ⟨rfl, N1, D1, h1, f1⟩; obtain ⟨g1, c1⟩ := AF.out w1 N1 D1 h1 f1)
    | (go_at_call 35; refine (refNon_at g1.rf HAP.out s hs HT.out).mono ?_; rintro e w2 ⟨rfl, N3, h2, f2⟩)
    | (go_at_call 33; refine (num_any _ _).mono ?_; rintro e w' ⟨rfl, rfl⟩))
  go_ret
  exact ⟨rfl, _, _, _, _, _, _, _, g1.two f2 h2 (nonF_fine h.fine HT.out), (HB.out.trans (hA.below f1)).trans (g1.below2 f2)⟩
set_option maxHeartbeats 2000000 in
theorem does_find {B : Nat} {w : World} {p g b q : Nat} {T N T2 N2 : Value} {D : DataW Unit} {ts ns : List ByteArray} (h : Two B w p g b q T N D T2 N2 ts ns) (s : ByteArray) (k n x y : Int) (hs : s.size ≤ maxLen) :
    Calls Try.prog 10 #[.pointer (some ⟨p, 0, none⟩), .pointer (some ⟨q, 0, none⟩), opV 2 s k n x y] w (Done B w p g b q) := by
  have hA := h.later (below_alloc w (opC 2 s k n x y))
  have oA := opAt_new w 2 s k n x y
  obtain ⟨kf, nf, ok, HT⟩ : ∃ kf nf ok, Hid ((∃ q, findS ts ns s = some q ∧ q = (kf, nf) ∧ ok = true) ∨ findS ts ns s = none ∧ kf = 0 ∧ nf = 0 ∧ ok = false) := by
    cases hf : findS ts ns s with
    | some r => exact ⟨r.1, r.2, true, .inl ⟨r, rfl, rfl, rfl⟩⟩
    | none => exact ⟨0, 0, false, .inr ⟨rfl, rfl, rfl, rfl⟩⟩
  have e1 : (kf == kf) = true := by simp
  have e2 : (nf == nf) = true := by simp
  have e3 : (ok == ok) = true := by simp
  have AF : Hid (∀ w1, Below (w.alloc (opC 2 s k n x y)).heap.size (w.alloc (opC 2 s k n x y)) w1 → RB (w1.alloc (.cells #[.int .i64 kf, .int .i64 nf] 33)) q T2 N2 ts ns ∧ (w1.alloc (.cells #[.int .i64 kf, .int .i64 nf] 33)).cell? ⟨w.heap.size, 1, none⟩ = some (.string s) ∧ w.heap.size < w1.heap.size) := fun w1 hb =>
    ⟨(hA.rf.later hb).later (below_alloc _ _), ((oA.later hb).later (below_alloc _ _)).cells.2.1, (oA.later hb).cells.2.2.2.2.2.2⟩
  have AF2 : Hid (∀ (w1 w2 : World), Below (w1.alloc (.cells #[.int .i64 kf, .int .i64 nf] 33)).heap.size (w1.alloc (.cells #[.int .i64 kf, .int .i64 nf] 33)) w2 → w2.cell? ⟨w1.heap.size, 0, none⟩ = some (.int .i64 kf) ∧ w2.cell? ⟨w1.heap.size, 1, none⟩ = some (.int .i64 nf) ∧ w1.heap.size < w2.heap.size) := fun w1 w2 hb => by
    have r := (boxAt_new w1 kf nf 33).later hb
    exact ⟨r.c0, r.c1, r.lt⟩
  go_enter Try.func10, Try.ntmps10
  go_wp2_with (first
    | (go_at_call 23; refine (find_any hA.bk s hs kf nf ok HT).mono ?_; rintro e w1 ⟨rfl, hb1⟩; obtain ⟨g1, c1, l1⟩ := AF.out w1 hb1)
    | (go_at_call 36; refine (refFind_any g1 s kf nf ok HT).mono ?_; rintro e w2 ⟨rfl, hb2⟩; obtain ⟨c2, c3, l2⟩ := AF2.out w1 w2 hb2))
  go_ret
  have b1 : Below (w.alloc (opC 2 s k n x y)).heap.size (w.alloc (opC 2 s k n x y)) (w2.alloc (.cells #[.int .i64 kf, .int .i64 nf] 33)) := by
    have s1 := hb1.size
    have s2 := hb2.size
    simp at s2
    exact ((hb1.trans ((below_alloc w1 _).mono s1)).trans (hb2.mono (by simp; omega))).alloc (by omega) _
  exact ⟨rfl, _, _, _, _, _, _, _, hA.later b1, ((below_alloc w _).mono h.lo.2.2.2.2).trans (b1.mono (by have := h.lo.2.2.2.2; simp; omega))⟩
end Go.Proofs.Ytnhfnihdikammab
