import Derived.Test.YtjpknihkcndoiaaGreatPPC6ToPC7
namespace Go.Proofs.YtjpknihkcndoiaaGreat
set_option linter.unusedVariables false
set_option maxRecDepth 100000
set_option maxHeartbeats 16000000
open Go.RowKit Go.Maps
def inP (g : GV) (n : Int) : Bool := decide (0 <= n /\ n < g.ps.length)
theorem isTerm_P (g : GV) (n : Int) (w : World) (hl : g.ts.length <= 140737488355328) : Calls Tryz.prog 66 #[g.val, .int .i64 n] w fun e w' => e = .returned (.bool (inT g n)) /\ Below w.heap.size w w' := by
 have fin := below_alloc w (gBox g)
 by_cases h0 : 0 <= n
 ·by_cases h1 : n < g.ts.length
  ·have E : Hid (inT g n = true) := by show _ = _; simp [inT, h0, h1]
   go_enter Tryz.func66, Tryz.ntmps66
   go_wp2
   go_ret
   exact ⟨by rw [E.out]; rfl, fin⟩
  ·have E : Hid (inT g n = false) := by show _ = _; simp [inT, h1]
   go_enter Tryz.func66, Tryz.ntmps66
   go_wp2
   go_ret
   exact ⟨by rw [E.out]; rfl, fin⟩
 ·have E : Hid (inT g n = false) := by show _ = _; simp [inT, h0]
  go_enter Tryz.func66, Tryz.ntmps66
  go_wp2
  go_ret
  exact ⟨by rw [E.out]; rfl, fin⟩
theorem isProd_P (g : GV) (n : Int) (w : World) (hl : g.ps.length <= 140737488355328) : Calls Tryz.prog 65 #[g.val, .int .i64 n] w fun e w' => e = .returned (.bool (inP g n)) /\ Below w.heap.size w w' := by
 have fin := below_alloc w (gBox g)
 by_cases h0 : 0 <= n
 ·by_cases h1 : n < g.ps.length
  ·have E : Hid (inP g n = true) := by show _ = _; simp [inP, h0, h1]
   go_enter Tryz.func65, Tryz.ntmps65
   go_wp2
   go_ret
   exact ⟨by rw [E.out]; rfl, fin⟩
  ·have E : Hid (inP g n = false) := by show _ = _; simp [inP, h1]
   go_enter Tryz.func65, Tryz.ntmps65
   go_wp2
   go_ret
   exact ⟨by rw [E.out]; rfl, fin⟩
 ·have E : Hid (inP g n = false) := by show _ = _; simp [inP, h0]
  go_enter Tryz.func65, Tryz.ntmps65
  go_wp2
  go_ret
  exact ⟨by rw [E.out]; rfl, fin⟩
def levF (g : GV) (er : Int) (t : Int) : Int × Int := if er ≠ 0 then (0, er) else if inT g t = true then (levU g.ls t, 0) else (0, 35)
def terF (g : GV) (er : Int) (p : Int) : Int × Int := if er ≠ 0 then (0, er) else if inP g p = true then (ownU (g.ps.getD p.toNat .none), 0) else (0, 4)
def prlF (g : GV) (er : Int) (p : Int) : Int × Int := if (terF g er p).2 ≠ 0 then (0, (terF g er p).2) else (levU g.ls (terF g er p).1, 0)
def decF (g : GV) (er : Int) (p t : Int) : DV × Int := if er ≠ 0 then (.zero, er) else if inP g p = false then (.zero, 4) else if inT g t = false then (.zero, 35) else (decU g p.toNat t, 0)
end Go.Proofs.YtjpknihkcndoiaaGreat
namespace Go.Proofs.YtjpknihkcndoiaaGreat
set_option linter.unusedVariables false
set_option maxRecDepth 100000
set_option maxHeartbeats 16000000
open Go.RowKit Go.Maps
def DcO (w : World) (r : DV × Int) (e : Ending) (w' : World) : Prop := ∃ ao c, e = .returned (.tuple #[dval r.1 ao c, .int .i64 r.2]) /\ D1 w.heap.size w' r.1 ao c /\ Below w.heap.size w w'
set_option linter.unusedSimpArgs false in
theorem Decide_P (g : GV) (p t : Int) (w : World) (h : GAt 140737488355328 w g) (hpc : g.ps.length <= g.pc) (er at_ : Int) (hE : checkG g (checkF g.ts g.ns) = (er, at_)) :
  Calls Tryz.prog 35 #[g.val, .int .i64 p, .int .i64 t] w (DcO w (decF g er p t)) := by
 have X0 : Hid (((w.alloc (gBox g)).alloc dZero).heap[w.heap.size]? = some (gBox g) /\ ((w.alloc (gBox g)).alloc dZero).heap[w.heap.size + 1]? = some (.cells #[.int .i64 0, .int .i64 0, .int .i64 0, .slice none 0 0, .bool false, .int .i64 0] 58 (0, 0)) /\ Below w.heap.size w ((w.alloc (gBox g)).alloc dZero)) := by
  have q := heap_alloc_new (w.alloc (gBox g)) dZero
  rw [alZ] at q
  exact ⟨blk_later (heap_alloc_new _ _) (below_alloc _ _), q, (below_alloc w _).trans ((below_alloc _ _).mono (below_alloc w _).size)⟩
 have CK : Hid (∀ w', Below w.heap.size w w' -> Calls Tryz.prog 19 #[g.val] w' fun e w'' => e = .returned (.tuple #[.int .i64 er, .int .i64 at_]) /\ Below w'.heap.size w' w'') := fun w' hb => check_G g w' (h.later hb) hpc er at_ hE
 have HT : Hid (∀ w', Below w.heap.size w w' -> GAt 140737488355328 w' g) := fun w' hb => h.later hb
 have IT : Hid (∀ w' n, Calls Tryz.prog 66 #[g.val, .int .i64 n] w' fun e w'' => e = .returned (.bool (inT g n)) /\ Below w'.heap.size w' w'') := fun w' n => isTerm_P g n w' h.tl
 have IP : Hid (∀ w' n, Calls Tryz.prog 65 #[g.val, .int .i64 n] w' fun e w'' => e = .returned (.bool (inP g n)) /\ Below w'.heap.size w' w'') := fun w' n => isProd_P g n w' h.pl
 by_cases h0 : er = 0
 case neg =>
  have t1 : (er != 0) = true := by simpa using h0
  have E : Hid (decF g er p t = (.zero, er)) := by show _ = _; simp [decF, h0]
  clear h hE
  go_enter Tryz.func35, Tryz.ntmps35
  go_wp2_with (first
   | (go_at_call 19; refine (CK.out _ X0.out.2.2).mono ?_; rintro e w1 ⟨rfl, b1⟩; have X1 : Hid (w1.heap[w.heap.size]? = some (gBox g) /\ w1.heap[w.heap.size + 1]? = some (.cells #[.int .i64 0, .int .i64 0, .int .i64 0, .slice none 0 0, .bool false, .int .i64 0] 58 (0, 0)) /\ Below w.heap.size w w1) := ⟨blk_later X0.out.1 b1, blk_later X0.out.2.1 b1, X0.out.2.2.trans (b1.mono X0.out.2.2.size)⟩; clear b1; obtain ⟨y0, y1, y2, y3, y4⟩ := gb_cells X1.out.1; obtain ⟨⟨z0, z1, z2, z3, z4, z5⟩, ⟨f0, f1, f2, f3, f4, f5⟩, hzz⟩ := dz_cells X1.out.2.1))
  obtain ⟨q1, q2, q3⟩ := six_set X1.out.2.1 (.int .i64 0) (.int .i64 0) (.int .i64 0) (.slice none 0 0) (.bool false) (.int .i64 0)
  have q4 := q3 _ _ X1.out.2.2 (Nat.le_succ _)
  generalize ((((((w1.setCell ⟨w.heap.size + 1, 0, none⟩ (.int .i64 0)).setCell ⟨w.heap.size + 1, 1, none⟩ (.int .i64 0)).setCell ⟨w.heap.size + 1, 2, none⟩ (.int .i64 0)).setCell ⟨w.heap.size + 1, 3, none⟩ (.slice none 0 0)).setCell ⟨w.heap.size + 1, 4, none⟩ (.bool false)).setCell ⟨w.heap.size + 1, 5, none⟩ (.int .i64 0)) = W4 at *
  have r0 : W4.cell? ⟨w.heap.size + 1, 0, none⟩ = some (.int .i64 0) := (cellq_any q1).trans rfl
  have r1 : W4.cell? ⟨w.heap.size + 1, 1, none⟩ = some (.int .i64 0) := (cellq_any q1).trans rfl
  have r2 : W4.cell? ⟨w.heap.size + 1, 2, none⟩ = some (.int .i64 0) := (cellq_any q1).trans rfl
  have r3 : W4.cell? ⟨w.heap.size + 1, 3, none⟩ = some (.slice none 0 0) := (cellq_any q1).trans rfl
  have r4 : W4.cell? ⟨w.heap.size + 1, 4, none⟩ = some (.bool false) := (cellq_any q1).trans rfl
  have r5 : W4.cell? ⟨w.heap.size + 1, 5, none⟩ = some (.int .i64 0) := (cellq_any q1).trans rfl
  refine bodyPost_ret (v := .tuple #[dval DV.zero none 0, .int .i64 er]) (by simp [results, Tryz.results35, go_sem, r0, r1, r2, r3, r4, r5, DV.zero]) rfl ?_
  rw [E.out]
  exact ⟨none, 0, rfl, .inl ⟨rfl, rfl, rfl⟩, q4⟩
 subst h0
 have t1 : ((0 : Int) != 0) = false := by decide
 by_cases hi : inP g p = true
 case neg =>
  have HI : Hid (inP g p = false) := by show _ = _; simpa using hi
  have E : Hid (decF g 0 p t = (.zero, 4)) := by show _ = _; simp [decF, HI.out]
  clear h hE
  go_enter Tryz.func35, Tryz.ntmps35
  go_wp2_with (first
   | (go_at_call 19; refine (CK.out _ X0.out.2.2).mono ?_; rintro e w1 ⟨rfl, b1⟩; have X1 : Hid (w1.heap[w.heap.size]? = some (gBox g) /\ w1.heap[w.heap.size + 1]? = some (.cells #[.int .i64 0, .int .i64 0, .int .i64 0, .slice none 0 0, .bool false, .int .i64 0] 58 (0, 0)) /\ Below w.heap.size w w1) := ⟨blk_later X0.out.1 b1, blk_later X0.out.2.1 b1, X0.out.2.2.trans (b1.mono X0.out.2.2.size)⟩; clear b1; obtain ⟨y0, y1, y2, y3, y4⟩ := gb_cells X1.out.1; obtain ⟨⟨z0, z1, z2, z3, z4, z5⟩, ⟨f0, f1, f2, f3, f4, f5⟩, hzz⟩ := dz_cells X1.out.2.1)
   | (go_at_call 65; refine (IP.out _ _).mono ?_; rw [HI.out]; rintro e w2 ⟨rfl, b2⟩; clear y0 y1 y2 y3 y4 z0 z1 z2 z3 z4 z5 f0 f1 f2 f3 f4 f5 hzz; have X2 : Hid (w2.heap[w.heap.size]? = some (gBox g) /\ w2.heap[w.heap.size + 1]? = some (.cells #[.int .i64 0, .int .i64 0, .int .i64 0, .slice none 0 0, .bool false, .int .i64 0] 58 (0, 0)) /\ Below w.heap.size w w2) := ⟨blk_later X1.out.1 b2, blk_later X1.out.2.1 b2, X1.out.2.2.trans (b2.mono X1.out.2.2.size)⟩; clear b2; obtain ⟨y0, y1, y2, y3, y4⟩ := gb_cells X2.out.1; obtain ⟨⟨z0, z1, z2, z3, z4, z5⟩, ⟨f0, f1, f2, f3, f4, f5⟩, hzz⟩ := dz_cells X2.out.2.1))
  obtain ⟨q1, q2, q3⟩ := six_set X2.out.2.1 (.int .i64 0) (.int .i64 0) (.int .i64 0) (.slice none 0 0) (.bool false) (.int .i64 0)
  have q4 := q3 _ _ X2.out.2.2 (Nat.le_succ _)
  generalize ((((((w2.setCell ⟨w.heap.size + 1, 0, none⟩ (.int .i64 0)).setCell ⟨w.heap.size + 1, 1, none⟩ (.int .i64 0)).setCell ⟨w.heap.size + 1, 2, none⟩ (.int .i64 0)).setCell ⟨w.heap.size + 1, 3, none⟩ (.slice none 0 0)).setCell ⟨w.heap.size + 1, 4, none⟩ (.bool false)).setCell ⟨w.heap.size + 1, 5, none⟩ (.int .i64 0)) = W4 at *
  have r0 : W4.cell? ⟨w.heap.size + 1, 0, none⟩ = some (.int .i64 0) := (cellq_any q1).trans rfl
  have r1 : W4.cell? ⟨w.heap.size + 1, 1, none⟩ = some (.int .i64 0) := (cellq_any q1).trans rfl
  have r2 : W4.cell? ⟨w.heap.size + 1, 2, none⟩ = some (.int .i64 0) := (cellq_any q1).trans rfl
  have r3 : W4.cell? ⟨w.heap.size + 1, 3, none⟩ = some (.slice none 0 0) := (cellq_any q1).trans rfl
  have r4 : W4.cell? ⟨w.heap.size + 1, 4, none⟩ = some (.bool false) := (cellq_any q1).trans rfl
  have r5 : W4.cell? ⟨w.heap.size + 1, 5, none⟩ = some (.int .i64 0) := (cellq_any q1).trans rfl
  refine bodyPost_ret (v := .tuple #[dval DV.zero none 0, .int .i64 4]) (by simp [results, Tryz.results35, go_sem, r0, r1, r2, r3, r4, r5, DV.zero]) rfl ?_
  rw [E.out]
  exact ⟨none, 0, rfl, .inl ⟨rfl, rfl, rfl⟩, q4⟩
 by_cases hj : inT g t = true
 case neg =>
  have HI : Hid (inP g p = true) := hi
  have HJ : Hid (inT g t = false) := by show _ = _; simpa using hj
  have E : Hid (decF g 0 p t = (.zero, 35)) := by show _ = _; simp [decF, hi, HJ.out]
  clear h hE
  go_enter Tryz.func35, Tryz.ntmps35
  go_wp2_with (first
   | (go_at_call 19; refine (CK.out _ X0.out.2.2).mono ?_; rintro e w1 ⟨rfl, b1⟩; have X1 : Hid (w1.heap[w.heap.size]? = some (gBox g) /\ w1.heap[w.heap.size + 1]? = some (.cells #[.int .i64 0, .int .i64 0, .int .i64 0, .slice none 0 0, .bool false, .int .i64 0] 58 (0, 0)) /\ Below w.heap.size w w1) := ⟨blk_later X0.out.1 b1, blk_later X0.out.2.1 b1, X0.out.2.2.trans (b1.mono X0.out.2.2.size)⟩; clear b1; obtain ⟨y0, y1, y2, y3, y4⟩ := gb_cells X1.out.1; obtain ⟨⟨z0, z1, z2, z3, z4, z5⟩, ⟨f0, f1, f2, f3, f4, f5⟩, hzz⟩ := dz_cells X1.out.2.1)
   | (go_at_call 65; refine (IP.out _ _).mono ?_; rw [HI.out]; rintro e w2 ⟨rfl, b2⟩; clear y0 y1 y2 y3 y4 z0 z1 z2 z3 z4 z5 f0 f1 f2 f3 f4 f5 hzz; have X2 : Hid (w2.heap[w.heap.size]? = some (gBox g) /\ w2.heap[w.heap.size + 1]? = some (.cells #[.int .i64 0, .int .i64 0, .int .i64 0, .slice none 0 0, .bool false, .int .i64 0] 58 (0, 0)) /\ Below w.heap.size w w2) := ⟨blk_later X1.out.1 b2, blk_later X1.out.2.1 b2, X1.out.2.2.trans (b2.mono X1.out.2.2.size)⟩; clear b2; obtain ⟨y0, y1, y2, y3, y4⟩ := gb_cells X2.out.1; obtain ⟨⟨z0, z1, z2, z3, z4, z5⟩, ⟨f0, f1, f2, f3, f4, f5⟩, hzz⟩ := dz_cells X2.out.2.1)
   | (go_at_call 66; refine (IT.out _ _).mono ?_; rw [HJ.out]; rintro e w3 ⟨rfl, b3⟩; clear y0 y1 y2 y3 y4 z0 z1 z2 z3 z4 z5 f0 f1 f2 f3 f4 f5 hzz; have X3 : Hid (w3.heap[w.heap.size]? = some (gBox g) /\ w3.heap[w.heap.size + 1]? = some (.cells #[.int .i64 0, .int .i64 0, .int .i64 0, .slice none 0 0, .bool false, .int .i64 0] 58 (0, 0)) /\ Below w.heap.size w w3) := ⟨blk_later X2.out.1 b3, blk_later X2.out.2.1 b3, X2.out.2.2.trans (b3.mono X2.out.2.2.size)⟩; clear b3; obtain ⟨y0, y1, y2, y3, y4⟩ := gb_cells X3.out.1; obtain ⟨⟨z0, z1, z2, z3, z4, z5⟩, ⟨f0, f1, f2, f3, f4, f5⟩, hzz⟩ := dz_cells X3.out.2.1))
  obtain ⟨q1, q2, q3⟩ := six_set X3.out.2.1 (.int .i64 0) (.int .i64 0) (.int .i64 0) (.slice none 0 0) (.bool false) (.int .i64 0)
  have q4 := q3 _ _ X3.out.2.2 (Nat.le_succ _)
  generalize ((((((w3.setCell ⟨w.heap.size + 1, 0, none⟩ (.int .i64 0)).setCell ⟨w.heap.size + 1, 1, none⟩ (.int .i64 0)).setCell ⟨w.heap.size + 1, 2, none⟩ (.int .i64 0)).setCell ⟨w.heap.size + 1, 3, none⟩ (.slice none 0 0)).setCell ⟨w.heap.size + 1, 4, none⟩ (.bool false)).setCell ⟨w.heap.size + 1, 5, none⟩ (.int .i64 0)) = W4 at *
  have r0 : W4.cell? ⟨w.heap.size + 1, 0, none⟩ = some (.int .i64 0) := (cellq_any q1).trans rfl
  have r1 : W4.cell? ⟨w.heap.size + 1, 1, none⟩ = some (.int .i64 0) := (cellq_any q1).trans rfl
  have r2 : W4.cell? ⟨w.heap.size + 1, 2, none⟩ = some (.int .i64 0) := (cellq_any q1).trans rfl
  have r3 : W4.cell? ⟨w.heap.size + 1, 3, none⟩ = some (.slice none 0 0) := (cellq_any q1).trans rfl
  have r4 : W4.cell? ⟨w.heap.size + 1, 4, none⟩ = some (.bool false) := (cellq_any q1).trans rfl
  have r5 : W4.cell? ⟨w.heap.size + 1, 5, none⟩ = some (.int .i64 0) := (cellq_any q1).trans rfl
  refine bodyPost_ret (v := .tuple #[dval DV.zero none 0, .int .i64 35]) (by simp [results, Tryz.results35, go_sem, r0, r1, r2, r3, r4, r5, DV.zero]) rfl ?_
  rw [E.out]
  exact ⟨none, 0, rfl, .inl ⟨rfl, rfl, rfl⟩, q4⟩
 have HI : Hid (inP g p = true) := hi
 have HJ : Hid (inT g t = true) := hj
 have E : Hid (decF g 0 p t = (decU g p.toNat t, 0)) := by show _ = _; simp [decF, hi, hj]
 have ok : OkC g := OkC.of (by rw [hE])
 have hp2 : 0 <= p /\ p < g.ps.length := by simpa [inP] using hi
 have ht2 : 0 <= t /\ t < g.ts.length := by simpa [inT] using hj
 obtain ⟨k, rfl⟩ : ∃ k : Nat, p = (k : Int) := ⟨p.toNat, by omega⟩
 obtain ⟨m, rfl⟩ : ∃ m : Nat, t = (m : Int) := ⟨t.toNat, by omega⟩
 rw [Int.toNat_natCast] at E
 have JO : Hid (∀ w', Below w.heap.size w w' -> Calls Tryz.prog 21 #[g.val] w' fun e w'' => ∃ jb, e = .returned (.pointer (some ⟨jb, 0, none⟩)) /\ JU g jb w'' /\ w'.heap.size <= jb /\ Below w'.heap.size w' w'') := fun w' hb => judgeOf_P g w' (h.later hb) ok
 have DO : Hid (∀ w' jb, Below w.heap.size w w' -> JU g jb w' -> Calls Tryz.prog 59 #[.pointer (some ⟨jb, 0, none⟩), .int .i64 (k : Int), .int .i64 (m : Int)] w' (DuO w' (decU g k (m : Int)))) := fun w' jb hb hj => decide_P g jb k m w' hj (h.later hb) ok (by omega) (by omega)
 clear h hE hi hj ok hp2 ht2
 go_enter Tryz.func35, Tryz.ntmps35
 go_wp2_with (first
  | (go_at_call 19; refine (CK.out _ X0.out.2.2).mono ?_; rintro e w1 ⟨rfl, b1⟩; have X1 : Hid (w1.heap[w.heap.size]? = some (gBox g) /\ w1.heap[w.heap.size + 1]? = some (.cells #[.int .i64 0, .int .i64 0, .int .i64 0, .slice none 0 0, .bool false, .int .i64 0] 58 (0, 0)) /\ Below w.heap.size w w1) := ⟨blk_later X0.out.1 b1, blk_later X0.out.2.1 b1, X0.out.2.2.trans (b1.mono X0.out.2.2.size)⟩; clear b1; obtain ⟨y0, y1, y2, y3, y4⟩ := gb_cells X1.out.1; obtain ⟨⟨z0, z1, z2, z3, z4, z5⟩, ⟨f0, f1, f2, f3, f4, f5⟩, hzz⟩ := dz_cells X1.out.2.1)
  | (go_at_call 65; refine (IP.out _ _).mono ?_; rw [HI.out]; rintro e w2 ⟨rfl, b2⟩; clear y0 y1 y2 y3 y4 z0 z1 z2 z3 z4 z5 f0 f1 f2 f3 f4 f5 hzz; have X2 : Hid (w2.heap[w.heap.size]? = some (gBox g) /\ w2.heap[w.heap.size + 1]? = some (.cells #[.int .i64 0, .int .i64 0, .int .i64 0, .slice none 0 0, .bool false, .int .i64 0] 58 (0, 0)) /\ Below w.heap.size w w2) := ⟨blk_later X1.out.1 b2, blk_later X1.out.2.1 b2, X1.out.2.2.trans (b2.mono X1.out.2.2.size)⟩; clear b2; obtain ⟨y0, y1, y2, y3, y4⟩ := gb_cells X2.out.1; obtain ⟨⟨z0, z1, z2, z3, z4, z5⟩, ⟨f0, f1, f2, f3, f4, f5⟩, hzz⟩ := dz_cells X2.out.2.1)
  | (go_at_call 66; refine (IT.out _ _).mono ?_; rw [HJ.out]; rintro e w3 ⟨rfl, b3⟩; clear y0 y1 y2 y3 y4 z0 z1 z2 z3 z4 z5 f0 f1 f2 f3 f4 f5 hzz; have X3 : Hid (w3.heap[w.heap.size]? = some (gBox g) /\ w3.heap[w.heap.size + 1]? = some (.cells #[.int .i64 0, .int .i64 0, .int .i64 0, .slice none 0 0, .bool false, .int .i64 0] 58 (0, 0)) /\ Below w.heap.size w w3) := ⟨blk_later X2.out.1 b3, blk_later X2.out.2.1 b3, X2.out.2.2.trans (b3.mono X2.out.2.2.size)⟩; clear b3; obtain ⟨y0, y1, y2, y3, y4⟩ := gb_cells X3.out.1; obtain ⟨⟨z0, z1, z2, z3, z4, z5⟩, ⟨f0, f1, f2, f3, f4, f5⟩, hzz⟩ := dz_cells X3.out.2.1)
  | (go_at_call 21; refine (JO.out _ X3.out.2.2).mono ?_; rintro e w4 ⟨jb, rfl, ju', -, b4⟩; have JU4 : Hid (JU g jb w4) := ju'; clear y0 y1 y2 y3 y4 z0 z1 z2 z3 z4 z5 f0 f1 f2 f3 f4 f5 hzz; have X4 : Hid (w4.heap[w.heap.size]? = some (gBox g) /\ w4.heap[w.heap.size + 1]? = some (.cells #[.int .i64 0, .int .i64 0, .int .i64 0, .slice none 0 0, .bool false, .int .i64 0] 58 (0, 0)) /\ Below w.heap.size w w4) := ⟨blk_later X3.out.1 b4, blk_later X3.out.2.1 b4, X3.out.2.2.trans (b4.mono X3.out.2.2.size)⟩; clear b4; clear ju')
  | (go_at_call 59; refine (DO.out _ jb X4.out.2.2 JU4.out).mono ?_; rintro e w5 ⟨ao, c, rfl, d5', b5⟩; have D5 : Hid (D1 w4.heap.size w5 (decU g k (m : Int)) ao c /\ w.heap.size + 1 < w4.heap.size) := ⟨d5', lt_of_block X4.out.2.1⟩; have X5 : Hid (w5.heap[w.heap.size]? = some (gBox g) /\ w5.heap[w.heap.size + 1]? = some (.cells #[.int .i64 0, .int .i64 0, .int .i64 0, .slice none 0 0, .bool false, .int .i64 0] 58 (0, 0)) /\ Below w.heap.size w w5) := ⟨blk_later X4.out.1 b5, blk_later X4.out.2.1 b5, X4.out.2.2.trans (b5.mono X4.out.2.2.size)⟩; clear b5; clear d5'; obtain ⟨y0, y1, y2, y3, y4⟩ := gb_cells X5.out.1; obtain ⟨⟨z0, z1, z2, z3, z4, z5⟩, ⟨f0, f1, f2, f3, f4, f5⟩, hzz⟩ := dz_cells X5.out.2.1))
 obtain ⟨q1, q2, q3⟩ := six_set X5.out.2.1 (.int .i64 (decU g k (m : Int)).look) (.int .i64 (decU g k (m : Int)).kind) (.int .i64 (decU g k (m : Int)).prod) (.slice ao (decU g k (m : Int)).drop.length c) (.bool (decU g k (m : Int)).sd) (.int .i64 (decU g k (m : Int)).lev)
 have q4 := q3 _ _ X5.out.2.2 (Nat.le_succ _)
 have q5 : D1 w.heap.size ((((((w5.setCell ⟨w.heap.size + 1, 0, none⟩ (.int .i64 (decU g k (m : Int)).look)).setCell ⟨w.heap.size + 1, 1, none⟩ (.int .i64 (decU g k (m : Int)).kind)).setCell ⟨w.heap.size + 1, 2, none⟩ (.int .i64 (decU g k (m : Int)).prod)).setCell ⟨w.heap.size + 1, 3, none⟩ (.slice ao (decU g k (m : Int)).drop.length c)).setCell ⟨w.heap.size + 1, 4, none⟩ (.bool (decU g k (m : Int)).sd)).setCell ⟨w.heap.size + 1, 5, none⟩ (.int .i64 (decU g k (m : Int)).lev)) (decU g k (m : Int)) ao c := D5.out.1.kept (by have := D5.out.2; omega) fun j hj => q2 j (by have := D5.out.2; omega)
 generalize ((((((w5.setCell ⟨w.heap.size + 1, 0, none⟩ (.int .i64 (decU g k (m : Int)).look)).setCell ⟨w.heap.size + 1, 1, none⟩ (.int .i64 (decU g k (m : Int)).kind)).setCell ⟨w.heap.size + 1, 2, none⟩ (.int .i64 (decU g k (m : Int)).prod)).setCell ⟨w.heap.size + 1, 3, none⟩ (.slice ao (decU g k (m : Int)).drop.length c)).setCell ⟨w.heap.size + 1, 4, none⟩ (.bool (decU g k (m : Int)).sd)).setCell ⟨w.heap.size + 1, 5, none⟩ (.int .i64 (decU g k (m : Int)).lev)) = W4 at *
 have r0 : W4.cell? ⟨w.heap.size + 1, 0, none⟩ = some (.int .i64 (decU g k (m : Int)).look) := (cellq_any q1).trans rfl
 have r1 : W4.cell? ⟨w.heap.size + 1, 1, none⟩ = some (.int .i64 (decU g k (m : Int)).kind) := (cellq_any q1).trans rfl
 have r2 : W4.cell? ⟨w.heap.size + 1, 2, none⟩ = some (.int .i64 (decU g k (m : Int)).prod) := (cellq_any q1).trans rfl
 have r3 : W4.cell? ⟨w.heap.size + 1, 3, none⟩ = some (.slice ao (decU g k (m : Int)).drop.length c) := (cellq_any q1).trans rfl
 have r4 : W4.cell? ⟨w.heap.size + 1, 4, none⟩ = some (.bool (decU g k (m : Int)).sd) := (cellq_any q1).trans rfl
 have r5 : W4.cell? ⟨w.heap.size + 1, 5, none⟩ = some (.int .i64 (decU g k (m : Int)).lev) := (cellq_any q1).trans rfl
 refine bodyPost_ret (v := .tuple #[dval (decU g k (m : Int)) ao c, .int .i64 0]) (by simp [results, Tryz.results35, go_sem, r0, r1, r2, r3, r4, r5]) rfl ?_
 rw [E.out]
 exact ⟨ao, c, rfl, q5, q4⟩
end Go.Proofs.YtjpknihkcndoiaaGreat
