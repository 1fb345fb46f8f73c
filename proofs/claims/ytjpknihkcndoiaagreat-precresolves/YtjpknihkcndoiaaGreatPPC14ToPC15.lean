import Derived.Test.YtjpknihkcndoiaaGreatPPC12ToPC13
namespace Go.Proofs.YtjpknihkcndoiaaGreat
set_option linter.unusedVariables false
set_option maxRecDepth 100000
set_option maxHeartbeats 16000000
open Go.RowKit Go.Maps
set_option linter.unusedSimpArgs false in
theorem rDecide_no (g : GV) (p t : Int) (w : World) (h : GAt 140737488355328 w g) (ok : OkC g) (hn : inP g p = false ∨ inT g t = false) :
  Calls Tryz.prog 38 #[g.val, .int .i64 p, .int .i64 t] w (DcO w (decF g 0 p t)) := by
 have X0 : Hid (((w.alloc (gBox g)).alloc dZero).heap[w.heap.size]? = some (gBox g) /\ ((w.alloc (gBox g)).alloc dZero).heap[w.heap.size + 1]? = some (.cells #[.int .i64 0, .int .i64 0, .int .i64 0, .slice none 0 0, .bool false, .int .i64 0] 58 (0, 0)) /\ Below w.heap.size w ((w.alloc (gBox g)).alloc dZero)) := by
  have q := heap_alloc_new (w.alloc (gBox g)) dZero
  rw [alZ] at q
  exact ⟨blk_later (heap_alloc_new _ _) (below_alloc _ _), q, (below_alloc w _).trans ((below_alloc _ _).mono (below_alloc w _).size)⟩
 have PL : Hid (∀ w', Below w.heap.size w w' -> Calls Tryz.prog 67 #[g.val, .int .i64 p] w' fun e w'' => e = .returned (.tuple #[.int .i64 (prlF g 0 p).1, .int .i64 (prlF g 0 p).2]) /\ Below w'.heap.size w' w'') := fun w' hb => rProdLevel_P g p w' (h.later hb) ok
 have LV : Hid (∀ w', Below w.heap.size w w' -> Calls Tryz.prog 68 #[g.val, .int .i64 t] w' fun e w'' => e = .returned (.tuple #[.int .i64 (levF g 0 t).1, .int .i64 (levF g 0 t).2]) /\ Below w'.heap.size w' w'') := fun w' hb => rLevelOf_P g t w' (h.later hb)
 have t0 : ((0 : Int) != 0) = false := by decide
 have t4 : ((4 : Int) != 0) = true := by decide
 have t5 : ((35 : Int) != 0) = true := by decide
 cases hi : inP g p with
 | false =>
  have E : Hid (decF g 0 p t = (.zero, 4)) := by show _ = _; simp [decF, hi]
  have E1 : prlF g 0 p = (0, 4) := by simp [prlF, terF, hi]
  rw [E1] at PL
  clear h ok hn hi E1 LV
  go_enter Tryz.func38, Tryz.ntmps38
  go_wp2_with (go_at_call 67; refine (PL.out _ X0.out.2.2).mono ?_; rintro e w1 ⟨rfl, b1⟩; have X1 : Hid (w1.heap[w.heap.size]? = some (gBox g) /\ w1.heap[w.heap.size + 1]? = some (.cells #[.int .i64 0, .int .i64 0, .int .i64 0, .slice none 0 0, .bool false, .int .i64 0] 58 (0, 0)) /\ Below w.heap.size w w1) := ⟨blk_later X0.out.1 b1, blk_later X0.out.2.1 b1, X0.out.2.2.trans (b1.mono X0.out.2.2.size)⟩; clear b1; obtain ⟨y0, y1, y2, y3, y4⟩ := gb_cells X1.out.1; obtain ⟨⟨z0, z1, z2, z3, z4, z5⟩, ⟨f0, f1, f2, f3, f4, f5⟩, hzz⟩ := dz_cells X1.out.2.1)
  obtain ⟨q1, q2, q3⟩ := six_set X1.out.2.1 (.int .i64 0) (.int .i64 0) (.int .i64 0) (.slice none 0 0) (.bool false) (.int .i64 0)
  have q4 := q3 _ _ X1.out.2.2 (Nat.le_succ _)
  have q5 : D1 w.heap.size ((((((w1.setCell ⟨w.heap.size + 1, 0, none⟩ (.int .i64 0)).setCell ⟨w.heap.size + 1, 1, none⟩ (.int .i64 0)).setCell ⟨w.heap.size + 1, 2, none⟩ (.int .i64 0)).setCell ⟨w.heap.size + 1, 3, none⟩ (.slice none 0 0)).setCell ⟨w.heap.size + 1, 4, none⟩ (.bool false)).setCell ⟨w.heap.size + 1, 5, none⟩ (.int .i64 0)) (DV.zero) none 0 := .inl ⟨rfl, rfl, rfl⟩
  generalize ((((((w1.setCell ⟨w.heap.size + 1, 0, none⟩ (.int .i64 0)).setCell ⟨w.heap.size + 1, 1, none⟩ (.int .i64 0)).setCell ⟨w.heap.size + 1, 2, none⟩ (.int .i64 0)).setCell ⟨w.heap.size + 1, 3, none⟩ (.slice none 0 0)).setCell ⟨w.heap.size + 1, 4, none⟩ (.bool false)).setCell ⟨w.heap.size + 1, 5, none⟩ (.int .i64 0)) = W4 at *
  have r0 : W4.cell? ⟨w.heap.size + 1, 0, none⟩ = some (.int .i64 0) := (cellq_any q1).trans rfl
  have r1 : W4.cell? ⟨w.heap.size + 1, 1, none⟩ = some (.int .i64 0) := (cellq_any q1).trans rfl
  have r2 : W4.cell? ⟨w.heap.size + 1, 2, none⟩ = some (.int .i64 0) := (cellq_any q1).trans rfl
  have r3 : W4.cell? ⟨w.heap.size + 1, 3, none⟩ = some (.slice none 0 0) := (cellq_any q1).trans rfl
  have r4 : W4.cell? ⟨w.heap.size + 1, 4, none⟩ = some (.bool false) := (cellq_any q1).trans rfl
  have r5 : W4.cell? ⟨w.heap.size + 1, 5, none⟩ = some (.int .i64 0) := (cellq_any q1).trans rfl
  refine bodyPost_ret (v := .tuple #[dval (DV.zero) none 0, .int .i64 4]) (by simp [results, Tryz.results38, go_sem, r0, r1, r2, r3, r4, r5, DV.zero, noneD, redD, shiD, errD]) rfl ?_
  rw [E.out]
  exact ⟨none, 0, rfl, q5, q4⟩
 | true =>
  have hj : inT g t = false := hn.resolve_left (fun q => by rw [q] at hi; cases hi)
  have E : Hid (decF g 0 p t = (.zero, 35)) := by show _ = _; simp [decF, hi, hj]
  have E1 : (prlF g 0 p).2 = 0 := by simp [prlF, terF, hi]
  have E2 : levF g 0 t = (0, 35) := by simp [levF, hj]
  rw [E1] at PL
  rw [E2] at LV
  clear h ok hn hi hj E1 E2
  go_enter Tryz.func38, Tryz.ntmps38
  go_wp2_with (first
   | (go_at_call 67; refine (PL.out _ X0.out.2.2).mono ?_; rintro e w1 ⟨rfl, b1⟩; have X1 : Hid (w1.heap[w.heap.size]? = some (gBox g) /\ w1.heap[w.heap.size + 1]? = some (.cells #[.int .i64 0, .int .i64 0, .int .i64 0, .slice none 0 0, .bool false, .int .i64 0] 58 (0, 0)) /\ Below w.heap.size w w1) := ⟨blk_later X0.out.1 b1, blk_later X0.out.2.1 b1, X0.out.2.2.trans (b1.mono X0.out.2.2.size)⟩; clear b1; obtain ⟨y0, y1, y2, y3, y4⟩ := gb_cells X1.out.1; obtain ⟨⟨z0, z1, z2, z3, z4, z5⟩, ⟨f0, f1, f2, f3, f4, f5⟩, hzz⟩ := dz_cells X1.out.2.1)
   | (go_at_call 68; refine (LV.out _ X1.out.2.2).mono ?_; rintro e w2 ⟨rfl, b2⟩; clear y0 y1 y2 y3 y4 z0 z1 z2 z3 z4 z5 f0 f1 f2 f3 f4 f5 hzz; have X2 : Hid (w2.heap[w.heap.size]? = some (gBox g) /\ w2.heap[w.heap.size + 1]? = some (.cells #[.int .i64 0, .int .i64 0, .int .i64 0, .slice none 0 0, .bool false, .int .i64 0] 58 (0, 0)) /\ Below w.heap.size w w2) := ⟨blk_later X1.out.1 b2, blk_later X1.out.2.1 b2, X1.out.2.2.trans (b2.mono X1.out.2.2.size)⟩; clear b2; obtain ⟨y0, y1, y2, y3, y4⟩ := gb_cells X2.out.1; obtain ⟨⟨z0, z1, z2, z3, z4, z5⟩, ⟨f0, f1, f2, f3, f4, f5⟩, hzz⟩ := dz_cells X2.out.2.1))
  obtain ⟨q1, q2, q3⟩ := six_set X2.out.2.1 (.int .i64 0) (.int .i64 0) (.int .i64 0) (.slice none 0 0) (.bool false) (.int .i64 0)
  have q4 := q3 _ _ X2.out.2.2 (Nat.le_succ _)
  have q5 : D1 w.heap.size ((((((w2.setCell ⟨w.heap.size + 1, 0, none⟩ (.int .i64 0)).setCell ⟨w.heap.size + 1, 1, none⟩ (.int .i64 0)).setCell ⟨w.heap.size + 1, 2, none⟩ (.int .i64 0)).setCell ⟨w.heap.size + 1, 3, none⟩ (.slice none 0 0)).setCell ⟨w.heap.size + 1, 4, none⟩ (.bool false)).setCell ⟨w.heap.size + 1, 5, none⟩ (.int .i64 0)) (DV.zero) none 0 := .inl ⟨rfl, rfl, rfl⟩
  generalize ((((((w2.setCell ⟨w.heap.size + 1, 0, none⟩ (.int .i64 0)).setCell ⟨w.heap.size + 1, 1, none⟩ (.int .i64 0)).setCell ⟨w.heap.size + 1, 2, none⟩ (.int .i64 0)).setCell ⟨w.heap.size + 1, 3, none⟩ (.slice none 0 0)).setCell ⟨w.heap.size + 1, 4, none⟩ (.bool false)).setCell ⟨w.heap.size + 1, 5, none⟩ (.int .i64 0)) = W4 at *
  have r0 : W4.cell? ⟨w.heap.size + 1, 0, none⟩ = some (.int .i64 0) := (cellq_any q1).trans rfl
  have r1 : W4.cell? ⟨w.heap.size + 1, 1, none⟩ = some (.int .i64 0) := (cellq_any q1).trans rfl
  have r2 : W4.cell? ⟨w.heap.size + 1, 2, none⟩ = some (.int .i64 0) := (cellq_any q1).trans rfl
  have r3 : W4.cell? ⟨w.heap.size + 1, 3, none⟩ = some (.slice none 0 0) := (cellq_any q1).trans rfl
  have r4 : W4.cell? ⟨w.heap.size + 1, 4, none⟩ = some (.bool false) := (cellq_any q1).trans rfl
  have r5 : W4.cell? ⟨w.heap.size + 1, 5, none⟩ = some (.int .i64 0) := (cellq_any q1).trans rfl
  refine bodyPost_ret (v := .tuple #[dval (DV.zero) none 0, .int .i64 35]) (by simp [results, Tryz.results38, go_sem, r0, r1, r2, r3, r4, r5, DV.zero, noneD, redD, shiD, errD]) rfl ?_
  rw [E.out]
  exact ⟨none, 0, rfl, q5, q4⟩
set_option linter.unusedSimpArgs false in
theorem rDecide_A (g : GV) (k m : Nat) (w : World) (h : GAt 140737488355328 w g) (ok : OkC g) (hk : k < g.ps.length) (hm : m < g.ts.length) (hA : plvU g k = -1) :
  Calls Tryz.prog 38 #[g.val, .int .i64 (k : Int), .int .i64 (m : Int)] w (DcO w (decF g 0 k m)) := by
 have X0 : Hid (((w.alloc (gBox g)).alloc dZero).heap[w.heap.size]? = some (gBox g) /\ ((w.alloc (gBox g)).alloc dZero).heap[w.heap.size + 1]? = some (.cells #[.int .i64 0, .int .i64 0, .int .i64 0, .slice none 0 0, .bool false, .int .i64 0] 58 (0, 0)) /\ Below w.heap.size w ((w.alloc (gBox g)).alloc dZero)) := by
  have q := heap_alloc_new (w.alloc (gBox g)) dZero
  rw [alZ] at q
  exact ⟨blk_later (heap_alloc_new _ _) (below_alloc _ _), q, (below_alloc w _).trans ((below_alloc _ _).mono (below_alloc w _).size)⟩
 have hi : inP g (k : Int) = true := by simp [inP]; omega
 have hj : inT g (m : Int) = true := by simp [inT]; omega
 have E0 : decF g 0 k m = (decU g k (m : Int), 0) := by simp [decF, hi, hj]
 have E1 : prlF g 0 k = (plvU g k, 0) := by
  have : terF g 0 k = (ownU (g.ps.getD k .none), 0) := by simp only [terF, hi]; simp
  unfold prlF
  rw [this]
  simp [plvU]
 have E2 : levF g 0 m = (levU g.ls (m : Int), 0) := by simp [levF, hj]
 have PL : Hid (∀ w', Below w.heap.size w w' -> Calls Tryz.prog 67 #[g.val, .int .i64 (k : Int)] w' fun e w'' => e = .returned (.tuple #[.int .i64 (plvU g k), .int .i64 0]) /\ Below w'.heap.size w' w'') := fun w' hb => by
  have := rProdLevel_P g k w' (h.later hb) ok
  rwa [E1] at this
 have LV : Hid (∀ w', Below w.heap.size w w' -> Calls Tryz.prog 68 #[g.val, .int .i64 (m : Int)] w' fun e w'' => e = .returned (.tuple #[.int .i64 (levU g.ls (m : Int)), .int .i64 0]) /\ Below w'.heap.size w' w'') := fun w' hb => by
  have := rLevelOf_P g m w' (h.later hb)
  rwa [E2] at this
 obtain ⟨P, hP⟩ : ∃ P, P = plvU g k := ⟨_, rfl⟩
 obtain ⟨T, hT⟩ : ∃ T, T = levU g.ls (m : Int) := ⟨_, rfl⟩
 have E3 : decU g k (m : Int) = duelD g P T k m := by rw [hP, hT]; rfl
 have hT1 := lev_ge g.ls (m : Int)
 have hP1 : -1 <= plvU g k /\ plvU g k < g.ls.length := lev_ge g.ls _
 rw [<- hT] at hT1 LV
 try rw [<- hT] at hA
 rw [<- hP] at hP1 hA PL
 clear hT hP E1 E2
 have t0 : ((0 : Int) != 0) = false := by decide
 subst hA
 have E : Hid (decF g 0 k m = (noneD m, 0)) := by show _ = _; rw [E0, E3]; unfold duelD; rw [if_pos (.inl rfl)]
 clear E0 E3
 have t1 : ((-1 : Int) == -1) = true := by decide
 clear h ok hi hj
 go_enter Tryz.func38, Tryz.ntmps38
 go_wp2_with (first
  | (go_at_call 67; refine (PL.out _ X0.out.2.2).mono ?_; rintro e w1 ⟨rfl, b1⟩; have X1 : Hid (w1.heap[w.heap.size]? = some (gBox g) /\ w1.heap[w.heap.size + 1]? = some (.cells #[.int .i64 0, .int .i64 0, .int .i64 0, .slice none 0 0, .bool false, .int .i64 0] 58 (0, 0)) /\ Below w.heap.size w w1) := ⟨blk_later X0.out.1 b1, blk_later X0.out.2.1 b1, X0.out.2.2.trans (b1.mono X0.out.2.2.size)⟩; clear b1; obtain ⟨y0, y1, y2, y3, y4⟩ := gb_cells X1.out.1; obtain ⟨⟨z0, z1, z2, z3, z4, z5⟩, ⟨f0, f1, f2, f3, f4, f5⟩, hzz⟩ := dz_cells X1.out.2.1)
  | (go_at_call 68; refine (LV.out _ X1.out.2.2).mono ?_; rintro e w2 ⟨rfl, b2⟩; clear y0 y1 y2 y3 y4 z0 z1 z2 z3 z4 z5 f0 f1 f2 f3 f4 f5 hzz; have X2 : Hid (w2.heap[w.heap.size]? = some (gBox g) /\ w2.heap[w.heap.size + 1]? = some (.cells #[.int .i64 0, .int .i64 0, .int .i64 0, .slice none 0 0, .bool false, .int .i64 0] 58 (0, 0)) /\ Below w.heap.size w w2) := ⟨blk_later X1.out.1 b2, blk_later X1.out.2.1 b2, X1.out.2.2.trans (b2.mono X1.out.2.2.size)⟩; clear b2; obtain ⟨y0, y1, y2, y3, y4⟩ := gb_cells X2.out.1; obtain ⟨⟨z0', z1', z2', z3', z4', z5'⟩, ⟨f0', f1', f2', f3', f4', f5'⟩, hzz'⟩ := dz_cells (blk_later X2.out.2.1 (below_alloc w2 _ : Below w2.heap.size w2 (w2.alloc (.cells #[.int .i64 (m : Int), .int .i64 0, .int .i64 (-1), .slice none 0 0, .bool false, .int .i64 (-1)] 58)))); obtain ⟨y0', y1', y2', y3', y4'⟩ := gb_cells (blk_later X2.out.1 (below_alloc w2 _ : Below w2.heap.size w2 (w2.alloc (.cells #[.int .i64 (m : Int), .int .i64 0, .int .i64 (-1), .slice none 0 0, .bool false, .int .i64 (-1)] 58))))))
 obtain ⟨q1, q2, q3⟩ := six_set (blk_later X2.out.2.1 (below_alloc w2 _ : Below w2.heap.size w2 (w2.alloc (.cells #[.int .i64 (m : Int), .int .i64 0, .int .i64 (-1), .slice none 0 0, .bool false, .int .i64 (-1)] 58)))) (.int .i64 (m : Int)) (.int .i64 0) (.int .i64 (-1)) (.slice none 0 0) (.bool false) (.int .i64 (-1))
 have q4 := q3 _ _ (X2.out.2.2.trans ((below_alloc w2 _ : Below w2.heap.size w2 (w2.alloc (.cells #[.int .i64 (m : Int), .int .i64 0, .int .i64 (-1), .slice none 0 0, .bool false, .int .i64 (-1)] 58))).mono X2.out.2.2.size)) (Nat.le_succ _)
 have q5 : D1 w.heap.size (((((((w2.alloc (.cells #[.int .i64 (m : Int), .int .i64 0, .int .i64 (-1), .slice none 0 0, .bool false, .int .i64 (-1)] 58)).setCell ⟨w.heap.size + 1, 0, none⟩ (.int .i64 (m : Int))).setCell ⟨w.heap.size + 1, 1, none⟩ (.int .i64 0)).setCell ⟨w.heap.size + 1, 2, none⟩ (.int .i64 (-1))).setCell ⟨w.heap.size + 1, 3, none⟩ (.slice none 0 0)).setCell ⟨w.heap.size + 1, 4, none⟩ (.bool false)).setCell ⟨w.heap.size + 1, 5, none⟩ (.int .i64 (-1))) (noneD m) none 0 := .inl ⟨rfl, rfl, rfl⟩
 generalize (((((((w2.alloc (.cells #[.int .i64 (m : Int), .int .i64 0, .int .i64 (-1), .slice none 0 0, .bool false, .int .i64 (-1)] 58)).setCell ⟨w.heap.size + 1, 0, none⟩ (.int .i64 (m : Int))).setCell ⟨w.heap.size + 1, 1, none⟩ (.int .i64 0)).setCell ⟨w.heap.size + 1, 2, none⟩ (.int .i64 (-1))).setCell ⟨w.heap.size + 1, 3, none⟩ (.slice none 0 0)).setCell ⟨w.heap.size + 1, 4, none⟩ (.bool false)).setCell ⟨w.heap.size + 1, 5, none⟩ (.int .i64 (-1))) = W4 at *
 have r0 : W4.cell? ⟨w.heap.size + 1, 0, none⟩ = some (.int .i64 (m : Int)) := (cellq_any q1).trans rfl
 have r1 : W4.cell? ⟨w.heap.size + 1, 1, none⟩ = some (.int .i64 0) := (cellq_any q1).trans rfl
 have r2 : W4.cell? ⟨w.heap.size + 1, 2, none⟩ = some (.int .i64 (-1)) := (cellq_any q1).trans rfl
 have r3 : W4.cell? ⟨w.heap.size + 1, 3, none⟩ = some (.slice none 0 0) := (cellq_any q1).trans rfl
 have r4 : W4.cell? ⟨w.heap.size + 1, 4, none⟩ = some (.bool false) := (cellq_any q1).trans rfl
 have r5 : W4.cell? ⟨w.heap.size + 1, 5, none⟩ = some (.int .i64 (-1)) := (cellq_any q1).trans rfl
 refine bodyPost_ret (v := .tuple #[dval (noneD m) none 0, .int .i64 0]) (by simp [results, Tryz.results38, go_sem, r0, r1, r2, r3, r4, r5, DV.zero, noneD, redD, shiD, errD]) rfl ?_
 rw [E.out]
 exact ⟨none, 0, rfl, q5, q4⟩
set_option linter.unusedSimpArgs false in
theorem rDecide_C (g : GV) (k m : Nat) (w : World) (h : GAt 140737488355328 w g) (ok : OkC g) (hk : k < g.ps.length) (hm : m < g.ts.length) (hA : 0 <= plvU g k /\ levU g.ls (m : Int) = -1) :
  Calls Tryz.prog 38 #[g.val, .int .i64 (k : Int), .int .i64 (m : Int)] w (DcO w (decF g 0 k m)) := by
 have X0 : Hid (((w.alloc (gBox g)).alloc dZero).heap[w.heap.size]? = some (gBox g) /\ ((w.alloc (gBox g)).alloc dZero).heap[w.heap.size + 1]? = some (.cells #[.int .i64 0, .int .i64 0, .int .i64 0, .slice none 0 0, .bool false, .int .i64 0] 58 (0, 0)) /\ Below w.heap.size w ((w.alloc (gBox g)).alloc dZero)) := by
  have q := heap_alloc_new (w.alloc (gBox g)) dZero
  rw [alZ] at q
  exact ⟨blk_later (heap_alloc_new _ _) (below_alloc _ _), q, (below_alloc w _).trans ((below_alloc _ _).mono (below_alloc w _).size)⟩
 have hi : inP g (k : Int) = true := by simp [inP]; omega
 have hj : inT g (m : Int) = true := by simp [inT]; omega
 have E0 : decF g 0 k m = (decU g k (m : Int), 0) := by simp [decF, hi, hj]
 have E1 : prlF g 0 k = (plvU g k, 0) := by
  have : terF g 0 k = (ownU (g.ps.getD k .none), 0) := by simp only [terF, hi]; simp
  unfold prlF
  rw [this]
  simp [plvU]
 have E2 : levF g 0 m = (levU g.ls (m : Int), 0) := by simp [levF, hj]
 have PL : Hid (∀ w', Below w.heap.size w w' -> Calls Tryz.prog 67 #[g.val, .int .i64 (k : Int)] w' fun e w'' => e = .returned (.tuple #[.int .i64 (plvU g k), .int .i64 0]) /\ Below w'.heap.size w' w'') := fun w' hb => by
  have := rProdLevel_P g k w' (h.later hb) ok
  rwa [E1] at this
 have LV : Hid (∀ w', Below w.heap.size w w' -> Calls Tryz.prog 68 #[g.val, .int .i64 (m : Int)] w' fun e w'' => e = .returned (.tuple #[.int .i64 (levU g.ls (m : Int)), .int .i64 0]) /\ Below w'.heap.size w' w'') := fun w' hb => by
  have := rLevelOf_P g m w' (h.later hb)
  rwa [E2] at this
 obtain ⟨P, hP⟩ : ∃ P, P = plvU g k := ⟨_, rfl⟩
 obtain ⟨T, hT⟩ : ∃ T, T = levU g.ls (m : Int) := ⟨_, rfl⟩
 have E3 : decU g k (m : Int) = duelD g P T k m := by rw [hP, hT]; rfl
 have hT1 := lev_ge g.ls (m : Int)
 have hP1 : -1 <= plvU g k /\ plvU g k < g.ls.length := lev_ge g.ls _
 rw [<- hT] at hT1 LV
 try rw [<- hT] at hA
 rw [<- hP] at hP1 hA PL
 clear hT hP E1 E2
 have t0 : ((0 : Int) != 0) = false := by decide
 obtain ⟨hP0, rfl⟩ := hA
 have E : Hid (decF g 0 k m = (noneD m, 0)) := by show _ = _; rw [E0, E3]; unfold duelD; rw [if_pos (.inr rfl)]
 clear E0 E3
 have t1 : (P == -1) = false := by simp; omega
 have t3 : ((-1 : Int) == -1) = true := by decide
 clear h ok hi hj
 go_enter Tryz.func38, Tryz.ntmps38
 go_wp2_with (first
  | (go_at_call 67; refine (PL.out _ X0.out.2.2).mono ?_; rintro e w1 ⟨rfl, b1⟩; have X1 : Hid (w1.heap[w.heap.size]? = some (gBox g) /\ w1.heap[w.heap.size + 1]? = some (.cells #[.int .i64 0, .int .i64 0, .int .i64 0, .slice none 0 0, .bool false, .int .i64 0] 58 (0, 0)) /\ Below w.heap.size w w1) := ⟨blk_later X0.out.1 b1, blk_later X0.out.2.1 b1, X0.out.2.2.trans (b1.mono X0.out.2.2.size)⟩; clear b1; obtain ⟨y0, y1, y2, y3, y4⟩ := gb_cells X1.out.1; obtain ⟨⟨z0, z1, z2, z3, z4, z5⟩, ⟨f0, f1, f2, f3, f4, f5⟩, hzz⟩ := dz_cells X1.out.2.1)
  | (go_at_call 68; refine (LV.out _ X1.out.2.2).mono ?_; rintro e w2 ⟨rfl, b2⟩; clear y0 y1 y2 y3 y4 z0 z1 z2 z3 z4 z5 f0 f1 f2 f3 f4 f5 hzz; have X2 : Hid (w2.heap[w.heap.size]? = some (gBox g) /\ w2.heap[w.heap.size + 1]? = some (.cells #[.int .i64 0, .int .i64 0, .int .i64 0, .slice none 0 0, .bool false, .int .i64 0] 58 (0, 0)) /\ Below w.heap.size w w2) := ⟨blk_later X1.out.1 b2, blk_later X1.out.2.1 b2, X1.out.2.2.trans (b2.mono X1.out.2.2.size)⟩; clear b2; obtain ⟨y0, y1, y2, y3, y4⟩ := gb_cells X2.out.1; obtain ⟨⟨z0', z1', z2', z3', z4', z5'⟩, ⟨f0', f1', f2', f3', f4', f5'⟩, hzz'⟩ := dz_cells (blk_later X2.out.2.1 (below_alloc w2 _ : Below w2.heap.size w2 (w2.alloc (.cells #[.int .i64 (m : Int), .int .i64 0, .int .i64 (-1), .slice none 0 0, .bool false, .int .i64 (-1)] 58)))); obtain ⟨y0', y1', y2', y3', y4'⟩ := gb_cells (blk_later X2.out.1 (below_alloc w2 _ : Below w2.heap.size w2 (w2.alloc (.cells #[.int .i64 (m : Int), .int .i64 0, .int .i64 (-1), .slice none 0 0, .bool false, .int .i64 (-1)] 58))))))
 obtain ⟨q1, q2, q3⟩ := six_set (blk_later X2.out.2.1 (below_alloc w2 _ : Below w2.heap.size w2 (w2.alloc (.cells #[.int .i64 (m : Int), .int .i64 0, .int .i64 (-1), .slice none 0 0, .bool false, .int .i64 (-1)] 58)))) (.int .i64 (m : Int)) (.int .i64 0) (.int .i64 (-1)) (.slice none 0 0) (.bool false) (.int .i64 (-1))
 have q4 := q3 _ _ (X2.out.2.2.trans ((below_alloc w2 _ : Below w2.heap.size w2 (w2.alloc (.cells #[.int .i64 (m : Int), .int .i64 0, .int .i64 (-1), .slice none 0 0, .bool false, .int .i64 (-1)] 58))).mono X2.out.2.2.size)) (Nat.le_succ _)
 have q5 : D1 w.heap.size (((((((w2.alloc (.cells #[.int .i64 (m : Int), .int .i64 0, .int .i64 (-1), .slice none 0 0, .bool false, .int .i64 (-1)] 58)).setCell ⟨w.heap.size + 1, 0, none⟩ (.int .i64 (m : Int))).setCell ⟨w.heap.size + 1, 1, none⟩ (.int .i64 0)).setCell ⟨w.heap.size + 1, 2, none⟩ (.int .i64 (-1))).setCell ⟨w.heap.size + 1, 3, none⟩ (.slice none 0 0)).setCell ⟨w.heap.size + 1, 4, none⟩ (.bool false)).setCell ⟨w.heap.size + 1, 5, none⟩ (.int .i64 (-1))) (noneD m) none 0 := .inl ⟨rfl, rfl, rfl⟩
 generalize (((((((w2.alloc (.cells #[.int .i64 (m : Int), .int .i64 0, .int .i64 (-1), .slice none 0 0, .bool false, .int .i64 (-1)] 58)).setCell ⟨w.heap.size + 1, 0, none⟩ (.int .i64 (m : Int))).setCell ⟨w.heap.size + 1, 1, none⟩ (.int .i64 0)).setCell ⟨w.heap.size + 1, 2, none⟩ (.int .i64 (-1))).setCell ⟨w.heap.size + 1, 3, none⟩ (.slice none 0 0)).setCell ⟨w.heap.size + 1, 4, none⟩ (.bool false)).setCell ⟨w.heap.size + 1, 5, none⟩ (.int .i64 (-1))) = W4 at *
 have r0 : W4.cell? ⟨w.heap.size + 1, 0, none⟩ = some (.int .i64 (m : Int)) := (cellq_any q1).trans rfl
 have r1 : W4.cell? ⟨w.heap.size + 1, 1, none⟩ = some (.int .i64 0) := (cellq_any q1).trans rfl
 have r2 : W4.cell? ⟨w.heap.size + 1, 2, none⟩ = some (.int .i64 (-1)) := (cellq_any q1).trans rfl
 have r3 : W4.cell? ⟨w.heap.size + 1, 3, none⟩ = some (.slice none 0 0) := (cellq_any q1).trans rfl
 have r4 : W4.cell? ⟨w.heap.size + 1, 4, none⟩ = some (.bool false) := (cellq_any q1).trans rfl
 have r5 : W4.cell? ⟨w.heap.size + 1, 5, none⟩ = some (.int .i64 (-1)) := (cellq_any q1).trans rfl
 refine bodyPost_ret (v := .tuple #[dval (noneD m) none 0, .int .i64 0]) (by simp [results, Tryz.results38, go_sem, r0, r1, r2, r3, r4, r5, DV.zero, noneD, redD, shiD, errD]) rfl ?_
 rw [E.out]
 exact ⟨none, 0, rfl, q5, q4⟩
set_option linter.unusedSimpArgs false in
theorem rDecide_D (g : GV) (k m : Nat) (w : World) (h : GAt 140737488355328 w g) (ok : OkC g) (hk : k < g.ps.length) (hm : m < g.ts.length) (hA : 0 <= levU g.ls (m : Int) /\ levU g.ls (m : Int) < plvU g k) :
  Calls Tryz.prog 38 #[g.val, .int .i64 (k : Int), .int .i64 (m : Int)] w (DcO w (decF g 0 k m)) := by
 have X0 : Hid (((w.alloc (gBox g)).alloc dZero).heap[w.heap.size]? = some (gBox g) /\ ((w.alloc (gBox g)).alloc dZero).heap[w.heap.size + 1]? = some (.cells #[.int .i64 0, .int .i64 0, .int .i64 0, .slice none 0 0, .bool false, .int .i64 0] 58 (0, 0)) /\ Below w.heap.size w ((w.alloc (gBox g)).alloc dZero)) := by
  have q := heap_alloc_new (w.alloc (gBox g)) dZero
  rw [alZ] at q
  exact ⟨blk_later (heap_alloc_new _ _) (below_alloc _ _), q, (below_alloc w _).trans ((below_alloc _ _).mono (below_alloc w _).size)⟩
 have hi : inP g (k : Int) = true := by simp [inP]; omega
 have hj : inT g (m : Int) = true := by simp [inT]; omega
 have E0 : decF g 0 k m = (decU g k (m : Int), 0) := by simp [decF, hi, hj]
 have E1 : prlF g 0 k = (plvU g k, 0) := by
  have : terF g 0 k = (ownU (g.ps.getD k .none), 0) := by simp only [terF, hi]; simp
  unfold prlF
  rw [this]
  simp [plvU]
 have E2 : levF g 0 m = (levU g.ls (m : Int), 0) := by simp [levF, hj]
 have PL : Hid (∀ w', Below w.heap.size w w' -> Calls Tryz.prog 67 #[g.val, .int .i64 (k : Int)] w' fun e w'' => e = .returned (.tuple #[.int .i64 (plvU g k), .int .i64 0]) /\ Below w'.heap.size w' w'') := fun w' hb => by
  have := rProdLevel_P g k w' (h.later hb) ok
  rwa [E1] at this
 have LV : Hid (∀ w', Below w.heap.size w w' -> Calls Tryz.prog 68 #[g.val, .int .i64 (m : Int)] w' fun e w'' => e = .returned (.tuple #[.int .i64 (levU g.ls (m : Int)), .int .i64 0]) /\ Below w'.heap.size w' w'') := fun w' hb => by
  have := rLevelOf_P g m w' (h.later hb)
  rwa [E2] at this
 obtain ⟨P, hP⟩ : ∃ P, P = plvU g k := ⟨_, rfl⟩
 obtain ⟨T, hT⟩ : ∃ T, T = levU g.ls (m : Int) := ⟨_, rfl⟩
 have E3 : decU g k (m : Int) = duelD g P T k m := by rw [hP, hT]; rfl
 have hT1 := lev_ge g.ls (m : Int)
 have hP1 : -1 <= plvU g k /\ plvU g k < g.ls.length := lev_ge g.ls _
 rw [<- hT] at hT1 LV
 try rw [<- hT] at hA
 rw [<- hP] at hP1 hA PL
 clear hT hP E1 E2
 have t0 : ((0 : Int) != 0) = false := by decide
 obtain ⟨hT0, hTP⟩ := hA
 have E : Hid (decF g 0 k m = (redD k m P, 0)) := by show _ = _; rw [E0, E3]; unfold duelD; rw [if_neg (by omega), if_pos hTP]
 clear E0 E3
 have t1 : (P == -1) = false := by simp; omega
 have t3 : (T == -1) = false := by simp; omega
 have t6 : (P == T) = false := by simp; omega
 have t7 : ¬ P < T := by omega
 clear h ok hi hj
 go_enter Tryz.func38, Tryz.ntmps38
 go_wp2_with (first
  | (go_at_call 67; refine (PL.out _ X0.out.2.2).mono ?_; rintro e w1 ⟨rfl, b1⟩; have X1 : Hid (w1.heap[w.heap.size]? = some (gBox g) /\ w1.heap[w.heap.size + 1]? = some (.cells #[.int .i64 0, .int .i64 0, .int .i64 0, .slice none 0 0, .bool false, .int .i64 0] 58 (0, 0)) /\ Below w.heap.size w w1) := ⟨blk_later X0.out.1 b1, blk_later X0.out.2.1 b1, X0.out.2.2.trans (b1.mono X0.out.2.2.size)⟩; clear b1; obtain ⟨y0, y1, y2, y3, y4⟩ := gb_cells X1.out.1; obtain ⟨⟨z0, z1, z2, z3, z4, z5⟩, ⟨f0, f1, f2, f3, f4, f5⟩, hzz⟩ := dz_cells X1.out.2.1)
  | (go_at_call 68; refine (LV.out _ X1.out.2.2).mono ?_; rintro e w2 ⟨rfl, b2⟩; clear y0 y1 y2 y3 y4 z0 z1 z2 z3 z4 z5 f0 f1 f2 f3 f4 f5 hzz; have X2 : Hid (w2.heap[w.heap.size]? = some (gBox g) /\ w2.heap[w.heap.size + 1]? = some (.cells #[.int .i64 0, .int .i64 0, .int .i64 0, .slice none 0 0, .bool false, .int .i64 0] 58 (0, 0)) /\ Below w.heap.size w w2) := ⟨blk_later X1.out.1 b2, blk_later X1.out.2.1 b2, X1.out.2.2.trans (b2.mono X1.out.2.2.size)⟩; clear b2; obtain ⟨y0, y1, y2, y3, y4⟩ := gb_cells X2.out.1; obtain ⟨⟨z0', z1', z2', z3', z4', z5'⟩, ⟨f0', f1', f2', f3', f4', f5'⟩, hzz'⟩ := dz_cells (blk_later X2.out.2.1 (below_alloc w2 _ : Below w2.heap.size w2 (w2.alloc (.cells #[.int .i64 (m : Int), .int .i64 2, .int .i64 (k : Int), .slice none 0 0, .bool true, .int .i64 P] 58)))); obtain ⟨y0', y1', y2', y3', y4'⟩ := gb_cells (blk_later X2.out.1 (below_alloc w2 _ : Below w2.heap.size w2 (w2.alloc (.cells #[.int .i64 (m : Int), .int .i64 0, .int .i64 (-1), .slice none 0 0, .bool false, .int .i64 (-1)] 58))))))
 obtain ⟨q1, q2, q3⟩ := six_set (blk_later X2.out.2.1 (below_alloc w2 _ : Below w2.heap.size w2 (w2.alloc (.cells #[.int .i64 (m : Int), .int .i64 2, .int .i64 (k : Int), .slice none 0 0, .bool true, .int .i64 P] 58)))) (.int .i64 (m : Int)) (.int .i64 2) (.int .i64 (k : Int)) (.slice none 0 0) (.bool true) (.int .i64 P)
 have q4 := q3 _ _ (X2.out.2.2.trans ((below_alloc w2 _ : Below w2.heap.size w2 (w2.alloc (.cells #[.int .i64 (m : Int), .int .i64 2, .int .i64 (k : Int), .slice none 0 0, .bool true, .int .i64 P] 58))).mono X2.out.2.2.size)) (Nat.le_succ _)
 have q5 : D1 w.heap.size (((((((w2.alloc (.cells #[.int .i64 (m : Int), .int .i64 2, .int .i64 (k : Int), .slice none 0 0, .bool true, .int .i64 P] 58)).setCell ⟨w.heap.size + 1, 0, none⟩ (.int .i64 (m : Int))).setCell ⟨w.heap.size + 1, 1, none⟩ (.int .i64 2)).setCell ⟨w.heap.size + 1, 2, none⟩ (.int .i64 (k : Int))).setCell ⟨w.heap.size + 1, 3, none⟩ (.slice none 0 0)).setCell ⟨w.heap.size + 1, 4, none⟩ (.bool true)).setCell ⟨w.heap.size + 1, 5, none⟩ (.int .i64 P)) (redD k m P) none 0 := .inl ⟨rfl, rfl, rfl⟩
 generalize (((((((w2.alloc (.cells #[.int .i64 (m : Int), .int .i64 2, .int .i64 (k : Int), .slice none 0 0, .bool true, .int .i64 P] 58)).setCell ⟨w.heap.size + 1, 0, none⟩ (.int .i64 (m : Int))).setCell ⟨w.heap.size + 1, 1, none⟩ (.int .i64 2)).setCell ⟨w.heap.size + 1, 2, none⟩ (.int .i64 (k : Int))).setCell ⟨w.heap.size + 1, 3, none⟩ (.slice none 0 0)).setCell ⟨w.heap.size + 1, 4, none⟩ (.bool true)).setCell ⟨w.heap.size + 1, 5, none⟩ (.int .i64 P)) = W4 at *
 have r0 : W4.cell? ⟨w.heap.size + 1, 0, none⟩ = some (.int .i64 (m : Int)) := (cellq_any q1).trans rfl
 have r1 : W4.cell? ⟨w.heap.size + 1, 1, none⟩ = some (.int .i64 2) := (cellq_any q1).trans rfl
 have r2 : W4.cell? ⟨w.heap.size + 1, 2, none⟩ = some (.int .i64 (k : Int)) := (cellq_any q1).trans rfl
 have r3 : W4.cell? ⟨w.heap.size + 1, 3, none⟩ = some (.slice none 0 0) := (cellq_any q1).trans rfl
 have r4 : W4.cell? ⟨w.heap.size + 1, 4, none⟩ = some (.bool true) := (cellq_any q1).trans rfl
 have r5 : W4.cell? ⟨w.heap.size + 1, 5, none⟩ = some (.int .i64 P) := (cellq_any q1).trans rfl
 refine bodyPost_ret (v := .tuple #[dval (redD k m P) none 0, .int .i64 0]) (by simp [results, Tryz.results38, go_sem, r0, r1, r2, r3, r4, r5, DV.zero, noneD, redD, shiD, errD]) rfl ?_
 rw [E.out]
 exact ⟨none, 0, rfl, q5, q4⟩
set_option linter.unusedSimpArgs false in
theorem rDecide_E (g : GV) (k m : Nat) (w : World) (h : GAt 140737488355328 w g) (ok : OkC g) (hk : k < g.ps.length) (hm : m < g.ts.length) (hA : 0 <= plvU g k /\ plvU g k < levU g.ls (m : Int)) :
  Calls Tryz.prog 38 #[g.val, .int .i64 (k : Int), .int .i64 (m : Int)] w (DcO w (decF g 0 k m)) := by
 have X0 : Hid (((w.alloc (gBox g)).alloc dZero).heap[w.heap.size]? = some (gBox g) /\ ((w.alloc (gBox g)).alloc dZero).heap[w.heap.size + 1]? = some (.cells #[.int .i64 0, .int .i64 0, .int .i64 0, .slice none 0 0, .bool false, .int .i64 0] 58 (0, 0)) /\ Below w.heap.size w ((w.alloc (gBox g)).alloc dZero)) := by
  have q := heap_alloc_new (w.alloc (gBox g)) dZero
  rw [alZ] at q
  exact ⟨blk_later (heap_alloc_new _ _) (below_alloc _ _), q, (below_alloc w _).trans ((below_alloc _ _).mono (below_alloc w _).size)⟩
 have hi : inP g (k : Int) = true := by simp [inP]; omega
 have hj : inT g (m : Int) = true := by simp [inT]; omega
 have E0 : decF g 0 k m = (decU g k (m : Int), 0) := by simp [decF, hi, hj]
 have E1 : prlF g 0 k = (plvU g k, 0) := by
  have : terF g 0 k = (ownU (g.ps.getD k .none), 0) := by simp only [terF, hi]; simp
  unfold prlF
  rw [this]
  simp [plvU]
 have E2 : levF g 0 m = (levU g.ls (m : Int), 0) := by simp [levF, hj]
 have PL : Hid (∀ w', Below w.heap.size w w' -> Calls Tryz.prog 67 #[g.val, .int .i64 (k : Int)] w' fun e w'' => e = .returned (.tuple #[.int .i64 (plvU g k), .int .i64 0]) /\ Below w'.heap.size w' w'') := fun w' hb => by
  have := rProdLevel_P g k w' (h.later hb) ok
  rwa [E1] at this
 have LV : Hid (∀ w', Below w.heap.size w w' -> Calls Tryz.prog 68 #[g.val, .int .i64 (m : Int)] w' fun e w'' => e = .returned (.tuple #[.int .i64 (levU g.ls (m : Int)), .int .i64 0]) /\ Below w'.heap.size w' w'') := fun w' hb => by
  have := rLevelOf_P g m w' (h.later hb)
  rwa [E2] at this
 obtain ⟨P, hP⟩ : ∃ P, P = plvU g k := ⟨_, rfl⟩
 obtain ⟨T, hT⟩ : ∃ T, T = levU g.ls (m : Int) := ⟨_, rfl⟩
 have E3 : decU g k (m : Int) = duelD g P T k m := by rw [hP, hT]; rfl
 have hT1 := lev_ge g.ls (m : Int)
 have hP1 : -1 <= plvU g k /\ plvU g k < g.ls.length := lev_ge g.ls _
 rw [<- hT] at hT1 LV
 try rw [<- hT] at hA
 rw [<- hP] at hP1 hA PL
 clear hT hP E1 E2
 have t0 : ((0 : Int) != 0) = false := by decide
 obtain ⟨hP0, hTP⟩ := hA
 have E : Hid (decF g 0 k m = (shiD k m T, 0)) := by show _ = _; rw [E0, E3]; unfold duelD; rw [if_neg (by omega), if_neg (by omega), if_pos hTP]
 clear E0 E3
 have t1 : (P == -1) = false := by simp; omega
 have t3 : (T == -1) = false := by simp; omega
 have t6 : (P == T) = false := by simp; omega
 have t7 : ¬ T < P := by omega
 clear h ok hi hj
 go_enter Tryz.func38, Tryz.ntmps38
 go_wp2_with (first
  | (go_at_call 67; refine (PL.out _ X0.out.2.2).mono ?_; rintro e w1 ⟨rfl, b1⟩; have X1 : Hid (w1.heap[w.heap.size]? = some (gBox g) /\ w1.heap[w.heap.size + 1]? = some (.cells #[.int .i64 0, .int .i64 0, .int .i64 0, .slice none 0 0, .bool false, .int .i64 0] 58 (0, 0)) /\ Below w.heap.size w w1) := ⟨blk_later X0.out.1 b1, blk_later X0.out.2.1 b1, X0.out.2.2.trans (b1.mono X0.out.2.2.size)⟩; clear b1; obtain ⟨y0, y1, y2, y3, y4⟩ := gb_cells X1.out.1; obtain ⟨⟨z0, z1, z2, z3, z4, z5⟩, ⟨f0, f1, f2, f3, f4, f5⟩, hzz⟩ := dz_cells X1.out.2.1)
  | (go_at_call 68; refine (LV.out _ X1.out.2.2).mono ?_; rintro e w2 ⟨rfl, b2⟩; clear y0 y1 y2 y3 y4 z0 z1 z2 z3 z4 z5 f0 f1 f2 f3 f4 f5 hzz; have X2 : Hid (w2.heap[w.heap.size]? = some (gBox g) /\ w2.heap[w.heap.size + 1]? = some (.cells #[.int .i64 0, .int .i64 0, .int .i64 0, .slice none 0 0, .bool false, .int .i64 0] 58 (0, 0)) /\ Below w.heap.size w w2) := ⟨blk_later X1.out.1 b2, blk_later X1.out.2.1 b2, X1.out.2.2.trans (b2.mono X1.out.2.2.size)⟩; clear b2; obtain ⟨y0, y1, y2, y3, y4⟩ := gb_cells X2.out.1; obtain ⟨⟨z0', z1', z2', z3', z4', z5'⟩, ⟨f0', f1', f2', f3', f4', f5'⟩, hzz'⟩ := dz_cells (blk_later X2.out.2.1 ((below_alloc w2 _).trans ((below_alloc _ _).mono (below_alloc w2 _).size) : Below w2.heap.size w2 ((w2.alloc (.cells #[.int .i64 (m : Int), .int .i64 1, .int .i64 (-1), .slice (some ⟨w2.heap.size + 1, 0, none⟩) 1 1, .bool false, .int .i64 T] 58)).alloc (.cells #[.int .i64 (k : Int)] 3)))); obtain ⟨y0', y1', y2', y3', y4'⟩ := gb_cells (blk_later X2.out.1 (below_alloc w2 _ : Below w2.heap.size w2 (w2.alloc (.cells #[.int .i64 (m : Int), .int .i64 0, .int .i64 (-1), .slice none 0 0, .bool false, .int .i64 (-1)] 58))))))
 obtain ⟨q1, q2, q3⟩ := six_set (blk_later X2.out.2.1 ((below_alloc w2 _).trans ((below_alloc _ _).mono (below_alloc w2 _).size) : Below w2.heap.size w2 ((w2.alloc (.cells #[.int .i64 (m : Int), .int .i64 1, .int .i64 (-1), .slice (some ⟨w2.heap.size + 1, 0, none⟩) 1 1, .bool false, .int .i64 T] 58)).alloc (.cells #[.int .i64 (k : Int)] 3)))) (.int .i64 (m : Int)) (.int .i64 1) (.int .i64 (-1)) (.slice (some ⟨w2.heap.size + 1, 0, none⟩) 1 1) (.bool false) (.int .i64 T)
 have q4 := q3 _ _ (X2.out.2.2.trans (((below_alloc w2 _).trans ((below_alloc _ _).mono (below_alloc w2 _).size) : Below w2.heap.size w2 ((w2.alloc (.cells #[.int .i64 (m : Int), .int .i64 1, .int .i64 (-1), .slice (some ⟨w2.heap.size + 1, 0, none⟩) 1 1, .bool false, .int .i64 T] 58)).alloc (.cells #[.int .i64 (k : Int)] 3))).mono X2.out.2.2.size)) (Nat.le_succ _)
 have q5 : D1 w.heap.size ((((((((w2.alloc (.cells #[.int .i64 (m : Int), .int .i64 1, .int .i64 (-1), .slice (some ⟨w2.heap.size + 1, 0, none⟩) 1 1, .bool false, .int .i64 T] 58)).alloc (.cells #[.int .i64 (k : Int)] 3)).setCell ⟨w.heap.size + 1, 0, none⟩ (.int .i64 (m : Int))).setCell ⟨w.heap.size + 1, 1, none⟩ (.int .i64 1)).setCell ⟨w.heap.size + 1, 2, none⟩ (.int .i64 (-1))).setCell ⟨w.heap.size + 1, 3, none⟩ (.slice (some ⟨w2.heap.size + 1, 0, none⟩) 1 1)).setCell ⟨w.heap.size + 1, 4, none⟩ (.bool false)).setCell ⟨w.heap.size + 1, 5, none⟩ (.int .i64 T)) (shiD k m T) (some ⟨w2.heap.size + 1, 0, none⟩) 1 := .inr ⟨w2.heap.size + 1, (k : Int), by have := lt_of_block X2.out.2.1; omega, rfl, rfl, rfl, (q2 _ (by have := lt_of_block X2.out.2.1; omega)).trans (by have := heap_alloc_new (w2.alloc (.cells #[.int .i64 (m : Int), .int .i64 1, .int .i64 (-1), .slice (some ⟨w2.heap.size + 1, 0, none⟩) 1 1, .bool false, .int .i64 T] 58)) (.cells #[.int .i64 (k : Int)] 3); rwa [alZ] at this)⟩
 generalize ((((((((w2.alloc (.cells #[.int .i64 (m : Int), .int .i64 1, .int .i64 (-1), .slice (some ⟨w2.heap.size + 1, 0, none⟩) 1 1, .bool false, .int .i64 T] 58)).alloc (.cells #[.int .i64 (k : Int)] 3)).setCell ⟨w.heap.size + 1, 0, none⟩ (.int .i64 (m : Int))).setCell ⟨w.heap.size + 1, 1, none⟩ (.int .i64 1)).setCell ⟨w.heap.size + 1, 2, none⟩ (.int .i64 (-1))).setCell ⟨w.heap.size + 1, 3, none⟩ (.slice (some ⟨w2.heap.size + 1, 0, none⟩) 1 1)).setCell ⟨w.heap.size + 1, 4, none⟩ (.bool false)).setCell ⟨w.heap.size + 1, 5, none⟩ (.int .i64 T)) = W4 at *
 have r0 : W4.cell? ⟨w.heap.size + 1, 0, none⟩ = some (.int .i64 (m : Int)) := (cellq_any q1).trans rfl
 have r1 : W4.cell? ⟨w.heap.size + 1, 1, none⟩ = some (.int .i64 1) := (cellq_any q1).trans rfl
 have r2 : W4.cell? ⟨w.heap.size + 1, 2, none⟩ = some (.int .i64 (-1)) := (cellq_any q1).trans rfl
 have r3 : W4.cell? ⟨w.heap.size + 1, 3, none⟩ = some (.slice (some ⟨w2.heap.size + 1, 0, none⟩) 1 1) := (cellq_any q1).trans rfl
 have r4 : W4.cell? ⟨w.heap.size + 1, 4, none⟩ = some (.bool false) := (cellq_any q1).trans rfl
 have r5 : W4.cell? ⟨w.heap.size + 1, 5, none⟩ = some (.int .i64 T) := (cellq_any q1).trans rfl
 refine bodyPost_ret (v := .tuple #[dval (shiD k m T) (some ⟨w2.heap.size + 1, 0, none⟩) 1, .int .i64 0]) (by simp [results, Tryz.results38, go_sem, r0, r1, r2, r3, r4, r5, DV.zero, noneD, redD, shiD, errD]) rfl ?_
 rw [E.out]
 exact ⟨(some ⟨w2.heap.size + 1, 0, none⟩), 1, rfl, q5, q4⟩
end Go.Proofs.YtjpknihkcndoiaaGreat
namespace Go.Proofs.YtjpknihkcndoiaaGreat
set_option linter.unusedVariables false
set_option maxRecDepth 100000
set_option maxHeartbeats 16000000
open Go.RowKit Go.Maps
set_option linter.unusedSimpArgs false in
theorem rDecide_F (g : GV) (k m : Nat) (w : World) (h : GAt 140737488355328 w g) (ok : OkC g) (hk : k < g.ps.length) (hm : m < g.ts.length) (hA : plvU g k = levU g.ls (m : Int) /\ 0 <= levU g.ls (m : Int) /\ (g.ls.getD (plvU g k).toNat .none).assoc = 1) :
  Calls Tryz.prog 38 #[g.val, .int .i64 (k : Int), .int .i64 (m : Int)] w (DcO w (decF g 0 k m)) := by
 have X0 : Hid (((w.alloc (gBox g)).alloc dZero).heap[w.heap.size]? = some (gBox g) /\ ((w.alloc (gBox g)).alloc dZero).heap[w.heap.size + 1]? = some (.cells #[.int .i64 0, .int .i64 0, .int .i64 0, .slice none 0 0, .bool false, .int .i64 0] 58 (0, 0)) /\ Below w.heap.size w ((w.alloc (gBox g)).alloc dZero)) := by
  have q := heap_alloc_new (w.alloc (gBox g)) dZero
  rw [alZ] at q
  exact ⟨blk_later (heap_alloc_new _ _) (below_alloc _ _), q, (below_alloc w _).trans ((below_alloc _ _).mono (below_alloc w _).size)⟩
 have hi : inP g (k : Int) = true := by simp [inP]; omega
 have hj : inT g (m : Int) = true := by simp [inT]; omega
 have E0 : decF g 0 k m = (decU g k (m : Int), 0) := by simp [decF, hi, hj]
 have E1 : prlF g 0 k = (plvU g k, 0) := by
  have : terF g 0 k = (ownU (g.ps.getD k .none), 0) := by simp only [terF, hi]; simp
  unfold prlF
  rw [this]
  simp [plvU]
 have E2 : levF g 0 m = (levU g.ls (m : Int), 0) := by simp [levF, hj]
 have PL : Hid (∀ w', Below w.heap.size w w' -> Calls Tryz.prog 67 #[g.val, .int .i64 (k : Int)] w' fun e w'' => e = .returned (.tuple #[.int .i64 (plvU g k), .int .i64 0]) /\ Below w'.heap.size w' w'') := fun w' hb => by
  have := rProdLevel_P g k w' (h.later hb) ok
  rwa [E1] at this
 have LV : Hid (∀ w', Below w.heap.size w w' -> Calls Tryz.prog 68 #[g.val, .int .i64 (m : Int)] w' fun e w'' => e = .returned (.tuple #[.int .i64 (levU g.ls (m : Int)), .int .i64 0]) /\ Below w'.heap.size w' w'') := fun w' hb => by
  have := rLevelOf_P g m w' (h.later hb)
  rwa [E2] at this
 obtain ⟨P, hP⟩ : ∃ P, P = plvU g k := ⟨_, rfl⟩
 obtain ⟨T, hT⟩ : ∃ T, T = levU g.ls (m : Int) := ⟨_, rfl⟩
 have E3 : decU g k (m : Int) = duelD g P T k m := by rw [hP, hT]; rfl
 have hT1 := lev_ge g.ls (m : Int)
 have hP1 : -1 <= plvU g k /\ plvU g k < g.ls.length := lev_ge g.ls _
 rw [<- hT] at hT1 LV
 try rw [<- hT] at hA
 rw [<- hP] at hP1 hA PL
 clear hT hP E1 E2
 have t0 : ((0 : Int) != 0) = false := by decide
 obtain ⟨hPT, hP0, ha⟩ := hA
 obtain ⟨K, rfl⟩ : ∃ K : Nat, P = (K : Int) := ⟨P.toNat, by omega⟩
 subst hPT
 have hK : K < g.ls.length := by omega
 have hll := ok.ll
 rw [Int.toNat_natCast] at ha
 have E : Hid (decF g 0 k m = (redD k m (K : Int), 0)) := by show _ = _; rw [E0, E3]; unfold duelD; rw [if_neg (by omega), if_neg (by omega), if_neg (by omega), Int.toNat_natCast, ha]; rfl
 clear E0 E3
 have t1 : ((K : Int) == -1) = false := by simp
 have t2 : ¬ (K : Int) < (K : Int) := by omega
 have t6 : ((K : Int) == (K : Int)) = true := by simp
 have t8 : ((1 : Int) == 2) = false := by decide
 have t9 : ((2 : Int) == 1) = false := by decide
 have t10 : ((3 : Int) == 1) = false := by decide
 have t11 : ((3 : Int) == 2) = false := by decide
 obtain ⟨lb, lo, hla, hlb, hlc⟩ := h.l.cells (by intro e; rw [e] at hK; simp at hK)
 have cl := (hlc K hK).1
 rw [ha] at cl
 have HX : Hid (∀ w', Below w.heap.size w w' -> w'.cell? ⟨lb, lo + K * 2, none⟩ = some (.int .i64 1) /\ g.la = some ⟨lb, lo, none⟩) := fun w' b => ⟨(b.cell (p := ⟨lb, lo + K * 2, none⟩) hlb).trans cl, hla⟩
 clear hlc cl ha hla
 clear h ok hi hj
 go_enter Tryz.func38, Tryz.ntmps38
 go_wp2_with (first
  | (go_at_call 67; refine (PL.out _ X0.out.2.2).mono ?_; rintro e w1 ⟨rfl, b1⟩; have X1 : Hid (w1.heap[w.heap.size]? = some (gBox g) /\ w1.heap[w.heap.size + 1]? = some (.cells #[.int .i64 0, .int .i64 0, .int .i64 0, .slice none 0 0, .bool false, .int .i64 0] 58 (0, 0)) /\ Below w.heap.size w w1) := ⟨blk_later X0.out.1 b1, blk_later X0.out.2.1 b1, X0.out.2.2.trans (b1.mono X0.out.2.2.size)⟩; clear b1; obtain ⟨y0, y1, y2, y3, y4⟩ := gb_cells X1.out.1; obtain ⟨⟨z0, z1, z2, z3, z4, z5⟩, ⟨f0, f1, f2, f3, f4, f5⟩, hzz⟩ := dz_cells X1.out.2.1)
  | (go_at_call 68; refine (LV.out _ X1.out.2.2).mono ?_; rintro e w2 ⟨rfl, b2⟩; clear y0 y1 y2 y3 y4 z0 z1 z2 z3 z4 z5 f0 f1 f2 f3 f4 f5 hzz; have X2 : Hid (w2.heap[w.heap.size]? = some (gBox g) /\ w2.heap[w.heap.size + 1]? = some (.cells #[.int .i64 0, .int .i64 0, .int .i64 0, .slice none 0 0, .bool false, .int .i64 0] 58 (0, 0)) /\ Below w.heap.size w w2) := ⟨blk_later X1.out.1 b2, blk_later X1.out.2.1 b2, X1.out.2.2.trans (b2.mono X1.out.2.2.size)⟩; clear b2; obtain ⟨y0, y1, y2, y3, y4⟩ := gb_cells X2.out.1; obtain ⟨⟨z0', z1', z2', z3', z4', z5'⟩, ⟨f0', f1', f2', f3', f4', f5'⟩, hzz'⟩ := dz_cells (blk_later X2.out.2.1 (below_alloc w2 _ : Below w2.heap.size w2 (w2.alloc (.cells #[.int .i64 (m : Int), .int .i64 2, .int .i64 (k : Int), .slice none 0 0, .bool true, .int .i64 (K : Int)] 58)))); obtain ⟨y0', y1', y2', y3', y4'⟩ := gb_cells (blk_later X2.out.1 (below_alloc w2 _ : Below w2.heap.size w2 (w2.alloc (.cells #[.int .i64 (m : Int), .int .i64 0, .int .i64 (-1), .slice none 0 0, .bool false, .int .i64 (-1)] 58)))); obtain ⟨cl, hla⟩ := HX.out _ (X2.out.2.2.trans ((below_alloc w2 (.cells #[.int .i64 (m : Int), .int .i64 0, .int .i64 (-1), .slice none 0 0, .bool false, .int .i64 (-1)] 58)).mono X2.out.2.2.size)); rw [hla] at y4'))
 obtain ⟨q1, q2, q3⟩ := six_set (blk_later X2.out.2.1 (below_alloc w2 _ : Below w2.heap.size w2 (w2.alloc (.cells #[.int .i64 (m : Int), .int .i64 2, .int .i64 (k : Int), .slice none 0 0, .bool true, .int .i64 (K : Int)] 58)))) (.int .i64 (m : Int)) (.int .i64 2) (.int .i64 (k : Int)) (.slice none 0 0) (.bool true) (.int .i64 (K : Int))
 have q4 := q3 _ _ (X2.out.2.2.trans ((below_alloc w2 _ : Below w2.heap.size w2 (w2.alloc (.cells #[.int .i64 (m : Int), .int .i64 2, .int .i64 (k : Int), .slice none 0 0, .bool true, .int .i64 (K : Int)] 58))).mono X2.out.2.2.size)) (Nat.le_succ _)
 have q5 : D1 w.heap.size (((((((w2.alloc (.cells #[.int .i64 (m : Int), .int .i64 2, .int .i64 (k : Int), .slice none 0 0, .bool true, .int .i64 (K : Int)] 58)).setCell ⟨w.heap.size + 1, 0, none⟩ (.int .i64 (m : Int))).setCell ⟨w.heap.size + 1, 1, none⟩ (.int .i64 2)).setCell ⟨w.heap.size + 1, 2, none⟩ (.int .i64 (k : Int))).setCell ⟨w.heap.size + 1, 3, none⟩ (.slice none 0 0)).setCell ⟨w.heap.size + 1, 4, none⟩ (.bool true)).setCell ⟨w.heap.size + 1, 5, none⟩ (.int .i64 (K : Int))) (redD k m (K : Int)) none 0 := .inl ⟨rfl, rfl, rfl⟩
 generalize (((((((w2.alloc (.cells #[.int .i64 (m : Int), .int .i64 2, .int .i64 (k : Int), .slice none 0 0, .bool true, .int .i64 (K : Int)] 58)).setCell ⟨w.heap.size + 1, 0, none⟩ (.int .i64 (m : Int))).setCell ⟨w.heap.size + 1, 1, none⟩ (.int .i64 2)).setCell ⟨w.heap.size + 1, 2, none⟩ (.int .i64 (k : Int))).setCell ⟨w.heap.size + 1, 3, none⟩ (.slice none 0 0)).setCell ⟨w.heap.size + 1, 4, none⟩ (.bool true)).setCell ⟨w.heap.size + 1, 5, none⟩ (.int .i64 (K : Int))) = W4 at *
 have r0 : W4.cell? ⟨w.heap.size + 1, 0, none⟩ = some (.int .i64 (m : Int)) := (cellq_any q1).trans rfl
 have r1 : W4.cell? ⟨w.heap.size + 1, 1, none⟩ = some (.int .i64 2) := (cellq_any q1).trans rfl
 have r2 : W4.cell? ⟨w.heap.size + 1, 2, none⟩ = some (.int .i64 (k : Int)) := (cellq_any q1).trans rfl
 have r3 : W4.cell? ⟨w.heap.size + 1, 3, none⟩ = some (.slice none 0 0) := (cellq_any q1).trans rfl
 have r4 : W4.cell? ⟨w.heap.size + 1, 4, none⟩ = some (.bool true) := (cellq_any q1).trans rfl
 have r5 : W4.cell? ⟨w.heap.size + 1, 5, none⟩ = some (.int .i64 (K : Int)) := (cellq_any q1).trans rfl
 refine bodyPost_ret (v := .tuple #[dval (redD k m (K : Int)) none 0, .int .i64 0]) (by simp [results, Tryz.results38, go_sem, r0, r1, r2, r3, r4, r5, DV.zero, noneD, redD, shiD, errD]) rfl ?_
 rw [E.out]
 exact ⟨none, 0, rfl, q5, q4⟩
set_option linter.unusedSimpArgs false in
theorem rDecide_G (g : GV) (k m : Nat) (w : World) (h : GAt 140737488355328 w g) (ok : OkC g) (hk : k < g.ps.length) (hm : m < g.ts.length) (hA : plvU g k = levU g.ls (m : Int) /\ 0 <= levU g.ls (m : Int) /\ (g.ls.getD (plvU g k).toNat .none).assoc = 2) :
  Calls Tryz.prog 38 #[g.val, .int .i64 (k : Int), .int .i64 (m : Int)] w (DcO w (decF g 0 k m)) := by
 have X0 : Hid (((w.alloc (gBox g)).alloc dZero).heap[w.heap.size]? = some (gBox g) /\ ((w.alloc (gBox g)).alloc dZero).heap[w.heap.size + 1]? = some (.cells #[.int .i64 0, .int .i64 0, .int .i64 0, .slice none 0 0, .bool false, .int .i64 0] 58 (0, 0)) /\ Below w.heap.size w ((w.alloc (gBox g)).alloc dZero)) := by
  have q := heap_alloc_new (w.alloc (gBox g)) dZero
  rw [alZ] at q
  exact ⟨blk_later (heap_alloc_new _ _) (below_alloc _ _), q, (below_alloc w _).trans ((below_alloc _ _).mono (below_alloc w _).size)⟩
 have hi : inP g (k : Int) = true := by simp [inP]; omega
 have hj : inT g (m : Int) = true := by simp [inT]; omega
 have E0 : decF g 0 k m = (decU g k (m : Int), 0) := by simp [decF, hi, hj]
 have E1 : prlF g 0 k = (plvU g k, 0) := by
  have : terF g 0 k = (ownU (g.ps.getD k .none), 0) := by simp only [terF, hi]; simp
  unfold prlF
  rw [this]
  simp [plvU]
 have E2 : levF g 0 m = (levU g.ls (m : Int), 0) := by simp [levF, hj]
 have PL : Hid (∀ w', Below w.heap.size w w' -> Calls Tryz.prog 67 #[g.val, .int .i64 (k : Int)] w' fun e w'' => e = .returned (.tuple #[.int .i64 (plvU g k), .int .i64 0]) /\ Below w'.heap.size w' w'') := fun w' hb => by
  have := rProdLevel_P g k w' (h.later hb) ok
  rwa [E1] at this
 have LV : Hid (∀ w', Below w.heap.size w w' -> Calls Tryz.prog 68 #[g.val, .int .i64 (m : Int)] w' fun e w'' => e = .returned (.tuple #[.int .i64 (levU g.ls (m : Int)), .int .i64 0]) /\ Below w'.heap.size w' w'') := fun w' hb => by
  have := rLevelOf_P g m w' (h.later hb)
  rwa [E2] at this
 obtain ⟨P, hP⟩ : ∃ P, P = plvU g k := ⟨_, rfl⟩
 obtain ⟨T, hT⟩ : ∃ T, T = levU g.ls (m : Int) := ⟨_, rfl⟩
 have E3 : decU g k (m : Int) = duelD g P T k m := by rw [hP, hT]; rfl
 have hT1 := lev_ge g.ls (m : Int)
 have hP1 : -1 <= plvU g k /\ plvU g k < g.ls.length := lev_ge g.ls _
 rw [<- hT] at hT1 LV
 try rw [<- hT] at hA
 rw [<- hP] at hP1 hA PL
 clear hT hP E1 E2
 have t0 : ((0 : Int) != 0) = false := by decide
 obtain ⟨hPT, hP0, ha⟩ := hA
 obtain ⟨K, rfl⟩ : ∃ K : Nat, P = (K : Int) := ⟨P.toNat, by omega⟩
 subst hPT
 have hK : K < g.ls.length := by omega
 have hll := ok.ll
 rw [Int.toNat_natCast] at ha
 have E : Hid (decF g 0 k m = (shiD k m (K : Int), 0)) := by show _ = _; rw [E0, E3]; unfold duelD; rw [if_neg (by omega), if_neg (by omega), if_neg (by omega), Int.toNat_natCast, ha]; rfl
 clear E0 E3
 have t1 : ((K : Int) == -1) = false := by simp
 have t2 : ¬ (K : Int) < (K : Int) := by omega
 have t6 : ((K : Int) == (K : Int)) = true := by simp
 have t8 : ((1 : Int) == 2) = false := by decide
 have t9 : ((2 : Int) == 1) = false := by decide
 have t10 : ((3 : Int) == 1) = false := by decide
 have t11 : ((3 : Int) == 2) = false := by decide
 obtain ⟨lb, lo, hla, hlb, hlc⟩ := h.l.cells (by intro e; rw [e] at hK; simp at hK)
 have cl := (hlc K hK).1
 rw [ha] at cl
 have HX : Hid (∀ w', Below w.heap.size w w' -> w'.cell? ⟨lb, lo + K * 2, none⟩ = some (.int .i64 2) /\ g.la = some ⟨lb, lo, none⟩) := fun w' b => ⟨(b.cell (p := ⟨lb, lo + K * 2, none⟩) hlb).trans cl, hla⟩
 clear hlc cl ha hla
 clear h ok hi hj
 go_enter Tryz.func38, Tryz.ntmps38
 go_wp2_with (first
  | (go_at_call 67; refine (PL.out _ X0.out.2.2).mono ?_; rintro e w1 ⟨rfl, b1⟩; have X1 : Hid (w1.heap[w.heap.size]? = some (gBox g) /\ w1.heap[w.heap.size + 1]? = some (.cells #[.int .i64 0, .int .i64 0, .int .i64 0, .slice none 0 0, .bool false, .int .i64 0] 58 (0, 0)) /\ Below w.heap.size w w1) := ⟨blk_later X0.out.1 b1, blk_later X0.out.2.1 b1, X0.out.2.2.trans (b1.mono X0.out.2.2.size)⟩; clear b1; obtain ⟨y0, y1, y2, y3, y4⟩ := gb_cells X1.out.1; obtain ⟨⟨z0, z1, z2, z3, z4, z5⟩, ⟨f0, f1, f2, f3, f4, f5⟩, hzz⟩ := dz_cells X1.out.2.1)
  | (go_at_call 68; refine (LV.out _ X1.out.2.2).mono ?_; rintro e w2 ⟨rfl, b2⟩; clear y0 y1 y2 y3 y4 z0 z1 z2 z3 z4 z5 f0 f1 f2 f3 f4 f5 hzz; have X2 : Hid (w2.heap[w.heap.size]? = some (gBox g) /\ w2.heap[w.heap.size + 1]? = some (.cells #[.int .i64 0, .int .i64 0, .int .i64 0, .slice none 0 0, .bool false, .int .i64 0] 58 (0, 0)) /\ Below w.heap.size w w2) := ⟨blk_later X1.out.1 b2, blk_later X1.out.2.1 b2, X1.out.2.2.trans (b2.mono X1.out.2.2.size)⟩; clear b2; obtain ⟨y0, y1, y2, y3, y4⟩ := gb_cells X2.out.1; obtain ⟨⟨z0', z1', z2', z3', z4', z5'⟩, ⟨f0', f1', f2', f3', f4', f5'⟩, hzz'⟩ := dz_cells (blk_later X2.out.2.1 ((below_alloc w2 _).trans ((below_alloc _ _).mono (below_alloc w2 _).size) : Below w2.heap.size w2 ((w2.alloc (.cells #[.int .i64 (m : Int), .int .i64 1, .int .i64 (-1), .slice (some ⟨w2.heap.size + 1, 0, none⟩) 1 1, .bool false, .int .i64 (K : Int)] 58)).alloc (.cells #[.int .i64 (k : Int)] 3)))); obtain ⟨y0', y1', y2', y3', y4'⟩ := gb_cells (blk_later X2.out.1 (below_alloc w2 _ : Below w2.heap.size w2 (w2.alloc (.cells #[.int .i64 (m : Int), .int .i64 0, .int .i64 (-1), .slice none 0 0, .bool false, .int .i64 (-1)] 58)))); obtain ⟨cl, hla⟩ := HX.out _ (X2.out.2.2.trans ((below_alloc w2 (.cells #[.int .i64 (m : Int), .int .i64 0, .int .i64 (-1), .slice none 0 0, .bool false, .int .i64 (-1)] 58)).mono X2.out.2.2.size)); rw [hla] at y4'))
 obtain ⟨q1, q2, q3⟩ := six_set (blk_later X2.out.2.1 ((below_alloc w2 _).trans ((below_alloc _ _).mono (below_alloc w2 _).size) : Below w2.heap.size w2 ((w2.alloc (.cells #[.int .i64 (m : Int), .int .i64 1, .int .i64 (-1), .slice (some ⟨w2.heap.size + 1, 0, none⟩) 1 1, .bool false, .int .i64 (K : Int)] 58)).alloc (.cells #[.int .i64 (k : Int)] 3)))) (.int .i64 (m : Int)) (.int .i64 1) (.int .i64 (-1)) (.slice (some ⟨w2.heap.size + 1, 0, none⟩) 1 1) (.bool false) (.int .i64 (K : Int))
 have q4 := q3 _ _ (X2.out.2.2.trans (((below_alloc w2 _).trans ((below_alloc _ _).mono (below_alloc w2 _).size) : Below w2.heap.size w2 ((w2.alloc (.cells #[.int .i64 (m : Int), .int .i64 1, .int .i64 (-1), .slice (some ⟨w2.heap.size + 1, 0, none⟩) 1 1, .bool false, .int .i64 (K : Int)] 58)).alloc (.cells #[.int .i64 (k : Int)] 3))).mono X2.out.2.2.size)) (Nat.le_succ _)
 have q5 : D1 w.heap.size ((((((((w2.alloc (.cells #[.int .i64 (m : Int), .int .i64 1, .int .i64 (-1), .slice (some ⟨w2.heap.size + 1, 0, none⟩) 1 1, .bool false, .int .i64 (K : Int)] 58)).alloc (.cells #[.int .i64 (k : Int)] 3)).setCell ⟨w.heap.size + 1, 0, none⟩ (.int .i64 (m : Int))).setCell ⟨w.heap.size + 1, 1, none⟩ (.int .i64 1)).setCell ⟨w.heap.size + 1, 2, none⟩ (.int .i64 (-1))).setCell ⟨w.heap.size + 1, 3, none⟩ (.slice (some ⟨w2.heap.size + 1, 0, none⟩) 1 1)).setCell ⟨w.heap.size + 1, 4, none⟩ (.bool false)).setCell ⟨w.heap.size + 1, 5, none⟩ (.int .i64 (K : Int))) (shiD k m (K : Int)) (some ⟨w2.heap.size + 1, 0, none⟩) 1 := .inr ⟨w2.heap.size + 1, (k : Int), by have := lt_of_block X2.out.2.1; omega, rfl, rfl, rfl, (q2 _ (by have := lt_of_block X2.out.2.1; omega)).trans (by have := heap_alloc_new (w2.alloc (.cells #[.int .i64 (m : Int), .int .i64 1, .int .i64 (-1), .slice (some ⟨w2.heap.size + 1, 0, none⟩) 1 1, .bool false, .int .i64 (K : Int)] 58)) (.cells #[.int .i64 (k : Int)] 3); rwa [alZ] at this)⟩
 generalize ((((((((w2.alloc (.cells #[.int .i64 (m : Int), .int .i64 1, .int .i64 (-1), .slice (some ⟨w2.heap.size + 1, 0, none⟩) 1 1, .bool false, .int .i64 (K : Int)] 58)).alloc (.cells #[.int .i64 (k : Int)] 3)).setCell ⟨w.heap.size + 1, 0, none⟩ (.int .i64 (m : Int))).setCell ⟨w.heap.size + 1, 1, none⟩ (.int .i64 1)).setCell ⟨w.heap.size + 1, 2, none⟩ (.int .i64 (-1))).setCell ⟨w.heap.size + 1, 3, none⟩ (.slice (some ⟨w2.heap.size + 1, 0, none⟩) 1 1)).setCell ⟨w.heap.size + 1, 4, none⟩ (.bool false)).setCell ⟨w.heap.size + 1, 5, none⟩ (.int .i64 (K : Int))) = W4 at *
 have r0 : W4.cell? ⟨w.heap.size + 1, 0, none⟩ = some (.int .i64 (m : Int)) := (cellq_any q1).trans rfl
 have r1 : W4.cell? ⟨w.heap.size + 1, 1, none⟩ = some (.int .i64 1) := (cellq_any q1).trans rfl
 have r2 : W4.cell? ⟨w.heap.size + 1, 2, none⟩ = some (.int .i64 (-1)) := (cellq_any q1).trans rfl
 have r3 : W4.cell? ⟨w.heap.size + 1, 3, none⟩ = some (.slice (some ⟨w2.heap.size + 1, 0, none⟩) 1 1) := (cellq_any q1).trans rfl
 have r4 : W4.cell? ⟨w.heap.size + 1, 4, none⟩ = some (.bool false) := (cellq_any q1).trans rfl
 have r5 : W4.cell? ⟨w.heap.size + 1, 5, none⟩ = some (.int .i64 (K : Int)) := (cellq_any q1).trans rfl
 refine bodyPost_ret (v := .tuple #[dval (shiD k m (K : Int)) (some ⟨w2.heap.size + 1, 0, none⟩) 1, .int .i64 0]) (by simp [results, Tryz.results38, go_sem, r0, r1, r2, r3, r4, r5, DV.zero, noneD, redD, shiD, errD]) rfl ?_
 rw [E.out]
 exact ⟨(some ⟨w2.heap.size + 1, 0, none⟩), 1, rfl, q5, q4⟩
set_option linter.unusedSimpArgs false in
theorem rDecide_H (g : GV) (k m : Nat) (w : World) (h : GAt 140737488355328 w g) (ok : OkC g) (hk : k < g.ps.length) (hm : m < g.ts.length) (hA : plvU g k = levU g.ls (m : Int) /\ 0 <= levU g.ls (m : Int) /\ (g.ls.getD (plvU g k).toNat .none).assoc = 3) :
  Calls Tryz.prog 38 #[g.val, .int .i64 (k : Int), .int .i64 (m : Int)] w (DcO w (decF g 0 k m)) := by
 have X0 : Hid (((w.alloc (gBox g)).alloc dZero).heap[w.heap.size]? = some (gBox g) /\ ((w.alloc (gBox g)).alloc dZero).heap[w.heap.size + 1]? = some (.cells #[.int .i64 0, .int .i64 0, .int .i64 0, .slice none 0 0, .bool false, .int .i64 0] 58 (0, 0)) /\ Below w.heap.size w ((w.alloc (gBox g)).alloc dZero)) := by
  have q := heap_alloc_new (w.alloc (gBox g)) dZero
  rw [alZ] at q
  exact ⟨blk_later (heap_alloc_new _ _) (below_alloc _ _), q, (below_alloc w _).trans ((below_alloc _ _).mono (below_alloc w _).size)⟩
 have hi : inP g (k : Int) = true := by simp [inP]; omega
 have hj : inT g (m : Int) = true := by simp [inT]; omega
 have E0 : decF g 0 k m = (decU g k (m : Int), 0) := by simp [decF, hi, hj]
 have E1 : prlF g 0 k = (plvU g k, 0) := by
  have : terF g 0 k = (ownU (g.ps.getD k .none), 0) := by simp only [terF, hi]; simp
  unfold prlF
  rw [this]
  simp [plvU]
 have E2 : levF g 0 m = (levU g.ls (m : Int), 0) := by simp [levF, hj]
 have PL : Hid (∀ w', Below w.heap.size w w' -> Calls Tryz.prog 67 #[g.val, .int .i64 (k : Int)] w' fun e w'' => e = .returned (.tuple #[.int .i64 (plvU g k), .int .i64 0]) /\ Below w'.heap.size w' w'') := fun w' hb => by
  have := rProdLevel_P g k w' (h.later hb) ok
  rwa [E1] at this
 have LV : Hid (∀ w', Below w.heap.size w w' -> Calls Tryz.prog 68 #[g.val, .int .i64 (m : Int)] w' fun e w'' => e = .returned (.tuple #[.int .i64 (levU g.ls (m : Int)), .int .i64 0]) /\ Below w'.heap.size w' w'') := fun w' hb => by
  have := rLevelOf_P g m w' (h.later hb)
  rwa [E2] at this
 obtain ⟨P, hP⟩ : ∃ P, P = plvU g k := ⟨_, rfl⟩
 obtain ⟨T, hT⟩ : ∃ T, T = levU g.ls (m : Int) := ⟨_, rfl⟩
 have E3 : decU g k (m : Int) = duelD g P T k m := by rw [hP, hT]; rfl
 have hT1 := lev_ge g.ls (m : Int)
 have hP1 : -1 <= plvU g k /\ plvU g k < g.ls.length := lev_ge g.ls _
 rw [<- hT] at hT1 LV
 try rw [<- hT] at hA
 rw [<- hP] at hP1 hA PL
 clear hT hP E1 E2
 have t0 : ((0 : Int) != 0) = false := by decide
 obtain ⟨hPT, hP0, ha⟩ := hA
 obtain ⟨K, rfl⟩ : ∃ K : Nat, P = (K : Int) := ⟨P.toNat, by omega⟩
 subst hPT
 have hK : K < g.ls.length := by omega
 have hll := ok.ll
 rw [Int.toNat_natCast] at ha
 have E : Hid (decF g 0 k m = (errD k m (K : Int), 0)) := by show _ = _; rw [E0, E3]; unfold duelD; rw [if_neg (by omega), if_neg (by omega), if_neg (by omega), Int.toNat_natCast, ha]; rfl
 clear E0 E3
 have t1 : ((K : Int) == -1) = false := by simp
 have t2 : ¬ (K : Int) < (K : Int) := by omega
 have t6 : ((K : Int) == (K : Int)) = true := by simp
 have t8 : ((1 : Int) == 2) = false := by decide
 have t9 : ((2 : Int) == 1) = false := by decide
 have t10 : ((3 : Int) == 1) = false := by decide
 have t11 : ((3 : Int) == 2) = false := by decide
 obtain ⟨lb, lo, hla, hlb, hlc⟩ := h.l.cells (by intro e; rw [e] at hK; simp at hK)
 have cl := (hlc K hK).1
 rw [ha] at cl
 have HX : Hid (∀ w', Below w.heap.size w w' -> w'.cell? ⟨lb, lo + K * 2, none⟩ = some (.int .i64 3) /\ g.la = some ⟨lb, lo, none⟩) := fun w' b => ⟨(b.cell (p := ⟨lb, lo + K * 2, none⟩) hlb).trans cl, hla⟩
 clear hlc cl ha hla
 clear h ok hi hj
 go_enter Tryz.func38, Tryz.ntmps38
 go_wp2_with (first
  | (go_at_call 67; refine (PL.out _ X0.out.2.2).mono ?_; rintro e w1 ⟨rfl, b1⟩; have X1 : Hid (w1.heap[w.heap.size]? = some (gBox g) /\ w1.heap[w.heap.size + 1]? = some (.cells #[.int .i64 0, .int .i64 0, .int .i64 0, .slice none 0 0, .bool false, .int .i64 0] 58 (0, 0)) /\ Below w.heap.size w w1) := ⟨blk_later X0.out.1 b1, blk_later X0.out.2.1 b1, X0.out.2.2.trans (b1.mono X0.out.2.2.size)⟩; clear b1; obtain ⟨y0, y1, y2, y3, y4⟩ := gb_cells X1.out.1; obtain ⟨⟨z0, z1, z2, z3, z4, z5⟩, ⟨f0, f1, f2, f3, f4, f5⟩, hzz⟩ := dz_cells X1.out.2.1)
  | (go_at_call 68; refine (LV.out _ X1.out.2.2).mono ?_; rintro e w2 ⟨rfl, b2⟩; clear y0 y1 y2 y3 y4 z0 z1 z2 z3 z4 z5 f0 f1 f2 f3 f4 f5 hzz; have X2 : Hid (w2.heap[w.heap.size]? = some (gBox g) /\ w2.heap[w.heap.size + 1]? = some (.cells #[.int .i64 0, .int .i64 0, .int .i64 0, .slice none 0 0, .bool false, .int .i64 0] 58 (0, 0)) /\ Below w.heap.size w w2) := ⟨blk_later X1.out.1 b2, blk_later X1.out.2.1 b2, X1.out.2.2.trans (b2.mono X1.out.2.2.size)⟩; clear b2; obtain ⟨y0, y1, y2, y3, y4⟩ := gb_cells X2.out.1; obtain ⟨⟨z0', z1', z2', z3', z4', z5'⟩, ⟨f0', f1', f2', f3', f4', f5'⟩, hzz'⟩ := dz_cells (blk_later X2.out.2.1 ((below_alloc w2 _).trans ((below_alloc _ _).mono (below_alloc w2 _).size) : Below w2.heap.size w2 ((w2.alloc (.cells #[.int .i64 (m : Int), .int .i64 3, .int .i64 (-1), .slice (some ⟨w2.heap.size + 1, 0, none⟩) 1 1, .bool true, .int .i64 (K : Int)] 58)).alloc (.cells #[.int .i64 (k : Int)] 3)))); obtain ⟨y0', y1', y2', y3', y4'⟩ := gb_cells (blk_later X2.out.1 (below_alloc w2 _ : Below w2.heap.size w2 (w2.alloc (.cells #[.int .i64 (m : Int), .int .i64 0, .int .i64 (-1), .slice none 0 0, .bool false, .int .i64 (-1)] 58)))); obtain ⟨cl, hla⟩ := HX.out _ (X2.out.2.2.trans ((below_alloc w2 (.cells #[.int .i64 (m : Int), .int .i64 0, .int .i64 (-1), .slice none 0 0, .bool false, .int .i64 (-1)] 58)).mono X2.out.2.2.size)); rw [hla] at y4'))
 obtain ⟨q1, q2, q3⟩ := six_set (blk_later X2.out.2.1 ((below_alloc w2 _).trans ((below_alloc _ _).mono (below_alloc w2 _).size) : Below w2.heap.size w2 ((w2.alloc (.cells #[.int .i64 (m : Int), .int .i64 3, .int .i64 (-1), .slice (some ⟨w2.heap.size + 1, 0, none⟩) 1 1, .bool true, .int .i64 (K : Int)] 58)).alloc (.cells #[.int .i64 (k : Int)] 3)))) (.int .i64 (m : Int)) (.int .i64 3) (.int .i64 (-1)) (.slice (some ⟨w2.heap.size + 1, 0, none⟩) 1 1) (.bool true) (.int .i64 (K : Int))
 have q4 := q3 _ _ (X2.out.2.2.trans (((below_alloc w2 _).trans ((below_alloc _ _).mono (below_alloc w2 _).size) : Below w2.heap.size w2 ((w2.alloc (.cells #[.int .i64 (m : Int), .int .i64 3, .int .i64 (-1), .slice (some ⟨w2.heap.size + 1, 0, none⟩) 1 1, .bool true, .int .i64 (K : Int)] 58)).alloc (.cells #[.int .i64 (k : Int)] 3))).mono X2.out.2.2.size)) (Nat.le_succ _)
 have q5 : D1 w.heap.size ((((((((w2.alloc (.cells #[.int .i64 (m : Int), .int .i64 3, .int .i64 (-1), .slice (some ⟨w2.heap.size + 1, 0, none⟩) 1 1, .bool true, .int .i64 (K : Int)] 58)).alloc (.cells #[.int .i64 (k : Int)] 3)).setCell ⟨w.heap.size + 1, 0, none⟩ (.int .i64 (m : Int))).setCell ⟨w.heap.size + 1, 1, none⟩ (.int .i64 3)).setCell ⟨w.heap.size + 1, 2, none⟩ (.int .i64 (-1))).setCell ⟨w.heap.size + 1, 3, none⟩ (.slice (some ⟨w2.heap.size + 1, 0, none⟩) 1 1)).setCell ⟨w.heap.size + 1, 4, none⟩ (.bool true)).setCell ⟨w.heap.size + 1, 5, none⟩ (.int .i64 (K : Int))) (errD k m (K : Int)) (some ⟨w2.heap.size + 1, 0, none⟩) 1 := .inr ⟨w2.heap.size + 1, (k : Int), by have := lt_of_block X2.out.2.1; omega, rfl, rfl, rfl, (q2 _ (by have := lt_of_block X2.out.2.1; omega)).trans (by have := heap_alloc_new (w2.alloc (.cells #[.int .i64 (m : Int), .int .i64 3, .int .i64 (-1), .slice (some ⟨w2.heap.size + 1, 0, none⟩) 1 1, .bool true, .int .i64 (K : Int)] 58)) (.cells #[.int .i64 (k : Int)] 3); rwa [alZ] at this)⟩
 generalize ((((((((w2.alloc (.cells #[.int .i64 (m : Int), .int .i64 3, .int .i64 (-1), .slice (some ⟨w2.heap.size + 1, 0, none⟩) 1 1, .bool true, .int .i64 (K : Int)] 58)).alloc (.cells #[.int .i64 (k : Int)] 3)).setCell ⟨w.heap.size + 1, 0, none⟩ (.int .i64 (m : Int))).setCell ⟨w.heap.size + 1, 1, none⟩ (.int .i64 3)).setCell ⟨w.heap.size + 1, 2, none⟩ (.int .i64 (-1))).setCell ⟨w.heap.size + 1, 3, none⟩ (.slice (some ⟨w2.heap.size + 1, 0, none⟩) 1 1)).setCell ⟨w.heap.size + 1, 4, none⟩ (.bool true)).setCell ⟨w.heap.size + 1, 5, none⟩ (.int .i64 (K : Int))) = W4 at *
 have r0 : W4.cell? ⟨w.heap.size + 1, 0, none⟩ = some (.int .i64 (m : Int)) := (cellq_any q1).trans rfl
 have r1 : W4.cell? ⟨w.heap.size + 1, 1, none⟩ = some (.int .i64 3) := (cellq_any q1).trans rfl
 have r2 : W4.cell? ⟨w.heap.size + 1, 2, none⟩ = some (.int .i64 (-1)) := (cellq_any q1).trans rfl
 have r3 : W4.cell? ⟨w.heap.size + 1, 3, none⟩ = some (.slice (some ⟨w2.heap.size + 1, 0, none⟩) 1 1) := (cellq_any q1).trans rfl
 have r4 : W4.cell? ⟨w.heap.size + 1, 4, none⟩ = some (.bool true) := (cellq_any q1).trans rfl
 have r5 : W4.cell? ⟨w.heap.size + 1, 5, none⟩ = some (.int .i64 (K : Int)) := (cellq_any q1).trans rfl
 refine bodyPost_ret (v := .tuple #[dval (errD k m (K : Int)) (some ⟨w2.heap.size + 1, 0, none⟩) 1, .int .i64 0]) (by simp [results, Tryz.results38, go_sem, r0, r1, r2, r3, r4, r5, DV.zero, noneD, redD, shiD, errD]) rfl ?_
 rw [E.out]
 exact ⟨(some ⟨w2.heap.size + 1, 0, none⟩), 1, rfl, q5, q4⟩
theorem rDecide_P (g : GV) (p t : Int) (w : World) (h : GAt 140737488355328 w g) (ok : OkC g) :
  Calls Tryz.prog 38 #[g.val, .int .i64 p, .int .i64 t] w (DcO w (decF g 0 p t)) := by
 cases hi : inP g p with
 | false => exact rDecide_no g p t w h ok (.inl hi)
 | true =>
  cases hj : inT g t with
  | false => exact rDecide_no g p t w h ok (.inr hj)
  | true =>
   have hp2 : 0 <= p /\ p < g.ps.length := by simpa [inP] using hi
   have ht2 : 0 <= t /\ t < g.ts.length := by simpa [inT] using hj
   obtain ⟨k, rfl⟩ : ∃ k : Nat, p = (k : Int) := ⟨p.toNat, by omega⟩
   obtain ⟨m, rfl⟩ : ∃ m : Nat, t = (m : Int) := ⟨t.toNat, by omega⟩
   have hk : k < g.ps.length := by omega
   have hm : m < g.ts.length := by omega
   have hT1 := lev_ge g.ls (m : Int)
   have hP1 : -1 <= plvU g k /\ plvU g k < g.ls.length := lev_ge g.ls _
   by_cases a1 : plvU g k = -1
   ·exact rDecide_A g k m w h ok hk hm a1
   ·by_cases a2 : levU g.ls (m : Int) = -1
    ·exact rDecide_C g k m w h ok hk hm ⟨by omega, a2⟩
    ·by_cases a3 : levU g.ls (m : Int) < plvU g k
     ·exact rDecide_D g k m w h ok hk hm ⟨by omega, a3⟩
     ·by_cases a4 : plvU g k < levU g.ls (m : Int)
      ·exact rDecide_E g k m w h ok hk hm ⟨by omega, a4⟩
      ·have e : plvU g k = levU g.ls (m : Int) := by omega
       have hkk : (plvU g k).toNat < g.ls.length := by omega
       have hl := ok.ls _ hkk
       have ha : 1 <= (g.ls.getD (plvU g k).toNat .none).assoc /\ (g.ls.getD (plvU g k).toNat .none).assoc <= 3 := by
        unfold levelU at hl
        split at hl
        ·exact absurd hl (by decide)
        ·omega
       rcases (show (g.ls.getD (plvU g k).toNat .none).assoc = 1 ∨ (g.ls.getD (plvU g k).toNat .none).assoc = 2 ∨ (g.ls.getD (plvU g k).toNat .none).assoc = 3 by omega) with q | q | q
       ·exact rDecide_F g k m w h ok hk hm ⟨e, by omega, q⟩
       ·exact rDecide_G g k m w h ok hk hm ⟨e, by omega, q⟩
       ·exact rDecide_H g k m w h ok hk hm ⟨e, by omega, q⟩
end Go.Proofs.YtjpknihkcndoiaaGreat
