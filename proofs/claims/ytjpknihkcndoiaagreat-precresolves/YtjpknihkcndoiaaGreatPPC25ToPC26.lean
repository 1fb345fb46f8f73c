import Derived.Test.YtjpknihkcndoiaaGreatPPC23ToPC24
namespace Go.Proofs.YtjpknihkcndoiaaGreat
set_option linter.unusedVariables false
set_option maxRecDepth 100000
set_option maxHeartbeats 16000000
open Go.RowKit Go.Maps
set_option linter.unusedSimpArgs false in
theorem resolve_no (q : CV) (jb : Nat) (w : World) (hr : InRow w q.ra q.red) (hrl : q.red.length <= 140737488355328) (hs : q.shift = -1 ∨ q.red.contains (-1) = true) :
  Calls Tryz.prog 22 #[.pointer (some ⟨jb, 0, none⟩), q.val] w (DrO w (noneD q.look)) := by
 have X0 : Hid (((w.alloc (.cells #[.int .i64 q.st, .int .i64 q.look, .int .i64 q.shift, .slice q.ra q.red.length q.rc] 44)).alloc dZero).heap[w.heap.size]? = some (.cells #[.int .i64 q.st, .int .i64 q.look, .int .i64 q.shift, .slice q.ra q.red.length q.rc] 44 (0, 0)) /\ ((w.alloc (.cells #[.int .i64 q.st, .int .i64 q.look, .int .i64 q.shift, .slice q.ra q.red.length q.rc] 44)).alloc dZero).heap[w.heap.size + 1]? = some (.cells #[.int .i64 0, .int .i64 0, .int .i64 0, .slice none 0 0, .bool false, .int .i64 0] 58 (0, 0)) /\ Below w.heap.size w ((w.alloc (.cells #[.int .i64 q.st, .int .i64 q.look, .int .i64 q.shift, .slice q.ra q.red.length q.rc] 44)).alloc dZero)) := by
  have q1 := heap_alloc_new (w.alloc (.cells #[.int .i64 q.st, .int .i64 q.look, .int .i64 q.shift, .slice q.ra q.red.length q.rc] 44)) dZero
  rw [alZ] at q1
  exact ⟨blk_later (heap_alloc_new _ _) (below_alloc _ _), q1, (below_alloc w _).trans ((below_alloc _ _).mono (below_alloc w _).size)⟩
 have HCN : Hid (∀ b, q.red.contains (-1) = b -> Calls Tryz.prog 57 #[.slice q.ra q.red.length q.rc, .int .i64 (-1)] ((w.alloc (.cells #[.int .i64 q.st, .int .i64 q.look, .int .i64 q.shift, .slice q.ra q.red.length q.rc] 44)).alloc dZero) fun e w'' => e = .returned (.bool b) /\ w'' = ((w.alloc (.cells #[.int .i64 q.st, .int .i64 q.look, .int .i64 q.shift, .slice q.ra q.red.length q.rc] 44)).alloc dZero)) := fun b hb => contains_P q.ra q.rc q.red (-1) _ b hb hrl (hr.later X0.out.2.2)
 obtain ⟨y0, y1, y2, y3⟩ := cb_cells (q := q) X0.out.1
 by_cases a1 : q.shift = -1
 ·obtain ⟨qs, ql, qh, qa, qc, qr⟩ := q
  simp only at a1
  subst a1
  have t1 : ((-1 : Int) == -1) = true := by decide
  simp only at y0 y1 y2 y3
  clear hr hs HCN
  go_enter Tryz.func22, Tryz.ntmps22
  go_wp2_with (go_at_call 58; refine (und_P ql _).mono ?_; rintro e w5 ⟨ao, c, rfl, d5, b5⟩; have X5 : Hid (w5.heap[w.heap.size + 1]? = some (.cells #[.int .i64 0, .int .i64 0, .int .i64 0, .slice none 0 0, .bool false, .int .i64 0] 58 (0, 0)) /\ Below w.heap.size w w5 /\ D1 ((w.alloc (.cells #[.int .i64 qs, .int .i64 ql, .int .i64 (-1), .slice qa qr.length qc] 44)).alloc dZero).heap.size w5 (noneD ql) ao c /\ ((w.alloc (.cells #[.int .i64 qs, .int .i64 ql, .int .i64 (-1), .slice qa qr.length qc] 44)).alloc dZero).heap.size = w.heap.size + 1 + 1) := ⟨blk_later X0.out.2.1 b5, X0.out.2.2.trans (b5.mono X0.out.2.2.size), d5, by rw [alZ, alZ]⟩; clear d5 b5; obtain ⟨⟨z0, z1, z2, z3, z4, z5⟩, ⟨f0, f1, f2, f3, f4, f5⟩, hzz⟩ := dz_cells X5.out.1)
  obtain ⟨q1, q2, q3⟩ := six_set X5.out.1 (.int .i64 (noneD ql).look) (.int .i64 (noneD ql).kind) (.int .i64 (noneD ql).prod) (.slice ao (noneD ql).drop.length c) (.bool (noneD ql).sd) (.int .i64 (noneD ql).lev)
  have q4 := q3 _ _ X5.out.2.1 (Nat.le_succ _)
  have q5 : D2 w.heap.size ((((((w5.setCell ⟨w.heap.size + 1, 0, none⟩ (.int .i64 (noneD ql).look)).setCell ⟨w.heap.size + 1, 1, none⟩ (.int .i64 (noneD ql).kind)).setCell ⟨w.heap.size + 1, 2, none⟩ (.int .i64 (noneD ql).prod)).setCell ⟨w.heap.size + 1, 3, none⟩ (.slice ao (noneD ql).drop.length c)).setCell ⟨w.heap.size + 1, 4, none⟩ (.bool (noneD ql).sd)).setCell ⟨w.heap.size + 1, 5, none⟩ (.int .i64 (noneD ql).lev)) (noneD ql) ao c := X5.out.2.2.1.two.kept (by have := X5.out.2.2.2; omega) fun j hj => q2 j (by have := X5.out.2.2.2; omega)
  generalize ((((((w5.setCell ⟨w.heap.size + 1, 0, none⟩ (.int .i64 (noneD ql).look)).setCell ⟨w.heap.size + 1, 1, none⟩ (.int .i64 (noneD ql).kind)).setCell ⟨w.heap.size + 1, 2, none⟩ (.int .i64 (noneD ql).prod)).setCell ⟨w.heap.size + 1, 3, none⟩ (.slice ao (noneD ql).drop.length c)).setCell ⟨w.heap.size + 1, 4, none⟩ (.bool (noneD ql).sd)).setCell ⟨w.heap.size + 1, 5, none⟩ (.int .i64 (noneD ql).lev)) = W4 at *
  have r0 : W4.cell? ⟨w.heap.size + 1, 0, none⟩ = some (.int .i64 (noneD ql).look) := (cellq_any q1).trans rfl
  have r1 : W4.cell? ⟨w.heap.size + 1, 1, none⟩ = some (.int .i64 (noneD ql).kind) := (cellq_any q1).trans rfl
  have r2 : W4.cell? ⟨w.heap.size + 1, 2, none⟩ = some (.int .i64 (noneD ql).prod) := (cellq_any q1).trans rfl
  have r3 : W4.cell? ⟨w.heap.size + 1, 3, none⟩ = some (.slice ao (noneD ql).drop.length c) := (cellq_any q1).trans rfl
  have r4 : W4.cell? ⟨w.heap.size + 1, 4, none⟩ = some (.bool (noneD ql).sd) := (cellq_any q1).trans rfl
  have r5 : W4.cell? ⟨w.heap.size + 1, 5, none⟩ = some (.int .i64 (noneD ql).lev) := (cellq_any q1).trans rfl
  refine bodyPost_ret (v := dval (noneD ql) ao c) (by simp [results, Tryz.results22, go_sem, r0, r1, r2, r3, r4, r5, DV.zero]) rfl ?_
  exact ⟨ao, c, rfl, q5, q4⟩
 ·have hc := hs.resolve_left a1
  have HC2 : Hid (Calls Tryz.prog 57 #[.slice q.ra q.red.length q.rc, .int .i64 (-1)] ((w.alloc (.cells #[.int .i64 q.st, .int .i64 q.look, .int .i64 q.shift, .slice q.ra q.red.length q.rc] 44)).alloc dZero) fun e w'' => e = .returned (.bool true) /\ w'' = ((w.alloc (.cells #[.int .i64 q.st, .int .i64 q.look, .int .i64 q.shift, .slice q.ra q.red.length q.rc] 44)).alloc dZero)) := HCN.out true hc
  have t1 : (q.shift == -1) = false := by simpa using a1
  clear hr hs HCN hc
  go_enter Tryz.func22, Tryz.ntmps22
  go_wp2_with (first
   | (go_at_call 57; refine HC2.out.mono ?_; rintro e w1 ⟨rfl, hw1⟩; rw [hw1]; clear hw1 w1)
   | (go_at_call 58; refine (und_P q.look _).mono ?_; rintro e w5 ⟨ao, c, rfl, d5, b5⟩; have X5 : Hid (w5.heap[w.heap.size + 1]? = some (.cells #[.int .i64 0, .int .i64 0, .int .i64 0, .slice none 0 0, .bool false, .int .i64 0] 58 (0, 0)) /\ Below w.heap.size w w5 /\ D1 ((w.alloc (.cells #[.int .i64 q.st, .int .i64 q.look, .int .i64 q.shift, .slice q.ra q.red.length q.rc] 44)).alloc dZero).heap.size w5 (noneD q.look) ao c /\ ((w.alloc (.cells #[.int .i64 q.st, .int .i64 q.look, .int .i64 q.shift, .slice q.ra q.red.length q.rc] 44)).alloc dZero).heap.size = w.heap.size + 1 + 1) := ⟨blk_later X0.out.2.1 b5, X0.out.2.2.trans (b5.mono X0.out.2.2.size), d5, by rw [alZ, alZ]⟩; clear d5 b5; obtain ⟨⟨z0, z1, z2, z3, z4, z5⟩, ⟨f0, f1, f2, f3, f4, f5⟩, hzz⟩ := dz_cells X5.out.1))
  obtain ⟨q1, q2, q3⟩ := six_set X5.out.1 (.int .i64 (noneD q.look).look) (.int .i64 (noneD q.look).kind) (.int .i64 (noneD q.look).prod) (.slice ao (noneD q.look).drop.length c) (.bool (noneD q.look).sd) (.int .i64 (noneD q.look).lev)
  have q4 := q3 _ _ X5.out.2.1 (Nat.le_succ _)
  have q5 : D2 w.heap.size ((((((w5.setCell ⟨w.heap.size + 1, 0, none⟩ (.int .i64 (noneD q.look).look)).setCell ⟨w.heap.size + 1, 1, none⟩ (.int .i64 (noneD q.look).kind)).setCell ⟨w.heap.size + 1, 2, none⟩ (.int .i64 (noneD q.look).prod)).setCell ⟨w.heap.size + 1, 3, none⟩ (.slice ao (noneD q.look).drop.length c)).setCell ⟨w.heap.size + 1, 4, none⟩ (.bool (noneD q.look).sd)).setCell ⟨w.heap.size + 1, 5, none⟩ (.int .i64 (noneD q.look).lev)) (noneD q.look) ao c := X5.out.2.2.1.two.kept (by have := X5.out.2.2.2; omega) fun j hj => q2 j (by have := X5.out.2.2.2; omega)
  generalize ((((((w5.setCell ⟨w.heap.size + 1, 0, none⟩ (.int .i64 (noneD q.look).look)).setCell ⟨w.heap.size + 1, 1, none⟩ (.int .i64 (noneD q.look).kind)).setCell ⟨w.heap.size + 1, 2, none⟩ (.int .i64 (noneD q.look).prod)).setCell ⟨w.heap.size + 1, 3, none⟩ (.slice ao (noneD q.look).drop.length c)).setCell ⟨w.heap.size + 1, 4, none⟩ (.bool (noneD q.look).sd)).setCell ⟨w.heap.size + 1, 5, none⟩ (.int .i64 (noneD q.look).lev)) = W4 at *
  have r0 : W4.cell? ⟨w.heap.size + 1, 0, none⟩ = some (.int .i64 (noneD q.look).look) := (cellq_any q1).trans rfl
  have r1 : W4.cell? ⟨w.heap.size + 1, 1, none⟩ = some (.int .i64 (noneD q.look).kind) := (cellq_any q1).trans rfl
  have r2 : W4.cell? ⟨w.heap.size + 1, 2, none⟩ = some (.int .i64 (noneD q.look).prod) := (cellq_any q1).trans rfl
  have r3 : W4.cell? ⟨w.heap.size + 1, 3, none⟩ = some (.slice ao (noneD q.look).drop.length c) := (cellq_any q1).trans rfl
  have r4 : W4.cell? ⟨w.heap.size + 1, 4, none⟩ = some (.bool (noneD q.look).sd) := (cellq_any q1).trans rfl
  have r5 : W4.cell? ⟨w.heap.size + 1, 5, none⟩ = some (.int .i64 (noneD q.look).lev) := (cellq_any q1).trans rfl
  refine bodyPost_ret (v := dval (noneD q.look) ao c) (by simp [results, Tryz.results22, go_sem, r0, r1, r2, r3, r4, r5, DV.zero]) rfl ?_
  exact ⟨ao, c, rfl, q5, q4⟩
theorem rise_len {l : List Int} (hr : risesU l = true) (h1 : ∀ p ∈ l, -1 <= p) : ∀ i, i < l.length -> (i : Int) - 1 <= l.getD i 0
 | 0, h => by have := h1 _ (mem_getD (d := 0) h); omega
 | i + 1, h => by
  have ih := rise_len hr h1 i (by omega)
  unfold risesU at hr
  have := List.all_eq_true.1 hr i (List.mem_range.2 (by omega))
  have := of_decide_eq_true this
  omega
theorem cf_ok {g : GV} {q : CV} (h : cfE g q = 0) (ok : OkC g) : (0 <= q.look /\ q.look <= g.ts.length) /\ (∀ p ∈ q.red, -1 <= p /\ p < g.ps.length) /\ risesU q.red = true /\ -1 <= q.shift /\ q.red.length <= 257 /\ (q.shift = -1 -> 2 <= q.red.length) /\ (q.shift ≠ -1 -> 1 <= q.red.length /\ q.look < g.ts.length) := by
 unfold cfE at h
 split at h
 ·exact absurd h (by decide)
 rename_i a1
 split at h
 ·exact absurd h (by decide)
 rename_i a2
 split at h
 ·exact absurd h (by decide)
 rename_i a3
 simp only [Bool.not_eq_false] at a1 a2 a3
 unfold rngU at a1
 simp only [Bool.and_eq_true, decide_eq_true_eq, Bool.not_eq_true', List.any_eq_false] at a1
 have hp : ∀ p ∈ q.red, -1 <= p /\ p < g.ps.length := fun p hp => by
  have := a1.1.2 p hp
  unfold oddU at this
  simp only [decide_eq_true_eq, not_and] at this
  by_cases e : p = -1
  ·have := ok.pl.1; omega
  ·have := this e; omega
 refine ⟨⟨a1.1.1.1, a1.1.1.2⟩, hp, a2, a1.2, ?_, fun e => ?_, fun e => ?_⟩
 ·by_cases hz : q.red.length = 0
  ·omega
  ·have h1 := rise_len a2 (fun p hp' => (hp p hp').1) (q.red.length - 1) (by omega)
   have h2 := (hp _ (mem_getD (d := 0) (show q.red.length - 1 < q.red.length by omega))).2
   have := ok.pl.2
   omega
 ·unfold cflU at a3
  rw [if_pos e] at a3
  simpa using a3
 ·unfold cflU at a3
  rw [if_neg e] at a3
  simpa using a3
theorem resolve_P (g : GV) (q : CV) (jb : Nat) (w : World) (h : JU g jb w) (hg : GAt 140737488355328 w g) (ok : OkC g) (hr : InRow w q.ra q.red) (hc : cfE g q = 0) :
  Calls Tryz.prog 22 #[.pointer (some ⟨jb, 0, none⟩), q.val] w (DrO w (resU g q.look q.shift q.red)) := by
 obtain ⟨c1, c2, c3, c4, c5, c6, c7⟩ := cf_ok hc ok
 unfold resU
 by_cases hn : q.shift = -1 ∨ (-1) ∈ q.red
 ·rw [if_pos hn]
  exact resolve_no q jb w hr (by omega) (hn.imp id fun e => List.contains_iff_mem.2 e)
 ·rw [if_neg hn]
  have hs : q.shift ≠ -1 := fun e => hn (.inl e)
  have hm : (-1) ∉ q.red := fun e => hn (.inr e)
  refine resolve_yes g q jb w h hg ok hr ⟨c1.1, (c7 hs).2⟩ (fun p hp => ?_) c5 hs ?_ (fun e => ?_)
  ·have := c2 p hp
   have : p ≠ -1 := fun e => hm (by rw [<- e]; exact hp)
   omega
  ·rw [Bool.eq_false_iff]
   exact fun e => hm (List.contains_iff_mem.1 e)
  ·have := (c7 hs).1
   rw [e] at this
   simp at this
def rsF (g : GV) (er : Int) (q : CV) : DV × Int := if er ≠ 0 then (.zero, er) else if cfE g q ≠ 0 then (.zero, cfE g q) else (resU g q.look q.shift q.red, 0)
def DqO (w : World) (r : DV × Int) (e : Ending) (w' : World) : Prop := ∃ ao c, e = .returned (.tuple #[dval r.1 ao c, .int .i64 r.2]) /\ D2 w.heap.size w' r.1 ao c /\ Below w.heap.size w w'
set_option linter.unusedSimpArgs false in
theorem Resolve_P (g : GV) (q : CV) (w : World) (h : GAt 140737488355328 w g) (hpc : g.ps.length <= g.pc) (er at_ : Int) (hE : checkG g (checkF g.ts g.ns) = (er, at_)) (hl : q.red.length <= 140737488355328) (hr : InRow w q.ra q.red) :
  Calls Tryz.prog 13 #[g.val, q.val] w (DqO w (rsF g er q)) := by
 have X0 : Hid ((((w.alloc (gBox g)).alloc (.cells #[.int .i64 q.st, .int .i64 q.look, .int .i64 q.shift, .slice q.ra q.red.length q.rc] 44)).alloc dZero).heap[w.heap.size]? = some (gBox g) /\ (((w.alloc (gBox g)).alloc (.cells #[.int .i64 q.st, .int .i64 q.look, .int .i64 q.shift, .slice q.ra q.red.length q.rc] 44)).alloc dZero).heap[w.heap.size + 1]? = some (.cells #[.int .i64 q.st, .int .i64 q.look, .int .i64 q.shift, .slice q.ra q.red.length q.rc] 44 (0, 0)) /\ (((w.alloc (gBox g)).alloc (.cells #[.int .i64 q.st, .int .i64 q.look, .int .i64 q.shift, .slice q.ra q.red.length q.rc] 44)).alloc dZero).heap[w.heap.size + 1 + 1]? = some (.cells #[.int .i64 0, .int .i64 0, .int .i64 0, .slice none 0 0, .bool false, .int .i64 0] 58 (0, 0)) /\ Below w.heap.size w (((w.alloc (gBox g)).alloc (.cells #[.int .i64 q.st, .int .i64 q.look, .int .i64 q.shift, .slice q.ra q.red.length q.rc] 44)).alloc dZero)) := by
  have N := GC.new g q w
  have q1 := heap_alloc_new ((w.alloc (gBox g)).alloc (.cells #[.int .i64 q.st, .int .i64 q.look, .int .i64 q.shift, .slice q.ra q.red.length q.rc] 44)) dZero
  rw [alZ, alZ] at q1
  exact ⟨blk_later N.gb (below_alloc _ _), blk_later N.cb (below_alloc _ _), q1, N.bel.trans ((below_alloc _ _).mono N.bel.size)⟩
 have CK : Hid (∀ w', Below w.heap.size w w' -> Calls Tryz.prog 19 #[g.val] w' fun e w'' => e = .returned (.tuple #[.int .i64 er, .int .i64 at_]) /\ Below w'.heap.size w' w'') := fun w' hb => check_G g w' (h.later hb) hpc er at_ hE
 have CF : Hid (∀ w', Below w.heap.size w w' -> Calls Tryz.prog 20 #[g.val, q.val] w' fun e w'' => e = .returned (.int .i64 (cfE g q)) /\ Below w'.heap.size w' w'') := fun w' hb => checkConflict_P g q w' h.tl h.pl hl (hr.later hb)
 have t0 : ((0 : Int) != 0) = false := by decide
 by_cases h0 : er = 0
 case neg =>
  have t1 : (er != 0) = true := by simpa using h0
  have E : Hid (rsF g er q = (.zero, er)) := by show _ = _; simp [rsF, h0]
  clear h hE h0 hr
  go_enter Tryz.func13, Tryz.ntmps13
  go_wp2_with (first
   | (go_at_call 19; refine (CK.out _ X0.out.2.2.2).mono ?_; rintro e w1 ⟨rfl, b1⟩; have X1 : Hid (w1.heap[w.heap.size]? = some (gBox g) /\ w1.heap[w.heap.size + 1]? = some (.cells #[.int .i64 q.st, .int .i64 q.look, .int .i64 q.shift, .slice q.ra q.red.length q.rc] 44 (0, 0)) /\ w1.heap[w.heap.size + 1 + 1]? = some (.cells #[.int .i64 0, .int .i64 0, .int .i64 0, .slice none 0 0, .bool false, .int .i64 0] 58 (0, 0)) /\ Below w.heap.size w w1) := ⟨blk_later X0.out.1 b1, blk_later X0.out.2.1 b1, blk_later X0.out.2.2.1 b1, X0.out.2.2.2.trans (b1.mono X0.out.2.2.2.size)⟩; clear b1; obtain ⟨y0, y1, y2, y3, y4⟩ := gb_cells X1.out.1; obtain ⟨u0, u1, u2, u3⟩ := cb_cells (q := q) X1.out.2.1; obtain ⟨⟨z0, z1, z2, z3, z4, z5⟩, ⟨f0, f1, f2, f3, f4, f5⟩, hzz⟩ := dz_cells X1.out.2.2.1))
  obtain ⟨q1, q2, q3⟩ := six_set X1.out.2.2.1 (.int .i64 0) (.int .i64 0) (.int .i64 0) (.slice none 0 0) (.bool false) (.int .i64 0)
  have q4 := q3 _ _ X1.out.2.2.2 (by omega)
  have q5 : D2 w.heap.size ((((((w1.setCell ⟨w.heap.size + 1 + 1, 0, none⟩ (.int .i64 0)).setCell ⟨w.heap.size + 1 + 1, 1, none⟩ (.int .i64 0)).setCell ⟨w.heap.size + 1 + 1, 2, none⟩ (.int .i64 0)).setCell ⟨w.heap.size + 1 + 1, 3, none⟩ (.slice none 0 0)).setCell ⟨w.heap.size + 1 + 1, 4, none⟩ (.bool false)).setCell ⟨w.heap.size + 1 + 1, 5, none⟩ (.int .i64 0)) (DV.zero) none 0 := .inl ⟨rfl, rfl, rfl⟩
  generalize ((((((w1.setCell ⟨w.heap.size + 1 + 1, 0, none⟩ (.int .i64 0)).setCell ⟨w.heap.size + 1 + 1, 1, none⟩ (.int .i64 0)).setCell ⟨w.heap.size + 1 + 1, 2, none⟩ (.int .i64 0)).setCell ⟨w.heap.size + 1 + 1, 3, none⟩ (.slice none 0 0)).setCell ⟨w.heap.size + 1 + 1, 4, none⟩ (.bool false)).setCell ⟨w.heap.size + 1 + 1, 5, none⟩ (.int .i64 0)) = W4 at *
  have r0 : W4.cell? ⟨w.heap.size + 1 + 1, 0, none⟩ = some (.int .i64 0) := (cellq_any q1).trans rfl
  have r1 : W4.cell? ⟨w.heap.size + 1 + 1, 1, none⟩ = some (.int .i64 0) := (cellq_any q1).trans rfl
  have r2 : W4.cell? ⟨w.heap.size + 1 + 1, 2, none⟩ = some (.int .i64 0) := (cellq_any q1).trans rfl
  have r3 : W4.cell? ⟨w.heap.size + 1 + 1, 3, none⟩ = some (.slice none 0 0) := (cellq_any q1).trans rfl
  have r4 : W4.cell? ⟨w.heap.size + 1 + 1, 4, none⟩ = some (.bool false) := (cellq_any q1).trans rfl
  have r5 : W4.cell? ⟨w.heap.size + 1 + 1, 5, none⟩ = some (.int .i64 0) := (cellq_any q1).trans rfl
  refine bodyPost_ret (v := .tuple #[dval DV.zero none 0, .int .i64 er]) (by simp [results, Tryz.results13, go_sem, r0, r1, r2, r3, r4, r5, DV.zero]) rfl ?_
  rw [E.out]; exact ⟨none, 0, rfl, q5, q4⟩
 subst h0
 have ok : OkC g := OkC.of (by rw [hE])
 by_cases hc : cfE g q = 0
 case neg =>
  have t1 : (cfE g q != 0) = true := by simpa using hc
  have E : Hid (rsF g 0 q = (.zero, cfE g q)) := by show _ = _; simp [rsF, hc]
  clear h hE hr hc
  generalize cfE g q = ce at *
  go_enter Tryz.func13, Tryz.ntmps13
  go_wp2_with (first
   | (go_at_call 19; refine (CK.out _ X0.out.2.2.2).mono ?_; rintro e w1 ⟨rfl, b1⟩; have X1 : Hid (w1.heap[w.heap.size]? = some (gBox g) /\ w1.heap[w.heap.size + 1]? = some (.cells #[.int .i64 q.st, .int .i64 q.look, .int .i64 q.shift, .slice q.ra q.red.length q.rc] 44 (0, 0)) /\ w1.heap[w.heap.size + 1 + 1]? = some (.cells #[.int .i64 0, .int .i64 0, .int .i64 0, .slice none 0 0, .bool false, .int .i64 0] 58 (0, 0)) /\ Below w.heap.size w w1) := ⟨blk_later X0.out.1 b1, blk_later X0.out.2.1 b1, blk_later X0.out.2.2.1 b1, X0.out.2.2.2.trans (b1.mono X0.out.2.2.2.size)⟩; clear b1; obtain ⟨y0, y1, y2, y3, y4⟩ := gb_cells X1.out.1; obtain ⟨u0, u1, u2, u3⟩ := cb_cells (q := q) X1.out.2.1; obtain ⟨⟨z0, z1, z2, z3, z4, z5⟩, ⟨f0, f1, f2, f3, f4, f5⟩, hzz⟩ := dz_cells X1.out.2.2.1)
   | (go_at_call 20; refine (CF.out _ X1.out.2.2.2).mono ?_; rintro e w2 ⟨rfl, b2⟩; clear y0 y1 y2 y3 y4 u0 u1 u2 u3 z0 z1 z2 z3 z4 z5 f0 f1 f2 f3 f4 f5 hzz; have X2 : Hid (w2.heap[w.heap.size]? = some (gBox g) /\ w2.heap[w.heap.size + 1]? = some (.cells #[.int .i64 q.st, .int .i64 q.look, .int .i64 q.shift, .slice q.ra q.red.length q.rc] 44 (0, 0)) /\ w2.heap[w.heap.size + 1 + 1]? = some (.cells #[.int .i64 0, .int .i64 0, .int .i64 0, .slice none 0 0, .bool false, .int .i64 0] 58 (0, 0)) /\ Below w.heap.size w w2) := ⟨blk_later X1.out.1 b2, blk_later X1.out.2.1 b2, blk_later X1.out.2.2.1 b2, X1.out.2.2.2.trans (b2.mono X1.out.2.2.2.size)⟩; clear b2; obtain ⟨y0, y1, y2, y3, y4⟩ := gb_cells X2.out.1; obtain ⟨u0, u1, u2, u3⟩ := cb_cells (q := q) X2.out.2.1; obtain ⟨⟨z0, z1, z2, z3, z4, z5⟩, ⟨f0, f1, f2, f3, f4, f5⟩, hzz⟩ := dz_cells X2.out.2.2.1))
  obtain ⟨q1, q2, q3⟩ := six_set X2.out.2.2.1 (.int .i64 0) (.int .i64 0) (.int .i64 0) (.slice none 0 0) (.bool false) (.int .i64 0)
  have q4 := q3 _ _ X2.out.2.2.2 (by omega)
  have q5 : D2 w.heap.size ((((((w2.setCell ⟨w.heap.size + 1 + 1, 0, none⟩ (.int .i64 0)).setCell ⟨w.heap.size + 1 + 1, 1, none⟩ (.int .i64 0)).setCell ⟨w.heap.size + 1 + 1, 2, none⟩ (.int .i64 0)).setCell ⟨w.heap.size + 1 + 1, 3, none⟩ (.slice none 0 0)).setCell ⟨w.heap.size + 1 + 1, 4, none⟩ (.bool false)).setCell ⟨w.heap.size + 1 + 1, 5, none⟩ (.int .i64 0)) (DV.zero) none 0 := .inl ⟨rfl, rfl, rfl⟩
  generalize ((((((w2.setCell ⟨w.heap.size + 1 + 1, 0, none⟩ (.int .i64 0)).setCell ⟨w.heap.size + 1 + 1, 1, none⟩ (.int .i64 0)).setCell ⟨w.heap.size + 1 + 1, 2, none⟩ (.int .i64 0)).setCell ⟨w.heap.size + 1 + 1, 3, none⟩ (.slice none 0 0)).setCell ⟨w.heap.size + 1 + 1, 4, none⟩ (.bool false)).setCell ⟨w.heap.size + 1 + 1, 5, none⟩ (.int .i64 0)) = W4 at *
  have r0 : W4.cell? ⟨w.heap.size + 1 + 1, 0, none⟩ = some (.int .i64 0) := (cellq_any q1).trans rfl
  have r1 : W4.cell? ⟨w.heap.size + 1 + 1, 1, none⟩ = some (.int .i64 0) := (cellq_any q1).trans rfl
  have r2 : W4.cell? ⟨w.heap.size + 1 + 1, 2, none⟩ = some (.int .i64 0) := (cellq_any q1).trans rfl
  have r3 : W4.cell? ⟨w.heap.size + 1 + 1, 3, none⟩ = some (.slice none 0 0) := (cellq_any q1).trans rfl
  have r4 : W4.cell? ⟨w.heap.size + 1 + 1, 4, none⟩ = some (.bool false) := (cellq_any q1).trans rfl
  have r5 : W4.cell? ⟨w.heap.size + 1 + 1, 5, none⟩ = some (.int .i64 0) := (cellq_any q1).trans rfl
  refine bodyPost_ret (v := .tuple #[dval DV.zero none 0, .int .i64 ce]) (by simp [results, Tryz.results13, go_sem, r0, r1, r2, r3, r4, r5, DV.zero]) rfl ?_
  rw [E.out]; exact ⟨none, 0, rfl, q5, q4⟩
 have E : Hid (rsF g 0 q = (resU g q.look q.shift q.red, 0)) := by show _ = _; simp [rsF, hc]
 have JO : Hid (∀ w', Below w.heap.size w w' -> Calls Tryz.prog 21 #[g.val] w' fun e w'' => ∃ jb, e = .returned (.pointer (some ⟨jb, 0, none⟩)) /\ JU g jb w'' /\ w'.heap.size <= jb /\ Below w'.heap.size w' w'') := fun w' hb => judgeOf_P g w' (h.later hb) ok
 have RO : Hid (∀ w' jb, Below w.heap.size w w' -> JU g jb w' -> Calls Tryz.prog 22 #[.pointer (some ⟨jb, 0, none⟩), q.val] w' (DrO w' (resU g q.look q.shift q.red))) := fun w' jb hb hj => resolve_P g q jb w' hj (h.later hb) ok (hr.later hb) hc
 rw [hc] at CF
 clear h hE hr hc ok
 go_enter Tryz.func13, Tryz.ntmps13
 go_wp2_with (first
  | (go_at_call 19; refine (CK.out _ X0.out.2.2.2).mono ?_; rintro e w1 ⟨rfl, b1⟩; have X1 : Hid (w1.heap[w.heap.size]? = some (gBox g) /\ w1.heap[w.heap.size + 1]? = some (.cells #[.int .i64 q.st, .int .i64 q.look, .int .i64 q.shift, .slice q.ra q.red.length q.rc] 44 (0, 0)) /\ w1.heap[w.heap.size + 1 + 1]? = some (.cells #[.int .i64 0, .int .i64 0, .int .i64 0, .slice none 0 0, .bool false, .int .i64 0] 58 (0, 0)) /\ Below w.heap.size w w1) := ⟨blk_later X0.out.1 b1, blk_later X0.out.2.1 b1, blk_later X0.out.2.2.1 b1, X0.out.2.2.2.trans (b1.mono X0.out.2.2.2.size)⟩; clear b1; obtain ⟨y0, y1, y2, y3, y4⟩ := gb_cells X1.out.1; obtain ⟨u0, u1, u2, u3⟩ := cb_cells (q := q) X1.out.2.1; obtain ⟨⟨z0, z1, z2, z3, z4, z5⟩, ⟨f0, f1, f2, f3, f4, f5⟩, hzz⟩ := dz_cells X1.out.2.2.1)
  | (go_at_call 20; refine (CF.out _ X1.out.2.2.2).mono ?_; rintro e w2 ⟨rfl, b2⟩; clear y0 y1 y2 y3 y4 u0 u1 u2 u3 z0 z1 z2 z3 z4 z5 f0 f1 f2 f3 f4 f5 hzz; have X2 : Hid (w2.heap[w.heap.size]? = some (gBox g) /\ w2.heap[w.heap.size + 1]? = some (.cells #[.int .i64 q.st, .int .i64 q.look, .int .i64 q.shift, .slice q.ra q.red.length q.rc] 44 (0, 0)) /\ w2.heap[w.heap.size + 1 + 1]? = some (.cells #[.int .i64 0, .int .i64 0, .int .i64 0, .slice none 0 0, .bool false, .int .i64 0] 58 (0, 0)) /\ Below w.heap.size w w2) := ⟨blk_later X1.out.1 b2, blk_later X1.out.2.1 b2, blk_later X1.out.2.2.1 b2, X1.out.2.2.2.trans (b2.mono X1.out.2.2.2.size)⟩; clear b2; obtain ⟨y0, y1, y2, y3, y4⟩ := gb_cells X2.out.1; obtain ⟨u0, u1, u2, u3⟩ := cb_cells (q := q) X2.out.2.1; obtain ⟨⟨z0, z1, z2, z3, z4, z5⟩, ⟨f0, f1, f2, f3, f4, f5⟩, hzz⟩ := dz_cells X2.out.2.2.1))
 have HS : Hid (∀ w', w'.heap[w.heap.size]? = some (gBox g) -> w'.heap[w.heap.size + 1]? = some (.cells #[.int .i64 q.st, .int .i64 q.look, .int .i64 q.shift, .slice q.ra q.red.length q.rc] 44 (0, 0)) -> (fun w' : World => (w'.cell? ⟨w.heap.size, 0, none⟩ = some (.slice g.ta g.ts.length g.tc) /\ w'.cell? ⟨w.heap.size, 1, none⟩ = some (.slice g.na g.ns.length g.nc) /\ w'.cell? ⟨w.heap.size, 2, none⟩ = some (.int .i64 g.start) /\ w'.cell? ⟨w.heap.size, 3, none⟩ = some (.slice g.pa g.ps.length g.pc) /\ w'.cell? ⟨w.heap.size, 4, none⟩ = some (.slice g.la g.ls.length g.lc)) /\ w'.cell? ⟨w.heap.size + 1, 0, none⟩ = some (.int .i64 q.st) /\ w'.cell? ⟨w.heap.size + 1, 1, none⟩ = some (.int .i64 q.look) /\ w'.cell? ⟨w.heap.size + 1, 2, none⟩ = some (.int .i64 q.shift) /\ w'.cell? ⟨w.heap.size + 1, 3, none⟩ = some (.slice q.ra q.red.length q.rc)) w') := fun w' h1 h2 => by
  obtain ⟨a0, a1, a2, a3, a4⟩ := gb_cells h1
  obtain ⟨b0, b1, b2, b3⟩ := cb_cells (q := q) h2
  exact ⟨⟨a0, a1, a2, a3, a4⟩, b0, b1, b2, b3⟩
 have XD : Hid (w2.drew.heap[w.heap.size]? = some (gBox g) /\ w2.drew.heap[w.heap.size + 1]? = some (.cells #[.int .i64 q.st, .int .i64 q.look, .int .i64 q.shift, .slice q.ra q.red.length q.rc] 44 (0, 0)) /\ w2.drew.heap[w.heap.size + 1 + 1]? = some (.cells #[.int .i64 0, .int .i64 0, .int .i64 0, .slice none 0 0, .bool false, .int .i64 0] 58 (0, 0)) /\ Below w.heap.size w w2.drew) := ⟨X2.out.1, X2.out.2.1, X2.out.2.2.1, X2.out.2.2.2.drew⟩
 have hs : Hid ((fun w' : World => (w'.cell? ⟨w.heap.size, 0, none⟩ = some (.slice g.ta g.ts.length g.tc) /\ w'.cell? ⟨w.heap.size, 1, none⟩ = some (.slice g.na g.ns.length g.nc) /\ w'.cell? ⟨w.heap.size, 2, none⟩ = some (.int .i64 g.start) /\ w'.cell? ⟨w.heap.size, 3, none⟩ = some (.slice g.pa g.ps.length g.pc) /\ w'.cell? ⟨w.heap.size, 4, none⟩ = some (.slice g.la g.ls.length g.lc)) /\ w'.cell? ⟨w.heap.size + 1, 0, none⟩ = some (.int .i64 q.st) /\ w'.cell? ⟨w.heap.size + 1, 1, none⟩ = some (.int .i64 q.look) /\ w'.cell? ⟨w.heap.size + 1, 2, none⟩ = some (.int .i64 q.shift) /\ w'.cell? ⟨w.heap.size + 1, 3, none⟩ = some (.slice q.ra q.red.length q.rc)) w2.drew) := HS.out _ XD.out.1 XD.out.2.1
 clear y0 y1 y2 y3 y4 u0 u1 u2 u3 z0 z1 z2 z3 z4 z5 f0 f1 f2 f3 f4 f5 hzz
 refine wp_region_x (S := fun _ => (fun w' : World => (w'.cell? ⟨w.heap.size, 0, none⟩ = some (.slice g.ta g.ts.length g.tc) /\ w'.cell? ⟨w.heap.size, 1, none⟩ = some (.slice g.na g.ns.length g.nc) /\ w'.cell? ⟨w.heap.size, 2, none⟩ = some (.int .i64 g.start) /\ w'.cell? ⟨w.heap.size, 3, none⟩ = some (.slice g.pa g.ps.length g.pc) /\ w'.cell? ⟨w.heap.size, 4, none⟩ = some (.slice g.la g.ls.length g.lc)) /\ w'.cell? ⟨w.heap.size + 1, 0, none⟩ = some (.int .i64 q.st) /\ w'.cell? ⟨w.heap.size + 1, 1, none⟩ = some (.int .i64 q.look) /\ w'.cell? ⟨w.heap.size + 1, 2, none⟩ = some (.int .i64 q.shift) /\ w'.cell? ⟨w.heap.size + 1, 3, none⟩ = some (.slice q.ra q.red.length q.rc))) (by kernel_rfl) ?_
 refine takeF (i := 0) (v := ?_) rfl (by kernel_rfl) (by decide +kernel) (by decide +kernel) (fun _ _ _ h => h) (Or.inl ⟨by rfl, ?_⟩) hs.out ?_
 rotate_left
 ·(intro w hSw; (try dsimp only at hSw); go_simp; try (with_reducible rfl))
 (try simp only [Act.put, lsA, lsZ, lsN])
 refine takeF (i := 2) (v := ?_) rfl (by kernel_rfl) (by decide +kernel) (by decide +kernel) (fun _ _ _ h => h) (Or.inl ⟨by rfl, ?_⟩) hs.out ?_
 rotate_left
 ·(intro w hSw; (try dsimp only at hSw); go_simp; try (with_reducible rfl))
 (try simp only [Act.put, lsA, lsZ, lsN])
 refine wpAnyX_one (j := 1) (by decide +kernel) rfl (fun K' hK => ?_)
 refine step_callX (by rfl) 21 #[g.val] _ (by apply run_call1 (enters_of Tryz.func21 (by kernel_rfl) rfl) <;> rfl) (JO.out _ XD.out.2.2.2) ?_
 rintro e w3 ⟨jb, rfl, ju', -, b3⟩
 have JU3 : Hid (JU g jb w3) := ju'
 have X3 : Hid (w3.heap[w.heap.size]? = some (gBox g) /\ w3.heap[w.heap.size + 1]? = some (.cells #[.int .i64 q.st, .int .i64 q.look, .int .i64 q.shift, .slice q.ra q.red.length q.rc] 44 (0, 0)) /\ w3.heap[w.heap.size + 1 + 1]? = some (.cells #[.int .i64 0, .int .i64 0, .int .i64 0, .slice none 0 0, .bool false, .int .i64 0] 58 (0, 0)) /\ Below w.heap.size w w3) := ⟨blk_later XD.out.1 b3, blk_later XD.out.2.1 b3, blk_later XD.out.2.2.1 b3, XD.out.2.2.2.trans (b3.mono XD.out.2.2.2.size)⟩
 clear b3 ju'
 refine ⟨_, rfl, hK.out _ _ (HS.out _ X3.out.1 X3.out.2.1) ?_⟩
 clear hK K'
 (try simp only [Act.put, lsA, lsZ, lsN])
 refine wpAnyX_one (j := 3) (by decide +kernel) rfl (fun K' hK => ?_)
 refine step_callX (by rfl) 22 #[.pointer (some ⟨jb, 0, none⟩), q.val] _ (by apply run_call2 (enters_of Tryz.func22 (by kernel_rfl) rfl) <;> rfl) (RO.out _ jb X3.out.2.2.2 JU3.out) ?_
 rintro e w4 ⟨ao, c, rfl, d4', b4⟩
 have D4 : Hid (D2 w3.heap.size w4 (resU g q.look q.shift q.red) ao c /\ w.heap.size + 1 + 1 < w3.heap.size) := ⟨d4', lt_of_block X3.out.2.2.1⟩
 have X4 : Hid (w4.heap[w.heap.size]? = some (gBox g) /\ w4.heap[w.heap.size + 1]? = some (.cells #[.int .i64 q.st, .int .i64 q.look, .int .i64 q.shift, .slice q.ra q.red.length q.rc] 44 (0, 0)) /\ w4.heap[w.heap.size + 1 + 1]? = some (.cells #[.int .i64 0, .int .i64 0, .int .i64 0, .slice none 0 0, .bool false, .int .i64 0] 58 (0, 0)) /\ Below w.heap.size w w4) := ⟨blk_later X3.out.1 b4, blk_later X3.out.2.1 b4, blk_later X3.out.2.2.1 b4, X3.out.2.2.2.trans (b4.mono X3.out.2.2.2.size)⟩
 clear d4' b4
 obtain ⟨⟨z0, z1, z2, z3, z4, z5⟩, ⟨f0, f1, f2, f3, f4, f5⟩, hzz⟩ := dz_cells X4.out.2.2.1
 refine ⟨_, rfl, hK.out _ _ (HS.out _ X4.out.1 X4.out.2.1) ?_⟩
 clear hK K'
 (try simp only [Act.put, lsA, lsZ, lsN])
 refine wpAnyX_one (j := 4) (by decide +kernel) rfl (fun K' hK => ?_)
 go_simp
 obtain ⟨q1, q2, q3⟩ := six_set X4.out.2.2.1 (.int .i64 (resU g q.look q.shift q.red).look) (.int .i64 (resU g q.look q.shift q.red).kind) (.int .i64 (resU g q.look q.shift q.red).prod) (.slice ao (resU g q.look q.shift q.red).drop.length c) (.bool (resU g q.look q.shift q.red).sd) (.int .i64 (resU g q.look q.shift q.red).lev)
 have S5 : Hid ((fun w' : World => (w'.cell? ⟨w.heap.size, 0, none⟩ = some (.slice g.ta g.ts.length g.tc) /\ w'.cell? ⟨w.heap.size, 1, none⟩ = some (.slice g.na g.ns.length g.nc) /\ w'.cell? ⟨w.heap.size, 2, none⟩ = some (.int .i64 g.start) /\ w'.cell? ⟨w.heap.size, 3, none⟩ = some (.slice g.pa g.ps.length g.pc) /\ w'.cell? ⟨w.heap.size, 4, none⟩ = some (.slice g.la g.ls.length g.lc)) /\ w'.cell? ⟨w.heap.size + 1, 0, none⟩ = some (.int .i64 q.st) /\ w'.cell? ⟨w.heap.size + 1, 1, none⟩ = some (.int .i64 q.look) /\ w'.cell? ⟨w.heap.size + 1, 2, none⟩ = some (.int .i64 q.shift) /\ w'.cell? ⟨w.heap.size + 1, 3, none⟩ = some (.slice q.ra q.red.length q.rc)) ((((((w4.setCell ⟨w.heap.size + 1 + 1, 0, none⟩ (.int .i64 (resU g q.look q.shift q.red).look)).setCell ⟨w.heap.size + 1 + 1, 1, none⟩ (.int .i64 (resU g q.look q.shift q.red).kind)).setCell ⟨w.heap.size + 1 + 1, 2, none⟩ (.int .i64 (resU g q.look q.shift q.red).prod)).setCell ⟨w.heap.size + 1 + 1, 3, none⟩ (.slice ao (resU g q.look q.shift q.red).drop.length c)).setCell ⟨w.heap.size + 1 + 1, 4, none⟩ (.bool (resU g q.look q.shift q.red).sd)).setCell ⟨w.heap.size + 1 + 1, 5, none⟩ (.int .i64 (resU g q.look q.shift q.red).lev))) := HS.out _ ((q2 _ (by omega)).trans X4.out.1) ((q2 _ (by omega)).trans X4.out.2.1)
 refine hK.out _ _ S5.out ?_
 clear hK K' q1 q2 q3 z0 z1 z2 z3 z4 z5 f0 f1 f2 f3 f4 f5 hzz
 (try simp only [Act.put, lsA, lsZ, lsN])
 refine wpAnyX_one (j := 5) (by decide +kernel) rfl (fun K' hK => ?_)
 go_simp
 refine hK.out _ _ S5.out ?_
 clear hK K'
 (try simp only [Act.put, lsA, lsZ, lsN])
 refine wpAnyX_done (by decide +kernel) ?_
 go_wp2
 obtain ⟨q1, q2, q3⟩ := six_set X4.out.2.2.1 (.int .i64 (resU g q.look q.shift q.red).look) (.int .i64 (resU g q.look q.shift q.red).kind) (.int .i64 (resU g q.look q.shift q.red).prod) (.slice ao (resU g q.look q.shift q.red).drop.length c) (.bool (resU g q.look q.shift q.red).sd) (.int .i64 (resU g q.look q.shift q.red).lev)
 have q4 := q3 _ _ X4.out.2.2.2 (by omega)
 have q5 : D2 w.heap.size ((((((w4.setCell ⟨w.heap.size + 1 + 1, 0, none⟩ (.int .i64 (resU g q.look q.shift q.red).look)).setCell ⟨w.heap.size + 1 + 1, 1, none⟩ (.int .i64 (resU g q.look q.shift q.red).kind)).setCell ⟨w.heap.size + 1 + 1, 2, none⟩ (.int .i64 (resU g q.look q.shift q.red).prod)).setCell ⟨w.heap.size + 1 + 1, 3, none⟩ (.slice ao (resU g q.look q.shift q.red).drop.length c)).setCell ⟨w.heap.size + 1 + 1, 4, none⟩ (.bool (resU g q.look q.shift q.red).sd)).setCell ⟨w.heap.size + 1 + 1, 5, none⟩ (.int .i64 (resU g q.look q.shift q.red).lev)) (resU g q.look q.shift q.red) ao c := D4.out.1.kept (by have := D4.out.2; omega) fun j hj => q2 j (by have := D4.out.2; omega)
 generalize ((((((w4.setCell ⟨w.heap.size + 1 + 1, 0, none⟩ (.int .i64 (resU g q.look q.shift q.red).look)).setCell ⟨w.heap.size + 1 + 1, 1, none⟩ (.int .i64 (resU g q.look q.shift q.red).kind)).setCell ⟨w.heap.size + 1 + 1, 2, none⟩ (.int .i64 (resU g q.look q.shift q.red).prod)).setCell ⟨w.heap.size + 1 + 1, 3, none⟩ (.slice ao (resU g q.look q.shift q.red).drop.length c)).setCell ⟨w.heap.size + 1 + 1, 4, none⟩ (.bool (resU g q.look q.shift q.red).sd)).setCell ⟨w.heap.size + 1 + 1, 5, none⟩ (.int .i64 (resU g q.look q.shift q.red).lev)) = W4 at *
 have r0 : W4.cell? ⟨w.heap.size + 1 + 1, 0, none⟩ = some (.int .i64 (resU g q.look q.shift q.red).look) := (cellq_any q1).trans rfl
 have r1 : W4.cell? ⟨w.heap.size + 1 + 1, 1, none⟩ = some (.int .i64 (resU g q.look q.shift q.red).kind) := (cellq_any q1).trans rfl
 have r2 : W4.cell? ⟨w.heap.size + 1 + 1, 2, none⟩ = some (.int .i64 (resU g q.look q.shift q.red).prod) := (cellq_any q1).trans rfl
 have r3 : W4.cell? ⟨w.heap.size + 1 + 1, 3, none⟩ = some (.slice ao (resU g q.look q.shift q.red).drop.length c) := (cellq_any q1).trans rfl
 have r4 : W4.cell? ⟨w.heap.size + 1 + 1, 4, none⟩ = some (.bool (resU g q.look q.shift q.red).sd) := (cellq_any q1).trans rfl
 have r5 : W4.cell? ⟨w.heap.size + 1 + 1, 5, none⟩ = some (.int .i64 (resU g q.look q.shift q.red).lev) := (cellq_any q1).trans rfl
 refine bodyPost_ret (v := .tuple #[dval (resU g q.look q.shift q.red) ao c, .int .i64 0]) (by simp [results, Tryz.results13, go_sem, r0, r1, r2, r3, r4, r5, DV.zero]) rfl ?_
 rw [E.out]; exact ⟨ao, c, rfl, q5, q4⟩
end Go.Proofs.YtjpknihkcndoiaaGreat
namespace Go.Proofs.YtjpknihkcndoiaaGreat
set_option linter.unusedVariables false
set_option maxRecDepth 100000
set_option maxHeartbeats 16000000
open Go.RowKit Go.Maps
theorem dec_shape (g : GV) (p : Nat) (t : Int) : decU g p t = noneD t ∨ ∃ L, 0 <= L /\ (decU g p t = redD p t L ∨ decU g p t = shiD p t L ∨ decU g p t = errD p t L) := by
 have hT := lev_ge g.ls t
 have hP : -1 <= plvU g p /\ plvU g p < g.ls.length := lev_ge g.ls _
 unfold decU
 generalize plvU g p = P at *
 generalize levU g.ls t = T at *
 unfold duelD
 by_cases h1 : P = -1 ∨ T = -1
 ·rw [if_pos h1]; exact .inl rfl
 ·rw [if_neg h1]
  right
  by_cases h2 : T < P
  ·rw [if_pos h2]; exact ⟨P, by omega, .inl rfl⟩
  ·rw [if_neg h2]
   by_cases h3 : P < T
   ·rw [if_pos h3]; exact ⟨T, by omega, .inr (.inl rfl)⟩
   ·rw [if_neg h3]
    unfold eqD
    by_cases h4 : (g.ls.getD P.toNat .none).assoc = 1
    ·rw [if_pos h4]; exact ⟨P, by omega, .inl rfl⟩
    ·rw [if_neg h4]
     by_cases h5 : (g.ls.getD P.toNat .none).assoc = 2
     ·rw [if_pos h5]; exact ⟨P, by omega, .inr (.inl rfl)⟩
     ·rw [if_neg h5]; exact ⟨P, by omega, .inr (.inr rfl)⟩
theorem kindD_mem {k : Int} {ds : List DV} {d : DV} {r : List DV} (h : kindD k ds = d :: r) : d ∈ ds /\ d.kind = k := by
 have : d ∈ kindD k ds := by rw [h]; simp
 unfold kindD at this
 have := List.mem_filter.1 this
 exact ⟨this.1, by simpa using this.2⟩
theorem pick_shape (look : Int) (red : List Int) (ds : List DV) : pickD look red ds = noneD look ∨ ∃ d, d ∈ ds /\ d.kind ≠ 0 /\ pickD look red ds = dropD d red := by
 unfold pickD
 split
 ·exact .inl rfl
 ·split
  ·rename_i d r e
   have := kindD_mem e
   exact .inr ⟨d, this.1, by omega, rfl⟩
  ·split
   ·rename_i d r e
    have := kindD_mem e
    exact .inr ⟨d, this.1, by omega, rfl⟩
   ·split
    ·rename_i d r e
     have := kindD_mem e
     exact .inr ⟨d, this.1, by omega, rfl⟩
    ·exact .inl rfl
theorem res_shape (g : GV) (q : CV) (hp : ∀ p ∈ q.red, -1 <= p) : resU g q.look q.shift q.red = noneD q.look ∨ (q.shift ≠ -1 /\ (-1) ∉ q.red /\ ∃ p ∈ q.red, ∃ L, 0 <= L /\ (resU g q.look q.shift q.red = dropD (redD p q.look L) q.red ∨ resU g q.look q.shift q.red = dropD (shiD p q.look L) q.red ∨ resU g q.look q.shift q.red = dropD (errD p q.look L) q.red)) := by
 unfold resU
 by_cases hn : q.shift = -1 ∨ (-1) ∈ q.red
 ·rw [if_pos hn]; exact .inl rfl
 ·rw [if_neg hn]
  rcases pick_shape q.look q.red (q.red.map fun p => decU g p.toNat q.look) with h | ⟨d, hd, hk, h⟩
  ·exact .inl h
  ·right
   refine ⟨fun e => hn (.inl e), fun e => hn (.inr e), ?_⟩
   obtain ⟨p, hpm, rfl⟩ := List.mem_map.1 hd
   have hp0 := hp p hpm
   have hp1 : p ≠ -1 := fun e => hn (.inr (by rw [<- e]; exact hpm))
   have ep : ((p.toNat : Nat) : Int) = p := Int.toNat_of_nonneg (by omega)
   rw [h]
   rcases dec_shape g p.toNat q.look with e | ⟨L, hL, e⟩
   ·rw [e] at hk
    exact absurd rfl hk
   ·rw [ep] at e
    refine ⟨p, hpm, L, hL, ?_⟩
    rcases e with e | e | e
    ·rw [e]; exact .inl rfl
    ·rw [e]; exact .inr (.inl rfl)
    ·rw [e]; exact .inr (.inr rfl)
theorem res_len {g : GV} {q : CV} (ok : OkC g) (hc : cfE g q = 0) : (resU g q.look q.shift q.red).drop.length <= 257 := by
 obtain ⟨c1, c2, c3, c4, c5, c6, c7⟩ := cf_ok hc ok
 rcases res_shape g q (fun p hp => (c2 p hp).1) with h | ⟨hs, hn, p, hp, L, hL, h⟩
 ·rw [h]; simp [noneD]
 ·have : ∀ d, (dropD d q.red).drop.length <= 257 := fun d => Nat.le_trans (keep_len _ _) c5
  rcases h with h | h | h <;> rw [h] <;> exact this _
end Go.Proofs.YtjpknihkcndoiaaGreat
