import Derived.Test.YtlkkllehaabebabPPC23ToPC24
namespace Go.Proofs.Ytlkkllehaabebab
set_option linter.unusedVariables false
set_option maxRecDepth 100000
set_option maxHeartbeats 16000000
open Go.RowKit Go.Maps
set_option linter.unusedSimpArgs false in
theorem resolve_no (q : CV) (jb : Nat) (w : World) (hr : InRow w q.ra q.red) (hrl : q.red.length <= 140737488355328) (hs : q.shift = -1 ∨ q.red.contains (-1) = true) :
  Calls Try.prog 16 #[.pointer (some ⟨jb, 0, none⟩), q.val] w (DrO w (noneD q.look)) := by
 have X0 : Hid (((w.alloc (.cells #[.int .i64 q.st, .int .i64 q.look, .int .i64 q.shift, .slice q.ra q.red.length q.rc] 68)).alloc dZero).heap[w.heap.size]? = some (.cells #[.int .i64 q.st, .int .i64 q.look, .int .i64 q.shift, .slice q.ra q.red.length q.rc] 68 (0, 0)) /\ ((w.alloc (.cells #[.int .i64 q.st, .int .i64 q.look, .int .i64 q.shift, .slice q.ra q.red.length q.rc] 68)).alloc dZero).heap[w.heap.size + 1]? = some (.cells #[.int .i64 0, .int .i64 0, .int .i64 0, .slice none 0 0, .bool false, .int .i64 0] 59 (0, 0)) /\ Below w.heap.size w ((w.alloc (.cells #[.int .i64 q.st, .int .i64 q.look, .int .i64 q.shift, .slice q.ra q.red.length q.rc] 68)).alloc dZero)) := by
  have q1 := heap_alloc_new (w.alloc (.cells #[.int .i64 q.st, .int .i64 q.look, .int .i64 q.shift, .slice q.ra q.red.length q.rc] 68)) dZero
  rw [alZ] at q1
  exact ⟨blk_later (heap_alloc_new _ _) (below_alloc _ _), q1, (below_alloc w _).trans ((below_alloc _ _).mono (below_alloc w _).size)⟩
 have HCN : Hid (∀ b, q.red.contains (-1) = b -> Calls Try.prog 47 #[.slice q.ra q.red.length q.rc, .int .i64 (-1)] ((w.alloc (.cells #[.int .i64 q.st, .int .i64 q.look, .int .i64 q.shift, .slice q.ra q.red.length q.rc] 68)).alloc dZero) fun e w'' => e = .returned (.bool b) /\ w'' = ((w.alloc (.cells #[.int .i64 q.st, .int .i64 q.look, .int .i64 q.shift, .slice q.ra q.red.length q.rc] 68)).alloc dZero)) := fun b hb => contains_P q.ra q.rc q.red (-1) _ b hb hrl (hr.later X0.out.2.2)
 obtain ⟨y0, y1, y2, y3⟩ := cb_cells (q := q) X0.out.1
 by_cases a1 : q.shift = -1
 ·obtain ⟨qs, ql, qh, qa, qc, qr⟩ := q
  simp only at a1
  subst a1
  have t1 : ((-1 : Int) == -1) = true := by decide
  simp only at y0 y1 y2 y3
  clear hr hs HCN
  go_enter Try.func16, Try.ntmps16
  go_wp2_with (go_at_call 48; refine (und_P ql _).mono ?_; rintro e w5 ⟨ao, c, rfl, d5, b5⟩; have X5 : Hid (w5.heap[w.heap.size + 1]? = some (.cells #[.int .i64 0, .int .i64 0, .int .i64 0, .slice none 0 0, .bool false, .int .i64 0] 59 (0, 0)) /\ Below w.heap.size w w5 /\ D1 ((w.alloc (.cells #[.int .i64 qs, .int .i64 ql, .int .i64 (-1), .slice qa qr.length qc] 68)).alloc dZero).heap.size w5 (noneD ql) ao c /\ ((w.alloc (.cells #[.int .i64 qs, .int .i64 ql, .int .i64 (-1), .slice qa qr.length qc] 68)).alloc dZero).heap.size = w.heap.size + 1 + 1) := ⟨blk_later X0.out.2.1 b5, X0.out.2.2.trans (b5.mono X0.out.2.2.size), d5, by rw [alZ, alZ]⟩; clear d5 b5; obtain ⟨⟨z0, z1, z2, z3, z4, z5⟩, ⟨f0, f1, f2, f3, f4, f5⟩, hzz⟩ := dz_cells X5.out.1)
  obtain ⟨q1, q2, q3⟩ := six_set X5.out.1 (.int .i64 (noneD ql).look) (.int .i64 (noneD ql).kind) (.int .i64 (noneD ql).prod) (.slice ao (noneD ql).drop.length c) (.bool (noneD ql).sd) (.int .i64 (noneD ql).lev)
  have q4 := q3 _ _ X5.out.2.1 (Nat.le_succ _)
  have q5 : D2 w.heap.size ((((((w5.setCell ⟨w.heap.size + 1, 0, none⟩ (.int .i64 (noneD ql).look)).setCell ⟨w.heap.size + 1, 1, none⟩ (.int .i64 (noneD ql).kind)).setCell ⟨w.heap.size + 1, 2, none⟩ (.int .i64 (noneD ql).prod)).setCell ⟨w.heap.size + 1, 3, none⟩ (.slice ao (noneD ql).drop.length c)).setCell ⟨w.heap.size + 1, 4, none⟩ (.bool (noneD ql).sd)).setCell ⟨w.heap.size + 1, 5, none⟩ (.int .i64 (noneD ql).lev)) (noneD ql) ao c := X5.out.2.2.1.two.kept (by have := X5.out.2.2.2; omega) fun j hj => q2 j (by have := X5.out.2.2.2; omega)
  generalize ((((((w5.setCell ⟨w.heap.size + 1, 0, none⟩ (.int .i64 (noneD ql).look)).setCell ⟨w.heap.size + 1, 1, none⟩ (.int .i64 (noneD ql).kind)).setCell ⟨w.heap.size + 1, 2, none⟩ (.int .i64 (noneD ql).prod)).setCell ⟨w.heap.size + 1, 3, none⟩ (.slice ao (noneD ql).drop.length c)).setCell ⟨w.heap.size + 1, 4, none⟩ (.bool (noneD ql).sd)).setCell ⟨w.heap.size + 1, 5, none⟩ (.int .i64 (noneD ql).lev)) = W4 at *
  have r0 : W4.cell? ⟨w.heap.size + 1, 0, none⟩ = some (.int .i64 (noneD ql).look) := (cellq_any q1).trans rfl
  have r1 : W4.cell? ⟨w.heap.size + 1, 1, none⟩ = some (.int .i64 (noneD ql).kind) := (cellq_any q1).trans rfl
  have r2 : W4.cell? ⟨w.heap.size + 1, 2, none⟩ = some (.int .i64 (noneD ql).prod) := (cellq_any q1).trans rfl
  have r3 : W4.cell? ⟨w.heap.size + 1, 3, none⟩ = some (.slice ao (noneD ql).drop.length c) := (cellq_any q1).trans rfl
  have r4 : W4.cell? ⟨w.heap.size + 1, 4, none⟩ = some (.bool (noneD ql).sd) := (cellq_any q1).trans rfl
  have r5 : W4.cell? ⟨w.heap.size + 1, 5, none⟩ = some (.int .i64 (noneD ql).lev) := (cellq_any q1).trans rfl
  refine bodyPost_ret (v := dval (noneD ql) ao c) (by simp [results, Try.results16, go_sem, r0, r1, r2, r3, r4, r5, DV.zero]) rfl ?_
  exact ⟨ao, c, rfl, q5, q4⟩
 ·have hc := hs.resolve_left a1
  have HC2 : Hid (Calls Try.prog 47 #[.slice q.ra q.red.length q.rc, .int .i64 (-1)] ((w.alloc (.cells #[.int .i64 q.st, .int .i64 q.look, .int .i64 q.shift, .slice q.ra q.red.length q.rc] 68)).alloc dZero) fun e w'' => e = .returned (.bool true) /\ w'' = ((w.alloc (.cells #[.int .i64 q.st, .int .i64 q.look, .int .i64 q.shift, .slice q.ra q.red.length q.rc] 68)).alloc dZero)) := HCN.out true hc
  have t1 : (q.shift == -1) = false := by simpa using a1
  clear hr hs HCN hc
  go_enter Try.func16, Try.ntmps16
  go_wp2_with (first
   | (go_at_call 47; refine HC2.out.mono ?_; rintro e w1 ⟨rfl, hw1⟩; rw [hw1]; clear hw1 w1)
   | (go_at_call 48; refine (und_P q.look _).mono ?_; rintro e w5 ⟨ao, c, rfl, d5, b5⟩; have X5 : Hid (w5.heap[w.heap.size + 1]? = some (.cells #[.int .i64 0, .int .i64 0, .int .i64 0, .slice none 0 0, .bool false, .int .i64 0] 59 (0, 0)) /\ Below w.heap.size w w5 /\ D1 ((w.alloc (.cells #[.int .i64 q.st, .int .i64 q.look, .int .i64 q.shift, .slice q.ra q.red.length q.rc] 68)).alloc dZero).heap.size w5 (noneD q.look) ao c /\ ((w.alloc (.cells #[.int .i64 q.st, .int .i64 q.look, .int .i64 q.shift, .slice q.ra q.red.length q.rc] 68)).alloc dZero).heap.size = w.heap.size + 1 + 1) := ⟨blk_later X0.out.2.1 b5, X0.out.2.2.trans (b5.mono X0.out.2.2.size), d5, by rw [alZ, alZ]⟩; clear d5 b5; obtain ⟨⟨z0, z1, z2, z3, z4, z5⟩, ⟨f0, f1, f2, f3, f4, f5⟩, hzz⟩ := dz_cells X5.out.1))
  obtain ⟨q1, q2, q3⟩ := six_set X5.out.1 (.int .i64 (noneD q.look).look) (.int .i64 (noneD q.look).kind) (.int .i64 (noneD q.look).prod) (.slice ao (noneD q.look).drop.length c) (.bool (noneD q.look).sd) (.int .i64 (noneD q.look).lev)
  have q4 := q3 _ _ X5.out.2.1 (Nat.le_succ _)
  have q5 : D2 w.heap.size ((((((w5.setCell ⟨w.heap.size + 1, 0, none⟩ (.int .i64 (noneD q.look).look)).setCell ⟨w.heap.size + 1, 1, none⟩ (.int .i64 (noneD q.look).kind)).setCell ⟨w.heap.size + 1, 2, none⟩ (.int .i64 (noneD q.look).prod)).setCell ⟨w.heap.size + 1, 3, none⟩ (.slice ao (noneD q.look).drop.length c)).setCell ⟨w.heap.size + 1, 4, none⟩ (.bool (noneD q.look).sd)).setCell ⟨w.heap.size + 1, 5, none⟩ (.int .i64 (noneD q.look).lev)) (noneD q.look) ao c := X5.out.2.2.1.two.kept (by have := X5.out.2.2.2; omega) fun j hj => q2 j (by have := X5.out.2.2.2; omega)
  generalize ((((((w5.setCell ⟨w.heap.size + 1, 0, none⟩ (.int .i64 (noneD q.look).look)).setCell ⟨w.heap.size + 1, 1, none⟩ (.int .i64 (noneD q.look).kind)).setCell ⟨w.heap.size + 1, 2, none⟩ (.int .i64 (noneD q.look).prod)).setCell ⟨w.heap.size + 1, 3, none⟩ (.slice ao (noneD q.look).drop.length c)).setCell ⟨w.heap.size + 1, 4, none⟩ (.bool (noneD q.look).sd)).setCell ⟨w.heap.size + 1, 5, none⟩ (.int .i64 (noneD q.look).lev)) = W4 at *
  have r0 : W4.cell? ⟨w.heap.size + 1, 0, none⟩ = some (.int .i64 (noneD q.look).look) := (cellq_any q1).trans rfl
  have r1 : W4.cell? ⟨w.heap.size + 1, 1, none⟩ = some (.int .i64 (noneD q.look).kind) := (cellq_any q1).trans rfl
  have r2 : W4.cell? ⟨w.heap.size + 1, 2, none⟩ = some (.int .i64 (noneD q.look).prod) := (cellq_any q1).trans rfl
  have r3 : W4.cell? ⟨w.heap.size + 1, 3, none⟩ = some (.slice ao (noneD q.look).drop.length c) := (cellq_any q1).trans rfl
  have r4 : W4.cell? ⟨w.heap.size + 1, 4, none⟩ = some (.bool (noneD q.look).sd) := (cellq_any q1).trans rfl
  have r5 : W4.cell? ⟨w.heap.size + 1, 5, none⟩ = some (.int .i64 (noneD q.look).lev) := (cellq_any q1).trans rfl
  refine bodyPost_ret (v := dval (noneD q.look) ao c) (by simp [results, Try.results16, go_sem, r0, r1, r2, r3, r4, r5, DV.zero]) rfl ?_
  exact ⟨ao, c, rfl, q5, q4⟩
theorem rise_len {l : List Int} (hr : risesU l = true) (h1 : ∀ p ∈ l, -1 <= p) : ∀ i, i < l.length -> (i : Int) - 1 <= l.getD i 0
 | 0, h => by have := h1 _ (mem_getD (d := 0) h); omega
 | i + 1, h => by
  have ih := rise_len hr h1 i (by omega)
  unfold risesU at hr
  have := List.all_eq_true.1 hr i (List.mem_range.2 (by omega))
  have := of_decide_eq_true this
  omega
theorem cf_ok {g : GV} {q : CV} (h : cfE g q = 0) (ok : OkC g) : (0 <= q.look /\ q.look <= g.ts.length) /\ (∀ p ∈ q.red, -1 <= p /\ p < g.ps.length) /\ risesU q.red = true /\ -1 <= q.shift /\ q.red.length <= 257 /\ (q.shift = -1 -> 2 <= q.red.length) /\ (q.shift ≠ -1 -> 1 <= q.red.length /\ q.look < g.ts.length) := by
 unfold cfE at h
 split at h
 ·exact absurd h (by decide)
 rename_i a1
 split at h
 ·exact absurd h (by decide)
 rename_i a2
 split at h
 ·exact absurd h (by decide)
 rename_i a3
 simp only [Bool.not_eq_false] at a1 a2 a3
 unfold rngU at a1
 simp only [Bool.and_eq_true, decide_eq_true_eq, Bool.not_eq_true', List.any_eq_false] at a1
 have hp : ∀ p ∈ q.red, -1 <= p /\ p < g.ps.length := fun p hp => by
  have := a1.1.2 p hp
  unfold oddU at this
  simp only [decide_eq_true_eq, not_and] at this
  by_cases e : p = -1
  ·have := ok.pl.1; omega
  ·have := this e; omega
 refine ⟨⟨a1.1.1.1, a1.1.1.2⟩, hp, a2, a1.2, ?_, fun e => ?_, fun e => ?_⟩
 ·by_cases hz : q.red.length = 0
  ·omega
  ·have h1 := rise_len a2 (fun p hp' => (hp p hp').1) (q.red.length - 1) (by omega)
   have h2 := (hp _ (mem_getD (d := 0) (show q.red.length - 1 < q.red.length by omega))).2
   have := ok.pl.2
   omega
 ·unfold cflU at a3
  rw [if_pos e] at a3
  simpa using a3
 ·unfold cflU at a3
  rw [if_neg e] at a3
  simpa using a3
theorem resolve_P (g : GV) (q : CV) (jb : Nat) (w : World) (h : JU g jb w) (hg : GAt 140737488355328 w g) (ok : OkC g) (hr : InRow w q.ra q.red) (hc : cfE g q = 0) :
  Calls Try.prog 16 #[.pointer (some ⟨jb, 0, none⟩), q.val] w (DrO w (resU g q.look q.shift q.red)) := by
 obtain ⟨c1, c2, c3, c4, c5, c6, c7⟩ := cf_ok hc ok
 unfold resU
 by_cases hn : q.shift = -1 ∨ (-1) ∈ q.red
 ·rw [if_pos hn]
  exact resolve_no q jb w hr (by omega) (hn.imp id fun e => List.contains_iff_mem.2 e)
 ·rw [if_neg hn]
  have hs : q.shift ≠ -1 := fun e => hn (.inl e)
  have hm : (-1) ∉ q.red := fun e => hn (.inr e)
  refine resolve_yes g q jb w h hg ok hr ⟨c1.1, (c7 hs).2⟩ (fun p hp => ?_) c5 hs ?_ (fun e => ?_)
  ·have := c2 p hp
   have : p ≠ -1 := fun e => hm (by rw [<- e]; exact hp)
   omega
  ·rw [Bool.eq_false_iff]
   exact fun e => hm (List.contains_iff_mem.1 e)
  ·have := (c7 hs).1
   rw [e] at this
   simp at this
end Go.Proofs.Ytlkkllehaabebab
namespace Go.Proofs.Ytlkkllehaabebab
set_option linter.unusedVariables false
set_option maxRecDepth 100000
set_option maxHeartbeats 16000000
open Go.RowKit Go.Maps
structure DRow (w : World) (ao : Option Addr) (l : List DM) : Prop where
 cells : l ≠ [] -> ∃ b off, ao = some ⟨b, off, none⟩ /\ b < w.heap.size /\ ∀ i (hi : i < l.length), w.cell? ⟨b, off + i * 6, none⟩ = some (.int .i64 l[i].d.look) /\ w.cell? ⟨b, off + i * 6 + 1, none⟩ = some (.int .i64 l[i].d.kind) /\ w.cell? ⟨b, off + i * 6 + 2, none⟩ = some (.int .i64 l[i].d.prod) /\ w.cell? ⟨b, off + i * 6 + 3, none⟩ = some (.slice l[i].ao l[i].d.drop.length l[i].c) /\ w.cell? ⟨b, off + i * 6 + 4, none⟩ = some (.bool l[i].d.sd) /\ w.cell? ⟨b, off + i * 6 + 5, none⟩ = some (.int .i64 l[i].d.lev)
 rows : ∀ x ∈ l, InRow w x.ao x.d.drop
theorem DRow.later {w w' : World} {ao : Option Addr} {l : List DM} (h : DRow w ao l) (hb : Below w.heap.size w w') : DRow w' ao l := by
 refine ⟨fun hne => ?_, fun x hx => (h.rows x hx).later hb⟩
 obtain ⟨b, off, rfl, hl, hc⟩ := h.cells hne
 have e : ∀ j, w'.cell? ⟨b, j, none⟩ = w.cell? ⟨b, j, none⟩ := fun j => hb.cell (p := ⟨b, j, none⟩) hl
 refine ⟨b, off, rfl, Nat.lt_of_lt_of_le hl hb.size, fun i hi => ?_⟩
 rw [e, e, e, e, e, e]
 exact hc i hi
def usedB (n : Nat) (x : DM) : Bool := decide (-1 <= x.d.lev /\ x.d.lev < n)
def usedL (n : Nat) (l : List DM) : List Bool := (List.range n).map fun i : Nat => l.any fun x => decide (x.d.lev = (i : Int))
theorem usedL_len (n : Nat) (l : List DM) : (usedL n l).length = n := by simp [usedL]
theorem usedL_nil (n : Nat) : usedL n [] = List.replicate n false := by
 apply List.ext_getElem
 ·simp [usedL]
 ·intro i h1 h2
  simp [usedL]
theorem usedL_none {n : Nat} {l : List DM} {x : DM} (h : x.d.lev = -1) : usedL n (l ++ [x]) = usedL n l := by
 unfold usedL
 apply List.map_congr_left
 intro i _
 rw [List.any_append]
 have : ¬ x.d.lev = (i : Int) := by omega
 simp [this]
theorem usedL_some {n : Nat} {l : List DM} {x : DM} {k : Nat} (h : x.d.lev = (k : Int)) : usedL n (l ++ [x]) = (usedL n l).set k true := by
 apply List.ext_getElem
 ·simp [usedL]
 ·intro i h1 h2
  rw [List.getElem_set]
  simp only [usedL, List.getElem_map, List.getElem_range, List.any_append]
  by_cases e : k = i
  ·subst e; simp [h]
  ·rw [if_neg e]
   have : ¬ x.d.lev = (i : Int) := by omega
   simp [this]
def UsO (g : GV) (l : List DM) (w : World) (e : Ending) (w' : World) : Prop := ((l.all (usedB g.ls.length) = true /\ ∃ b, e = .returned (.tuple #[.slice (some ⟨b, 0, none⟩) g.ls.length g.ls.length, .int .i64 0]) /\ BB w' b (usedL g.ls.length l) /\ w.heap.size <= b) ∨ (l.all (usedB g.ls.length) = false /\ e = .returned (.tuple #[.slice none 0 0, .int .i64 37]))) /\ Below w.heap.size w w'
set_option linter.unusedSimpArgs false in
theorem Used_ok (g : GV) (ao : Option Addr) (cap : Nat) (l : List DM) (w : World) (h : GAt 140737488355328 w g) (hpc : g.ps.length <= g.pc) (at_ : Int) (hE : checkG g (checkF g.ts g.ns) = (0, at_)) (hl : l.length <= 140737488355328) (hr : DRow w ao l) :
  Calls Try.prog 6 #[g.val, .slice ao l.length cap] w (UsO g l w) := by
 have X0 : Hid ((w.alloc (gBox g)).heap[w.heap.size]? = some (gBox g) /\ Below w.heap.size w (w.alloc (gBox g))) := ⟨heap_alloc_new _ _, below_alloc _ _⟩
 have CK : Hid (∀ w', Below w.heap.size w w' -> Calls Try.prog 13 #[g.val] w' fun e w'' => e = .returned (.tuple #[.int .i64 0, .int .i64 at_]) /\ Below w'.heap.size w' w'') := fun w' hb => check_G g w' (h.later hb) hpc 0 at_ hE
 have ok : OkC g := OkC.of (by rw [hE])
 have hll := ok.ll
 have HR : Hid (∀ w', Below w.heap.size w w' -> DRow w' ao l) := fun w' hb => hr.later hb
 have t0 : ((0 : Int) != 0) = false := by decide
 have hmk := make_boolF g.ls.length (by omega)
 clear h hE hr ok
 go_enter Try.func6, Try.ntmps6
 go_wp2_with (go_at_call 13; refine (CK.out _ X0.out.2).mono ?_; rintro e w1 ⟨rfl, b1⟩; have X1 : Hid (w1.heap[w.heap.size]? = some (gBox g) /\ Below w.heap.size w w1) := ⟨blk_later X0.out.1 b1, X0.out.2.trans (b1.mono X0.out.2.size)⟩; clear b1; obtain ⟨y0, y1, y2, y3, y4⟩ := gb_cells X1.out.1)
 have U0 : Hid (BB (w1.alloc (.cells (madeCells #[.bool false] g.ls.length) 4)) w1.heap.size (usedL g.ls.length []) /\ Below w.heap.size w (w1.alloc (.cells (madeCells #[.bool false] g.ls.length) 4)) /\ w.heap.size <= w1.heap.size) := ⟨by rw [usedL_nil]; exact BB.made w1 _, X1.out.2.trans ((below_alloc _ _).mono X1.out.2.size), X1.out.2.size⟩
 clear y0 y1 y2 y3 y4 hmk
 generalize w1.alloc (.cells (madeCells #[.bool false] g.ls.length) 4) = W1 at *
 generalize w1.heap.size = ub at *
 go_loopw [25] (fun z wr => ∃ k : Nat, k <= l.length /\ z = .int .i64 k /\ BB wr ub (usedL g.ls.length (l.take k)) /\ Below w.heap.size w wr /\ (l.take k).all (usedB g.ls.length) = true) (fun z _ => l.length - (intOf z).toNat)
 case atStart => exact ⟨0, Nat.zero_le _, rfl, by rw [List.take_zero]; exact U0.out.1, U0.out.2.1, by simp⟩
 case round =>
  obtain ⟨k, hk, rfl, hB, hbel, hall⟩ := hrel
  have HU : Hid (w.heap.size <= ub) := U0.out.2.2
  clear U0
  by_cases hlt : k < l.length
  ·obtain ⟨rb, ro, hao, hrb, hrc⟩ := (HR.out wr hbel).cells (by intro e; rw [e] at hlt; simp at hlt)
   obtain ⟨c0, c1, c2, c3, c4, c5⟩ := hrc k hlt
   have klt : (k : Int) < (l.length : Int) := by omega
   have ET : l.take (k + 1) = l.take k ++ [l[k]] := List.take_succ_eq_append_getElem hlt
   have EA : (l.take (k + 1)).all (usedB g.ls.length) = usedB g.ls.length l[k] := by rw [ET, List.all_append, hall]; simp
   have EM : l[k] ∈ l := List.getElem_mem hlt
   have HN : Hid (usedB g.ls.length l[k] = false -> l.all (usedB g.ls.length) = false) := fun e => List.all_eq_false.2 ⟨_, EM, by rw [e]; simp⟩
   rw [hao]
   clear hrc EM hall
   generalize l[k] = x at *
   obtain ⟨⟨xl, xk, xp, xd, xs, xv⟩, xa, xc⟩ := x
   simp only at c0 c1 c2 c3 c4 c5
   have HB1 : Hid (BB (wr.alloc (.cells #[.int .i64 xl, .int .i64 xk, .int .i64 xp, .slice xa xd.length xc, .bool xs, .int .i64 xv] 59)) ub (usedL g.ls.length (l.take k)) /\ Below w.heap.size w (wr.alloc (.cells #[.int .i64 xl, .int .i64 xk, .int .i64 xp, .slice xa xd.length xc, .bool xs, .int .i64 xv] 59))) := ⟨hB.later (below_alloc _ _), hbel.trans ((below_alloc _ _).mono hbel.size)⟩
   by_cases a1 : xv < -1
   ·have HF : Hid (l.all (usedB g.ls.length) = false) := HN.out (by simp [usedB]; omega)
    clear HN ET EA
    go_wp2
    refine bodyPost_ret (v := .tuple #[.slice none 0 0, .int .i64 37]) (by simp [results, Try.results6, go_sem]) rfl ?_
    exact ⟨.inr ⟨HF.out, rfl⟩, HB1.out.2⟩
   ·by_cases a2 : (g.ls.length : Int) <= xv
    ·have HF : Hid (l.all (usedB g.ls.length) = false) := HN.out (by simp [usedB]; omega)
     clear HN ET EA
     go_wp2
     refine bodyPost_ret (v := .tuple #[.slice none 0 0, .int .i64 37]) (by simp [results, Try.results6, go_sem]) rfl ?_
     exact ⟨.inr ⟨HF.out, rfl⟩, HB1.out.2⟩
    ·have HA : Hid ((l.take (k + 1)).all (usedB g.ls.length) = true) := by show _ = _; rw [EA]; simp [usedB]; omega
     by_cases a3 : xv = -1
     ·subst a3
      have t3 : ((-1 : Int) != -1) = false := by decide
      have HB2 : Hid (usedL g.ls.length (l.take (k + 1)) = usedL g.ls.length (l.take k)) := by show _ = _; rw [ET]; exact usedL_none rfl
      clear HN ET EA
      go_wp2
      go_roundw
      case rel => exact ⟨k + 1, by omega, by go_num, by rw [HB2.out]; exact HB1.out.1, HB1.out.2, HA.out⟩
      case measure => simp [intOf]; omega
     ·obtain ⟨m, rfl⟩ : ∃ m : Nat, xv = (m : Int) := ⟨xv.toNat, by omega⟩
      have t3 : ((m : Int) != -1) = true := by simp
      have hm : m < g.ls.length := by omega
      have HB2 : Hid (usedL g.ls.length (l.take (k + 1)) = (usedL g.ls.length (l.take k)).set m true) := by show _ = _; rw [ET]; exact usedL_some rfl
      have ub0 := HB1.out.1.cell (i := m) (by rw [usedL_len]; exact hm)
      have ub1 := HB1.out.1.free m
      have ub2 := HB1.out.1.lt
      have HB3 : Hid (BB ((wr.alloc (.cells #[.int .i64 xl, .int .i64 xk, .int .i64 xp, .slice xa xd.length xc, .bool xs, .int .i64 (m : Int)] 59)).setCell ⟨ub, m, none⟩ (.bool true)) ub ((usedL g.ls.length (l.take k)).set m true) /\ Below w.heap.size w ((wr.alloc (.cells #[.int .i64 xl, .int .i64 xk, .int .i64 xp, .slice xa xd.length xc, .bool xs, .int .i64 (m : Int)] 59)).setCell ⟨ub, m, none⟩ (.bool true))) := ⟨HB1.out.1.set m true, HB1.out.2.setCell (p := ⟨ub, m, none⟩) HU.out _⟩
      clear HN ET EA
      go_wp2
      go_roundw
      case rel => exact ⟨k + 1, by omega, by go_num, by rw [HB2.out]; exact HB3.out.1, HB3.out.2, HA.out⟩
      case measure => simp [intOf]; omega
  ·obtain rfl : k = l.length := by omega
   rw [List.take_length] at hB hall
   have klt : ¬ (l.length : Int) < (l.length : Int) := by omega
   have HZ : Hid (BB wr ub (usedL g.ls.length l) /\ Below w.heap.size w wr /\ l.all (usedB g.ls.length) = true) := ⟨hB, hbel, hall⟩
   clear hB hbel hall
   go_wp2
   refine bodyPost_ret (v := .tuple #[.slice (some ⟨ub, 0, none⟩) g.ls.length g.ls.length, .int .i64 0]) (by simp [results, Try.results6, go_sem]) rfl ?_
   exact ⟨.inl ⟨HZ.out.2.2, ub, rfl, HZ.out.1, HU.out⟩, HZ.out.2.1⟩
set_option linter.unusedSimpArgs false in
theorem Used_no (g : GV) (ao : Option Addr) (n cap : Nat) (w : World) (h : GAt 140737488355328 w g) (hpc : g.ps.length <= g.pc) (er at_ : Int) (hE : checkG g (checkF g.ts g.ns) = (er, at_)) (h0 : er ≠ 0) :
  Calls Try.prog 6 #[g.val, .slice ao n cap] w fun e w' => e = .returned (.tuple #[.slice none 0 0, .int .i64 er]) /\ Below w.heap.size w w' := by
 have X0 : Hid (Below w.heap.size w (w.alloc (gBox g))) := below_alloc _ _
 have CK : Hid (∀ w', Below w.heap.size w w' -> Calls Try.prog 13 #[g.val] w' fun e w'' => e = .returned (.tuple #[.int .i64 er, .int .i64 at_]) /\ Below w'.heap.size w' w'') := fun w' hb => check_G g w' (h.later hb) hpc er at_ hE
 have t0 : (er != 0) = true := by simpa using h0
 clear h hE h0
 go_enter Try.func6, Try.ntmps6
 go_wp2_with (go_at_call 13; refine (CK.out _ X0.out).mono ?_; rintro e w1 ⟨rfl, b1⟩; have X1 : Hid (Below w.heap.size w w1) := X0.out.trans (b1.mono X0.out.size); clear b1)
 refine bodyPost_ret (v := .tuple #[.slice none 0 0, .int .i64 er]) (by simp [results, Try.results6, go_sem]) rfl ?_
 exact ⟨rfl, X1.out⟩
end Go.Proofs.Ytlkkllehaabebab
