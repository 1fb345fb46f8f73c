import Derived.Test.YtjpknihkcndoiaaGreatPPC25ToPC26
import Derived.Test.YtjpknihkcndoiaaGreatPPC31ToPC32
namespace Go.Proofs.YtjpknihkcndoiaaGreat
set_option linter.unusedVariables false
set_option maxRecDepth 100000
set_option maxHeartbeats 16000000
open Go.RowKit Go.Maps
structure CfRow (w : World) (ao : Option Addr) (l : List CV) : Prop where
 cells : l ≠ [] -> ∃ b off, ao = some ⟨b, off, none⟩ /\ b < w.heap.size /\ ∀ i (hi : i < l.length), w.cell? ⟨b, off + i * 4, none⟩ = some (.int .i64 l[i].st) /\ w.cell? ⟨b, off + i * 4 + 1, none⟩ = some (.int .i64 l[i].look) /\ w.cell? ⟨b, off + i * 4 + 2, none⟩ = some (.int .i64 l[i].shift) /\ w.cell? ⟨b, off + i * 4 + 3, none⟩ = some (.slice l[i].ra l[i].red.length l[i].rc)
 rows : ∀ x ∈ l, InRow w x.ra x.red
theorem CfRow.later {w w' : World} {ao : Option Addr} {l : List CV} (h : CfRow w ao l) (hb : Below w.heap.size w w') : CfRow w' ao l := by
 refine ⟨fun hne => ?_, fun x hx => (h.rows x hx).later hb⟩
 obtain ⟨b, off, rfl, hl, hc⟩ := h.cells hne
 have e : ∀ j, w'.cell? ⟨b, j, none⟩ = w.cell? ⟨b, j, none⟩ := fun j => hb.cell (p := ⟨b, j, none⟩) hl
 refine ⟨b, off, rfl, Nat.lt_of_lt_of_le hl hb.size, fun i hi => ?_⟩
 rw [e, e, e, e]
 exact hc i hi
theorem infoDecI : (Tryz.prog.info? 58).map (fun i => (i.zero, i.size, i.bytes)) = some (some (.agg #[.int .i64 0, .int .i64 0, .int .i64 0, .slice none 0 0, .bool false, .int .i64 0]), 6, 64) := by kernel_rfl
theorem infoDecI_parts : ∃ i, Tryz.prog.info? 58 = some i /\ i.zero = some (.agg #[.int .i64 0, .int .i64 0, .int .i64 0, .slice none 0 0, .bool false, .int .i64 0]) /\ i.size = 6 /\ i.bytes = 64 := by
 have h := infoDecI
 cases e : Tryz.prog.info? 58 with
 | none => rw [e] at h; cases h
 | some i => rw [e] at h; simp at h; exact ⟨i, rfl, h.1, h.2.1, h.2.2⟩
theorem make_decF (n : Nat) (hn : n <= 1048576) (w : World) : (Instr.makeSlice 46 (.int .i64 (n : Int)) (.int .i64 (n : Int))).run Tryz.prog w = .ok (.slice (some ⟨w.heap.size, 0, none⟩) n n) (w.alloc (.cells (madeCells #[.int .i64 0, .int .i64 0, .int .i64 0, .slice none 0 0, .bool false, .int .i64 0] (n * 6)) 58)) := by
 obtain ⟨i0, hi, hz0, hz1, hz2⟩ := infoDecI_parts
 have := run_makeSlice w 46 58 i0 (.agg #[.int .i64 0, .int .i64 0, .int .i64 0, .slice none 0 0, .bool false, .int .i64 0]) Tryz.underlying46 hi hz0 .i64 .i64 (n : Int) (n : Int) (by omega) (by omega) (by rw [hz1]; simp; omega) (by rw [hz2]; omega) (by omega)
 rw [hz1] at this
 simpa [Value.cells] using this
theorem made_size (Z : Array Value) (n : Nat) : (madeCells Z n).size = n := by simp [madeCells]
structure RA (W : World) (g : GV) (jb b n : Nat) (l : List CV) (ds : List DM) (wr : World) : Prop where
 bel : Below W.heap.size W wr
 ju : ∃ wj, wj.heap.size <= b /\ JU g jb wj /\ Below wj.heap.size wj wr
 lo : W.heap.size <= b
 bk : ∃ C, wr.heap[b]? = some (.cells C 58 (0, 0)) /\ C.size = n * 6 /\ ∀ k (hk : k < ds.length) j, j < 6 -> C[k * 6 + j]? = (dCells ds[k])[j]?
 own : ∀ x ∈ ds, D2 W.heap.size wr x.d x.ao x.c
 up : ∀ i k (hi : i < k) (hk : k < ds.length) p q, (ds[i]'(by omega)).ao = some p -> ds[k].ao = some q -> p.block < q.block
 hi : ∀ x ∈ ds, ∀ p, x.ao = some p -> p.block < wr.heap.size
 ln : ds.length <= l.length
 va : ∀ k (hk : k < ds.length), ds[k].d = resU g (l[k]'(by omega)).look (l[k]'(by omega)).shift (l[k]'(by omega)).red
theorem D2.lt {n : Nat} {w : World} {d : DV} {ao : Option Addr} {c : Nat} (h : D2 n w d ao c) {p : Addr} (e : ao = some p) : n <= p.block /\ p.block < w.heap.size := by
 rcases h with ⟨_, h, _⟩ | ⟨b, cur, h1, h2, h3, h4⟩
 ·rw [h] at e; cases e
 ·rw [h2] at e
  cases e
  exact ⟨h1, lt_of_block h3⟩
theorem RA.later {W : World} {g : GV} {jb b n : Nat} {l : List CV} {ds : List DM} {wr w' : World} (h : RA W g jb b n l ds wr) (hb : Below wr.heap.size wr w') : RA W g jb b n l ds w' := by
 obtain ⟨C, h1, h2, h3⟩ := h.bk
 exact ⟨h.bel.trans (hb.mono h.bel.size), (by obtain ⟨wj, j1, j2, j3⟩ := h.ju; exact ⟨wj, j1, j2, j3.trans (hb.mono j3.size)⟩), h.lo, ⟨C, blk_later h1 hb, h2, h3⟩, fun x hx => (h.own x hx).later hb, h.up, fun x hx p e => Nat.lt_of_lt_of_le (h.hi x hx p e) hb.size, h.ln, h.va⟩
theorem six_setN {w : World} {b i : Nat} {C : Array Value} {t : TypeId} (h : w.heap[b]? = some (.cells C t (0, 0))) (x : DM) :
  ∃ C', ((((((w.setCell ⟨b, i * 6, none⟩ (.int .i64 x.d.look)).setCell ⟨b, i * 6 + 1, none⟩ (.int .i64 x.d.kind)).setCell ⟨b, i * 6 + 2, none⟩ (.int .i64 x.d.prod)).setCell ⟨b, i * 6 + 3, none⟩ (.slice x.ao x.d.drop.length x.c)).setCell ⟨b, i * 6 + 4, none⟩ (.bool x.d.sd)).setCell ⟨b, i * 6 + 5, none⟩ (.int .i64 x.d.lev)).heap[b]? = some (.cells C' t (0, 0)) /\ C'.size = C.size /\ (i * 6 + 5 < C.size -> ∀ j, j < 6 -> C'[i * 6 + j]? = (dCells x)[j]?) /\ ∀ k, k < i -> ∀ j, j < 6 -> C'[k * 6 + j]? = C[k * 6 + j]? := by
 refine ⟨_, heap_set (heap_set (heap_set (heap_set (heap_set (heap_set h _ _) _ _) _ _) _ _) _ _) _ _, by simp, fun hs j hj => ?_, fun k hk j hj => ?_⟩
 ·rcases (show j = 0 ∨ j = 1 ∨ j = 2 ∨ j = 3 ∨ j = 4 ∨ j = 5 by omega) with rfl | rfl | rfl | rfl | rfl | rfl
  all_goals simp [Array.getElem?_setIfInBounds, dCells]
  all_goals omega
 ·simp only [Array.getElem?_setIfInBounds]
  repeat rw [if_neg (by omega)]
theorem RA.put {W : World} {g : GV} {jb b n : Nat} {l : List CV} {ds : List DM} {wr w2 : World} (h : RA W g jb b n l ds wr) {ao : Option Addr} {c : Nat} (hn : l.length = n) (hi : ds.length < l.length) (hd : D2 wr.heap.size w2 (resU g l[ds.length].look l[ds.length].shift l[ds.length].red) ao c) (hb : Below wr.heap.size wr w2) (x : DM) (hx : x = ⟨resU g l[ds.length].look l[ds.length].shift l[ds.length].red, ao, c⟩) :
  RA W g jb b n l (ds ++ [x]) ((((((w2.setCell ⟨b, ds.length * 6, none⟩ (.int .i64 x.d.look)).setCell ⟨b, ds.length * 6 + 1, none⟩ (.int .i64 x.d.kind)).setCell ⟨b, ds.length * 6 + 2, none⟩ (.int .i64 x.d.prod)).setCell ⟨b, ds.length * 6 + 3, none⟩ (.slice x.ao x.d.drop.length x.c)).setCell ⟨b, ds.length * 6 + 4, none⟩ (.bool x.d.sd)).setCell ⟨b, ds.length * 6 + 5, none⟩ (.int .i64 x.d.lev)) := by
 have h2 := h.later hb
 obtain ⟨C, c1, c2, c3⟩ := h2.bk
 obtain ⟨C', s1, s2, s3, s4⟩ := six_setN (i := ds.length) c1 x
 have hlb : b < wr.heap.size := by obtain ⟨C0, q, _⟩ := h.bk; exact lt_of_block q
 have kp : ∀ k, k ≠ b -> ((((((w2.setCell ⟨b, ds.length * 6, none⟩ (.int .i64 x.d.look)).setCell ⟨b, ds.length * 6 + 1, none⟩ (.int .i64 x.d.kind)).setCell ⟨b, ds.length * 6 + 2, none⟩ (.int .i64 x.d.prod)).setCell ⟨b, ds.length * 6 + 3, none⟩ (.slice x.ao x.d.drop.length x.c)).setCell ⟨b, ds.length * 6 + 4, none⟩ (.bool x.d.sd)).setCell ⟨b, ds.length * 6 + 5, none⟩ (.int .i64 x.d.lev)).heap[k]? = w2.heap[k]? := fun k hk => by
  rw [Below.heap_setCell _ _ _ _ hk, Below.heap_setCell _ _ _ _ hk, Below.heap_setCell _ _ _ _ hk, Below.heap_setCell _ _ _ _ hk, Below.heap_setCell _ _ _ _ hk, Below.heap_setCell _ _ _ _ hk]
 have sz : ((((((w2.setCell ⟨b, ds.length * 6, none⟩ (.int .i64 x.d.look)).setCell ⟨b, ds.length * 6 + 1, none⟩ (.int .i64 x.d.kind)).setCell ⟨b, ds.length * 6 + 2, none⟩ (.int .i64 x.d.prod)).setCell ⟨b, ds.length * 6 + 3, none⟩ (.slice x.ao x.d.drop.length x.c)).setCell ⟨b, ds.length * 6 + 4, none⟩ (.bool x.d.sd)).setCell ⟨b, ds.length * 6 + 5, none⟩ (.int .i64 x.d.lev)).heap.size = w2.heap.size := by simp
 have bj : ∀ wj : World, wj.heap.size <= b -> Below wj.heap.size wj w2 -> Below wj.heap.size wj ((((((w2.setCell ⟨b, ds.length * 6, none⟩ (.int .i64 x.d.look)).setCell ⟨b, ds.length * 6 + 1, none⟩ (.int .i64 x.d.kind)).setCell ⟨b, ds.length * 6 + 2, none⟩ (.int .i64 x.d.prod)).setCell ⟨b, ds.length * 6 + 3, none⟩ (.slice x.ao x.d.drop.length x.c)).setCell ⟨b, ds.length * 6 + 4, none⟩ (.bool x.d.sd)).setCell ⟨b, ds.length * 6 + 5, none⟩ (.int .i64 x.d.lev)) := fun wj lj hj => (((((hj.setCell (p := ⟨b, _, none⟩) lj _).setCell (p := ⟨b, _, none⟩) lj _).setCell (p := ⟨b, _, none⟩) lj _).setCell (p := ⟨b, _, none⟩) lj _).setCell (p := ⟨b, _, none⟩) lj _).setCell (p := ⟨b, _, none⟩) lj _
 have bw := bj W h.lo h2.bel
 generalize ((((((w2.setCell ⟨b, ds.length * 6, none⟩ (.int .i64 x.d.look)).setCell ⟨b, ds.length * 6 + 1, none⟩ (.int .i64 x.d.kind)).setCell ⟨b, ds.length * 6 + 2, none⟩ (.int .i64 x.d.prod)).setCell ⟨b, ds.length * 6 + 3, none⟩ (.slice x.ao x.d.drop.length x.c)).setCell ⟨b, ds.length * 6 + 4, none⟩ (.bool x.d.sd)).setCell ⟨b, ds.length * 6 + 5, none⟩ (.int .i64 x.d.lev)) = w3 at *
 have cell : ∀ k j, k ≠ b -> w3.cell? ⟨k, j, none⟩ = w2.cell? ⟨k, j, none⟩ := fun k j hk => by simp only [World.cell?, kp k hk]
 have d2 : ∀ {m : Nat} {d : DV} {a : Option Addr} {c : Nat}, D2 m w2 d a c -> D2 m w3 d a c := fun hd' => by
  rcases hd' with q | ⟨b', cur, q1, q2, q3, q4⟩
  ·exact .inl q
  ·refine .inr ⟨b', cur, q1, q2, (kp b' fun e => ?_).trans q3, q4⟩
   rw [e, c1] at q3
   simp at q3
 refine ⟨bw, ?_, h.lo, ⟨C', s1, by rw [s2, c2], fun k hk j hj => ?_⟩, fun y hy => ?_, fun i k hik hk p q e1 e2 => ?_, fun y hy p e => ?_, by simp; omega, fun k hk => ?_⟩
 ·obtain ⟨wj, j1, j2, j3⟩ := h2.ju
  exact ⟨wj, j1, j2, bj wj j1 j3⟩
 ·simp only [List.length_append, List.length_singleton] at hk
  rcases Nat.lt_succ_iff_lt_or_eq.1 hk with q | q
  ·rw [s4 k q j hj, c3 k q j hj, List.getElem_append_left q]
  ·subst q
   rw [s3 (by rw [c2]; omega) j hj]
   simp
 ·rcases List.mem_append.1 hy with r | r
  ·exact d2 (h2.own y r)
  ·rw [List.mem_singleton.1 r, hx]
   have := d2 hd
   rcases this with q | ⟨b', cur, q1, q2⟩
   ·exact .inl q
   ·exact .inr ⟨b', cur, Nat.le_trans h.bel.size q1, q2⟩
 ·simp only [List.length_append, List.length_singleton] at hk
  rcases Nat.lt_succ_iff_lt_or_eq.1 hk with r | r
  ·rw [List.getElem_append_left (by omega)] at e1
   rw [List.getElem_append_left r] at e2
   exact h.up i k hik r p q e1 e2
  ·subst r
   rw [List.getElem_append_left (by omega)] at e1
   simp at e2
   rw [hx] at e2
   have := (hd.lt e2).1
   have := h.hi _ (List.getElem_mem _) p e1
   omega
 ·rw [sz]
  rcases List.mem_append.1 hy with r | r
  ·exact Nat.lt_of_lt_of_le (h.hi y r p e) hb.size
  ·rw [List.mem_singleton.1 r, hx] at e
   exact (hd.lt e).2
 ·simp only [List.length_append, List.length_singleton] at hk
  rcases Nat.lt_succ_iff_lt_or_eq.1 hk with r | r
  ·rw [List.getElem_append_left r]
   exact h.va k r
  ·subst r
   simp [hx]
end Go.Proofs.YtjpknihkcndoiaaGreat
namespace Go.Proofs.YtjpknihkcndoiaaGreat
set_option linter.unusedVariables false
set_option maxRecDepth 100000
set_option maxHeartbeats 16000000
open Go.RowKit Go.Maps
def RaO (g : GV) (er : Int) (l : List CV) (w : World) (e : Ending) (w' : World) : Prop := Below w.heap.size w w' /\
 ((er ≠ 0 /\ e = .returned (.tuple #[.slice none 0 0, .int .i64 er, .int .i64 0])) ∨ (er = 0 /\ ∃ i, ∃ h : i < l.length, (∀ j (hj : j < i), cfE g (l[j]'(by omega)) = 0) /\ cfE g l[i] ≠ 0 /\ e = .returned (.tuple #[.slice none 0 0, .int .i64 (cfE g l[i]), .int .i64 i])) ∨
  (er = 0 /\ (∀ x ∈ l, cfE g x = 0) /\ ∃ jb b ds, e = .returned (.tuple #[.slice (some ⟨b, 0, none⟩) l.length l.length, .int .i64 0, .int .i64 l.length]) /\ ds.length = l.length /\ RA w g jb b l.length l ds w'))
theorem CfRow.at {w : World} {ao : Option Addr} {l : List CV} (h : CfRow w ao l) {b off : Nat} (e : ao = some ⟨b, off, none⟩) {i : Nat} (hi : i < l.length) {q : CV} (hq : l[i] = q) : w.cell? ⟨b, off + i * 4, none⟩ = some (.int .i64 q.st) /\ w.cell? ⟨b, off + i * 4 + 1, none⟩ = some (.int .i64 q.look) /\ w.cell? ⟨b, off + i * 4 + 2, none⟩ = some (.int .i64 q.shift) /\ w.cell? ⟨b, off + i * 4 + 3, none⟩ = some (.slice q.ra q.red.length q.rc) := by
 subst hq
 obtain ⟨b', o', e', _, hc⟩ := h.cells (by intro q; rw [q] at hi; simp at hi)
 rw [e'] at e
 simp only [Option.some.injEq, Addr.mk.injEq] at e
 obtain ⟨rfl, rfl, _⟩ := e
 exact hc i hi
theorem RA.start {W w4 : World} {g : GV} {jb : Nat} (l : List CV) (bel : Below W.heap.size W w4) (ju : JU g jb w4) : RA W g jb w4.heap.size l.length l [] (w4.alloc (.cells (madeCells #[.int .i64 0, .int .i64 0, .int .i64 0, .slice none 0 0, .bool false, .int .i64 0] (l.length * 6)) 58)) :=
 ⟨bel.trans ((below_alloc _ _).mono bel.size), ⟨w4, Nat.le_refl _, ju, below_alloc _ _⟩, bel.size, ⟨_, heap_alloc_new _ _, made_size _ _, fun k hk => absurd hk (Nat.not_lt_zero _)⟩, fun x hx => (by cases hx), fun i k hi hk => absurd hk (Nat.not_lt_zero _), fun x hx => (by cases hx), Nat.zero_le _, fun k hk => absurd hk (Nat.not_lt_zero _)⟩
theorem RA.put2 {W : World} {g : GV} {jb b n : Nat} {l : List CV} {ds : List DM} {wr w2 : World} (h : RA W g jb b n l ds wr) {ao : Option Addr} {c : Nat} (hn : l.length = n) (hi : ds.length < l.length) {q : CV} (hq : l[ds.length] = q) {d : DV} (h0 : resU g q.look q.shift q.red = d) (hd : D2 wr.heap.size w2 d ao c) (hb : Below wr.heap.size wr w2) :
  RA W g jb b n l (ds ++ [⟨d, ao, c⟩]) ((((((w2.setCell ⟨b, ds.length * 6, none⟩ (.int .i64 d.look)).setCell ⟨b, ds.length * 6 + 1, none⟩ (.int .i64 d.kind)).setCell ⟨b, ds.length * 6 + 2, none⟩ (.int .i64 d.prod)).setCell ⟨b, ds.length * 6 + 3, none⟩ (.slice ao d.drop.length c)).setCell ⟨b, ds.length * 6 + 4, none⟩ (.bool d.sd)).setCell ⟨b, ds.length * 6 + 5, none⟩ (.int .i64 d.lev)) := by
 subst hq
 subst h0
 exact h.put hn hi hd hb ⟨_, ao, c⟩ rfl
theorem RA.room {W : World} {g : GV} {jb b n : Nat} {l : List CV} {ds : List DM} {wr : World} (h : RA W g jb b n l ds wr) (hi : ds.length < n) : ∃ v0 v1 v2 v3 v4 v5, wr.cell? ⟨b, ds.length * 6, none⟩ = some v0 /\ wr.cell? ⟨b, ds.length * 6 + 1, none⟩ = some v1 /\ wr.cell? ⟨b, ds.length * 6 + 2, none⟩ = some v2 /\ wr.cell? ⟨b, ds.length * 6 + 3, none⟩ = some v3 /\ wr.cell? ⟨b, ds.length * 6 + 4, none⟩ = some v4 /\ wr.cell? ⟨b, ds.length * 6 + 5, none⟩ = some v5 /\ ∀ o, wr.frozen? ⟨b, o, none⟩ = false := by
 obtain ⟨C, c1, c2, _⟩ := h.bk
 have e : ∀ j, j < 6 -> wr.cell? ⟨b, ds.length * 6 + j, none⟩ = some (C[ds.length * 6 + j]?.getD (.bool false)) := fun j hj => by
  rw [cellq_any c1]
  have : ds.length * 6 + j < C.size := by omega
  simp [Array.getElem?_eq_getElem this]
 exact ⟨_, _, _, _, _, _, e 0 (by omega), e 1 (by omega), e 2 (by omega), e 3 (by omega), e 4 (by omega), e 5 (by omega), fun o => by unfold World.frozen?; rw [c1]; rfl⟩
set_option linter.unusedSimpArgs false in
theorem ResolveAll_P (g : GV) (ao : Option Addr) (ac : Nat) (l : List CV) (w : World) (h : GAt 140737488355328 w g) (hpc : g.ps.length <= g.pc) (er at_ : Int) (hE : checkG g (checkF g.ts g.ns) = (er, at_)) (hl : l.length <= 1048576) (hrl : ∀ x ∈ l, x.red.length <= 140737488355328) (hr : CfRow w ao l) :
  Calls Tryz.prog 6 #[g.val, .slice ao l.length ac] w (RaO g er l w) := by
 have X0 : Hid ((w.alloc (gBox g)).heap[w.heap.size]? = some (gBox g) /\ Below w.heap.size w (w.alloc (gBox g))) := ⟨heap_alloc_new _ _, below_alloc _ _⟩
 have CK : Hid (∀ w', Below w.heap.size w w' -> Calls Tryz.prog 19 #[g.val] w' fun e w'' => e = .returned (.tuple #[.int .i64 er, .int .i64 at_]) /\ Below w'.heap.size w' w'') := fun w' hb => check_G g w' (h.later hb) hpc er at_ hE
 have HR : Hid (∀ w', Below w.heap.size w w' -> CfRow w' ao l) := fun w' hb => hr.later hb
 have t0 : ((0 : Int) != 0) = false := by decide
 by_cases h0 : er = 0
 case neg =>
  have t1 : (er != 0) = true := by simpa using h0
  have E : Hid (er ≠ 0) := h0
  clear h hE hr h0 hrl
  go_enter Tryz.func6, Tryz.ntmps6
  go_wp2_with (go_at_call 19; refine (CK.out _ X0.out.2).mono ?_; rintro e w1 ⟨rfl, b1⟩; have X1 : Hid (Below w.heap.size w w1) := X0.out.2.trans (b1.mono X0.out.2.size); clear b1)
  refine bodyPost_ret (v := .tuple #[.slice none 0 0, .int .i64 er, .int .i64 0]) (by simp [results, Tryz.results6, go_sem]) rfl ?_
  exact ⟨X1.out, .inl ⟨E.out, rfl⟩⟩
 subst h0
 have ok : OkC g := OkC.of (by rw [hE])
 have CF : Hid (∀ w' (q : CV), q ∈ l -> Below w.heap.size w w' -> Calls Tryz.prog 20 #[g.val, q.val] w' fun e w'' => e = .returned (.int .i64 (cfE g q)) /\ Below w'.heap.size w' w'') := fun w' q hq hb => checkConflict_P g q w' h.tl h.pl (hrl q hq) ((hr.rows q hq).later hb)
 have JC : Hid (∀ w', Below w.heap.size w w' -> Calls Tryz.prog 21 #[g.val] w' fun e w'' => ∃ jb, e = .returned (.pointer (some ⟨jb, 0, none⟩)) /\ JU g jb w'' /\ w'.heap.size <= jb /\ Below w'.heap.size w' w'') := fun w' hb => judgeOf_P g w' (h.later hb) ok
 have RC : Hid (∀ w' (q : CV) jb, q ∈ l -> cfE g q = 0 -> JU g jb w' -> Below w.heap.size w w' -> Calls Tryz.prog 22 #[.pointer (some ⟨jb, 0, none⟩), q.val] w' (DrO w' (resU g q.look q.shift q.red))) := fun w' q jb hq hc hj hb => resolve_P g q jb w' hj (h.later hb) ok ((hr.rows q hq).later hb) hc
 have hmk := make_decF l.length hl
 clear h hE hr hrl ok
 go_enter Tryz.func6, Tryz.ntmps6
 go_wp2_with (go_at_call 19; refine (CK.out _ X0.out.2).mono ?_; rintro e w1 ⟨rfl, b1⟩; have X1 : Hid (w1.heap[w.heap.size]? = some (gBox g) /\ Below w.heap.size w w1) := ⟨blk_later X0.out.1 b1, X0.out.2.trans (b1.mono X0.out.2.size)⟩; clear b1)
 clear X0 CK
 go_loopw [26] (fun z wr => ∃ i : Nat, i <= l.length /\ z = .int .i64 i /\ (∀ j (_ : j < i) (hl : j < l.length), cfE g l[j] = 0) /\ wr.heap[w.heap.size]? = some (gBox g) /\ Below w.heap.size w wr) (fun z _ => l.length - (intOf z).toNat)
 case atStart => exact ⟨0, Nat.zero_le _, rfl, fun j hj => absurd hj (Nat.not_lt_zero _), X1.out.1, X1.out.2⟩
 case round =>
  clear X1
  obtain ⟨i, hi, rfl, hno, hgb, hbl⟩ := hrel
  have HN : Hid ((∀ j (_ : j < i) (hl : j < l.length), cfE g l[j] = 0) /\ wr.heap[w.heap.size]? = some (gBox g) /\ Below w.heap.size w wr) := ⟨hno, hgb, hbl⟩
  clear hno hgb hbl
  by_cases hlt : i < l.length
  ·have ilt : (i : Int) < (l.length : Int) := by omega
   obtain ⟨lb, lo, hao, -, -⟩ := (HR.out wr HN.out.2.2).cells (by intro e; rw [e] at hlt; simp at hlt)
   subst hao
   obtain ⟨q, hq⟩ : ∃ q, l[i] = q := ⟨_, rfl⟩
   obtain ⟨c0, c1, c2, c3⟩ := (HR.out wr HN.out.2.2).at rfl hlt hq
   have HQ : Hid (l[i] = q /\ q ∈ l) := ⟨hq, hq ▸ List.getElem_mem _⟩
   have BA : Hid (Below w.heap.size w (wr.alloc (.cells #[.int .i64 q.st, .int .i64 q.look, .int .i64 q.shift, .slice q.ra q.red.length q.rc] 44))) := HN.out.2.2.trans ((below_alloc _ _).mono HN.out.2.2.size)
   have CC : Hid (Calls Tryz.prog 20 #[g.val, q.val] (wr.alloc (.cells #[.int .i64 q.st, .int .i64 q.look, .int .i64 q.shift, .slice q.ra q.red.length q.rc] 44)) fun e w'' => e = .returned (.int .i64 (cfE g q)) /\ Below (wr.alloc (.cells #[.int .i64 q.st, .int .i64 q.look, .int .i64 q.shift, .slice q.ra q.red.length q.rc] 44)).heap.size (wr.alloc (.cells #[.int .i64 q.st, .int .i64 q.look, .int .i64 q.shift, .slice q.ra q.red.length q.rc] 44)) w'') := CF.out _ q HQ.out.2 BA.out
   obtain ⟨x0, x1, x2, x3, x4⟩ := gb_cells (blk_later HN.out.2.1 (below_alloc wr (.cells #[.int .i64 q.st, .int .i64 q.look, .int .i64 q.shift, .slice q.ra q.red.length q.rc] 44)))
   clear hq
   by_cases hc : cfE g q = 0
   ·have HC : Hid (cfE g q = 0) := hc
    rw [hc] at CC
    clear hc
    go_wp2_with (go_at_call 20; refine CC.out.mono ?_; rintro e w3 ⟨rfl, b3⟩; have N3 : Hid (w3.heap[w.heap.size]? = some (gBox g) /\ Below w.heap.size w w3) := ⟨blk_later (blk_later HN.out.2.1 (below_alloc _ _)) b3, BA.out.trans (b3.mono BA.out.size)⟩; clear b3 x0 x1 x2 x3 x4 c0 c1 c2 c3)
    go_roundw
    case rel => exact ⟨i + 1, by omega, by go_num, fun j hj h' => (Nat.lt_succ_iff_lt_or_eq.1 hj).elim (fun e => HN.out.1 j e h') (fun e => by subst e; rw [HQ.out.1]; exact HC.out), N3.out.1, N3.out.2⟩
    case measure => simp [intOf]; omega
   ·have t1 : (cfE g q != 0) = true := by simpa using hc
    have HC : Hid (cfE g q ≠ 0) := hc
    clear hc
    go_wp2_with (go_at_call 20; refine CC.out.mono ?_; rintro e w3 ⟨rfl, b3⟩; have N3 : Hid (Below w.heap.size w w3) := BA.out.trans (b3.mono BA.out.size); clear b3 x0 x1 x2 x3 x4 c0 c1 c2 c3)
    refine bodyPost_ret (v := .tuple #[.slice none 0 0, .int .i64 (cfE g q), .int .i64 i]) (by simp [results, Tryz.results6, go_sem]) rfl ?_
    exact ⟨N3.out, .inr (.inl ⟨rfl, i, hlt, fun j hj => HN.out.1 j hj _, by rw [HQ.out.1]; exact HC.out, by rw [HQ.out.1]⟩)⟩
  ·have ilt : ¬ (i : Int) < (l.length : Int) := by omega
   obtain rfl : i = l.length := by omega
   have HA : Hid (∀ x ∈ l, cfE g x = 0) := fun x hx => by
    obtain ⟨j, hj, rfl⟩ := List.getElem_of_mem hx
    exact HN.out.1 j hj hj
   obtain ⟨x0, x1, x2, x3, x4⟩ := gb_cells HN.out.2.1
   go_wp2_with (go_at_call 21; refine (JC.out _ HN.out.2.2).mono ?_; rintro e w4 ⟨jb, rfl, ju, _, b4⟩; have S4 : Hid (RA w g jb w4.heap.size l.length l [] (w4.alloc (.cells (madeCells #[.int .i64 0, .int .i64 0, .int .i64 0, .slice none 0 0, .bool false, .int .i64 0] (l.length * 6)) 58))) := RA.start l (HN.out.2.2.trans (b4.mono HN.out.2.2.size)) ju; clear b4 ju x0 x1 x2 x3 x4)
   clear HN JC CF
   go_loopw [46] (fun z wr => ∃ ds : List DM, z = .int .i64 (ds.length : Nat) /\ RA w g jb w4.heap.size l.length l ds wr) (fun z _ => l.length - (intOf z).toNat)
   case atStart => exact ⟨[], rfl, S4.out⟩
   case round =>
    clear S4
    obtain ⟨ds, rfl, hds⟩ := hrel
    have HD : Hid (RA w g jb w4.heap.size l.length l ds wr) := hds
    have hdl := hds.ln
    clear hds
    by_cases hlt : ds.length < l.length
    ·have ilt : (ds.length : Int) < (l.length : Int) := by omega
     obtain ⟨lb, lo, hao, -, -⟩ := (HR.out wr HD.out.bel).cells (by intro e; rw [e] at hlt; simp at hlt)
     subst hao
     obtain ⟨q, hq⟩ : ∃ q, l[ds.length] = q := ⟨_, rfl⟩
     obtain ⟨c0, c1, c2, c3⟩ := (HR.out wr HD.out.bel).at rfl hlt hq
     have HQ : Hid (l[ds.length] = q /\ q ∈ l) := ⟨hq, hq ▸ List.getElem_mem _⟩
     have HD2 : Hid (RA w g jb w4.heap.size l.length l ds (wr.alloc (.cells #[.int .i64 q.st, .int .i64 q.look, .int .i64 q.shift, .slice q.ra q.red.length q.rc] 44))) := HD.out.later (below_alloc _ _)
     have CC : Hid (Calls Tryz.prog 22 #[.pointer (some ⟨jb, 0, none⟩), q.val] (wr.alloc (.cells #[.int .i64 q.st, .int .i64 q.look, .int .i64 q.shift, .slice q.ra q.red.length q.rc] 44)) (DrO (wr.alloc (.cells #[.int .i64 q.st, .int .i64 q.look, .int .i64 q.shift, .slice q.ra q.red.length q.rc] 44)) (resU g q.look q.shift q.red))) := RC.out _ q jb HQ.out.2 (HA.out q HQ.out.2) (by obtain ⟨wj, _, j2, j3⟩ := HD2.out.ju; exact j2.later j3) HD2.out.bel
     clear hq
     generalize hD : resU g q.look q.shift q.red = d at CC
     have HE : Hid (resU g q.look q.shift q.red = d) := hD
     clear hD
     go_wp2_with (go_at_call 22; refine CC.out.mono ?_; rintro e w5 ⟨da, dc, rfl, d5, b5⟩; have N5 : Hid (D2 (wr.alloc (.cells #[.int .i64 q.st, .int .i64 q.look, .int .i64 q.shift, .slice q.ra q.red.length q.rc] 44)).heap.size w5 d da dc /\ Below (wr.alloc (.cells #[.int .i64 q.st, .int .i64 q.look, .int .i64 q.shift, .slice q.ra q.red.length q.rc] 44)).heap.size (wr.alloc (.cells #[.int .i64 q.st, .int .i64 q.look, .int .i64 q.shift, .slice q.ra q.red.length q.rc] 44)) w5) := ⟨d5, b5⟩; obtain ⟨v0, v1, v2, v3, v4, v5, z0, z1, z2, z3, z4, z5, fz⟩ := (HD2.out.later b5).room hlt; clear d5 b5 c0 c1 c2 c3)
     have P := HD2.out.put2 rfl hlt HQ.out.1 HE.out N5.out.1 N5.out.2
     refine ⟨⟨ds ++ [⟨d, da, dc⟩], ?_, P⟩, ?_⟩
     ·simp
     ·simp [intOf]
      omega
    ·have ilt : ¬ (ds.length : Int) < (l.length : Int) := by omega
     have hdn : ds.length = l.length := by omega
     go_wp2
     refine bodyPost_ret (v := .tuple #[.slice (some ⟨w4.heap.size, 0, none⟩) l.length l.length, .int .i64 0, .int .i64 l.length]) (by simp [results, Tryz.results6, go_sem]) rfl ?_
     exact ⟨HD.out.bel, .inr (.inr ⟨rfl, HA.out, jb, w4.heap.size, ds, rfl, hdn, HD.out⟩)⟩
end Go.Proofs.YtjpknihkcndoiaaGreat
