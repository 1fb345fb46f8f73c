import Derived.Test.YtlkkllehaabebabPPC25ToPC31
import Derived.Test.YtlkkllehaabebabPKInt2ToKApartF
import Derived.Test.YtlkkllehaabebabPPC10ToPC11
namespace Go.Proofs.Ytlkkllehaabebab
set_option linter.unusedVariables false
set_option maxRecDepth 100000
set_option maxHeartbeats 16000000
open Go.RowKit Go.Maps
structure CfRow (w : World) (ao : Option Addr) (l : List CV) : Prop where
 cells : l ≠ [] -> ∃ b off, ao = some ⟨b, off, none⟩ /\ b < w.heap.size /\ ∀ i (hi : i < l.length), w.cell? ⟨b, off + i * 4, none⟩ = some (.int .i64 l[i].st) /\ w.cell? ⟨b, off + i * 4 + 1, none⟩ = some (.int .i64 l[i].look) /\ w.cell? ⟨b, off + i * 4 + 2, none⟩ = some (.int .i64 l[i].shift) /\ w.cell? ⟨b, off + i * 4 + 3, none⟩ = some (.slice l[i].ra l[i].red.length l[i].rc)
 rows : ∀ x ∈ l, InRow w x.ra x.red
theorem CfRow.later {w w' : World} {ao : Option Addr} {l : List CV} (h : CfRow w ao l) (hb : Below w.heap.size w w') : CfRow w' ao l := by
 refine ⟨fun hne => ?_, fun x hx => (h.rows x hx).later hb⟩
 obtain ⟨b, off, rfl, hl, hc⟩ := h.cells hne
 have e : ∀ j, w'.cell? ⟨b, j, none⟩ = w.cell? ⟨b, j, none⟩ := fun j => hb.cell (p := ⟨b, j, none⟩) hl
 refine ⟨b, off, rfl, Nat.lt_of_lt_of_le hl hb.size, fun i hi => ?_⟩
 rw [e, e, e, e]
 exact hc i hi
theorem infoDecI : (Try.prog.info? 59).map (fun i => (i.zero, i.size, i.bytes)) = some (some (.agg #[.int .i64 0, .int .i64 0, .int .i64 0, .slice none 0 0, .bool false, .int .i64 0]), 6, 64) := by kernel_rfl
theorem infoDecI_parts : ∃ i, Try.prog.info? 59 = some i /\ i.zero = some (.agg #[.int .i64 0, .int .i64 0, .int .i64 0, .slice none 0 0, .bool false, .int .i64 0]) /\ i.size = 6 /\ i.bytes = 64 := by
 have h := infoDecI
 cases e : Try.prog.info? 59 with
 | none => rw [e] at h; cases h
 | some i => rw [e] at h; simp at h; exact ⟨i, rfl, h.1, h.2.1, h.2.2⟩
theorem make_decF (n : Nat) (hn : n <= 1048576) (w : World) : (Instr.makeSlice 47 (.int .i64 (n : Int)) (.int .i64 (n : Int))).run Try.prog w = .ok (.slice (some ⟨w.heap.size, 0, none⟩) n n) (w.alloc (.cells (madeCells #[.int .i64 0, .int .i64 0, .int .i64 0, .slice none 0 0, .bool false, .int .i64 0] (n * 6)) 59)) := by
 obtain ⟨i0, hi, hz0, hz1, hz2⟩ := infoDecI_parts
 have := run_makeSlice w 47 59 i0 (.agg #[.int .i64 0, .int .i64 0, .int .i64 0, .slice none 0 0, .bool false, .int .i64 0]) Try.underlying47 hi hz0 .i64 .i64 (n : Int) (n : Int) (by omega) (by omega) (by rw [hz1]; simp; omega) (by rw [hz2]; omega) (by omega)
 rw [hz1] at this
 simpa [Value.cells] using this
theorem made_size (Z : Array Value) (n : Nat) : (madeCells Z n).size = n := by simp [madeCells]
structure RA (W : World) (g : GV) (jb b n : Nat) (l : List CV) (ds : List DM) (wr : World) : Prop where
 bel : Below W.heap.size W wr
 ju : ∃ wj, wj.heap.size <= b /\ JU g jb wj /\ Below wj.heap.size wj wr
 lo : W.heap.size <= b
 bk : ∃ C, wr.heap[b]? = some (.cells C 59 (0, 0)) /\ C.size = n * 6 /\ ∀ k (hk : k < ds.length) j, j < 6 -> C[k * 6 + j]? = (dCells ds[k])[j]?
 own : ∀ x ∈ ds, D2 W.heap.size wr x.d x.ao x.c
 up : ∀ i k (hi : i < k) (hk : k < ds.length) p q, (ds[i]'(by omega)).ao = some p -> ds[k].ao = some q -> p.block < q.block
 hi : ∀ x ∈ ds, ∀ p, x.ao = some p -> p.block < wr.heap.size
 ln : ds.length <= l.length
 va : ∀ k (hk : k < ds.length), ds[k].d = resU g (l[k]'(by omega)).look (l[k]'(by omega)).shift (l[k]'(by omega)).red
theorem D2.lt {n : Nat} {w : World} {d : DV} {ao : Option Addr} {c : Nat} (h : D2 n w d ao c) {p : Addr} (e : ao = some p) : n <= p.block /\ p.block < w.heap.size := by
 rcases h with ⟨_, h, _⟩ | ⟨b, cur, h1, h2, h3, h4⟩
 ·rw [h] at e; cases e
 ·rw [h2] at e
  cases e
  exact ⟨h1, lt_of_block h3⟩
theorem RA.later {W : World} {g : GV} {jb b n : Nat} {l : List CV} {ds : List DM} {wr w' : World} (h : RA W g jb b n l ds wr) (hb : Below wr.heap.size wr w') : RA W g jb b n l ds w' := by
 obtain ⟨C, h1, h2, h3⟩ := h.bk
 exact ⟨h.bel.trans (hb.mono h.bel.size), (by obtain ⟨wj, j1, j2, j3⟩ := h.ju; exact ⟨wj, j1, j2, j3.trans (hb.mono j3.size)⟩), h.lo, ⟨C, blk_later h1 hb, h2, h3⟩, fun x hx => (h.own x hx).later hb, h.up, fun x hx p e => Nat.lt_of_lt_of_le (h.hi x hx p e) hb.size, h.ln, h.va⟩
theorem six_setN {w : World} {b i : Nat} {C : Array Value} {t : TypeId} (h : w.heap[b]? = some (.cells C t (0, 0))) (x : DM) :
  ∃ C', ((((((w.setCell ⟨b, i * 6, none⟩ (.int .i64 x.d.look)).setCell ⟨b, i * 6 + 1, none⟩ (.int .i64 x.d.kind)).setCell ⟨b, i * 6 + 2, none⟩ (.int .i64 x.d.prod)).setCell ⟨b, i * 6 + 3, none⟩ (.slice x.ao x.d.drop.length x.c)).setCell ⟨b, i * 6 + 4, none⟩ (.bool x.d.sd)).setCell ⟨b, i * 6 + 5, none⟩ (.int .i64 x.d.lev)).heap[b]? = some (.cells C' t (0, 0)) /\ C'.size = C.size /\ (i * 6 + 5 < C.size -> ∀ j, j < 6 -> C'[i * 6 + j]? = (dCells x)[j]?) /\ ∀ k, k < i -> ∀ j, j < 6 -> C'[k * 6 + j]? = C[k * 6 + j]? := by
 refine ⟨_, heap_set (heap_set (heap_set (heap_set (heap_set (heap_set h _ _) _ _) _ _) _ _) _ _) _ _, by simp, fun hs j hj => ?_, fun k hk j hj => ?_⟩
 ·rcases (show j = 0 ∨ j = 1 ∨ j = 2 ∨ j = 3 ∨ j = 4 ∨ j = 5 by omega) with rfl | rfl | rfl | rfl | rfl | rfl
  all_goals simp [Array.getElem?_setIfInBounds, dCells]
  all_goals omega
 ·simp only [Array.getElem?_setIfInBounds]
  repeat rw [if_neg (by omega)]
theorem RA.put {W : World} {g : GV} {jb b n : Nat} {l : List CV} {ds : List DM} {wr w2 : World} (h : RA W g jb b n l ds wr) {ao : Option Addr} {c : Nat} (hn : l.length = n) (hi : ds.length < l.length) (hd : D2 wr.heap.size w2 (resU g l[ds.length].look l[ds.length].shift l[ds.length].red) ao c) (hb : Below wr.heap.size wr w2) (x : DM) (hx : x = ⟨resU g l[ds.length].look l[ds.length].shift l[ds.length].red, ao, c⟩) :
  RA W g jb b n l (ds ++ [x]) ((((((w2.setCell ⟨b, ds.length * 6, none⟩ (.int .i64 x.d.look)).setCell ⟨b, ds.length * 6 + 1, none⟩ (.int .i64 x.d.kind)).setCell ⟨b, ds.length * 6 + 2, none⟩ (.int .i64 x.d.prod)).setCell ⟨b, ds.length * 6 + 3, none⟩ (.slice x.ao x.d.drop.length x.c)).setCell ⟨b, ds.length * 6 + 4, none⟩ (.bool x.d.sd)).setCell ⟨b, ds.length * 6 + 5, none⟩ (.int .i64 x.d.lev)) := by
 have h2 := h.later hb
 obtain ⟨C, c1, c2, c3⟩ := h2.bk
 obtain ⟨C', s1, s2, s3, s4⟩ := six_setN (i := ds.length) c1 x
 have hlb : b < wr.heap.size := by obtain ⟨C0, q, _⟩ := h.bk; exact lt_of_block q
 have kp : ∀ k, k ≠ b -> ((((((w2.setCell ⟨b, ds.length * 6, none⟩ (.int .i64 x.d.look)).setCell ⟨b, ds.length * 6 + 1, none⟩ (.int .i64 x.d.kind)).setCell ⟨b, ds.length * 6 + 2, none⟩ (.int .i64 x.d.prod)).setCell ⟨b, ds.length * 6 + 3, none⟩ (.slice x.ao x.d.drop.length x.c)).setCell ⟨b, ds.length * 6 + 4, none⟩ (.bool x.d.sd)).setCell ⟨b, ds.length * 6 + 5, none⟩ (.int .i64 x.d.lev)).heap[k]? = w2.heap[k]? := fun k hk => by
  rw [Below.heap_setCell _ _ _ _ hk, Below.heap_setCell _ _ _ _ hk, Below.heap_setCell _ _ _ _ hk, Below.heap_setCell _ _ _ _ hk, Below.heap_setCell _ _ _ _ hk, Below.heap_setCell _ _ _ _ hk]
 have sz : ((((((w2.setCell ⟨b, ds.length * 6, none⟩ (.int .i64 x.d.look)).setCell ⟨b, ds.length * 6 + 1, none⟩ (.int .i64 x.d.kind)).setCell ⟨b, ds.length * 6 + 2, none⟩ (.int .i64 x.d.prod)).setCell ⟨b, ds.length * 6 + 3, none⟩ (.slice x.ao x.d.drop.length x.c)).setCell ⟨b, ds.length * 6 + 4, none⟩ (.bool x.d.sd)).setCell ⟨b, ds.length * 6 + 5, none⟩ (.int .i64 x.d.lev)).heap.size = w2.heap.size := by simp
 have bj : ∀ wj : World, wj.heap.size <= b -> Below wj.heap.size wj w2 -> Below wj.heap.size wj ((((((w2.setCell ⟨b, ds.length * 6, none⟩ (.int .i64 x.d.look)).setCell ⟨b, ds.length * 6 + 1, none⟩ (.int .i64 x.d.kind)).setCell ⟨b, ds.length * 6 + 2, none⟩ (.int .i64 x.d.prod)).setCell ⟨b, ds.length * 6 + 3, none⟩ (.slice x.ao x.d.drop.length x.c)).setCell ⟨b, ds.length * 6 + 4, none⟩ (.bool x.d.sd)).setCell ⟨b, ds.length * 6 + 5, none⟩ (.int .i64 x.d.lev)) := fun wj lj hj => (((((hj.setCell (p := ⟨b, _, none⟩) lj _).setCell (p := ⟨b, _, none⟩) lj _).setCell (p := ⟨b, _, none⟩) lj _).setCell (p := ⟨b, _, none⟩) lj _).setCell (p := ⟨b, _, none⟩) lj _).setCell (p := ⟨b, _, none⟩) lj _
 have bw := bj W h.lo h2.bel
 generalize ((((((w2.setCell ⟨b, ds.length * 6, none⟩ (.int .i64 x.d.look)).setCell ⟨b, ds.length * 6 + 1, none⟩ (.int .i64 x.d.kind)).setCell ⟨b, ds.length * 6 + 2, none⟩ (.int .i64 x.d.prod)).setCell ⟨b, ds.length * 6 + 3, none⟩ (.slice x.ao x.d.drop.length x.c)).setCell ⟨b, ds.length * 6 + 4, none⟩ (.bool x.d.sd)).setCell ⟨b, ds.length * 6 + 5, none⟩ (.int .i64 x.d.lev)) = w3 at *
 have cell : ∀ k j, k ≠ b -> w3.cell? ⟨k, j, none⟩ = w2.cell? ⟨k, j, none⟩ := fun k j hk => by simp only [World.cell?, kp k hk]
 have d2 : ∀ {m : Nat} {d : DV} {a : Option Addr} {c : Nat}, D2 m w2 d a c -> D2 m w3 d a c := fun hd' => by
  rcases hd' with q | ⟨b', cur, q1, q2, q3, q4⟩
  ·exact .inl q
  ·refine .inr ⟨b', cur, q1, q2, (kp b' fun e => ?_).trans q3, q4⟩
   rw [e, c1] at q3
   simp at q3
 refine ⟨bw, ?_, h.lo, ⟨C', s1, by rw [s2, c2], fun k hk j hj => ?_⟩, fun y hy => ?_, fun i k hik hk p q e1 e2 => ?_, fun y hy p e => ?_, by simp; omega, fun k hk => ?_⟩
 ·obtain ⟨wj, j1, j2, j3⟩ := h2.ju
  exact ⟨wj, j1, j2, bj wj j1 j3⟩
 ·simp only [List.length_append, List.length_singleton] at hk
  rcases Nat.lt_succ_iff_lt_or_eq.1 hk with q | q
  ·rw [s4 k q j hj, c3 k q j hj, List.getElem_append_left q]
  ·subst q
   rw [s3 (by rw [c2]; omega) j hj]
   simp
 ·rcases List.mem_append.1 hy with r | r
  ·exact d2 (h2.own y r)
  ·rw [List.mem_singleton.1 r, hx]
   have := d2 hd
   rcases this with q | ⟨b', cur, q1, q2⟩
   ·exact .inl q
   ·exact .inr ⟨b', cur, Nat.le_trans h.bel.size q1, q2⟩
 ·simp only [List.length_append, List.length_singleton] at hk
  rcases Nat.lt_succ_iff_lt_or_eq.1 hk with r | r
  ·rw [List.getElem_append_left (by omega)] at e1
   rw [List.getElem_append_left r] at e2
   exact h.up i k hik r p q e1 e2
  ·subst r
   rw [List.getElem_append_left (by omega)] at e1
   simp at e2
   rw [hx] at e2
   have := (hd.lt e2).1
   have := h.hi _ (List.getElem_mem _) p e1
   omega
 ·rw [sz]
  rcases List.mem_append.1 hy with r | r
  ·exact Nat.lt_of_lt_of_le (h.hi y r p e) hb.size
  ·rw [List.mem_singleton.1 r, hx] at e
   exact (hd.lt e).2
 ·simp only [List.length_append, List.length_singleton] at hk
  rcases Nat.lt_succ_iff_lt_or_eq.1 hk with r | r
  ·rw [List.getElem_append_left r]
   exact h.va k r
  ·subst r
   simp [hx]
end Go.Proofs.Ytlkkllehaabebab
namespace Go.Proofs.Ytlkkllehaabebab
set_option linter.unusedVariables false
set_option maxRecDepth 100000
set_option maxHeartbeats 16000000
open Go.RowKit Go.Maps
def RaO (g : GV) (er : Int) (l : List CV) (w : World) (e : Ending) (w' : World) : Prop := Below w.heap.size w w' /\
 ((er ≠ 0 /\ e = .returned (.tuple #[.slice none 0 0, .int .i64 er, .int .i64 0])) ∨ (er = 0 /\ ∃ i, ∃ h : i < l.length, (∀ j (hj : j < i), cfE g (l[j]'(by omega)) = 0) /\ cfE g l[i] ≠ 0 /\ e = .returned (.tuple #[.slice none 0 0, .int .i64 (cfE g l[i]), .int .i64 i])) ∨
  (er = 0 /\ (∀ x ∈ l, cfE g x = 0) /\ ∃ jb b ds, e = .returned (.tuple #[.slice (some ⟨b, 0, none⟩) l.length l.length, .int .i64 0, .int .i64 l.length]) /\ ds.length = l.length /\ RA w g jb b l.length l ds w'))
theorem CfRow.at {w : World} {ao : Option Addr} {l : List CV} (h : CfRow w ao l) {b off : Nat} (e : ao = some ⟨b, off, none⟩) {i : Nat} (hi : i < l.length) {q : CV} (hq : l[i] = q) : w.cell? ⟨b, off + i * 4, none⟩ = some (.int .i64 q.st) /\ w.cell? ⟨b, off + i * 4 + 1, none⟩ = some (.int .i64 q.look) /\ w.cell? ⟨b, off + i * 4 + 2, none⟩ = some (.int .i64 q.shift) /\ w.cell? ⟨b, off + i * 4 + 3, none⟩ = some (.slice q.ra q.red.length q.rc) := by
 subst hq
 obtain ⟨b', o', e', _, hc⟩ := h.cells (by intro q; rw [q] at hi; simp at hi)
 rw [e'] at e
 simp only [Option.some.injEq, Addr.mk.injEq] at e
 obtain ⟨rfl, rfl, _⟩ := e
 exact hc i hi
theorem RA.start {W w4 : World} {g : GV} {jb : Nat} (l : List CV) (bel : Below W.heap.size W w4) (ju : JU g jb w4) : RA W g jb w4.heap.size l.length l [] (w4.alloc (.cells (madeCells #[.int .i64 0, .int .i64 0, .int .i64 0, .slice none 0 0, .bool false, .int .i64 0] (l.length * 6)) 59)) :=
 ⟨bel.trans ((below_alloc _ _).mono bel.size), ⟨w4, Nat.le_refl _, ju, below_alloc _ _⟩, bel.size, ⟨_, heap_alloc_new _ _, made_size _ _, fun k hk => absurd hk (Nat.not_lt_zero _)⟩, fun x hx => (by cases hx), fun i k hi hk => absurd hk (Nat.not_lt_zero _), fun x hx => (by cases hx), Nat.zero_le _, fun k hk => absurd hk (Nat.not_lt_zero _)⟩
theorem RA.put2 {W : World} {g : GV} {jb b n : Nat} {l : List CV} {ds : List DM} {wr w2 : World} (h : RA W g jb b n l ds wr) {ao : Option Addr} {c : Nat} (hn : l.length = n) (hi : ds.length < l.length) {q : CV} (hq : l[ds.length] = q) {d : DV} (h0 : resU g q.look q.shift q.red = d) (hd : D2 wr.heap.size w2 d ao c) (hb : Below wr.heap.size wr w2) :
  RA W g jb b n l (ds ++ [⟨d, ao, c⟩]) ((((((w2.setCell ⟨b, ds.length * 6, none⟩ (.int .i64 d.look)).setCell ⟨b, ds.length * 6 + 1, none⟩ (.int .i64 d.kind)).setCell ⟨b, ds.length * 6 + 2, none⟩ (.int .i64 d.prod)).setCell ⟨b, ds.length * 6 + 3, none⟩ (.slice ao d.drop.length c)).setCell ⟨b, ds.length * 6 + 4, none⟩ (.bool d.sd)).setCell ⟨b, ds.length * 6 + 5, none⟩ (.int .i64 d.lev)) := by
 subst hq
 subst h0
 exact h.put hn hi hd hb ⟨_, ao, c⟩ rfl
theorem RA.room {W : World} {g : GV} {jb b n : Nat} {l : List CV} {ds : List DM} {wr : World} (h : RA W g jb b n l ds wr) (hi : ds.length < n) : ∃ v0 v1 v2 v3 v4 v5, wr.cell? ⟨b, ds.length * 6, none⟩ = some v0 /\ wr.cell? ⟨b, ds.length * 6 + 1, none⟩ = some v1 /\ wr.cell? ⟨b, ds.length * 6 + 2, none⟩ = some v2 /\ wr.cell? ⟨b, ds.length * 6 + 3, none⟩ = some v3 /\ wr.cell? ⟨b, ds.length * 6 + 4, none⟩ = some v4 /\ wr.cell? ⟨b, ds.length * 6 + 5, none⟩ = some v5 /\ ∀ o, wr.frozen? ⟨b, o, none⟩ = false := by
 obtain ⟨C, c1, c2, _⟩ := h.bk
 have e : ∀ j, j < 6 -> wr.cell? ⟨b, ds.length * 6 + j, none⟩ = some (C[ds.length * 6 + j]?.getD (.bool false)) := fun j hj => by
  rw [cellq_any c1]
  have : ds.length * 6 + j < C.size := by omega
  simp [Array.getElem?_eq_getElem this]
 exact ⟨_, _, _, _, _, _, e 0 (by omega), e 1 (by omega), e 2 (by omega), e 3 (by omega), e 4 (by omega), e 5 (by omega), fun o => by unfold World.frozen?; rw [c1]; rfl⟩
set_option linter.unusedSimpArgs false in
theorem ResolveAll_P (g : GV) (ao : Option Addr) (ac : Nat) (l : List CV) (w : World) (h : GAt 140737488355328 w g) (hpc : g.ps.length <= g.pc) (er at_ : Int) (hE : checkG g (checkF g.ts g.ns) = (er, at_)) (hl : l.length <= 1048576) (hrl : ∀ x ∈ l, x.red.length <= 140737488355328) (hr : CfRow w ao l) :
  Calls Try.prog 5 #[g.val, .slice ao l.length ac] w (RaO g er l w) := by
 have X0 : Hid ((w.alloc (gBox g)).heap[w.heap.size]? = some (gBox g) /\ Below w.heap.size w (w.alloc (gBox g))) := ⟨heap_alloc_new _ _, below_alloc _ _⟩
 have CK : Hid (∀ w', Below w.heap.size w w' -> Calls Try.prog 13 #[g.val] w' fun e w'' => e = .returned (.tuple #[.int .i64 er, .int .i64 at_]) /\ Below w'.heap.size w' w'') := fun w' hb => check_G g w' (h.later hb) hpc er at_ hE
 have HR : Hid (∀ w', Below w.heap.size w w' -> CfRow w' ao l) := fun w' hb => hr.later hb
 have t0 : ((0 : Int) != 0) = false := by decide
 by_cases h0 : er = 0
 case neg =>
  have t1 : (er != 0) = true := by simpa using h0
  have E : Hid (er ≠ 0) := h0
  clear h hE hr h0 hrl
  go_enter Try.func5, Try.ntmps5
  go_wp2_with (go_at_call 13; refine (CK.out _ X0.out.2).mono ?_; rintro e w1 ⟨rfl, b1⟩; have X1 : Hid (Below w.heap.size w w1) := X0.out.2.trans (b1.mono X0.out.2.size); clear b1)
  refine bodyPost_ret (v := .tuple #[.slice none 0 0, .int .i64 er, .int .i64 0]) (by simp [results, Try.results5, go_sem]) rfl ?_
  exact ⟨X1.out, .inl ⟨E.out, rfl⟩⟩
 subst h0
 have ok : OkC g := OkC.of (by rw [hE])
 have CF : Hid (∀ w' (q : CV), q ∈ l -> Below w.heap.size w w' -> Calls Try.prog 14 #[g.val, q.val] w' fun e w'' => e = .returned (.int .i64 (cfE g q)) /\ Below w'.heap.size w' w'') := fun w' q hq hb => checkConflict_P g q w' h.tl h.pl (hrl q hq) ((hr.rows q hq).later hb)
 have JC : Hid (∀ w', Below w.heap.size w w' -> Calls Try.prog 15 #[g.val] w' fun e w'' => ∃ jb, e = .returned (.pointer (some ⟨jb, 0, none⟩)) /\ JU g jb w'' /\ w'.heap.size <= jb /\ Below w'.heap.size w' w'') := fun w' hb => judgeOf_P g w' (h.later hb) ok
 have RC : Hid (∀ w' (q : CV) jb, q ∈ l -> cfE g q = 0 -> JU g jb w' -> Below w.heap.size w w' -> Calls Try.prog 16 #[.pointer (some ⟨jb, 0, none⟩), q.val] w' (DrO w' (resU g q.look q.shift q.red))) := fun w' q jb hq hc hj hb => resolve_P g q jb w' hj (h.later hb) ok ((hr.rows q hq).later hb) hc
 have hmk := make_decF l.length hl
 clear h hE hr hrl ok
 go_enter Try.func5, Try.ntmps5
 go_wp2_with (go_at_call 13; refine (CK.out _ X0.out.2).mono ?_; rintro e w1 ⟨rfl, b1⟩; have X1 : Hid (w1.heap[w.heap.size]? = some (gBox g) /\ Below w.heap.size w w1) := ⟨blk_later X0.out.1 b1, X0.out.2.trans (b1.mono X0.out.2.size)⟩; clear b1)
 clear X0 CK
 go_loopw [26] (fun z wr => ∃ i : Nat, i <= l.length /\ z = .int .i64 i /\ (∀ j (_ : j < i) (hl : j < l.length), cfE g l[j] = 0) /\ wr.heap[w.heap.size]? = some (gBox g) /\ Below w.heap.size w wr) (fun z _ => l.length - (intOf z).toNat)
 case atStart => exact ⟨0, Nat.zero_le _, rfl, fun j hj => absurd hj (Nat.not_lt_zero _), X1.out.1, X1.out.2⟩
 case round =>
  clear X1
  obtain ⟨i, hi, rfl, hno, hgb, hbl⟩ := hrel
  have HN : Hid ((∀ j (_ : j < i) (hl : j < l.length), cfE g l[j] = 0) /\ wr.heap[w.heap.size]? = some (gBox g) /\ Below w.heap.size w wr) := ⟨hno, hgb, hbl⟩
  clear hno hgb hbl
  by_cases hlt : i < l.length
  ·have ilt : (i : Int) < (l.length : Int) := by omega
   obtain ⟨lb, lo, hao, -, -⟩ := (HR.out wr HN.out.2.2).cells (by intro e; rw [e] at hlt; simp at hlt)
   subst hao
   obtain ⟨q, hq⟩ : ∃ q, l[i] = q := ⟨_, rfl⟩
   obtain ⟨c0, c1, c2, c3⟩ := (HR.out wr HN.out.2.2).at rfl hlt hq
   have HQ : Hid (l[i] = q /\ q ∈ l) := ⟨hq, hq ▸ List.getElem_mem _⟩
   have BA : Hid (Below w.heap.size w (wr.alloc (.cells #[.int .i64 q.st, .int .i64 q.look, .int .i64 q.shift, .slice q.ra q.red.length q.rc] 68))) := HN.out.2.2.trans ((below_alloc _ _).mono HN.out.2.2.size)
   have CC : Hid (Calls Try.prog 14 #[g.val, q.val] (wr.alloc (.cells #[.int .i64 q.st, .int .i64 q.look, .int .i64 q.shift, .slice q.ra q.red.length q.rc] 68)) fun e w'' => e = .returned (.int .i64 (cfE g q)) /\ Below (wr.alloc (.cells #[.int .i64 q.st, .int .i64 q.look, .int .i64 q.shift, .slice q.ra q.red.length q.rc] 68)).heap.size (wr.alloc (.cells #[.int .i64 q.st, .int .i64 q.look, .int .i64 q.shift, .slice q.ra q.red.length q.rc] 68)) w'') := CF.out _ q HQ.out.2 BA.out
   obtain ⟨x0, x1, x2, x3, x4⟩ := gb_cells (blk_later HN.out.2.1 (below_alloc wr (.cells #[.int .i64 q.st, .int .i64 q.look, .int .i64 q.shift, .slice q.ra q.red.length q.rc] 68)))
   clear hq
   by_cases hc : cfE g q = 0
   ·have HC : Hid (cfE g q = 0) := hc
    rw [hc] at CC
    clear hc
    go_wp2_with (go_at_call 14; refine CC.out.mono ?_; rintro e w3 ⟨rfl, b3⟩; have N3 : Hid (w3.heap[w.heap.size]? = some (gBox g) /\ Below w.heap.size w w3) := ⟨blk_later (blk_later HN.out.2.1 (below_alloc _ _)) b3, BA.out.trans (b3.mono BA.out.size)⟩; clear b3 x0 x1 x2 x3 x4 c0 c1 c2 c3)
    go_roundw
    case rel => exact ⟨i + 1, by omega, by go_num, fun j hj h' => (Nat.lt_succ_iff_lt_or_eq.1 hj).elim (fun e => HN.out.1 j e h') (fun e => by subst e; rw [HQ.out.1]; exact HC.out), N3.out.1, N3.out.2⟩
    case measure => simp [intOf]; omega
   ·have t1 : (cfE g q != 0) = true := by simpa using hc
    have HC : Hid (cfE g q ≠ 0) := hc
    clear hc
    go_wp2_with (go_at_call 14; refine CC.out.mono ?_; rintro e w3 ⟨rfl, b3⟩; have N3 : Hid (Below w.heap.size w w3) := BA.out.trans (b3.mono BA.out.size); clear b3 x0 x1 x2 x3 x4 c0 c1 c2 c3)
    refine bodyPost_ret (v := .tuple #[.slice none 0 0, .int .i64 (cfE g q), .int .i64 i]) (by simp [results, Try.results5, go_sem]) rfl ?_
    exact ⟨N3.out, .inr (.inl ⟨rfl, i, hlt, fun j hj => HN.out.1 j hj _, by rw [HQ.out.1]; exact HC.out, by rw [HQ.out.1]⟩)⟩
  ·have ilt : ¬ (i : Int) < (l.length : Int) := by omega
   obtain rfl : i = l.length := by omega
   have HA : Hid (∀ x ∈ l, cfE g x = 0) := fun x hx => by
    obtain ⟨j, hj, rfl⟩ := List.getElem_of_mem hx
    exact HN.out.1 j hj hj
   obtain ⟨x0, x1, x2, x3, x4⟩ := gb_cells HN.out.2.1
   go_wp2_with (go_at_call 15; refine (JC.out _ HN.out.2.2).mono ?_; rintro e w4 ⟨jb, rfl, ju, _, b4⟩; have S4 : Hid (RA w g jb w4.heap.size l.length l [] (w4.alloc (.cells (madeCells #[.int .i64 0, .int .i64 0, .int .i64 0, .slice none 0 0, .bool false, .int .i64 0] (l.length * 6)) 59))) := RA.start l (HN.out.2.2.trans (b4.mono HN.out.2.2.size)) ju; clear b4 ju x0 x1 x2 x3 x4)
   clear HN JC CF
   go_loopw [46] (fun z wr => ∃ ds : List DM, z = .int .i64 (ds.length : Nat) /\ RA w g jb w4.heap.size l.length l ds wr) (fun z _ => l.length - (intOf z).toNat)
   case atStart => exact ⟨[], rfl, S4.out⟩
   case round =>
    clear S4
    obtain ⟨ds, rfl, hds⟩ := hrel
    have HD : Hid (RA w g jb w4.heap.size l.length l ds wr) := hds
    have hdl := hds.ln
    clear hds
    by_cases hlt : ds.length < l.length
    ·have ilt : (ds.length : Int) < (l.length : Int) := by omega
     obtain ⟨lb, lo, hao, -, -⟩ := (HR.out wr HD.out.bel).cells (by intro e; rw [e] at hlt; simp at hlt)
     subst hao
     obtain ⟨q, hq⟩ : ∃ q, l[ds.length] = q := ⟨_, rfl⟩
     obtain ⟨c0, c1, c2, c3⟩ := (HR.out wr HD.out.bel).at rfl hlt hq
     have HQ : Hid (l[ds.length] = q /\ q ∈ l) := ⟨hq, hq ▸ List.getElem_mem _⟩
     have HD2 : Hid (RA w g jb w4.heap.size l.length l ds (wr.alloc (.cells #[.int .i64 q.st, .int .i64 q.look, .int .i64 q.shift, .slice q.ra q.red.length q.rc] 68))) := HD.out.later (below_alloc _ _)
     have CC : Hid (Calls Try.prog 16 #[.pointer (some ⟨jb, 0, none⟩), q.val] (wr.alloc (.cells #[.int .i64 q.st, .int .i64 q.look, .int .i64 q.shift, .slice q.ra q.red.length q.rc] 68)) (DrO (wr.alloc (.cells #[.int .i64 q.st, .int .i64 q.look, .int .i64 q.shift, .slice q.ra q.red.length q.rc] 68)) (resU g q.look q.shift q.red))) := RC.out _ q jb HQ.out.2 (HA.out q HQ.out.2) (by obtain ⟨wj, _, j2, j3⟩ := HD2.out.ju; exact j2.later j3) HD2.out.bel
     clear hq
     generalize hD : resU g q.look q.shift q.red = d at CC
     have HE : Hid (resU g q.look q.shift q.red = d) := hD
     clear hD
     go_wp2_with (go_at_call 16; refine CC.out.mono ?_; rintro e w5 ⟨da, dc, rfl, d5, b5⟩; have N5 : Hid (D2 (wr.alloc (.cells #[.int .i64 q.st, .int .i64 q.look, .int .i64 q.shift, .slice q.ra q.red.length q.rc] 68)).heap.size w5 d da dc /\ Below (wr.alloc (.cells #[.int .i64 q.st, .int .i64 q.look, .int .i64 q.shift, .slice q.ra q.red.length q.rc] 68)).heap.size (wr.alloc (.cells #[.int .i64 q.st, .int .i64 q.look, .int .i64 q.shift, .slice q.ra q.red.length q.rc] 68)) w5) := ⟨d5, b5⟩; obtain ⟨v0, v1, v2, v3, v4, v5, z0, z1, z2, z3, z4, z5, fz⟩ := (HD2.out.later b5).room hlt; clear d5 b5 c0 c1 c2 c3)
     have P := HD2.out.put2 rfl hlt HQ.out.1 HE.out N5.out.1 N5.out.2
     refine ⟨⟨ds ++ [⟨d, da, dc⟩], ?_, P⟩, ?_⟩
     ·simp
     ·simp [intOf]
      omega
    ·have ilt : ¬ (ds.length : Int) < (l.length : Int) := by omega
     have hdn : ds.length = l.length := by omega
     go_wp2
     refine bodyPost_ret (v := .tuple #[.slice (some ⟨w4.heap.size, 0, none⟩) l.length l.length, .int .i64 0, .int .i64 l.length]) (by simp [results, Try.results5, go_sem]) rfl ?_
     exact ⟨HD.out.bel, .inr (.inr ⟨rfl, HA.out, jb, w4.heap.size, ds, rfl, hdn, HD.out⟩)⟩
end Go.Proofs.Ytlkkllehaabebab
namespace Go.Proofs.Ytlkkllehaabebab
set_option linter.unusedVariables false
set_option maxRecDepth 100000
set_option maxHeartbeats 16000000
open Go.RowKit Go.Maps
structure DA (lo : Nat) (w : World) (a : Option Addr) (ds : List DM) : Prop where
 row : DRow w a ds
 at_ : ∀ p, ds ≠ [] -> a = some p -> lo <= p.block
 own : ∀ x ∈ ds, D2 lo w x.d x.ao x.c
 up : ∀ i k (_ : i < k) (hk : k < ds.length) p q, (ds[i]'(by omega)).ao = some p -> ds[k].ao = some q -> p.block < q.block
 len : ds.length <= 1048576
 dl : ∀ x ∈ ds, x.d.drop.length <= 1048576
theorem DA.nil (lo : Nat) (w : World) (a : Option Addr) : DA lo w a [] :=
 ⟨⟨fun h => absurd rfl h, fun x hx => (by cases hx)⟩, fun p h => absurd rfl h, fun x hx => (by cases hx), fun i k _ hk => absurd hk (Nat.not_lt_zero _), Nat.zero_le _, fun x hx => (by cases hx)⟩
theorem DA.later {lo : Nat} {w w' : World} {a : Option Addr} {ds : List DM} (h : DA lo w a ds) (hb : Below w.heap.size w w') : DA lo w' a ds :=
 ⟨h.row.later hb, h.at_, fun x hx => (h.own x hx).later hb, h.up, h.len, h.dl⟩
theorem drop_le (d : DV) (red : List Int) : (dropD d red).drop.length <= red.length := List.length_filter_le _ _
theorem pick_le (look : Int) (red : List Int) (ds : List DV) : (pickD look red ds).drop.length <= red.length := by
 unfold pickD
 split
 ·exact Nat.zero_le _
 ·split
  ·exact drop_le _ _
  ·split
   ·exact drop_le _ _
   ·split
    ·exact drop_le _ _
    ·exact Nat.zero_le _
theorem resU_le (g : GV) (look shift : Int) (red : List Int) : (resU g look shift red).drop.length <= red.length := by
 unfold resU
 split
 ·exact Nat.zero_le _
 ·exact pick_le _ _ _
theorem RA.da {W : World} {g : GV} {jb b n : Nat} {l : List CV} {ds : List DM} {wr : World} (h : RA W g jb b n l ds wr) (hd : ds.length = n) (hn : n <= 1048576) (hl : ∀ x ∈ l, x.red.length <= 1048576) : DA W.heap.size wr (some ⟨b, 0, none⟩) ds := by
 obtain ⟨C, c1, c2, c3⟩ := h.bk
 have hln := h.ln
 refine ⟨⟨fun _ => ⟨b, 0, rfl, lt_of_block c1, fun i hi => ?_⟩, fun x hx => (h.own x hx).row⟩, fun p _ e => ?_, h.own, h.up, by omega, fun x hx => ?_⟩
 ·have e : ∀ j, j < 6 -> wr.cell? ⟨b, i * 6 + j, none⟩ = (dCells ds[i])[j]? := fun j hj => by
   rw [cellq_any c1]
   exact c3 i hi j hj
  refine ⟨?_, ?_, ?_, ?_, ?_, ?_⟩
  ·rw [Nat.zero_add]; exact e 0 (by omega)
  ·rw [Nat.zero_add]; exact e 1 (by omega)
  ·rw [Nat.zero_add]; exact e 2 (by omega)
  ·rw [Nat.zero_add]; exact e 3 (by omega)
  ·rw [Nat.zero_add]; exact e 4 (by omega)
  ·rw [Nat.zero_add]; exact e 5 (by omega)
 ·cases e
  exact h.lo
 ·obtain ⟨k, hk, rfl⟩ := List.getElem_of_mem hx
  rw [h.va k hk]
  exact Nat.le_trans (resU_le _ _ _ _) (hl _ (List.getElem_mem _))
theorem resolveAll_own (g : GV) (ao : Option Addr) (ac : Nat) (l : List CV) (w : World) (h : GAt 140737488355328 w g) (hpc : g.ps.length <= g.pc) (er at_ : Int) (hE : checkG g (checkF g.ts g.ns) = (er, at_)) (hl : l.length <= 1048576) (hrl : ∀ x ∈ l, x.red.length <= 1048576) (hr : CfRow w ao l) :
  Calls Try.prog 5 #[g.val, .slice ao l.length ac] w fun e w' => ∃ a ds c e2 at2, e = .returned (.tuple #[.slice a (List.length ds) c, .int .i64 e2, .int .i64 at2]) /\ DA w.heap.size w' a ds /\ Below w.heap.size w w' := by
 refine (ResolveAll_P g ao ac l w h hpc er at_ hE hl (fun x hx => Nat.le_trans (hrl x hx) (by decide)) hr).mono ?_
 rintro e w' ⟨b, ⟨_, rfl⟩ | ⟨_, i, _, _, _, rfl⟩ | ⟨_, _, jb, k, ds, rfl, hd, hR⟩⟩
 ·exact ⟨none, [], 0, _, _, rfl, DA.nil _ _ _, b⟩
 ·exact ⟨none, [], 0, _, _, rfl, DA.nil _ _ _, b⟩
 ·exact ⟨some ⟨k, 0, none⟩, ds, l.length, _, _, by rw [hd], hR.da hd hl hrl, b⟩
structure TO_ (w : World) (lo : Nat) (a : Option Addr) (N : List Bool) (c : Nat) : Prop where
 own : w.ownsRow 0 4 1 (.slice a N.length c) N.length (N.map .bool)
 lo : ∀ j, (Value.slice a N.length c).ownBlock = some j -> lo <= j
 le : N.length <= 64
theorem used_own (g : GV) (ao : Option Addr) (cap : Nat) (l : List DM) (w : World) (h : GAt 140737488355328 w g) (hpc : g.ps.length <= g.pc) (er at_ : Int) (hE : checkG g (checkF g.ts g.ns) = (er, at_)) (hl : l.length <= 140737488355328) (hr : DRow w ao l) :
  Calls Try.prog 6 #[g.val, .slice ao l.length cap] w fun e w' => ∃ a N c e2, e = .returned (.tuple #[.slice a (List.length N) c, .int .i64 e2]) /\ TO_ w' w.heap.size a N c /\ Below w.heap.size w w' := by
 have no : ∀ w' : World, TO_ w' w.heap.size none [] 0 := fun w' => ⟨World.ownsRow_nil w' 0 _ 1, fun j hj => (by cases hj), Nat.zero_le _⟩
 by_cases h0 : er = 0
 ·subst h0
  have ok : OkC g := OkC.of (by rw [hE])
  have hll := ok.ll
  refine (Used_ok g ao cap l w h hpc at_ hE hl hr).mono ?_
  rintro e w' ⟨⟨_, b, rfl, hB, hb⟩ | ⟨_, rfl⟩, bl⟩
  ·have hn := usedL_len g.ls.length l
   refine ⟨some ⟨b, 0, none⟩, usedL g.ls.length l, g.ls.length, 0, by rw [hn], ⟨?_, fun j hj => ?_, by omega⟩, bl⟩
   ·rw [hn]
    exact ⟨by simp [hn], .inr ⟨b, g.ls.length, _, rfl, Nat.zero_le _, hB, Nat.le_refl _, by unfold maxLen; omega, by simp [hn], by rw [Nat.mul_one]; exact List.take_of_length_le (by simp [hn])⟩⟩
   ·cases hj
    exact hb
  ·exact ⟨none, [], 0, _, rfl, no w', bl⟩
 ·refine (Used_no g ao l.length cap w h hpc er at_ hE h0).mono ?_
  rintro e w' ⟨rfl, bl⟩
  exact ⟨none, [], 0, _, rfl, no w', bl⟩
theorem D2.il {n : Nat} {w : World} {d : DV} {ao : Option Addr} {c : Nat} (h : D2 n w d ao c) : IL w (.slice ao d.drop.length c) d.drop := by
 rcases h with ⟨h1, h2, h3⟩ | ⟨b, cur, h1, h2, h3, h4, h5, h6, h7⟩
 ·rw [h1, h2, h3]
  exact IL.nil w
 ·rw [h2]
  exact ⟨by simp, .inr ⟨b, c, cur, rfl, Nat.zero_le _, h3, h5, h7, by rw [h4]; simp, by simpa using h6⟩⟩
structure OB (B q lo hi : Nat) (w5 : World) (V : Nat -> Value) (E : Nat -> List LE) (m1 m3 c : Nat) (w : World) : Prop where
 ki : KI kF B w q V E
 ql : q < lo
 fr : ∀ i k, (V i).ownBlock = some k -> k < lo ∨ hi <= k
 sm : ∀ k, lo <= k -> k < hi -> w.heap[k]? = w5.heap[k]?
 hz : hi <= w.heap.size
 bl : B <= lo
 no : ∀ i, i ∉ [1, 3] -> E i = []
 ln : ∀ i, (E i).length <= c
 nm : ∀ i, ∀ e ∈ E i, e.n <= 100000000
 t1 : ∀ e ∈ E 1, e.g < m1
 t3 : ∀ e ∈ E 3, e.g < m3
 bw : Below B w5 w
section
variable {B q lo hi : Nat} {w5 : World} {V : Nat -> Value} {E : Nat -> List LE} {m1 m3 c : Nat} {w : World}
theorem OB.step (h : OB B q lo hi w5 V E m1 m3 c w) {w' : World} {V' : Nat -> Value} {E' : Nat -> List LE} {m1' m3' i n c' : Nat} {a : Option Addr} (k : KI kF B w' q V' E') (z : KZ q w V w' V') (b : Below B w w') (hi' : i ∈ [1, 3]) (h2 : ∀ j, j ≠ i -> E' j = E j) (h3 : E' i = E i ∨ ∃ g, a = some ⟨g, 0, none⟩ /\ n ≠ 0 /\ E' i = E i ++ [⟨g, n, c'⟩]) (hn : n <= 100000000) (hm1 : m1 <= m1') (hm3 : m3 <= m3') (hg1 : i = 1 -> ∀ j, (Value.slice a n c').ownBlock = some j -> j < m1') (hg3 : i = 3 -> ∀ j, (Value.slice a n c').ownBlock = some j -> j < m3') : OB B q lo hi w5 V' E' m1' m3' (c + 1) w' := by
 have nw : ∀ j, ∀ e ∈ E' j, e ∈ E j ∨ (j = i /\ e.n = n /\ (Value.slice a n c').ownBlock = some e.g) := fun j e he => by
  by_cases ej : j = i
  ·subst ej
   rcases h3 with e3 | ⟨g, ea, _, e3⟩
   ·rw [e3] at he; exact .inl he
   ·rw [e3] at he
    rcases List.mem_append.1 he with he | he
    ·exact .inl he
    ·obtain rfl := List.mem_singleton.1 he
     exact .inr ⟨rfl, rfl, by rw [ea]; rfl⟩
  ·rw [h2 j ej] at he; exact .inl he
 refine ⟨k, h.ql, fun j x hx => ?_, fun x hx hy => ?_, Nat.le_trans h.hz z.size, h.bl, fun j hj => ?_, fun j => ?_, fun j e he => ?_, fun e he => ?_, fun e he => ?_, h.bw.trans b⟩
 ·rcases z.own j x hx with r | r
  ·exact h.fr j x r
  ·exact .inr (Nat.le_trans h.hz r)
 ·refine (z.block x (Nat.lt_of_lt_of_le hy h.hz) (by have := h.ql; omega) fun j e => ?_).trans (h.sm x hx hy)
  rcases h.fr j x e with r | r <;> omega
 ·rw [h2 j (fun e => hj (e ▸ hi'))]; exact h.no j hj
 ·have := h.ln j
  by_cases e : j = i
  ·subst e
   rcases h3 with e3 | ⟨g, _, _, e3⟩ <;> rw [e3]
   ·omega
   ·rw [List.length_append, List.length_singleton]; omega
  ·rw [h2 j e]; omega
 ·rcases nw j e he with r | ⟨_, r, _⟩
  ·exact h.nm j e r
  ·omega
 ·rcases nw 1 e he with r | ⟨r, _, r2⟩
  ·exact Nat.lt_of_lt_of_le (h.t1 e r) hm1
  ·exact hg1 r.symm e.g r2
 ·rcases nw 3 e he with r | ⟨r, _, r2⟩
  ·exact Nat.lt_of_lt_of_le (h.t3 e r) hm3
  ·exact hg3 r.symm e.g r2
theorem OB.keep (h : OB B q lo hi w5 V E m1 m3 c w) {w2 : World} {z : Nat} {t : TypeId} {sz n : Nat} {v : Value} {xs : List Value} (ho : w2.ownsRow 0 t sz v n xs) (hb : Below w2.heap.size w2 w5) (hz : w2.heap.size <= hi) (hl : ∀ j, v.ownBlock = some j -> z <= j) (hlo : lo <= z) : w.ownsRow 0 t sz v n xs := row_keptB ho fun k hk => by
 have := World.ownsRow.lt ho k hk
 have := hl k hk
 exact (h.sm k (by omega) (by omega)).trans (hb.block k (by omega))
theorem OB.ints {a : Option Addr} {l : List Int} {c' : Nat} (h : OB B q lo hi w5 V E m1 m3 c w) (ho5 : IL w5 (.slice a l.length c') l) (hb : ∀ j, (Value.slice a l.length c').ownBlock = some j -> lo <= j /\ j < hi /\ m1 <= j) (hle : l.length <= 1048576) (hc : c <= 50000000) {m1' : Nat} (hm : m1 <= m1') (hm' : ∀ j, (Value.slice a l.length c').ownBlock = some j -> j < m1') :
  Calls Try.prog 8 #[.pointer (some ⟨q, 0, none⟩), .slice a l.length c'] w fun e w' => e = .returned (.tuple #[]) /\ ∃ V' E', OB B q lo hi w5 V' E' m1' m3 (c + 1) w' := by
 have ho : IL w (.slice a l.length c') l := row_keptB ho5 fun k hk => h.sm k (hb k hk).1 (hb k hk).2.1
 have hln := h.ln 1
 have hbl := h.bl
 refine (book_intsF kF kF_ok B q V E w a l.length c' _ h.ki ⟨rfl, rfl, rfl⟩ (fun _ => ho) (fun _ k hk => ⟨by have := (hb k hk).1; omega, fun x hx e => ?_⟩) (by omega)).mono ?_
 ·have := h.t1 x hx
  have := (hb k hk).2.2
  omega
 ·rintro e w' ⟨rfl, V', E', k, i, d, b, r⟩
  exact ⟨rfl, V', E', h.step k r b (i := 1) (by decide) i d (by omega) hm (Nat.le_refl _) (fun _ j hj => hm' j hj) (fun e => absurd e (by decide))⟩
theorem OB.bools {a : Option Addr} {l : List Bool} {n c' z : Nat} (h : OB B q lo hi w5 V E m1 m3 c w) (p : TO_ w5 z a l c') (hz : hi = w5.heap.size) (hlo : lo <= z) (hm : m3 <= z) (h3 : m3 <= hi) (hc : c <= 50000000) (hn : n = l.length) :
  Calls Try.prog 7 #[.pointer (some ⟨q, 0, none⟩), .slice a n c'] w fun e w' => e = .returned (.tuple #[]) /\ ∃ V' E', OB B q lo hi w5 V' E' m1 hi (c + 1) w' := by
 subst hn
 have ho : w.ownsRow 0 4 1 (.slice a l.length c') l.length (l.map .bool) := row_keptB p.own fun k hk => h.sm k (by have := p.lo k hk; omega) (by have := (World.ownsRow.lt p.own k hk).2; omega)
 have hle := p.le
 have hln := h.ln 3
 have hbl := h.bl
 refine (book_boolsF kF kF_ok B q V E w a l.length c' _ h.ki ⟨rfl, rfl, rfl⟩ (fun _ => ho) (fun _ k hk => ⟨by have := p.lo k hk; omega, fun x hx e => ?_⟩) (by omega)).mono ?_
 ·have := h.t3 x hx
  have := p.lo k hk
  omega
 ·rintro e w' ⟨rfl, V', E', k, i, d, b, r⟩
  exact ⟨rfl, V', E', h.step k r b (i := 3) (by decide) i d (by omega) (Nat.le_refl _) h3 (fun e => absurd e (by decide)) (fun _ j hj => by have := (World.ownsRow.lt p.own j hj).2; omega)⟩
end
structure OK2 (B q : Nat) (V : Nat -> Value) (E : Nat -> List LE) (c : Nat) (w : World) : Prop where
 ki : KI kF B w q V E
 no : ∀ i, i ∉ [1, 3] -> E i = []
 ln : ∀ i, (E i).length <= c
 nm : ∀ i, ∀ e ∈ E i, e.n <= 100000000
theorem OK2.fb {B q : Nat} {V : Nat -> Value} {E : Nat -> List LE} {c : Nat} {w w6 : World} (h : OK2 B q V E c w) (hb : Below w.heap.size w w6) : OB B q w.heap.size w6.heap.size w6 V E w.heap.size w.heap.size c w6 :=
 ⟨h.ki.later hb, lt_of_block h.ki.hq, fun i k hk => .inl ((h.ki.row i).lt k hk), fun _ _ _ => rfl, Nat.le_refl _, h.ki.size, h.no, h.ln, h.nm, h.ki.lt 1, h.ki.lt 3, Below.refl _ _⟩
theorem OB.fk {B q lo hi : Nat} {w5 : World} {V : Nat -> Value} {E : Nat -> List LE} {m1 m3 c c' : Nat} {w : World} (h : OB B q lo hi w5 V E m1 m3 c w) (hc : c <= c') : OK2 B q V E c' w := ⟨h.ki, h.no, fun i => Nat.le_trans (h.ln i) hc, h.nm⟩
end Go.Proofs.Ytlkkllehaabebab
namespace Go.Proofs.Ytlkkllehaabebab
set_option linter.unusedVariables false
set_option maxRecDepth 100000
set_option maxHeartbeats 16000000
open Go.RowKit Go.Maps
theorem DA.mark {lo : Nat} {w : World} {a : Option Addr} {ds : List DM} (h : DA lo w a ds) {k m1 : Nat} (hk : k < ds.length) (hm : ∀ j (_ : j < ds.length), k <= j -> ∀ p, ds[j].ao = some p -> m1 <= p.block) :
  ∃ m1', m1 <= m1' /\ (∀ j, (Value.slice ds[k].ao ds[k].d.drop.length ds[k].c).ownBlock = some j -> lo <= j /\ j < w.heap.size /\ m1 <= j) /\ (∀ j, (Value.slice ds[k].ao ds[k].d.drop.length ds[k].c).ownBlock = some j -> j < m1') /\ ∀ j (_ : j < ds.length), k + 1 <= j -> ∀ p, ds[j].ao = some p -> m1' <= p.block := by
 cases e : ds[k].ao with
 | none => exact ⟨m1, Nat.le_refl _, fun j hj => (by cases hj), fun j hj => (by cases hj), fun j hj hkj => hm j hj (by omega)⟩
 | some p =>
  have h1 := hm k hk (Nat.le_refl _) p e
  have h2 := (h.own _ (List.getElem_mem hk)).lt e
  refine ⟨p.block + 1, by omega, fun j hj => ?_, fun j hj => ?_, fun j hj hkj q hq => h.up k j (by omega) hj p q e hq⟩
  ·have : p.block = j := by simpa [Value.ownBlock] using hj
   omega
  ·have : p.block = j := by simpa [Value.ownBlock] using hj
   omega
theorem DA.cell {lo : Nat} {w w' : World} {b off : Nat} {ds : List DM} (h : DA lo w (some ⟨b, off, none⟩) ds) {k : Nat} (hk : k < ds.length) (hs : ∀ j, lo <= j -> j < w.heap.size -> w'.heap[j]? = w.heap[j]?) : w'.cell? ⟨b, off + k * 6 + 3, none⟩ = some (.slice ds[k].ao ds[k].d.drop.length ds[k].c) := by
 have hne : ds ≠ [] := by intro e; rw [e] at hk; simp at hk
 obtain ⟨b', o', e, hb, hc⟩ := h.row.cells hne
 simp only [Option.some.injEq, Addr.mk.injEq] at e
 obtain ⟨rfl, rfl, _⟩ := e
 have := (hc k hk).2.2.2.1
 rw [<- this]
 have e2 := hs b (h.at_ _ hne rfl) hb
 simp only [World.cell?, e2]
set_option linter.unusedSimpArgs false in
theorem precOwn_walk (g : GV) (ao : Option Addr) (ac : Nat) (l : List CV) (w : World) (h : GAt 140737488355328 w g) (hpc : g.ps.length <= g.pc) (hl : l.length <= 1048576 /\ ∀ x ∈ l, x.red.length <= 1048576) (hr : CfRow w ao l) :
  Calls Try.prog 3 #[g.val, .slice ao l.length ac] w fun e w' => e = .returned (.bool true) /\ Below w.heap.size w w' := by
 obtain ⟨⟨er, at_⟩, hE⟩ : ∃ x, checkG g (checkF g.ts g.ns) = x := ⟨_, rfl⟩
 have X0 : Hid ((w.alloc (gBox g)).heap[w.heap.size]? = some (gBox g)) := heap_alloc_new _ _
 have RC : Hid (∀ w', Below w.heap.size w w' -> Calls Try.prog 5 #[g.val, .slice ao l.length ac] w' fun e w'' => ∃ a ds c e2 at2, e = .returned (.tuple #[.slice a (List.length ds) c, .int .i64 e2, .int .i64 at2]) /\ DA w'.heap.size w'' a ds /\ Below w'.heap.size w' w'') := fun w' hb => resolveAll_own g ao ac l w' (h.later hb) hpc er at_ hE hl.1 hl.2 (hr.later hb)
 have UC : Hid (∀ w' a ds c, Below w.heap.size w w' -> ds.length <= 1048576 -> DRow w' a ds -> Calls Try.prog 6 #[g.val, .slice a (List.length ds) c] w' fun e w'' => ∃ a N c e2, e = .returned (.tuple #[.slice a (List.length N) c, .int .i64 e2]) /\ TO_ w'' w'.heap.size a N c /\ Below w'.heap.size w' w'') := fun w' a ds c hb hd hR => used_own g a c ds w' (h.later hb) hpc er at_ hE (by omega) hR
 clear h hpc hl hr hE
 go_enter Try.func3, Try.ntmps3
 go_wp2_with (go_at_call 4; refine (works_P _).mono ?_; rintro e w1 ⟨rfl, b1⟩; have B1 : Hid (Below w.heap.size w w1 /\ w1.heap[w.heap.size]? = some (gBox g)) := ⟨(below_alloc w _).trans (b1.mono (below_alloc w _).size), (b1.block _ (lt_of_block X0.out)).trans X0.out⟩; clear b1)
 have KN : Hid (OK2 w1.heap.size w1.heap.size (fun _ => kNil) (fun _ => []) 0 (w1.alloc (.cells #[kNil, kNil, kNil, kNil, kNil, kNil, kNil, kNil, kNil, kNil, kNil, kNil, kNil, kNil, kNil, kNil] 46))) := ⟨knew kF w1, fun _ _ => rfl, fun _ => Nat.zero_le _, fun _ e he => (by cases he)⟩
 have BK : Hid (Below w1.heap.size w1 (w1.alloc (.cells #[kNil, kNil, kNil, kNil, kNil, kNil, kNil, kNil, kNil, kNil, kNil, kNil, kNil, kNil, kNil, kNil] 46))) := below_alloc _ _
 have BW : Hid (∀ w', Below w1.heap.size w1 w' -> Below w.heap.size w w' /\ w'.heap[w.heap.size]? = some (gBox g)) := fun w' hb => ⟨B1.out.1.trans (hb.mono B1.out.1.size), (hb.block _ (lt_of_block B1.out.2)).trans B1.out.2⟩
 clear X0 B1
 go_loopw [6] (fun z wr => ∃ (i : Nat) (V : Nat -> Value) (E : Nat -> List LE), i <= 2 /\ z = .int .i64 i /\ OK2 w1.heap.size w1.heap.size V E (1048577 * i) wr /\ Below w1.heap.size w1 wr) (fun z _ => 2 - (intOf z).toNat)
 case atStart => exact ⟨0, _, _, Nat.zero_le _, rfl, KN.out, BK.out⟩
 case round =>
  clear KN BK
  obtain ⟨i, V, E, hi, rfl, hS, hb⟩ := hrel
  have HS : Hid (OK2 w1.heap.size w1.heap.size V E (1048577 * i) wr /\ Below w1.heap.size w1 wr) := ⟨hS, hb⟩
  obtain ⟨x0, x1, x2, x3, x4⟩ := gb_cells (BW.out wr hb).2
  clear hS hb
  by_cases hlt : i < 2
  ·have ilt : (i : Int) < 2 := by omega
   go_wp2_with (first
    | (go_at_call 5; refine (RC.out _ (BW.out _ HS.out.2).1).mono ?_; rintro e w2 ⟨da, ds, dc, e2, at2, rfl, n2, b2⟩; have B2 : Hid (Below w1.heap.size w1 w2 /\ DA wr.heap.size w2 da ds /\ Below wr.heap.size wr w2) := ⟨HS.out.2.trans (b2.mono HS.out.1.ki.size), n2, b2⟩; have hdl := n2.len; clear n2 b2 x0 x1 x2 x3 x4; obtain ⟨x0, x1, x2, x3, x4⟩ := gb_cells (BW.out _ B2.out.1).2)
    | (go_at_call 6; refine (UC.out _ da ds dc (BW.out _ B2.out.1).1 hdl B2.out.2.1.row).mono ?_; rintro e w3 ⟨ua, N, uc, e3, rfl, n3, b3⟩; have B3 : Hid (Below w1.heap.size w1 w3 /\ DA wr.heap.size w3 da ds /\ TO_ w3 w2.heap.size ua N uc /\ OB w1.heap.size w1.heap.size wr.heap.size w3.heap.size w3 V E wr.heap.size wr.heap.size (1048577 * i) w3) := ⟨B2.out.1.trans (b3.mono B2.out.1.size), B2.out.2.1.later b3, n3, HS.out.1.fb (B2.out.2.2.trans (b3.mono B2.out.2.2.size))⟩; have Z3 : Hid (wr.heap.size <= w2.heap.size /\ w2.heap.size <= w3.heap.size) := ⟨B2.out.2.2.size, b3.size⟩; clear n3 b3 x0 x1 x2 x3 x4)
    | (go_at_call 7; refine (B3.out.2.2.2.bools B3.out.2.2.1 rfl Z3.out.1 Z3.out.1 (Nat.le_trans Z3.out.1 Z3.out.2) (by omega) rfl).mono ?_; rintro e w4 ⟨rfl, V4, E4, r4⟩; have P4 : Hid (OB w1.heap.size w1.heap.size wr.heap.size w3.heap.size w3 V4 E4 wr.heap.size w3.heap.size (1048577 * i + 1) w4) := r4; clear r4))
   have P5 : Hid (Below w1.heap.size w1 w3 /\ DA wr.heap.size w3 da ds /\ OB w1.heap.size w1.heap.size wr.heap.size w3.heap.size w3 V4 E4 wr.heap.size w3.heap.size (1048577 * i + 1) w4) := ⟨B3.out.1, B3.out.2.1, P4.out⟩
   clear B2 B3 Z3 P4 HS
   generalize wr.heap.size = L0 at *
   go_loopw [12] (fun z wq => ∃ (k : Nat) (V : Nat -> Value) (E : Nat -> List LE) (m1 : Nat), k <= ds.length /\ z = .int .i64 k /\ OB w1.heap.size w1.heap.size L0 w3.heap.size w3 V E m1 w3.heap.size (1048577 * i + 1 + k) wq /\ ∀ j (_ : j < ds.length), k <= j -> ∀ p, ds[j].ao = some p -> m1 <= p.block) (fun z _ => ds.length - (intOf z).toNat)
   case atStart => exact ⟨0, V4, E4, _, Nat.zero_le _, rfl, P5.out.2.2, fun j hj _ p e => ((P5.out.2.1.own _ (List.getElem_mem hj)).lt e).1⟩
   case round =>
    obtain ⟨k, Vk, Ek, m1, hk, rfl, hO, hM⟩ := hrel
    have HO : Hid (OB w1.heap.size w1.heap.size L0 w3.heap.size w3 Vk Ek m1 w3.heap.size (1048577 * i + 1 + k) wr /\ ∀ j (_ : j < ds.length), k <= j -> ∀ p, ds[j].ao = some p -> m1 <= p.block) := ⟨hO, hM⟩
    clear hO hM
    by_cases klt : k < ds.length
    ·have klt2 : (k : Int) < (ds.length : Int) := by omega
     obtain ⟨b, off, hda, _, _⟩ := P5.out.2.1.row.cells (by intro e; rw [e] at klt; simp at klt)
     subst hda
     obtain ⟨m1', hm1, hm2, hm3, hm4⟩ := P5.out.2.1.mark klt HO.out.2
     have cx := P5.out.2.1.cell klt (w' := wr) (fun j h1 h2 => HO.out.1.sm j h1 h2)
     have CC : Hid (Calls Try.prog 8 #[.pointer (some ⟨w1.heap.size, 0, none⟩), .slice ds[k].ao ds[k].d.drop.length ds[k].c] wr fun e w' => e = .returned (.tuple #[]) /\ ∃ V' E', OB w1.heap.size w1.heap.size L0 w3.heap.size w3 V' E' m1' w3.heap.size (1048577 * i + 1 + k + 1) w') := HO.out.1.ints (P5.out.2.1.own _ (List.getElem_mem klt)).il hm2 (P5.out.2.1.dl _ (List.getElem_mem klt)) (by omega) hm1 hm3
     have HM : Hid (∀ j (_ : j < ds.length), k + 1 <= j -> ∀ p, ds[j].ao = some p -> m1' <= p.block) := hm4
     clear hm1 hm2 hm3 hm4
     generalize ds[k].ao = ka at cx CC
     generalize ds[k].d.drop.length = kn at cx CC
     generalize ds[k].c = kc at cx CC
     go_wp2_with (go_at_call 8; refine CC.out.mono ?_; rintro e w6 ⟨rfl, V6, E6, r6⟩; have P6 : Hid _ := r6; clear r6)
     go_roundw
     case rel => exact ⟨k + 1, V6, E6, m1', by omega, by go_num, P6.out, HM.out⟩
     case measure => simp [intOf]; omega
    ·have klt2 : ¬ (k : Int) < (ds.length : Int) := by omega
     obtain rfl : k = ds.length := by omega
     go_wp2
     go_roundw
     case rel => exact ⟨i + 1, Vk, Ek, by omega, by go_num, HO.out.1.fk (by omega), P5.out.1.trans HO.out.1.bw⟩
     case measure => simp [intOf]; omega
  ·obtain rfl : i = 2 := by omega
   have ilt : ¬ ((2 : Nat) : Int) < 2 := by omega
   clear x0 x1 x2 x3 x4
   go_wp2_with (go_at_call 9; refine (book_apartF w1.heap.size w1.heap.size V E wr HS.out.1.ki HS.out.1.no (fun i => Nat.le_trans (HS.out.1.ln i) (by omega)) HS.out.1.nm).mono ?_; rintro e w9 ⟨rfl, b9⟩)
   go_ret
   exact ⟨rfl, (BW.out _ (HS.out.2.trans b9)).1⟩
end Go.Proofs.Ytlkkllehaabebab
