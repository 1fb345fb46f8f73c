import Derived.Test.YtjpknihkcndoiaaGreatPPC4ToPC5
namespace Go.Proofs.YtjpknihkcndoiaaGreat
set_option linter.unusedVariables false
set_option maxRecDepth 100000
set_option maxHeartbeats 16000000
open Go.RowKit Go.Maps
abbrev dZero : Obj := .cells #[.int .i64 0, .int .i64 0, .int .i64 0, .slice none 0 0, .bool false, .int .i64 0] 58
theorem dz_cells {w : World} {b : Nat} (h : w.heap[b]? = some (.cells #[.int .i64 0, .int .i64 0, .int .i64 0, .slice none 0 0, .bool false, .int .i64 0] 58 (0, 0))) :
  (w.cell? ⟨b, 0, none⟩ = some (.int .i64 0) /\ w.cell? ⟨b, 1, none⟩ = some (.int .i64 0) /\ w.cell? ⟨b, 2, none⟩ = some (.int .i64 0) /\ w.cell? ⟨b, 3, none⟩ = some (.slice none 0 0) /\ w.cell? ⟨b, 4, none⟩ = some (.bool false) /\ w.cell? ⟨b, 5, none⟩ = some (.int .i64 0)) /\
  (w.frozen? ⟨b, 0, none⟩ = false /\ w.frozen? ⟨b, 1, none⟩ = false /\ w.frozen? ⟨b, 2, none⟩ = false /\ w.frozen? ⟨b, 3, none⟩ = false /\ w.frozen? ⟨b, 4, none⟩ = false /\ w.frozen? ⟨b, 5, none⟩ = false) /\ b < w.heap.size :=
 ⟨⟨(cellq_any h).trans rfl, (cellq_any h).trans rfl, (cellq_any h).trans rfl, (cellq_any h).trans rfl, (cellq_any h).trans rfl, (cellq_any h).trans rfl⟩, ⟨frostS h 0, frostS h 1, frostS h 2, frostS h 3, frostS h 4, frostS h 5⟩, lt_of_block h⟩
theorem six_set {w : World} {n : Nat} {a0 a1 a2 a3 a4 a5 : Value} {t : TypeId} (h : w.heap[n]? = some (.cells #[a0, a1, a2, a3, a4, a5] t (0, 0))) (v0 v1 v2 v3 v4 v5 : Value) :
  ((((((w.setCell ⟨n, 0, none⟩ v0).setCell ⟨n, 1, none⟩ v1).setCell ⟨n, 2, none⟩ v2).setCell ⟨n, 3, none⟩ v3).setCell ⟨n, 4, none⟩ v4).setCell ⟨n, 5, none⟩ v5).heap[n]? = some (.cells #[v0, v1, v2, v3, v4, v5] t (0, 0)) /\ (∀ j, j ≠ n -> ((((((w.setCell ⟨n, 0, none⟩ v0).setCell ⟨n, 1, none⟩ v1).setCell ⟨n, 2, none⟩ v2).setCell ⟨n, 3, none⟩ v3).setCell ⟨n, 4, none⟩ v4).setCell ⟨n, 5, none⟩ v5).heap[j]? = w.heap[j]?) /\ (∀ m w0, Below m w0 w -> m <= n -> Below m w0 ((((((w.setCell ⟨n, 0, none⟩ v0).setCell ⟨n, 1, none⟩ v1).setCell ⟨n, 2, none⟩ v2).setCell ⟨n, 3, none⟩ v3).setCell ⟨n, 4, none⟩ v4).setCell ⟨n, 5, none⟩ v5)) := by
 refine ⟨(heap_set (heap_set (heap_set (heap_set (heap_set (heap_set h 0 v0) 1 v1) 2 v2) 3 v3) 4 v4) 5 v5).trans rfl, fun j hj => ?_, fun m w0 hb hm => ?_⟩
 ·rw [setj_ne hj, setj_ne hj, setj_ne hj, setj_ne hj, setj_ne hj, setj_ne hj]
 ·exact (((((hb.setCell (p := ⟨n, 0, none⟩) hm _).setCell (p := ⟨n, 1, none⟩) hm _).setCell (p := ⟨n, 2, none⟩) hm _).setCell (p := ⟨n, 3, none⟩) hm _).setCell (p := ⟨n, 4, none⟩) hm _).setCell (p := ⟨n, 5, none⟩) hm _
theorem D1.kept {n m : Nat} {w w' : World} {d : DV} {ao : Option Addr} {c : Nat} (h : D1 n w d ao c) (hm : m <= n) (hb : ∀ j, n <= j -> w'.heap[j]? = w.heap[j]?) : D1 m w' d ao c := by
 rcases h with h | ⟨b, p, h1, h2, h3, h4, h5⟩
 ·exact .inl h
 ·exact .inr ⟨b, p, Nat.le_trans hm h1, h2, h3, h4, (hb b h1).trans h5⟩
theorem dec_end {w w1 w2 : World} {d : DV} {ao : Option Addr} {c : Nat} (h1 : w1.heap.size = w.heap.size + 1 + 1) (hb : Below w.heap.size w w1) (h0 : w1.heap[w.heap.size]? = some (.cells #[.int .i64 0, .int .i64 0, .int .i64 0, .slice none 0 0, .bool false, .int .i64 0] 58 (0, 0))) (hd : D1 w1.heap.size w2 d ao c) (h2 : Below w1.heap.size w1 w2) :
  ((((((w2.setCell ⟨w.heap.size, 0, none⟩ (.int .i64 d.look)).setCell ⟨w.heap.size, 1, none⟩ (.int .i64 d.kind)).setCell ⟨w.heap.size, 2, none⟩ (.int .i64 d.prod)).setCell ⟨w.heap.size, 3, none⟩ (.slice ao d.drop.length c)).setCell ⟨w.heap.size, 4, none⟩ (.bool d.sd)).setCell ⟨w.heap.size, 5, none⟩ (.int .i64 d.lev)).heap[w.heap.size]? = some (.cells #[.int .i64 d.look, .int .i64 d.kind, .int .i64 d.prod, .slice ao d.drop.length c, .bool d.sd, .int .i64 d.lev] 58 (0, 0)) /\ D1 w.heap.size ((((((w2.setCell ⟨w.heap.size, 0, none⟩ (.int .i64 d.look)).setCell ⟨w.heap.size, 1, none⟩ (.int .i64 d.kind)).setCell ⟨w.heap.size, 2, none⟩ (.int .i64 d.prod)).setCell ⟨w.heap.size, 3, none⟩ (.slice ao d.drop.length c)).setCell ⟨w.heap.size, 4, none⟩ (.bool d.sd)).setCell ⟨w.heap.size, 5, none⟩ (.int .i64 d.lev)) d ao c /\ Below w.heap.size w ((((((w2.setCell ⟨w.heap.size, 0, none⟩ (.int .i64 d.look)).setCell ⟨w.heap.size, 1, none⟩ (.int .i64 d.kind)).setCell ⟨w.heap.size, 2, none⟩ (.int .i64 d.prod)).setCell ⟨w.heap.size, 3, none⟩ (.slice ao d.drop.length c)).setCell ⟨w.heap.size, 4, none⟩ (.bool d.sd)).setCell ⟨w.heap.size, 5, none⟩ (.int .i64 d.lev)) := by
 obtain ⟨q1, q2, q3⟩ := six_set (blk_later h0 h2) (.int .i64 d.look) (.int .i64 d.kind) (.int .i64 d.prod) (.slice ao d.drop.length c) (.bool d.sd) (.int .i64 d.lev)
 exact ⟨q1, hd.kept (by omega) fun j hj => q2 j (by omega), q3 _ _ (hb.trans (h2.mono (by omega))) (Nat.le_refl _)⟩
set_option linter.unusedSimpArgs false in
theorem decide_A (g : GV) (jb p t : Nat) (w : World) (h : JU g jb w) (hg : GAt 140737488355328 w g) (ok : OkC g) (hp : p < g.ps.length) (ht : t < g.ts.length) (hA : plvU g p = -1 /\ levU g.ls (t : Int) = -1) :
  Calls Tryz.prog 59 #[.pointer (some ⟨jb, 0, none⟩), .int .i64 (p : Int), .int .i64 (t : Int)] w (DuO w (decU g p (t : Int))) := by
 obtain ⟨ta, tc, pa, pc, mb, h1, h2, h3, h4⟩ := h.ex
 have hb := below_alloc w dZero
 obtain ⟨tb, to, rfl, _, htc⟩ := h2.later hb (by intro e; have := congrArg List.length e; rw [tl_len] at this; rw [List.length_nil] at this; omega)
 obtain ⟨pb, po, rfl, _, hpc⟩ := h3.later hb (by intro e; have := congrArg List.length e; rw [pl_len] at this; rw [List.length_nil] at this; omega)
 have ct := htc t (by rw [tl_len]; exact ht)
 have cp := hpc p (by rw [pl_len]; exact hp)
 rw [tl_at ht] at ct
 rw [pl_at hp] at cp
 have hj := blk_later h1 hb
 have j0 : (w.alloc dZero).cell? ⟨jb, 0, none⟩ = some (.slice g.la g.ls.length g.lc) := (cellq_any hj).trans rfl
 have j1 : (w.alloc dZero).cell? ⟨jb, 1, none⟩ = some (.slice (some ⟨tb, to, none⟩) g.ts.length tc) := (cellq_any hj).trans rfl
 have j2 : (w.alloc dZero).cell? ⟨jb, 2, none⟩ = some (.slice (some ⟨pb, po, none⟩) g.ps.length pc) := (cellq_any hj).trans rfl
 have htl := ok.tl.2
 have hpl := ok.pl.2
 obtain ⟨P, hP⟩ : ∃ P, P = plvU g p := ⟨_, rfl⟩
 obtain ⟨T, hT⟩ : ∃ T, T = levU g.ls (t : Int) := ⟨_, rfl⟩
 have E0 : decU g p (t : Int) = duelD g P T p t := by rw [hP, hT]; rfl
 have hT1 := lev_ge g.ls (t : Int)
 have hP1 : -1 <= plvU g p /\ plvU g p < g.ls.length := lev_ge g.ls _
 have hAQ := hA
 clear hA
 rw [<- hT] at ct hT1 hAQ
 rw [<- hP] at cp hP1 hAQ
 clear hT hP
 obtain ⟨rfl, rfl⟩ := hAQ
 have E : Hid (decU g p (t : Int) = noneD t) := by show _ = _; rw [E0]; unfold duelD; rw [if_pos (.inl rfl)]
 clear E0
 have t1 : ((-1 : Int) == -1) = true := by decide
 have N0 : Hid (∀ nq W, W = (w.alloc dZero).drewN nq -> W.heap[w.heap.size]? = some (.cells #[.int .i64 0, .int .i64 0, .int .i64 0, .slice none 0 0, .bool false, .int .i64 0] 58 (0, 0)) /\ Below w.heap.size w W /\ W.heap.size = w.heap.size + 1) := fun nq W e => by
  subst e
  exact ⟨heap_alloc_new w dZero, below_drewN (below_alloc w dZero) nq, by simp⟩
 clear htc hpc h1 h2 h3 h4 h hj hg hb
 go_enter Tryz.func59, Tryz.ntmps59
 go_wp2
 go_quiet (fail)
 obtain ⟨W1, hW1⟩ : ∃ W1, W1 = (w.alloc dZero).drewN nq := ⟨_, rfl⟩
 have N1 : Hid (W1.heap[w.heap.size]? = some (.cells #[.int .i64 0, .int .i64 0, .int .i64 0, .slice none 0 0, .bool false, .int .i64 0] 58 (0, 0)) /\ Below w.heap.size w W1 /\ W1.heap.size = w.heap.size + 1) := N0.out nq W1 hW1
 rw [<- hW1]
 have hz1 := N1.out.2.2
 clear hW1 N0 j0 j1 j2 ct cp
 have N2 : Hid (∀ W2, Below W1.heap.size W1 W2 -> W2.heap.size = w.heap.size + 1 + 1 -> Below w.heap.size w W2 /\ W2.heap[w.heap.size]? = some (.cells #[.int .i64 0, .int .i64 0, .int .i64 0, .slice none 0 0, .bool false, .int .i64 0] 58 (0, 0))) := fun W2 b _ => ⟨N1.out.2.1.trans (b.mono N1.out.2.1.size), blk_later N1.out.1 b⟩
 go_wp2_with (go_at_call 58; refine (und_P (t : Int) _).mono ?_; rintro e w2 ⟨ao, c, rfl, hd', b2'⟩; have A2 : Hid (Below w.heap.size w (W1.alloc (.cells #[.int .i64 (p : Int), .int .i64 (t : Int), .int .i64 (-1)] 156)) /\ (W1.alloc (.cells #[.int .i64 (p : Int), .int .i64 (t : Int), .int .i64 (-1)] 156)).heap[w.heap.size]? = some (.cells #[.int .i64 0, .int .i64 0, .int .i64 0, .slice none 0 0, .bool false, .int .i64 0] 58 (0, 0)) /\ (W1.alloc (.cells #[.int .i64 (p : Int), .int .i64 (t : Int), .int .i64 (-1)] 156)).heap.size = w.heap.size + 1 + 1) := (by have hsz : (W1.alloc (.cells #[.int .i64 (p : Int), .int .i64 (t : Int), .int .i64 (-1)] 156)).heap.size = w.heap.size + 1 + 1 := (by rw [alZ, hz1]); exact ⟨(N2.out _ (below_alloc _ _) hsz).1, (N2.out _ (below_alloc _ _) hsz).2, hsz⟩); obtain ⟨⟨z0, z1, z2, z3, z4, z5⟩, ⟨f0, f1, f2, f3, f4, f5⟩, hzz⟩ := dz_cells (blk_later A2.out.2.1 b2'); have hd : Hid _ := hd'; have b2 : Hid _ := b2'; clear hd' b2')
 obtain ⟨q1, q2, q3⟩ := dec_end A2.out.2.2 A2.out.1 A2.out.2.1 hd.out b2.out
 generalize ((((((w2.setCell ⟨w.heap.size, 0, none⟩ (.int .i64 (noneD t).look)).setCell ⟨w.heap.size, 1, none⟩ (.int .i64 (noneD t).kind)).setCell ⟨w.heap.size, 2, none⟩ (.int .i64 (noneD t).prod)).setCell ⟨w.heap.size, 3, none⟩ (.slice ao (noneD t).drop.length c)).setCell ⟨w.heap.size, 4, none⟩ (.bool (noneD t).sd)).setCell ⟨w.heap.size, 5, none⟩ (.int .i64 (noneD t).lev)) = W4 at *
 have r0 : W4.cell? ⟨w.heap.size, 0, none⟩ = some (.int .i64 (noneD t).look) := (cellq_any q1).trans rfl
 have r1 : W4.cell? ⟨w.heap.size, 1, none⟩ = some (.int .i64 (noneD t).kind) := (cellq_any q1).trans rfl
 have r2 : W4.cell? ⟨w.heap.size, 2, none⟩ = some (.int .i64 (noneD t).prod) := (cellq_any q1).trans rfl
 have r3 : W4.cell? ⟨w.heap.size, 3, none⟩ = some (.slice ao (noneD t).drop.length c) := (cellq_any q1).trans rfl
 have r4 : W4.cell? ⟨w.heap.size, 4, none⟩ = some (.bool (noneD t).sd) := (cellq_any q1).trans rfl
 have r5 : W4.cell? ⟨w.heap.size, 5, none⟩ = some (.int .i64 (noneD t).lev) := (cellq_any q1).trans rfl
 refine bodyPost_ret (v := dval (noneD t) ao c) (by simp [results, Tryz.results59, go_sem, r0, r1, r2, r3, r4, r5]) rfl ?_
 rw [E.out]
 exact ⟨ao, c, rfl, q2, q3⟩
set_option linter.unusedSimpArgs false in
theorem decide_B (g : GV) (jb p t : Nat) (w : World) (h : JU g jb w) (hg : GAt 140737488355328 w g) (ok : OkC g) (hp : p < g.ps.length) (ht : t < g.ts.length) (hA : plvU g p = -1 /\ 0 <= levU g.ls (t : Int)) :
  Calls Tryz.prog 59 #[.pointer (some ⟨jb, 0, none⟩), .int .i64 (p : Int), .int .i64 (t : Int)] w (DuO w (decU g p (t : Int))) := by
 obtain ⟨ta, tc, pa, pc, mb, h1, h2, h3, h4⟩ := h.ex
 have hb := below_alloc w dZero
 obtain ⟨tb, to, rfl, _, htc⟩ := h2.later hb (by intro e; have := congrArg List.length e; rw [tl_len] at this; rw [List.length_nil] at this; omega)
 obtain ⟨pb, po, rfl, _, hpc⟩ := h3.later hb (by intro e; have := congrArg List.length e; rw [pl_len] at this; rw [List.length_nil] at this; omega)
 have ct := htc t (by rw [tl_len]; exact ht)
 have cp := hpc p (by rw [pl_len]; exact hp)
 rw [tl_at ht] at ct
 rw [pl_at hp] at cp
 have hj := blk_later h1 hb
 have j0 : (w.alloc dZero).cell? ⟨jb, 0, none⟩ = some (.slice g.la g.ls.length g.lc) := (cellq_any hj).trans rfl
 have j1 : (w.alloc dZero).cell? ⟨jb, 1, none⟩ = some (.slice (some ⟨tb, to, none⟩) g.ts.length tc) := (cellq_any hj).trans rfl
 have j2 : (w.alloc dZero).cell? ⟨jb, 2, none⟩ = some (.slice (some ⟨pb, po, none⟩) g.ps.length pc) := (cellq_any hj).trans rfl
 have htl := ok.tl.2
 have hpl := ok.pl.2
 obtain ⟨P, hP⟩ : ∃ P, P = plvU g p := ⟨_, rfl⟩
 obtain ⟨T, hT⟩ : ∃ T, T = levU g.ls (t : Int) := ⟨_, rfl⟩
 have E0 : decU g p (t : Int) = duelD g P T p t := by rw [hP, hT]; rfl
 have hT1 := lev_ge g.ls (t : Int)
 have hP1 : -1 <= plvU g p /\ plvU g p < g.ls.length := lev_ge g.ls _
 have hAQ := hA
 clear hA
 rw [<- hT] at ct hT1 hAQ
 rw [<- hP] at cp hP1 hAQ
 clear hT hP
 obtain ⟨rfl, hT0⟩ := hAQ
 have E : Hid (decU g p (t : Int) = noneD t) := by show _ = _; rw [E0]; unfold duelD; rw [if_pos (.inl rfl)]
 clear E0
 have t1 : ((-1 : Int) == -1) = true := by decide
 have t2 : ¬ T <= -1 := by omega
 have N0 : Hid (∀ nq W, W = (w.alloc dZero).drewN nq -> W.heap[w.heap.size]? = some (.cells #[.int .i64 0, .int .i64 0, .int .i64 0, .slice none 0 0, .bool false, .int .i64 0] 58 (0, 0)) /\ Below w.heap.size w W /\ W.heap.size = w.heap.size + 1) := fun nq W e => by
  subst e
  exact ⟨heap_alloc_new w dZero, below_drewN (below_alloc w dZero) nq, by simp⟩
 clear htc hpc h1 h2 h3 h4 h hj hg hb
 go_enter Tryz.func59, Tryz.ntmps59
 go_wp2
 go_quiet (fail)
 obtain ⟨W1, hW1⟩ : ∃ W1, W1 = (w.alloc dZero).drewN nq := ⟨_, rfl⟩
 have N1 : Hid (W1.heap[w.heap.size]? = some (.cells #[.int .i64 0, .int .i64 0, .int .i64 0, .slice none 0 0, .bool false, .int .i64 0] 58 (0, 0)) /\ Below w.heap.size w W1 /\ W1.heap.size = w.heap.size + 1) := N0.out nq W1 hW1
 rw [<- hW1]
 have hz1 := N1.out.2.2
 clear hW1 N0 j0 j1 j2 ct cp
 have N2 : Hid (∀ W2, Below W1.heap.size W1 W2 -> W2.heap.size = w.heap.size + 1 + 1 -> Below w.heap.size w W2 /\ W2.heap[w.heap.size]? = some (.cells #[.int .i64 0, .int .i64 0, .int .i64 0, .slice none 0 0, .bool false, .int .i64 0] 58 (0, 0))) := fun W2 b _ => ⟨N1.out.2.1.trans (b.mono N1.out.2.1.size), blk_later N1.out.1 b⟩
 go_wp2_with (go_at_call 58; refine (und_P (t : Int) _).mono ?_; rintro e w2 ⟨ao, c, rfl, hd', b2'⟩; have A2 : Hid (Below w.heap.size w (W1.alloc (.cells #[.int .i64 (p : Int), .int .i64 (t : Int), .int .i64 T] 156)) /\ (W1.alloc (.cells #[.int .i64 (p : Int), .int .i64 (t : Int), .int .i64 T] 156)).heap[w.heap.size]? = some (.cells #[.int .i64 0, .int .i64 0, .int .i64 0, .slice none 0 0, .bool false, .int .i64 0] 58 (0, 0)) /\ (W1.alloc (.cells #[.int .i64 (p : Int), .int .i64 (t : Int), .int .i64 T] 156)).heap.size = w.heap.size + 1 + 1) := (by have hsz : (W1.alloc (.cells #[.int .i64 (p : Int), .int .i64 (t : Int), .int .i64 T] 156)).heap.size = w.heap.size + 1 + 1 := (by rw [alZ, hz1]); exact ⟨(N2.out _ (below_alloc _ _) hsz).1, (N2.out _ (below_alloc _ _) hsz).2, hsz⟩); obtain ⟨⟨z0, z1, z2, z3, z4, z5⟩, ⟨f0, f1, f2, f3, f4, f5⟩, hzz⟩ := dz_cells (blk_later A2.out.2.1 b2'); have hd : Hid _ := hd'; have b2 : Hid _ := b2'; clear hd' b2')
 obtain ⟨q1, q2, q3⟩ := dec_end A2.out.2.2 A2.out.1 A2.out.2.1 hd.out b2.out
 generalize ((((((w2.setCell ⟨w.heap.size, 0, none⟩ (.int .i64 (noneD t).look)).setCell ⟨w.heap.size, 1, none⟩ (.int .i64 (noneD t).kind)).setCell ⟨w.heap.size, 2, none⟩ (.int .i64 (noneD t).prod)).setCell ⟨w.heap.size, 3, none⟩ (.slice ao (noneD t).drop.length c)).setCell ⟨w.heap.size, 4, none⟩ (.bool (noneD t).sd)).setCell ⟨w.heap.size, 5, none⟩ (.int .i64 (noneD t).lev)) = W4 at *
 have r0 : W4.cell? ⟨w.heap.size, 0, none⟩ = some (.int .i64 (noneD t).look) := (cellq_any q1).trans rfl
 have r1 : W4.cell? ⟨w.heap.size, 1, none⟩ = some (.int .i64 (noneD t).kind) := (cellq_any q1).trans rfl
 have r2 : W4.cell? ⟨w.heap.size, 2, none⟩ = some (.int .i64 (noneD t).prod) := (cellq_any q1).trans rfl
 have r3 : W4.cell? ⟨w.heap.size, 3, none⟩ = some (.slice ao (noneD t).drop.length c) := (cellq_any q1).trans rfl
 have r4 : W4.cell? ⟨w.heap.size, 4, none⟩ = some (.bool (noneD t).sd) := (cellq_any q1).trans rfl
 have r5 : W4.cell? ⟨w.heap.size, 5, none⟩ = some (.int .i64 (noneD t).lev) := (cellq_any q1).trans rfl
 refine bodyPost_ret (v := dval (noneD t) ao c) (by simp [results, Tryz.results59, go_sem, r0, r1, r2, r3, r4, r5]) rfl ?_
 rw [E.out]
 exact ⟨ao, c, rfl, q2, q3⟩
set_option linter.unusedSimpArgs false in
theorem decide_C (g : GV) (jb p t : Nat) (w : World) (h : JU g jb w) (hg : GAt 140737488355328 w g) (ok : OkC g) (hp : p < g.ps.length) (ht : t < g.ts.length) (hA : 0 <= plvU g p /\ levU g.ls (t : Int) = -1) :
  Calls Tryz.prog 59 #[.pointer (some ⟨jb, 0, none⟩), .int .i64 (p : Int), .int .i64 (t : Int)] w (DuO w (decU g p (t : Int))) := by
 obtain ⟨ta, tc, pa, pc, mb, h1, h2, h3, h4⟩ := h.ex
 have hb := below_alloc w dZero
 obtain ⟨tb, to, rfl, _, htc⟩ := h2.later hb (by intro e; have := congrArg List.length e; rw [tl_len] at this; rw [List.length_nil] at this; omega)
 obtain ⟨pb, po, rfl, _, hpc⟩ := h3.later hb (by intro e; have := congrArg List.length e; rw [pl_len] at this; rw [List.length_nil] at this; omega)
 have ct := htc t (by rw [tl_len]; exact ht)
 have cp := hpc p (by rw [pl_len]; exact hp)
 rw [tl_at ht] at ct
 rw [pl_at hp] at cp
 have hj := blk_later h1 hb
 have j0 : (w.alloc dZero).cell? ⟨jb, 0, none⟩ = some (.slice g.la g.ls.length g.lc) := (cellq_any hj).trans rfl
 have j1 : (w.alloc dZero).cell? ⟨jb, 1, none⟩ = some (.slice (some ⟨tb, to, none⟩) g.ts.length tc) := (cellq_any hj).trans rfl
 have j2 : (w.alloc dZero).cell? ⟨jb, 2, none⟩ = some (.slice (some ⟨pb, po, none⟩) g.ps.length pc) := (cellq_any hj).trans rfl
 have htl := ok.tl.2
 have hpl := ok.pl.2
 obtain ⟨P, hP⟩ : ∃ P, P = plvU g p := ⟨_, rfl⟩
 obtain ⟨T, hT⟩ : ∃ T, T = levU g.ls (t : Int) := ⟨_, rfl⟩
 have E0 : decU g p (t : Int) = duelD g P T p t := by rw [hP, hT]; rfl
 have hT1 := lev_ge g.ls (t : Int)
 have hP1 : -1 <= plvU g p /\ plvU g p < g.ls.length := lev_ge g.ls _
 have hAQ := hA
 clear hA
 rw [<- hT] at ct hT1 hAQ
 rw [<- hP] at cp hP1 hAQ
 clear hT hP
 obtain ⟨hP0, rfl⟩ := hAQ
 have E : Hid (decU g p (t : Int) = noneD t) := by show _ = _; rw [E0]; unfold duelD; rw [if_pos (.inr rfl)]
 clear E0
 have t1 : (P == -1) = false := by simp; omega
 have t3 : ((-1 : Int) == -1) = true := by decide
 have t2 : -1 <= P := by omega
 have N0 : Hid (∀ nq W, W = (w.alloc dZero).drewN nq -> W.heap[w.heap.size]? = some (.cells #[.int .i64 0, .int .i64 0, .int .i64 0, .slice none 0 0, .bool false, .int .i64 0] 58 (0, 0)) /\ Below w.heap.size w W /\ W.heap.size = w.heap.size + 1) := fun nq W e => by
  subst e
  exact ⟨heap_alloc_new w dZero, below_drewN (below_alloc w dZero) nq, by simp⟩
 clear htc hpc h1 h2 h3 h4 h hj hg hb
 go_enter Tryz.func59, Tryz.ntmps59
 go_wp2
 go_quiet (fail)
 obtain ⟨W1, hW1⟩ : ∃ W1, W1 = (w.alloc dZero).drewN nq := ⟨_, rfl⟩
 have N1 : Hid (W1.heap[w.heap.size]? = some (.cells #[.int .i64 0, .int .i64 0, .int .i64 0, .slice none 0 0, .bool false, .int .i64 0] 58 (0, 0)) /\ Below w.heap.size w W1 /\ W1.heap.size = w.heap.size + 1) := N0.out nq W1 hW1
 rw [<- hW1]
 have hz1 := N1.out.2.2
 clear hW1 N0 j0 j1 j2 ct cp
 have N2 : Hid (∀ W2, Below W1.heap.size W1 W2 -> W2.heap.size = w.heap.size + 1 + 1 -> Below w.heap.size w W2 /\ W2.heap[w.heap.size]? = some (.cells #[.int .i64 0, .int .i64 0, .int .i64 0, .slice none 0 0, .bool false, .int .i64 0] 58 (0, 0))) := fun W2 b _ => ⟨N1.out.2.1.trans (b.mono N1.out.2.1.size), blk_later N1.out.1 b⟩
 go_wp2_with (go_at_call 58; refine (und_P (t : Int) _).mono ?_; rintro e w2 ⟨ao, c, rfl, hd', b2'⟩; have A2 : Hid (Below w.heap.size w (W1.alloc (.cells #[.int .i64 (p : Int), .int .i64 (t : Int), .int .i64 P] 156)) /\ (W1.alloc (.cells #[.int .i64 (p : Int), .int .i64 (t : Int), .int .i64 P] 156)).heap[w.heap.size]? = some (.cells #[.int .i64 0, .int .i64 0, .int .i64 0, .slice none 0 0, .bool false, .int .i64 0] 58 (0, 0)) /\ (W1.alloc (.cells #[.int .i64 (p : Int), .int .i64 (t : Int), .int .i64 P] 156)).heap.size = w.heap.size + 1 + 1) := (by have hsz : (W1.alloc (.cells #[.int .i64 (p : Int), .int .i64 (t : Int), .int .i64 P] 156)).heap.size = w.heap.size + 1 + 1 := (by rw [alZ, hz1]); exact ⟨(N2.out _ (below_alloc _ _) hsz).1, (N2.out _ (below_alloc _ _) hsz).2, hsz⟩); obtain ⟨⟨z0, z1, z2, z3, z4, z5⟩, ⟨f0, f1, f2, f3, f4, f5⟩, hzz⟩ := dz_cells (blk_later A2.out.2.1 b2'); have hd : Hid _ := hd'; have b2 : Hid _ := b2'; clear hd' b2')
 obtain ⟨q1, q2, q3⟩ := dec_end A2.out.2.2 A2.out.1 A2.out.2.1 hd.out b2.out
 generalize ((((((w2.setCell ⟨w.heap.size, 0, none⟩ (.int .i64 (noneD t).look)).setCell ⟨w.heap.size, 1, none⟩ (.int .i64 (noneD t).kind)).setCell ⟨w.heap.size, 2, none⟩ (.int .i64 (noneD t).prod)).setCell ⟨w.heap.size, 3, none⟩ (.slice ao (noneD t).drop.length c)).setCell ⟨w.heap.size, 4, none⟩ (.bool (noneD t).sd)).setCell ⟨w.heap.size, 5, none⟩ (.int .i64 (noneD t).lev)) = W4 at *
 have r0 : W4.cell? ⟨w.heap.size, 0, none⟩ = some (.int .i64 (noneD t).look) := (cellq_any q1).trans rfl
 have r1 : W4.cell? ⟨w.heap.size, 1, none⟩ = some (.int .i64 (noneD t).kind) := (cellq_any q1).trans rfl
 have r2 : W4.cell? ⟨w.heap.size, 2, none⟩ = some (.int .i64 (noneD t).prod) := (cellq_any q1).trans rfl
 have r3 : W4.cell? ⟨w.heap.size, 3, none⟩ = some (.slice ao (noneD t).drop.length c) := (cellq_any q1).trans rfl
 have r4 : W4.cell? ⟨w.heap.size, 4, none⟩ = some (.bool (noneD t).sd) := (cellq_any q1).trans rfl
 have r5 : W4.cell? ⟨w.heap.size, 5, none⟩ = some (.int .i64 (noneD t).lev) := (cellq_any q1).trans rfl
 refine bodyPost_ret (v := dval (noneD t) ao c) (by simp [results, Tryz.results59, go_sem, r0, r1, r2, r3, r4, r5]) rfl ?_
 rw [E.out]
 exact ⟨ao, c, rfl, q2, q3⟩
set_option linter.unusedSimpArgs false in
theorem decide_D (g : GV) (jb p t : Nat) (w : World) (h : JU g jb w) (hg : GAt 140737488355328 w g) (ok : OkC g) (hp : p < g.ps.length) (ht : t < g.ts.length) (hA : 0 <= levU g.ls (t : Int) /\ levU g.ls (t : Int) < plvU g p) :
  Calls Tryz.prog 59 #[.pointer (some ⟨jb, 0, none⟩), .int .i64 (p : Int), .int .i64 (t : Int)] w (DuO w (decU g p (t : Int))) := by
 obtain ⟨ta, tc, pa, pc, mb, h1, h2, h3, h4⟩ := h.ex
 have hb := below_alloc w dZero
 obtain ⟨tb, to, rfl, _, htc⟩ := h2.later hb (by intro e; have := congrArg List.length e; rw [tl_len] at this; rw [List.length_nil] at this; omega)
 obtain ⟨pb, po, rfl, _, hpc⟩ := h3.later hb (by intro e; have := congrArg List.length e; rw [pl_len] at this; rw [List.length_nil] at this; omega)
 have ct := htc t (by rw [tl_len]; exact ht)
 have cp := hpc p (by rw [pl_len]; exact hp)
 rw [tl_at ht] at ct
 rw [pl_at hp] at cp
 have hj := blk_later h1 hb
 have j0 : (w.alloc dZero).cell? ⟨jb, 0, none⟩ = some (.slice g.la g.ls.length g.lc) := (cellq_any hj).trans rfl
 have j1 : (w.alloc dZero).cell? ⟨jb, 1, none⟩ = some (.slice (some ⟨tb, to, none⟩) g.ts.length tc) := (cellq_any hj).trans rfl
 have j2 : (w.alloc dZero).cell? ⟨jb, 2, none⟩ = some (.slice (some ⟨pb, po, none⟩) g.ps.length pc) := (cellq_any hj).trans rfl
 have htl := ok.tl.2
 have hpl := ok.pl.2
 obtain ⟨P, hP⟩ : ∃ P, P = plvU g p := ⟨_, rfl⟩
 obtain ⟨T, hT⟩ : ∃ T, T = levU g.ls (t : Int) := ⟨_, rfl⟩
 have E0 : decU g p (t : Int) = duelD g P T p t := by rw [hP, hT]; rfl
 have hT1 := lev_ge g.ls (t : Int)
 have hP1 : -1 <= plvU g p /\ plvU g p < g.ls.length := lev_ge g.ls _
 have hAQ := hA
 clear hA
 rw [<- hT] at ct hT1 hAQ
 rw [<- hP] at cp hP1 hAQ
 clear hT hP
 obtain ⟨hT0, hTP⟩ := hAQ
 have E : Hid (decU g p (t : Int) = redD p t P) := by show _ = _; rw [E0]; unfold duelD; rw [if_neg (by omega), if_pos hTP]
 clear E0
 have t1 : (P == -1) = false := by simp; omega
 have t3 : (T == -1) = false := by simp; omega
 have t2 : T <= P := by omega
 have N0 : Hid (∀ nq W, W = (w.alloc dZero).drewN nq -> W.heap[w.heap.size]? = some (.cells #[.int .i64 0, .int .i64 0, .int .i64 0, .slice none 0 0, .bool false, .int .i64 0] 58 (0, 0)) /\ Below w.heap.size w W /\ W.heap.size = w.heap.size + 1) := fun nq W e => by
  subst e
  exact ⟨heap_alloc_new w dZero, below_drewN (below_alloc w dZero) nq, by simp⟩
 clear htc hpc h1 h2 h3 h4 h hj hg hb
 go_enter Tryz.func59, Tryz.ntmps59
 go_wp2
 go_quiet (fail)
 obtain ⟨W1, hW1⟩ : ∃ W1, W1 = (w.alloc dZero).drewN nq := ⟨_, rfl⟩
 have N1 : Hid (W1.heap[w.heap.size]? = some (.cells #[.int .i64 0, .int .i64 0, .int .i64 0, .slice none 0 0, .bool false, .int .i64 0] 58 (0, 0)) /\ Below w.heap.size w W1 /\ W1.heap.size = w.heap.size + 1) := N0.out nq W1 hW1
 rw [<- hW1]
 have hz1 := N1.out.2.2
 clear hW1 N0 j0 j1 j2 ct cp
 have N2 : Hid (∀ W2, Below W1.heap.size W1 W2 -> W2.heap.size = w.heap.size + 1 + 1 -> Below w.heap.size w W2 /\ W2.heap[w.heap.size]? = some (.cells #[.int .i64 0, .int .i64 0, .int .i64 0, .slice none 0 0, .bool false, .int .i64 0] 58 (0, 0))) := fun W2 b _ => ⟨N1.out.2.1.trans (b.mono N1.out.2.1.size), blk_later N1.out.1 b⟩
 go_wp2_with (go_at_call 75; refine (red_P (p : Int) (t : Int) P _).mono ?_; rintro e w2 ⟨ao, c, rfl, hd', b2'⟩; have A2 : Hid (Below w.heap.size w (W1.alloc (.cells #[.int .i64 (p : Int), .int .i64 (t : Int), .int .i64 P] 156)) /\ (W1.alloc (.cells #[.int .i64 (p : Int), .int .i64 (t : Int), .int .i64 P] 156)).heap[w.heap.size]? = some (.cells #[.int .i64 0, .int .i64 0, .int .i64 0, .slice none 0 0, .bool false, .int .i64 0] 58 (0, 0)) /\ (W1.alloc (.cells #[.int .i64 (p : Int), .int .i64 (t : Int), .int .i64 P] 156)).heap.size = w.heap.size + 1 + 1) := (by have hsz : (W1.alloc (.cells #[.int .i64 (p : Int), .int .i64 (t : Int), .int .i64 P] 156)).heap.size = w.heap.size + 1 + 1 := (by rw [alZ, hz1]); exact ⟨(N2.out _ (below_alloc _ _) hsz).1, (N2.out _ (below_alloc _ _) hsz).2, hsz⟩); obtain ⟨⟨z0, z1, z2, z3, z4, z5⟩, ⟨f0, f1, f2, f3, f4, f5⟩, hzz⟩ := dz_cells (blk_later A2.out.2.1 b2'); have hd : Hid _ := hd'; have b2 : Hid _ := b2'; clear hd' b2')
 obtain ⟨q1, q2, q3⟩ := dec_end A2.out.2.2 A2.out.1 A2.out.2.1 hd.out b2.out
 generalize ((((((w2.setCell ⟨w.heap.size, 0, none⟩ (.int .i64 (redD p t P).look)).setCell ⟨w.heap.size, 1, none⟩ (.int .i64 (redD p t P).kind)).setCell ⟨w.heap.size, 2, none⟩ (.int .i64 (redD p t P).prod)).setCell ⟨w.heap.size, 3, none⟩ (.slice ao (redD p t P).drop.length c)).setCell ⟨w.heap.size, 4, none⟩ (.bool (redD p t P).sd)).setCell ⟨w.heap.size, 5, none⟩ (.int .i64 (redD p t P).lev)) = W4 at *
 have r0 : W4.cell? ⟨w.heap.size, 0, none⟩ = some (.int .i64 (redD p t P).look) := (cellq_any q1).trans rfl
 have r1 : W4.cell? ⟨w.heap.size, 1, none⟩ = some (.int .i64 (redD p t P).kind) := (cellq_any q1).trans rfl
 have r2 : W4.cell? ⟨w.heap.size, 2, none⟩ = some (.int .i64 (redD p t P).prod) := (cellq_any q1).trans rfl
 have r3 : W4.cell? ⟨w.heap.size, 3, none⟩ = some (.slice ao (redD p t P).drop.length c) := (cellq_any q1).trans rfl
 have r4 : W4.cell? ⟨w.heap.size, 4, none⟩ = some (.bool (redD p t P).sd) := (cellq_any q1).trans rfl
 have r5 : W4.cell? ⟨w.heap.size, 5, none⟩ = some (.int .i64 (redD p t P).lev) := (cellq_any q1).trans rfl
 refine bodyPost_ret (v := dval (redD p t P) ao c) (by simp [results, Tryz.results59, go_sem, r0, r1, r2, r3, r4, r5]) rfl ?_
 rw [E.out]
 exact ⟨ao, c, rfl, q2, q3⟩
set_option linter.unusedSimpArgs false in
theorem decide_E (g : GV) (jb p t : Nat) (w : World) (h : JU g jb w) (hg : GAt 140737488355328 w g) (ok : OkC g) (hp : p < g.ps.length) (ht : t < g.ts.length) (hA : 0 <= plvU g p /\ plvU g p < levU g.ls (t : Int)) :
  Calls Tryz.prog 59 #[.pointer (some ⟨jb, 0, none⟩), .int .i64 (p : Int), .int .i64 (t : Int)] w (DuO w (decU g p (t : Int))) := by
 obtain ⟨ta, tc, pa, pc, mb, h1, h2, h3, h4⟩ := h.ex
 have hb := below_alloc w dZero
 obtain ⟨tb, to, rfl, _, htc⟩ := h2.later hb (by intro e; have := congrArg List.length e; rw [tl_len] at this; rw [List.length_nil] at this; omega)
 obtain ⟨pb, po, rfl, _, hpc⟩ := h3.later hb (by intro e; have := congrArg List.length e; rw [pl_len] at this; rw [List.length_nil] at this; omega)
 have ct := htc t (by rw [tl_len]; exact ht)
 have cp := hpc p (by rw [pl_len]; exact hp)
 rw [tl_at ht] at ct
 rw [pl_at hp] at cp
 have hj := blk_later h1 hb
 have j0 : (w.alloc dZero).cell? ⟨jb, 0, none⟩ = some (.slice g.la g.ls.length g.lc) := (cellq_any hj).trans rfl
 have j1 : (w.alloc dZero).cell? ⟨jb, 1, none⟩ = some (.slice (some ⟨tb, to, none⟩) g.ts.length tc) := (cellq_any hj).trans rfl
 have j2 : (w.alloc dZero).cell? ⟨jb, 2, none⟩ = some (.slice (some ⟨pb, po, none⟩) g.ps.length pc) := (cellq_any hj).trans rfl
 have htl := ok.tl.2
 have hpl := ok.pl.2
 obtain ⟨P, hP⟩ : ∃ P, P = plvU g p := ⟨_, rfl⟩
 obtain ⟨T, hT⟩ : ∃ T, T = levU g.ls (t : Int) := ⟨_, rfl⟩
 have E0 : decU g p (t : Int) = duelD g P T p t := by rw [hP, hT]; rfl
 have hT1 := lev_ge g.ls (t : Int)
 have hP1 : -1 <= plvU g p /\ plvU g p < g.ls.length := lev_ge g.ls _
 have hAQ := hA
 clear hA
 rw [<- hT] at ct hT1 hAQ
 rw [<- hP] at cp hP1 hAQ
 clear hT hP
 obtain ⟨hP0, hTP⟩ := hAQ
 have E : Hid (decU g p (t : Int) = shiD p t T) := by show _ = _; rw [E0]; unfold duelD; rw [if_neg (by omega), if_neg (by omega), if_pos hTP]
 clear E0
 have t1 : (P == -1) = false := by simp; omega
 have t3 : (T == -1) = false := by simp; omega
 have t2 : ¬ T <= P := by omega
 have t4 : ¬ T < P := by omega
 have N0 : Hid (∀ nq W, W = (w.alloc dZero).drewN nq -> W.heap[w.heap.size]? = some (.cells #[.int .i64 0, .int .i64 0, .int .i64 0, .slice none 0 0, .bool false, .int .i64 0] 58 (0, 0)) /\ Below w.heap.size w W /\ W.heap.size = w.heap.size + 1) := fun nq W e => by
  subst e
  exact ⟨heap_alloc_new w dZero, below_drewN (below_alloc w dZero) nq, by simp⟩
 clear htc hpc h1 h2 h3 h4 h hj hg hb
 go_enter Tryz.func59, Tryz.ntmps59
 go_wp2
 go_quiet (fail)
 obtain ⟨W1, hW1⟩ : ∃ W1, W1 = (w.alloc dZero).drewN nq := ⟨_, rfl⟩
 have N1 : Hid (W1.heap[w.heap.size]? = some (.cells #[.int .i64 0, .int .i64 0, .int .i64 0, .slice none 0 0, .bool false, .int .i64 0] 58 (0, 0)) /\ Below w.heap.size w W1 /\ W1.heap.size = w.heap.size + 1) := N0.out nq W1 hW1
 rw [<- hW1]
 have hz1 := N1.out.2.2
 clear hW1 N0 j0 j1 j2 ct cp
 have N2 : Hid (∀ W2, Below W1.heap.size W1 W2 -> W2.heap.size = w.heap.size + 1 + 1 -> Below w.heap.size w W2 /\ W2.heap[w.heap.size]? = some (.cells #[.int .i64 0, .int .i64 0, .int .i64 0, .slice none 0 0, .bool false, .int .i64 0] 58 (0, 0))) := fun W2 b _ => ⟨N1.out.2.1.trans (b.mono N1.out.2.1.size), blk_later N1.out.1 b⟩
 go_wp2_with (go_at_call 76; refine (shi_P (p : Int) (t : Int) T _).mono ?_; rintro e w2 ⟨ao, c, rfl, hd', b2'⟩; have A2 : Hid (Below w.heap.size w (W1.alloc (.cells #[.int .i64 (p : Int), .int .i64 (t : Int), .int .i64 T] 156)) /\ (W1.alloc (.cells #[.int .i64 (p : Int), .int .i64 (t : Int), .int .i64 T] 156)).heap[w.heap.size]? = some (.cells #[.int .i64 0, .int .i64 0, .int .i64 0, .slice none 0 0, .bool false, .int .i64 0] 58 (0, 0)) /\ (W1.alloc (.cells #[.int .i64 (p : Int), .int .i64 (t : Int), .int .i64 T] 156)).heap.size = w.heap.size + 1 + 1) := (by have hsz : (W1.alloc (.cells #[.int .i64 (p : Int), .int .i64 (t : Int), .int .i64 T] 156)).heap.size = w.heap.size + 1 + 1 := (by rw [alZ, hz1]); exact ⟨(N2.out _ (below_alloc _ _) hsz).1, (N2.out _ (below_alloc _ _) hsz).2, hsz⟩); obtain ⟨⟨z0, z1, z2, z3, z4, z5⟩, ⟨f0, f1, f2, f3, f4, f5⟩, hzz⟩ := dz_cells (blk_later A2.out.2.1 b2'); have hd : Hid _ := hd'; have b2 : Hid _ := b2'; clear hd' b2')
 obtain ⟨q1, q2, q3⟩ := dec_end A2.out.2.2 A2.out.1 A2.out.2.1 hd.out b2.out
 generalize ((((((w2.setCell ⟨w.heap.size, 0, none⟩ (.int .i64 (shiD p t T).look)).setCell ⟨w.heap.size, 1, none⟩ (.int .i64 (shiD p t T).kind)).setCell ⟨w.heap.size, 2, none⟩ (.int .i64 (shiD p t T).prod)).setCell ⟨w.heap.size, 3, none⟩ (.slice ao (shiD p t T).drop.length c)).setCell ⟨w.heap.size, 4, none⟩ (.bool (shiD p t T).sd)).setCell ⟨w.heap.size, 5, none⟩ (.int .i64 (shiD p t T).lev)) = W4 at *
 have r0 : W4.cell? ⟨w.heap.size, 0, none⟩ = some (.int .i64 (shiD p t T).look) := (cellq_any q1).trans rfl
 have r1 : W4.cell? ⟨w.heap.size, 1, none⟩ = some (.int .i64 (shiD p t T).kind) := (cellq_any q1).trans rfl
 have r2 : W4.cell? ⟨w.heap.size, 2, none⟩ = some (.int .i64 (shiD p t T).prod) := (cellq_any q1).trans rfl
 have r3 : W4.cell? ⟨w.heap.size, 3, none⟩ = some (.slice ao (shiD p t T).drop.length c) := (cellq_any q1).trans rfl
 have r4 : W4.cell? ⟨w.heap.size, 4, none⟩ = some (.bool (shiD p t T).sd) := (cellq_any q1).trans rfl
 have r5 : W4.cell? ⟨w.heap.size, 5, none⟩ = some (.int .i64 (shiD p t T).lev) := (cellq_any q1).trans rfl
 refine bodyPost_ret (v := dval (shiD p t T) ao c) (by simp [results, Tryz.results59, go_sem, r0, r1, r2, r3, r4, r5]) rfl ?_
 rw [E.out]
 exact ⟨ao, c, rfl, q2, q3⟩
end Go.Proofs.YtjpknihkcndoiaaGreat
namespace Go.Proofs.YtjpknihkcndoiaaGreat
set_option linter.unusedVariables false
set_option maxRecDepth 100000
set_option maxHeartbeats 16000000
open Go.RowKit Go.Maps
theorem EqM.look {w : World} {mb : Nat} (h : EqM w mb) (a : Int) (h1 : 1 <= a) (h3 : a <= 3) : (Instr.lookup 118 (.map (some mb)) (.int .i64 a) false).run Tryz.prog w = .ok (eqFn a) w := by
 obtain ⟨D, f, ho, hf, hfe⟩ := h.ex
 obtain ⟨v, ps, hrun, hv⟩ := ho.lookup lawA Tryz.underlying118 (zeroFn w) (heldE_mk _) (keyOf_A (x := a) (by omega) (by omega))
 rw [hf.at_ a, hfe a h1 h3] at hv
 rw [hrun, heldE_inv hv]
set_option linter.unusedSimpArgs false in
theorem decide_F (g : GV) (jb p t : Nat) (w : World) (h : JU g jb w) (hg : GAt 140737488355328 w g) (ok : OkC g) (hp : p < g.ps.length) (ht : t < g.ts.length) (hA : plvU g p = levU g.ls (t : Int) /\ 0 <= levU g.ls (t : Int) /\ (g.ls.getD (plvU g p).toNat .none).assoc = 1) :
  Calls Tryz.prog 59 #[.pointer (some ⟨jb, 0, none⟩), .int .i64 (p : Int), .int .i64 (t : Int)] w (DuO w (decU g p (t : Int))) := by
 obtain ⟨ta, tc, pa, pc, mb, h1, h2, h3, h4⟩ := h.ex
 have hb := below_alloc w dZero
 obtain ⟨tb, to, rfl, _, htc⟩ := h2.later hb (by intro e; have := congrArg List.length e; rw [tl_len] at this; rw [List.length_nil] at this; omega)
 obtain ⟨pb, po, rfl, _, hpc⟩ := h3.later hb (by intro e; have := congrArg List.length e; rw [pl_len] at this; rw [List.length_nil] at this; omega)
 have ct := htc t (by rw [tl_len]; exact ht)
 have cp := hpc p (by rw [pl_len]; exact hp)
 rw [tl_at ht] at ct
 rw [pl_at hp] at cp
 have hj := blk_later h1 hb
 have j0 : (w.alloc dZero).cell? ⟨jb, 0, none⟩ = some (.slice g.la g.ls.length g.lc) := (cellq_any hj).trans rfl
 have j1 : (w.alloc dZero).cell? ⟨jb, 1, none⟩ = some (.slice (some ⟨tb, to, none⟩) g.ts.length tc) := (cellq_any hj).trans rfl
 have j2 : (w.alloc dZero).cell? ⟨jb, 2, none⟩ = some (.slice (some ⟨pb, po, none⟩) g.ps.length pc) := (cellq_any hj).trans rfl
 have htl := ok.tl.2
 have hpl := ok.pl.2
 obtain ⟨P, hP⟩ : ∃ P, P = plvU g p := ⟨_, rfl⟩
 obtain ⟨T, hT⟩ : ∃ T, T = levU g.ls (t : Int) := ⟨_, rfl⟩
 have E0 : decU g p (t : Int) = duelD g P T p t := by rw [hP, hT]; rfl
 have hT1 := lev_ge g.ls (t : Int)
 have hP1 : -1 <= plvU g p /\ plvU g p < g.ls.length := lev_ge g.ls _
 have hAQ := hA
 clear hA
 rw [<- hT] at ct hT1 hAQ
 rw [<- hP] at cp hP1 hAQ
 clear hT hP
 obtain ⟨hPT, hP0, ha⟩ := hAQ
 obtain ⟨K, rfl⟩ : ∃ K : Nat, P = (K : Int) := ⟨P.toNat, by omega⟩
 subst hPT
 have hK : K < g.ls.length := by omega
 have hll := ok.ll
 rw [Int.toNat_natCast] at ha
 have E : Hid (decU g p (t : Int) = redD p t (K : Int)) := by show _ = _; rw [E0]; unfold duelD; rw [if_neg (by omega), if_neg (by omega), if_neg (by omega), Int.toNat_natCast, ha]; rfl
 clear E0
 have t1 : ((K : Int) == -1) = false := by simp
 have t2 : (K : Int) <= (K : Int) := Int.le_refl _
 have t4 : ¬ (K : Int) < (K : Int) := by omega
 obtain ⟨lb, lo, hla, hlb, hlc⟩ := hg.l.cells (by intro e; rw [e] at hK; simp at hK)
 have cl := (hlc K hK).1
 rw [ha] at cl
 rw [hla] at h1
 have HX : Hid (∀ w', Below w.heap.size w w' -> EqM w' mb /\ w'.heap[jb]? = some (.cells #[.slice (some ⟨lb, lo, none⟩) g.ls.length g.lc, .slice (some ⟨tb, to, none⟩) g.ts.length tc, .slice (some ⟨pb, po, none⟩) g.ps.length pc, .map (some mb)] 121 (0, 0)) /\ w'.cell? ⟨lb, lo + K * 2, none⟩ = some (.int .i64 1)) := fun w' b => ⟨h4.later b, blk_later h1 b, (b.cell (p := ⟨lb, lo + K * 2, none⟩) hlb).trans cl⟩
 clear hlc cl ha hla
 have N0 : Hid (∀ nq W, W = (w.alloc dZero).drewN nq -> W.heap[w.heap.size]? = some (.cells #[.int .i64 0, .int .i64 0, .int .i64 0, .slice none 0 0, .bool false, .int .i64 0] 58 (0, 0)) /\ Below w.heap.size w W /\ W.heap.size = w.heap.size + 1) := fun nq W e => by
  subst e
  exact ⟨heap_alloc_new w dZero, below_drewN (below_alloc w dZero) nq, by simp⟩
 clear htc hpc h1 h2 h3 h4 h hj hg hb
 go_enter Tryz.func59, Tryz.ntmps59
 go_wp2
 go_quiet (fail)
 obtain ⟨W1, hW1⟩ : ∃ W1, W1 = (w.alloc dZero).drewN nq := ⟨_, rfl⟩
 have N1 : Hid (W1.heap[w.heap.size]? = some (.cells #[.int .i64 0, .int .i64 0, .int .i64 0, .slice none 0 0, .bool false, .int .i64 0] 58 (0, 0)) /\ Below w.heap.size w W1 /\ W1.heap.size = w.heap.size + 1) := N0.out nq W1 hW1
 rw [<- hW1]
 have hz1 := N1.out.2.2
 clear hW1 N0 j0 j1 j2 ct cp
 have N2 : Hid (∀ W2, Below W1.heap.size W1 W2 -> W2.heap.size = w.heap.size + 1 + 1 -> Below w.heap.size w W2 /\ W2.heap[w.heap.size]? = some (.cells #[.int .i64 0, .int .i64 0, .int .i64 0, .slice none 0 0, .bool false, .int .i64 0] 58 (0, 0))) := fun W2 b _ => ⟨N1.out.2.1.trans (b.mono N1.out.2.1.size), blk_later N1.out.1 b⟩
 go_wp2
 obtain ⟨wd, hwd⟩ : ∃ wd : World, wd = (W1.alloc (.cells #[.int .i64 (p : Int), .int .i64 (t : Int), .int .i64 (K : Int)] 156)).drew := ⟨_, rfl⟩
 have XD : Hid (wd.heap[w.heap.size]? = some (.cells #[.int .i64 0, .int .i64 0, .int .i64 0, .slice none 0 0, .bool false, .int .i64 0] 58 (0, 0)) /\ Below w.heap.size w wd /\ wd.heap.size = w.heap.size + 1 + 1 /\ wd.heap[w.heap.size + 1]? = some (.cells #[.int .i64 (p : Int), .int .i64 (t : Int), .int .i64 (K : Int)] 156 (0, 0))) := by
  subst hwd
  have hsz : (W1.alloc (.cells #[.int .i64 (p : Int), .int .i64 (t : Int), .int .i64 (K : Int)] 156)).heap.size = w.heap.size + 1 + 1 := by rw [alZ, hz1]
  have q := N2.out _ (below_alloc W1 (.cells #[.int .i64 (p : Int), .int .i64 (t : Int), .int .i64 (K : Int)] 156)) hsz
  have q2 := heap_alloc_new W1 (.cells #[.int .i64 (p : Int), .int .i64 (t : Int), .int .i64 (K : Int)] 156)
  rw [hz1] at q2
  exact ⟨q.2, q.1.drew, hsz, q2⟩
 obtain ⟨em, hjd, cl⟩ := HX.out wd XD.out.2.1
 have d0 : wd.cell? ⟨jb, 0, none⟩ = some (.slice (some ⟨lb, lo, none⟩) g.ls.length g.lc) := (cellq_any hjd).trans rfl
 have d3 : wd.cell? ⟨jb, 3, none⟩ = some (.map (some mb)) := (cellq_any hjd).trans rfl
 have u0 : wd.cell? ⟨w.heap.size + 1, 0, none⟩ = some (.int .i64 (p : Int)) := (cellq_any XD.out.2.2.2).trans rfl
 have u1 : wd.cell? ⟨w.heap.size + 1, 1, none⟩ = some (.int .i64 (t : Int)) := (cellq_any XD.out.2.2.2).trans rfl
 have u2 : wd.cell? ⟨w.heap.size + 1, 2, none⟩ = some (.int .i64 (K : Int)) := (cellq_any XD.out.2.2.2).trans rfl
 have lk := em.look 1 (by decide) (by decide)
 rw [show eqFn 1 = .func (.func 75) #[] #[] from rfl] at lk
 refine wp_region_tail_s 14 (by kernel_rfl) (by kernel_rfl) wd hwd ?_
 clear hwd hjd em HX N2 N1
 simp only [List.take_succ_cons, List.take_zero, List.drop_succ_cons, List.drop_zero]
 refine st_yes (v := ?_) (by rfl) ?_ ?_
 rotate_left
 ·(go_simp; with_reducible rfl)
 (try simp only [Act.put, lsA, lsZ, lsN])
 refine st_yes (v := ?_) (by rfl) ?_ ?_
 rotate_left
 ·(go_simp; with_reducible rfl)
 (try simp only [Act.put, lsA, lsZ, lsN])
 refine st_yes (v := ?_) (by rfl) ?_ ?_
 rotate_left
 ·(go_simp; with_reducible rfl)
 (try simp only [Act.put, lsA, lsZ, lsN])
 refine st_yes (v := ?_) (by rfl) ?_ ?_
 rotate_left
 ·(go_simp; with_reducible rfl)
 (try simp only [Act.put, lsA, lsZ, lsN])
 refine st_yes (v := ?_) (by rfl) ?_ ?_
 rotate_left
 ·(go_simp; with_reducible rfl)
 (try simp only [Act.put, lsA, lsZ, lsN])
 refine st_yes (v := ?_) (by rfl) ?_ ?_
 rotate_left
 ·(go_simp; with_reducible rfl)
 (try simp only [Act.put, lsA, lsZ, lsN])
 refine st_yes (v := ?_) (by rfl) ?_ ?_
 rotate_left
 ·(go_simp; with_reducible rfl)
 (try simp only [Act.put, lsA, lsZ, lsN])
 refine st_yes (v := ?_) (by rfl) ?_ ?_
 rotate_left
 ·(go_simp; with_reducible rfl)
 (try simp only [Act.put, lsA, lsZ, lsN])
 refine st_yes (v := ?_) (by rfl) ?_ ?_
 rotate_left
 ·(go_simp; with_reducible rfl)
 (try simp only [Act.put, lsA, lsZ, lsN])
 refine st_yes (v := ?_) (by rfl) ?_ ?_
 rotate_left
 ·(go_simp; with_reducible rfl)
 (try simp only [Act.put, lsA, lsZ, lsN])
 refine st_yes (v := ?_) (by rfl) ?_ ?_
 rotate_left
 ·(go_simp; with_reducible rfl)
 (try simp only [Act.put, lsA, lsZ, lsN])
 refine st_yes (v := ?_) (by rfl) ?_ ?_
 rotate_left
 ·(go_simp; with_reducible rfl)
 (try simp only [Act.put, lsA, lsZ, lsN])
 refine st_yes (v := ?_) (by rfl) ?_ ?_
 rotate_left
 ·(go_simp; with_reducible rfl)
 (try simp only [Act.put, lsA, lsZ, lsN])
 refine st_yes (v := ?_) (by rfl) ?_ ?_
 rotate_left
 ·(go_simp; with_reducible rfl)
 (try simp only [Act.put, lsA, lsZ, lsN])
 refine st_nil ?_
 go_wp2_with (go_at_call 75; refine (red_P (p : Int) (t : Int) (K : Int) _).mono ?_; rintro e w2 ⟨ao, c, rfl, hd', b2'⟩; have A2 : Hid (Below w.heap.size w wd /\ wd.heap[w.heap.size]? = some (.cells #[.int .i64 0, .int .i64 0, .int .i64 0, .slice none 0 0, .bool false, .int .i64 0] 58 (0, 0)) /\ wd.heap.size = w.heap.size + 1 + 1) := ⟨XD.out.2.1, XD.out.1, XD.out.2.2.1⟩; clear d0 d3 u0 u1 u2 lk cl; obtain ⟨⟨z0, z1, z2, z3, z4, z5⟩, ⟨f0, f1, f2, f3, f4, f5⟩, hzz⟩ := dz_cells (blk_later A2.out.2.1 b2'); have hd : Hid _ := hd'; have b2 : Hid _ := b2'; clear hd' b2')
 obtain ⟨q1, q2, q3⟩ := dec_end A2.out.2.2 A2.out.1 A2.out.2.1 hd.out b2.out
 generalize ((((((w2.setCell ⟨w.heap.size, 0, none⟩ (.int .i64 (redD p t (K : Int)).look)).setCell ⟨w.heap.size, 1, none⟩ (.int .i64 (redD p t (K : Int)).kind)).setCell ⟨w.heap.size, 2, none⟩ (.int .i64 (redD p t (K : Int)).prod)).setCell ⟨w.heap.size, 3, none⟩ (.slice ao (redD p t (K : Int)).drop.length c)).setCell ⟨w.heap.size, 4, none⟩ (.bool (redD p t (K : Int)).sd)).setCell ⟨w.heap.size, 5, none⟩ (.int .i64 (redD p t (K : Int)).lev)) = W4 at *
 have r0 : W4.cell? ⟨w.heap.size, 0, none⟩ = some (.int .i64 (redD p t (K : Int)).look) := (cellq_any q1).trans rfl
 have r1 : W4.cell? ⟨w.heap.size, 1, none⟩ = some (.int .i64 (redD p t (K : Int)).kind) := (cellq_any q1).trans rfl
 have r2 : W4.cell? ⟨w.heap.size, 2, none⟩ = some (.int .i64 (redD p t (K : Int)).prod) := (cellq_any q1).trans rfl
 have r3 : W4.cell? ⟨w.heap.size, 3, none⟩ = some (.slice ao (redD p t (K : Int)).drop.length c) := (cellq_any q1).trans rfl
 have r4 : W4.cell? ⟨w.heap.size, 4, none⟩ = some (.bool (redD p t (K : Int)).sd) := (cellq_any q1).trans rfl
 have r5 : W4.cell? ⟨w.heap.size, 5, none⟩ = some (.int .i64 (redD p t (K : Int)).lev) := (cellq_any q1).trans rfl
 refine bodyPost_ret (v := dval (redD p t (K : Int)) ao c) (by simp [results, Tryz.results59, go_sem, r0, r1, r2, r3, r4, r5]) rfl ?_
 rw [E.out]
 exact ⟨ao, c, rfl, q2, q3⟩
set_option linter.unusedSimpArgs false in
theorem decide_G (g : GV) (jb p t : Nat) (w : World) (h : JU g jb w) (hg : GAt 140737488355328 w g) (ok : OkC g) (hp : p < g.ps.length) (ht : t < g.ts.length) (hA : plvU g p = levU g.ls (t : Int) /\ 0 <= levU g.ls (t : Int) /\ (g.ls.getD (plvU g p).toNat .none).assoc = 2) :
  Calls Tryz.prog 59 #[.pointer (some ⟨jb, 0, none⟩), .int .i64 (p : Int), .int .i64 (t : Int)] w (DuO w (decU g p (t : Int))) := by
 obtain ⟨ta, tc, pa, pc, mb, h1, h2, h3, h4⟩ := h.ex
 have hb := below_alloc w dZero
 obtain ⟨tb, to, rfl, _, htc⟩ := h2.later hb (by intro e; have := congrArg List.length e; rw [tl_len] at this; rw [List.length_nil] at this; omega)
 obtain ⟨pb, po, rfl, _, hpc⟩ := h3.later hb (by intro e; have := congrArg List.length e; rw [pl_len] at this; rw [List.length_nil] at this; omega)
 have ct := htc t (by rw [tl_len]; exact ht)
 have cp := hpc p (by rw [pl_len]; exact hp)
 rw [tl_at ht] at ct
 rw [pl_at hp] at cp
 have hj := blk_later h1 hb
 have j0 : (w.alloc dZero).cell? ⟨jb, 0, none⟩ = some (.slice g.la g.ls.length g.lc) := (cellq_any hj).trans rfl
 have j1 : (w.alloc dZero).cell? ⟨jb, 1, none⟩ = some (.slice (some ⟨tb, to, none⟩) g.ts.length tc) := (cellq_any hj).trans rfl
 have j2 : (w.alloc dZero).cell? ⟨jb, 2, none⟩ = some (.slice (some ⟨pb, po, none⟩) g.ps.length pc) := (cellq_any hj).trans rfl
 have htl := ok.tl.2
 have hpl := ok.pl.2
 obtain ⟨P, hP⟩ : ∃ P, P = plvU g p := ⟨_, rfl⟩
 obtain ⟨T, hT⟩ : ∃ T, T = levU g.ls (t : Int) := ⟨_, rfl⟩
 have E0 : decU g p (t : Int) = duelD g P T p t := by rw [hP, hT]; rfl
 have hT1 := lev_ge g.ls (t : Int)
 have hP1 : -1 <= plvU g p /\ plvU g p < g.ls.length := lev_ge g.ls _
 have hAQ := hA
 clear hA
 rw [<- hT] at ct hT1 hAQ
 rw [<- hP] at cp hP1 hAQ
 clear hT hP
 obtain ⟨hPT, hP0, ha⟩ := hAQ
 obtain ⟨K, rfl⟩ : ∃ K : Nat, P = (K : Int) := ⟨P.toNat, by omega⟩
 subst hPT
 have hK : K < g.ls.length := by omega
 have hll := ok.ll
 rw [Int.toNat_natCast] at ha
 have E : Hid (decU g p (t : Int) = shiD p t (K : Int)) := by show _ = _; rw [E0]; unfold duelD; rw [if_neg (by omega), if_neg (by omega), if_neg (by omega), Int.toNat_natCast, ha]; rfl
 clear E0
 have t1 : ((K : Int) == -1) = false := by simp
 have t2 : (K : Int) <= (K : Int) := Int.le_refl _
 have t4 : ¬ (K : Int) < (K : Int) := by omega
 obtain ⟨lb, lo, hla, hlb, hlc⟩ := hg.l.cells (by intro e; rw [e] at hK; simp at hK)
 have cl := (hlc K hK).1
 rw [ha] at cl
 rw [hla] at h1
 have HX : Hid (∀ w', Below w.heap.size w w' -> EqM w' mb /\ w'.heap[jb]? = some (.cells #[.slice (some ⟨lb, lo, none⟩) g.ls.length g.lc, .slice (some ⟨tb, to, none⟩) g.ts.length tc, .slice (some ⟨pb, po, none⟩) g.ps.length pc, .map (some mb)] 121 (0, 0)) /\ w'.cell? ⟨lb, lo + K * 2, none⟩ = some (.int .i64 2)) := fun w' b => ⟨h4.later b, blk_later h1 b, (b.cell (p := ⟨lb, lo + K * 2, none⟩) hlb).trans cl⟩
 clear hlc cl ha hla
 have N0 : Hid (∀ nq W, W = (w.alloc dZero).drewN nq -> W.heap[w.heap.size]? = some (.cells #[.int .i64 0, .int .i64 0, .int .i64 0, .slice none 0 0, .bool false, .int .i64 0] 58 (0, 0)) /\ Below w.heap.size w W /\ W.heap.size = w.heap.size + 1) := fun nq W e => by
  subst e
  exact ⟨heap_alloc_new w dZero, below_drewN (below_alloc w dZero) nq, by simp⟩
 clear htc hpc h1 h2 h3 h4 h hj hg hb
 go_enter Tryz.func59, Tryz.ntmps59
 go_wp2
 go_quiet (fail)
 obtain ⟨W1, hW1⟩ : ∃ W1, W1 = (w.alloc dZero).drewN nq := ⟨_, rfl⟩
 have N1 : Hid (W1.heap[w.heap.size]? = some (.cells #[.int .i64 0, .int .i64 0, .int .i64 0, .slice none 0 0, .bool false, .int .i64 0] 58 (0, 0)) /\ Below w.heap.size w W1 /\ W1.heap.size = w.heap.size + 1) := N0.out nq W1 hW1
 rw [<- hW1]
 have hz1 := N1.out.2.2
 clear hW1 N0 j0 j1 j2 ct cp
 have N2 : Hid (∀ W2, Below W1.heap.size W1 W2 -> W2.heap.size = w.heap.size + 1 + 1 -> Below w.heap.size w W2 /\ W2.heap[w.heap.size]? = some (.cells #[.int .i64 0, .int .i64 0, .int .i64 0, .slice none 0 0, .bool false, .int .i64 0] 58 (0, 0))) := fun W2 b _ => ⟨N1.out.2.1.trans (b.mono N1.out.2.1.size), blk_later N1.out.1 b⟩
 go_wp2
 obtain ⟨wd, hwd⟩ : ∃ wd : World, wd = (W1.alloc (.cells #[.int .i64 (p : Int), .int .i64 (t : Int), .int .i64 (K : Int)] 156)).drew := ⟨_, rfl⟩
 have XD : Hid (wd.heap[w.heap.size]? = some (.cells #[.int .i64 0, .int .i64 0, .int .i64 0, .slice none 0 0, .bool false, .int .i64 0] 58 (0, 0)) /\ Below w.heap.size w wd /\ wd.heap.size = w.heap.size + 1 + 1 /\ wd.heap[w.heap.size + 1]? = some (.cells #[.int .i64 (p : Int), .int .i64 (t : Int), .int .i64 (K : Int)] 156 (0, 0))) := by
  subst hwd
  have hsz : (W1.alloc (.cells #[.int .i64 (p : Int), .int .i64 (t : Int), .int .i64 (K : Int)] 156)).heap.size = w.heap.size + 1 + 1 := by rw [alZ, hz1]
  have q := N2.out _ (below_alloc W1 (.cells #[.int .i64 (p : Int), .int .i64 (t : Int), .int .i64 (K : Int)] 156)) hsz
  have q2 := heap_alloc_new W1 (.cells #[.int .i64 (p : Int), .int .i64 (t : Int), .int .i64 (K : Int)] 156)
  rw [hz1] at q2
  exact ⟨q.2, q.1.drew, hsz, q2⟩
 obtain ⟨em, hjd, cl⟩ := HX.out wd XD.out.2.1
 have d0 : wd.cell? ⟨jb, 0, none⟩ = some (.slice (some ⟨lb, lo, none⟩) g.ls.length g.lc) := (cellq_any hjd).trans rfl
 have d3 : wd.cell? ⟨jb, 3, none⟩ = some (.map (some mb)) := (cellq_any hjd).trans rfl
 have u0 : wd.cell? ⟨w.heap.size + 1, 0, none⟩ = some (.int .i64 (p : Int)) := (cellq_any XD.out.2.2.2).trans rfl
 have u1 : wd.cell? ⟨w.heap.size + 1, 1, none⟩ = some (.int .i64 (t : Int)) := (cellq_any XD.out.2.2.2).trans rfl
 have u2 : wd.cell? ⟨w.heap.size + 1, 2, none⟩ = some (.int .i64 (K : Int)) := (cellq_any XD.out.2.2.2).trans rfl
 have lk := em.look 2 (by decide) (by decide)
 rw [show eqFn 2 = .func (.func 76) #[] #[] from rfl] at lk
 refine wp_region_tail_s 14 (by kernel_rfl) (by kernel_rfl) wd hwd ?_
 clear hwd hjd em HX N2 N1
 simp only [List.take_succ_cons, List.take_zero, List.drop_succ_cons, List.drop_zero]
 refine st_yes (v := ?_) (by rfl) ?_ ?_
 rotate_left
 ·(go_simp; with_reducible rfl)
 (try simp only [Act.put, lsA, lsZ, lsN])
 refine st_yes (v := ?_) (by rfl) ?_ ?_
 rotate_left
 ·(go_simp; with_reducible rfl)
 (try simp only [Act.put, lsA, lsZ, lsN])
 refine st_yes (v := ?_) (by rfl) ?_ ?_
 rotate_left
 ·(go_simp; with_reducible rfl)
 (try simp only [Act.put, lsA, lsZ, lsN])
 refine st_yes (v := ?_) (by rfl) ?_ ?_
 rotate_left
 ·(go_simp; with_reducible rfl)
 (try simp only [Act.put, lsA, lsZ, lsN])
 refine st_yes (v := ?_) (by rfl) ?_ ?_
 rotate_left
 ·(go_simp; with_reducible rfl)
 (try simp only [Act.put, lsA, lsZ, lsN])
 refine st_yes (v := ?_) (by rfl) ?_ ?_
 rotate_left
 ·(go_simp; with_reducible rfl)
 (try simp only [Act.put, lsA, lsZ, lsN])
 refine st_yes (v := ?_) (by rfl) ?_ ?_
 rotate_left
 ·(go_simp; with_reducible rfl)
 (try simp only [Act.put, lsA, lsZ, lsN])
 refine st_yes (v := ?_) (by rfl) ?_ ?_
 rotate_left
 ·(go_simp; with_reducible rfl)
 (try simp only [Act.put, lsA, lsZ, lsN])
 refine st_yes (v := ?_) (by rfl) ?_ ?_
 rotate_left
 ·(go_simp; with_reducible rfl)
 (try simp only [Act.put, lsA, lsZ, lsN])
 refine st_yes (v := ?_) (by rfl) ?_ ?_
 rotate_left
 ·(go_simp; with_reducible rfl)
 (try simp only [Act.put, lsA, lsZ, lsN])
 refine st_yes (v := ?_) (by rfl) ?_ ?_
 rotate_left
 ·(go_simp; with_reducible rfl)
 (try simp only [Act.put, lsA, lsZ, lsN])
 refine st_yes (v := ?_) (by rfl) ?_ ?_
 rotate_left
 ·(go_simp; with_reducible rfl)
 (try simp only [Act.put, lsA, lsZ, lsN])
 refine st_yes (v := ?_) (by rfl) ?_ ?_
 rotate_left
 ·(go_simp; with_reducible rfl)
 (try simp only [Act.put, lsA, lsZ, lsN])
 refine st_yes (v := ?_) (by rfl) ?_ ?_
 rotate_left
 ·(go_simp; with_reducible rfl)
 (try simp only [Act.put, lsA, lsZ, lsN])
 refine st_nil ?_
 go_wp2_with (go_at_call 76; refine (shi_P (p : Int) (t : Int) (K : Int) _).mono ?_; rintro e w2 ⟨ao, c, rfl, hd', b2'⟩; have A2 : Hid (Below w.heap.size w wd /\ wd.heap[w.heap.size]? = some (.cells #[.int .i64 0, .int .i64 0, .int .i64 0, .slice none 0 0, .bool false, .int .i64 0] 58 (0, 0)) /\ wd.heap.size = w.heap.size + 1 + 1) := ⟨XD.out.2.1, XD.out.1, XD.out.2.2.1⟩; clear d0 d3 u0 u1 u2 lk cl; obtain ⟨⟨z0, z1, z2, z3, z4, z5⟩, ⟨f0, f1, f2, f3, f4, f5⟩, hzz⟩ := dz_cells (blk_later A2.out.2.1 b2'); have hd : Hid _ := hd'; have b2 : Hid _ := b2'; clear hd' b2')
 obtain ⟨q1, q2, q3⟩ := dec_end A2.out.2.2 A2.out.1 A2.out.2.1 hd.out b2.out
 generalize ((((((w2.setCell ⟨w.heap.size, 0, none⟩ (.int .i64 (shiD p t (K : Int)).look)).setCell ⟨w.heap.size, 1, none⟩ (.int .i64 (shiD p t (K : Int)).kind)).setCell ⟨w.heap.size, 2, none⟩ (.int .i64 (shiD p t (K : Int)).prod)).setCell ⟨w.heap.size, 3, none⟩ (.slice ao (shiD p t (K : Int)).drop.length c)).setCell ⟨w.heap.size, 4, none⟩ (.bool (shiD p t (K : Int)).sd)).setCell ⟨w.heap.size, 5, none⟩ (.int .i64 (shiD p t (K : Int)).lev)) = W4 at *
 have r0 : W4.cell? ⟨w.heap.size, 0, none⟩ = some (.int .i64 (shiD p t (K : Int)).look) := (cellq_any q1).trans rfl
 have r1 : W4.cell? ⟨w.heap.size, 1, none⟩ = some (.int .i64 (shiD p t (K : Int)).kind) := (cellq_any q1).trans rfl
 have r2 : W4.cell? ⟨w.heap.size, 2, none⟩ = some (.int .i64 (shiD p t (K : Int)).prod) := (cellq_any q1).trans rfl
 have r3 : W4.cell? ⟨w.heap.size, 3, none⟩ = some (.slice ao (shiD p t (K : Int)).drop.length c) := (cellq_any q1).trans rfl
 have r4 : W4.cell? ⟨w.heap.size, 4, none⟩ = some (.bool (shiD p t (K : Int)).sd) := (cellq_any q1).trans rfl
 have r5 : W4.cell? ⟨w.heap.size, 5, none⟩ = some (.int .i64 (shiD p t (K : Int)).lev) := (cellq_any q1).trans rfl
 refine bodyPost_ret (v := dval (shiD p t (K : Int)) ao c) (by simp [results, Tryz.results59, go_sem, r0, r1, r2, r3, r4, r5]) rfl ?_
 rw [E.out]
 exact ⟨ao, c, rfl, q2, q3⟩
set_option linter.unusedSimpArgs false in
theorem decide_H (g : GV) (jb p t : Nat) (w : World) (h : JU g jb w) (hg : GAt 140737488355328 w g) (ok : OkC g) (hp : p < g.ps.length) (ht : t < g.ts.length) (hA : plvU g p = levU g.ls (t : Int) /\ 0 <= levU g.ls (t : Int) /\ (g.ls.getD (plvU g p).toNat .none).assoc = 3) :
  Calls Tryz.prog 59 #[.pointer (some ⟨jb, 0, none⟩), .int .i64 (p : Int), .int .i64 (t : Int)] w (DuO w (decU g p (t : Int))) := by
 obtain ⟨ta, tc, pa, pc, mb, h1, h2, h3, h4⟩ := h.ex
 have hb := below_alloc w dZero
 obtain ⟨tb, to, rfl, _, htc⟩ := h2.later hb (by intro e; have := congrArg List.length e; rw [tl_len] at this; rw [List.length_nil] at this; omega)
 obtain ⟨pb, po, rfl, _, hpc⟩ := h3.later hb (by intro e; have := congrArg List.length e; rw [pl_len] at this; rw [List.length_nil] at this; omega)
 have ct := htc t (by rw [tl_len]; exact ht)
 have cp := hpc p (by rw [pl_len]; exact hp)
 rw [tl_at ht] at ct
 rw [pl_at hp] at cp
 have hj := blk_later h1 hb
 have j0 : (w.alloc dZero).cell? ⟨jb, 0, none⟩ = some (.slice g.la g.ls.length g.lc) := (cellq_any hj).trans rfl
 have j1 : (w.alloc dZero).cell? ⟨jb, 1, none⟩ = some (.slice (some ⟨tb, to, none⟩) g.ts.length tc) := (cellq_any hj).trans rfl
 have j2 : (w.alloc dZero).cell? ⟨jb, 2, none⟩ = some (.slice (some ⟨pb, po, none⟩) g.ps.length pc) := (cellq_any hj).trans rfl
 have htl := ok.tl.2
 have hpl := ok.pl.2
 obtain ⟨P, hP⟩ : ∃ P, P = plvU g p := ⟨_, rfl⟩
 obtain ⟨T, hT⟩ : ∃ T, T = levU g.ls (t : Int) := ⟨_, rfl⟩
 have E0 : decU g p (t : Int) = duelD g P T p t := by rw [hP, hT]; rfl
 have hT1 := lev_ge g.ls (t : Int)
 have hP1 : -1 <= plvU g p /\ plvU g p < g.ls.length := lev_ge g.ls _
 have hAQ := hA
 clear hA
 rw [<- hT] at ct hT1 hAQ
 rw [<- hP] at cp hP1 hAQ
 clear hT hP
 obtain ⟨hPT, hP0, ha⟩ := hAQ
 obtain ⟨K, rfl⟩ : ∃ K : Nat, P = (K : Int) := ⟨P.toNat, by omega⟩
 subst hPT
 have hK : K < g.ls.length := by omega
 have hll := ok.ll
 rw [Int.toNat_natCast] at ha
 have E : Hid (decU g p (t : Int) = errD p t (K : Int)) := by show _ = _; rw [E0]; unfold duelD; rw [if_neg (by omega), if_neg (by omega), if_neg (by omega), Int.toNat_natCast, ha]; rfl
 clear E0
 have t1 : ((K : Int) == -1) = false := by simp
 have t2 : (K : Int) <= (K : Int) := Int.le_refl _
 have t4 : ¬ (K : Int) < (K : Int) := by omega
 obtain ⟨lb, lo, hla, hlb, hlc⟩ := hg.l.cells (by intro e; rw [e] at hK; simp at hK)
 have cl := (hlc K hK).1
 rw [ha] at cl
 rw [hla] at h1
 have HX : Hid (∀ w', Below w.heap.size w w' -> EqM w' mb /\ w'.heap[jb]? = some (.cells #[.slice (some ⟨lb, lo, none⟩) g.ls.length g.lc, .slice (some ⟨tb, to, none⟩) g.ts.length tc, .slice (some ⟨pb, po, none⟩) g.ps.length pc, .map (some mb)] 121 (0, 0)) /\ w'.cell? ⟨lb, lo + K * 2, none⟩ = some (.int .i64 3)) := fun w' b => ⟨h4.later b, blk_later h1 b, (b.cell (p := ⟨lb, lo + K * 2, none⟩) hlb).trans cl⟩
 clear hlc cl ha hla
 have N0 : Hid (∀ nq W, W = (w.alloc dZero).drewN nq -> W.heap[w.heap.size]? = some (.cells #[.int .i64 0, .int .i64 0, .int .i64 0, .slice none 0 0, .bool false, .int .i64 0] 58 (0, 0)) /\ Below w.heap.size w W /\ W.heap.size = w.heap.size + 1) := fun nq W e => by
  subst e
  exact ⟨heap_alloc_new w dZero, below_drewN (below_alloc w dZero) nq, by simp⟩
 clear htc hpc h1 h2 h3 h4 h hj hg hb
 go_enter Tryz.func59, Tryz.ntmps59
 go_wp2
 go_quiet (fail)
 obtain ⟨W1, hW1⟩ : ∃ W1, W1 = (w.alloc dZero).drewN nq := ⟨_, rfl⟩
 have N1 : Hid (W1.heap[w.heap.size]? = some (.cells #[.int .i64 0, .int .i64 0, .int .i64 0, .slice none 0 0, .bool false, .int .i64 0] 58 (0, 0)) /\ Below w.heap.size w W1 /\ W1.heap.size = w.heap.size + 1) := N0.out nq W1 hW1
 rw [<- hW1]
 have hz1 := N1.out.2.2
 clear hW1 N0 j0 j1 j2 ct cp
 have N2 : Hid (∀ W2, Below W1.heap.size W1 W2 -> W2.heap.size = w.heap.size + 1 + 1 -> Below w.heap.size w W2 /\ W2.heap[w.heap.size]? = some (.cells #[.int .i64 0, .int .i64 0, .int .i64 0, .slice none 0 0, .bool false, .int .i64 0] 58 (0, 0))) := fun W2 b _ => ⟨N1.out.2.1.trans (b.mono N1.out.2.1.size), blk_later N1.out.1 b⟩
 go_wp2
 obtain ⟨wd, hwd⟩ : ∃ wd : World, wd = (W1.alloc (.cells #[.int .i64 (p : Int), .int .i64 (t : Int), .int .i64 (K : Int)] 156)).drew := ⟨_, rfl⟩
 have XD : Hid (wd.heap[w.heap.size]? = some (.cells #[.int .i64 0, .int .i64 0, .int .i64 0, .slice none 0 0, .bool false, .int .i64 0] 58 (0, 0)) /\ Below w.heap.size w wd /\ wd.heap.size = w.heap.size + 1 + 1 /\ wd.heap[w.heap.size + 1]? = some (.cells #[.int .i64 (p : Int), .int .i64 (t : Int), .int .i64 (K : Int)] 156 (0, 0))) := by
  subst hwd
  have hsz : (W1.alloc (.cells #[.int .i64 (p : Int), .int .i64 (t : Int), .int .i64 (K : Int)] 156)).heap.size = w.heap.size + 1 + 1 := by rw [alZ, hz1]
  have q := N2.out _ (below_alloc W1 (.cells #[.int .i64 (p : Int), .int .i64 (t : Int), .int .i64 (K : Int)] 156)) hsz
  have q2 := heap_alloc_new W1 (.cells #[.int .i64 (p : Int), .int .i64 (t : Int), .int .i64 (K : Int)] 156)
  rw [hz1] at q2
  exact ⟨q.2, q.1.drew, hsz, q2⟩
 obtain ⟨em, hjd, cl⟩ := HX.out wd XD.out.2.1
 have d0 : wd.cell? ⟨jb, 0, none⟩ = some (.slice (some ⟨lb, lo, none⟩) g.ls.length g.lc) := (cellq_any hjd).trans rfl
 have d3 : wd.cell? ⟨jb, 3, none⟩ = some (.map (some mb)) := (cellq_any hjd).trans rfl
 have u0 : wd.cell? ⟨w.heap.size + 1, 0, none⟩ = some (.int .i64 (p : Int)) := (cellq_any XD.out.2.2.2).trans rfl
 have u1 : wd.cell? ⟨w.heap.size + 1, 1, none⟩ = some (.int .i64 (t : Int)) := (cellq_any XD.out.2.2.2).trans rfl
 have u2 : wd.cell? ⟨w.heap.size + 1, 2, none⟩ = some (.int .i64 (K : Int)) := (cellq_any XD.out.2.2.2).trans rfl
 have lk := em.look 3 (by decide) (by decide)
 rw [show eqFn 3 = .func (.func 77) #[] #[] from rfl] at lk
 refine wp_region_tail_s 14 (by kernel_rfl) (by kernel_rfl) wd hwd ?_
 clear hwd hjd em HX N2 N1
 simp only [List.take_succ_cons, List.take_zero, List.drop_succ_cons, List.drop_zero]
 refine st_yes (v := ?_) (by rfl) ?_ ?_
 rotate_left
 ·(go_simp; with_reducible rfl)
 (try simp only [Act.put, lsA, lsZ, lsN])
 refine st_yes (v := ?_) (by rfl) ?_ ?_
 rotate_left
 ·(go_simp; with_reducible rfl)
 (try simp only [Act.put, lsA, lsZ, lsN])
 refine st_yes (v := ?_) (by rfl) ?_ ?_
 rotate_left
 ·(go_simp; with_reducible rfl)
 (try simp only [Act.put, lsA, lsZ, lsN])
 refine st_yes (v := ?_) (by rfl) ?_ ?_
 rotate_left
 ·(go_simp; with_reducible rfl)
 (try simp only [Act.put, lsA, lsZ, lsN])
 refine st_yes (v := ?_) (by rfl) ?_ ?_
 rotate_left
 ·(go_simp; with_reducible rfl)
 (try simp only [Act.put, lsA, lsZ, lsN])
 refine st_yes (v := ?_) (by rfl) ?_ ?_
 rotate_left
 ·(go_simp; with_reducible rfl)
 (try simp only [Act.put, lsA, lsZ, lsN])
 refine st_yes (v := ?_) (by rfl) ?_ ?_
 rotate_left
 ·(go_simp; with_reducible rfl)
 (try simp only [Act.put, lsA, lsZ, lsN])
 refine st_yes (v := ?_) (by rfl) ?_ ?_
 rotate_left
 ·(go_simp; with_reducible rfl)
 (try simp only [Act.put, lsA, lsZ, lsN])
 refine st_yes (v := ?_) (by rfl) ?_ ?_
 rotate_left
 ·(go_simp; with_reducible rfl)
 (try simp only [Act.put, lsA, lsZ, lsN])
 refine st_yes (v := ?_) (by rfl) ?_ ?_
 rotate_left
 ·(go_simp; with_reducible rfl)
 (try simp only [Act.put, lsA, lsZ, lsN])
 refine st_yes (v := ?_) (by rfl) ?_ ?_
 rotate_left
 ·(go_simp; with_reducible rfl)
 (try simp only [Act.put, lsA, lsZ, lsN])
 refine st_yes (v := ?_) (by rfl) ?_ ?_
 rotate_left
 ·(go_simp; with_reducible rfl)
 (try simp only [Act.put, lsA, lsZ, lsN])
 refine st_yes (v := ?_) (by rfl) ?_ ?_
 rotate_left
 ·(go_simp; with_reducible rfl)
 (try simp only [Act.put, lsA, lsZ, lsN])
 refine st_yes (v := ?_) (by rfl) ?_ ?_
 rotate_left
 ·(go_simp; with_reducible rfl)
 (try simp only [Act.put, lsA, lsZ, lsN])
 refine st_nil ?_
 go_wp2_with (go_at_call 77; refine (err_P (p : Int) (t : Int) (K : Int) _).mono ?_; rintro e w2 ⟨ao, c, rfl, hd', b2'⟩; have A2 : Hid (Below w.heap.size w wd /\ wd.heap[w.heap.size]? = some (.cells #[.int .i64 0, .int .i64 0, .int .i64 0, .slice none 0 0, .bool false, .int .i64 0] 58 (0, 0)) /\ wd.heap.size = w.heap.size + 1 + 1) := ⟨XD.out.2.1, XD.out.1, XD.out.2.2.1⟩; clear d0 d3 u0 u1 u2 lk cl; obtain ⟨⟨z0, z1, z2, z3, z4, z5⟩, ⟨f0, f1, f2, f3, f4, f5⟩, hzz⟩ := dz_cells (blk_later A2.out.2.1 b2'); have hd : Hid _ := hd'; have b2 : Hid _ := b2'; clear hd' b2')
 obtain ⟨q1, q2, q3⟩ := dec_end A2.out.2.2 A2.out.1 A2.out.2.1 hd.out b2.out
 generalize ((((((w2.setCell ⟨w.heap.size, 0, none⟩ (.int .i64 (errD p t (K : Int)).look)).setCell ⟨w.heap.size, 1, none⟩ (.int .i64 (errD p t (K : Int)).kind)).setCell ⟨w.heap.size, 2, none⟩ (.int .i64 (errD p t (K : Int)).prod)).setCell ⟨w.heap.size, 3, none⟩ (.slice ao (errD p t (K : Int)).drop.length c)).setCell ⟨w.heap.size, 4, none⟩ (.bool (errD p t (K : Int)).sd)).setCell ⟨w.heap.size, 5, none⟩ (.int .i64 (errD p t (K : Int)).lev)) = W4 at *
 have r0 : W4.cell? ⟨w.heap.size, 0, none⟩ = some (.int .i64 (errD p t (K : Int)).look) := (cellq_any q1).trans rfl
 have r1 : W4.cell? ⟨w.heap.size, 1, none⟩ = some (.int .i64 (errD p t (K : Int)).kind) := (cellq_any q1).trans rfl
 have r2 : W4.cell? ⟨w.heap.size, 2, none⟩ = some (.int .i64 (errD p t (K : Int)).prod) := (cellq_any q1).trans rfl
 have r3 : W4.cell? ⟨w.heap.size, 3, none⟩ = some (.slice ao (errD p t (K : Int)).drop.length c) := (cellq_any q1).trans rfl
 have r4 : W4.cell? ⟨w.heap.size, 4, none⟩ = some (.bool (errD p t (K : Int)).sd) := (cellq_any q1).trans rfl
 have r5 : W4.cell? ⟨w.heap.size, 5, none⟩ = some (.int .i64 (errD p t (K : Int)).lev) := (cellq_any q1).trans rfl
 refine bodyPost_ret (v := dval (errD p t (K : Int)) ao c) (by simp [results, Tryz.results59, go_sem, r0, r1, r2, r3, r4, r5]) rfl ?_
 rw [E.out]
 exact ⟨ao, c, rfl, q2, q3⟩
theorem decide_P (g : GV) (jb p t : Nat) (w : World) (h : JU g jb w) (hg : GAt 140737488355328 w g) (ok : OkC g) (hp : p < g.ps.length) (ht : t < g.ts.length) :
  Calls Tryz.prog 59 #[.pointer (some ⟨jb, 0, none⟩), .int .i64 (p : Int), .int .i64 (t : Int)] w (DuO w (decU g p (t : Int))) := by
 have hT1 := lev_ge g.ls (t : Int)
 have hP1 : -1 <= plvU g p /\ plvU g p < g.ls.length := lev_ge g.ls _
 by_cases a1 : plvU g p = -1
 ·by_cases a2 : levU g.ls (t : Int) = -1
  ·exact decide_A g jb p t w h hg ok hp ht ⟨a1, a2⟩
  ·exact decide_B g jb p t w h hg ok hp ht ⟨a1, by omega⟩
 ·by_cases a2 : levU g.ls (t : Int) = -1
  ·exact decide_C g jb p t w h hg ok hp ht ⟨by omega, a2⟩
  ·by_cases a3 : levU g.ls (t : Int) < plvU g p
   ·exact decide_D g jb p t w h hg ok hp ht ⟨by omega, a3⟩
   ·by_cases a4 : plvU g p < levU g.ls (t : Int)
    ·exact decide_E g jb p t w h hg ok hp ht ⟨by omega, a4⟩
    ·have e : plvU g p = levU g.ls (t : Int) := by omega
     have hk : (plvU g p).toNat < g.ls.length := by omega
     have hl := ok.ls _ hk
     have ha : 1 <= (g.ls.getD (plvU g p).toNat .none).assoc /\ (g.ls.getD (plvU g p).toNat .none).assoc <= 3 := by
      unfold levelU at hl
      split at hl
      ·exact absurd hl (by decide)
      ·omega
     rcases (show (g.ls.getD (plvU g p).toNat .none).assoc = 1 ∨ (g.ls.getD (plvU g p).toNat .none).assoc = 2 ∨ (g.ls.getD (plvU g p).toNat .none).assoc = 3 by omega) with q | q | q
     ·exact decide_F g jb p t w h hg ok hp ht ⟨e, by omega, q⟩
     ·exact decide_G g jb p t w h hg ok hp ht ⟨e, by omega, q⟩
     ·exact decide_H g jb p t w h hg ok hp ht ⟨e, by omega, q⟩
end Go.Proofs.YtjpknihkcndoiaaGreat
