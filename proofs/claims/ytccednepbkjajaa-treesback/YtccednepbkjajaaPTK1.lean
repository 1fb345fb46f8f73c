import Derived.Test.YtccednepbkjajaaPRMx3ToTB23
namespace Go.Proofs.Ytccednepbkjajaa
set_option linter.unusedVariables false
open Go.RowKit
theorem y_cells {w : World} {b : Nat} {x y : Int} (h : w.heap[b]? = some (yBoxC x y)) : w.cell? ⟨b, 0, none⟩ = some (.int .i64 x) /\ w.cell? ⟨b, 1, none⟩ = some (.int .i64 y) /\ w.frozen? ⟨b, 0, none⟩ = false /\ w.frozen? ⟨b, 1, none⟩ = false :=
 ⟨(cellq_any h).trans rfl, (cellq_any h).trans rfl, by simp [World.frozen?, h], by simp [World.frozen?, h]⟩
abbrev set2 (w : World) (b : Nat) (x y : Int) : World := (w.setCell ⟨b, 0, none⟩ (.int .i64 x)).setCell ⟨b, 1, none⟩ (.int .i64 y)
theorem set2_box {w : World} {b : Nat} {a c : Int} (x y : Int) (h : w.heap[b]? = some (yBoxC a c)) : (set2 w b x y).heap[b]? = some (yBoxC x y) :=
 heap_setCell_same _ b 1 _ _ (.int .i64 y) (heap_setCell_same w b 0 _ _ (.int .i64 x) h)
theorem set2_below {n : Nat} {w0 w : World} (h : Below n w0 w) {b : Nat} (x y : Int) (hb : n <= b) : Below n w0 (set2 w b x y) :=
 (h.setCell (p := ⟨b, 0, none⟩) hb _).setCell (p := ⟨b, 1, none⟩) hb _
structure RtB (n : Nat) (w0 : World) (g : GV) (t : TV) (w : World) : Prop where
 bel : Below n w0 w
 g : w.heap[n]? = some (gBox g)
 t : w.heap[n + 1]? = some (tBox t)
 y : w.heap[n + 1 + 1]? = some (yBoxC 0 0)
theorem RtB.later {n : Nat} {w0 : World} {g : GV} {t : TV} {w w' : World} (h : RtB n w0 g t w) (hn : n <= w.heap.size) (hb : Below w.heap.size w w') : RtB n w0 g t w' :=
 ⟨h.bel.trans (hb.mono hn), (hb.block _ (lt_of_block h.g)).trans h.g, (hb.block _ (lt_of_block h.t)).trans h.t, (hb.block _ (lt_of_block h.y)).trans h.y⟩
theorem RtB.sz {n : Nat} {w0 : World} {g : GV} {t : TV} {w : World} (h : RtB n w0 g t w) : n <= w.heap.size := Nat.le_of_lt (lt_of_block h.g)
theorem rtb_start (g : GV) (t : TV) (w : World) : RtB w.heap.size w g t (((w.alloc (gBox g)).alloc (tBox t)).alloc (yBoxC 0 0)) := by
 have hz : ∀ (v : World) (o : Obj), (v.alloc o).heap.size = v.heap.size + 1 := fun v o => by simp
 have k : ∀ (j : Nat) (o o' : Obj) (v : World), v.heap[j]? = some o -> (v.alloc o').heap[j]? = some o := fun j o o' v h => ((below_alloc v o').block j (lt_of_block h)).trans h
 have bl : ∀ (v : World) (o : Obj), Below w.heap.size w v -> Below w.heap.size w (v.alloc o) := fun v o h => h.trans ((below_alloc v o).mono h.size)
 have h2 := heap_alloc_new (w.alloc (gBox g)) (tBox t)
 rw [hz] at h2
 have h3 := heap_alloc_new ((w.alloc (gBox g)).alloc (tBox t)) (yBoxC 0 0)
 rw [hz, hz] at h3
 exact ⟨bl _ _ (bl _ _ (bl _ _ (Below.refl _ _))), k _ _ _ _ (k _ _ _ _ (heap_alloc_new _ _)), k _ _ _ _ h2, h3⟩
theorem tb_tbxR {w : World} {b : Nat} {t : TV} (h : w.heap[b]? = some (tBox t)) : TBx w b 0 t := by
 obtain ⟨h0, h1, h2, h3⟩ := tb_cells h
 exact ⟨lt_of_block h, h0, h1, h2, h3⟩
def rgU (g : GV) (er : Int) (t : TV) : Int × Int × Int := if er ≠ 0 then (0, 0, er) else rkU g t
set_option linter.unusedSimpArgs false in
set_option maxRecDepth 100000 in
set_option maxHeartbeats 4000000 in
theorem Root_W (g : GV) (t : TV) (w : World) (h : GAt 140737488355328 w g) (hpc : g.ps.length <= g.pc) (er at_ : Int) (hE : checkG g (checkF g.ts g.ns) = (er, at_)) : Calls Try.prog 14 #[g.val, t.val] w fun e w' => e = .returned (.tuple #[.agg #[.int .i64 (rgU g er t).1, .int .i64 (rgU g er t).2.1], .int .i64 (rgU g er t).2.2]) /\ Below w.heap.size w w' := by
 have S0 : Hid (RtB w.heap.size w g t (((w.alloc (gBox g)).alloc (tBox t)).alloc (yBoxC 0 0))) := rtb_start g t w
 have CK : Hid (∀ w', RtB w.heap.size w g t w' -> Calls Try.prog 19 #[g.val] w' fun e w'' => e = .returned (.tuple #[.int .i64 er, .int .i64 at_]) /\ RtB w.heap.size w g t w'') := fun w' hb => (check_G g w' (h.later hb.bel) hpc er at_ hE).mono fun e w'' ⟨e1, e2⟩ => ⟨e1, hb.later hb.sz e2⟩
 have CF : Hid (∀ w', RtB w.heap.size w g t w' -> Calls Try.prog 33 #[g.val, .pointer (some ⟨w.heap.size + 1, 0, none⟩)] w' fun e w'' => e = .returned (.int .i64 (if t.prod = -1 then (if inT g t.kind = true then 0 else 82) else (if 0 <= t.prod /\ t.prod < g.ps.length then 0 else 81))) /\ RtB w.heap.size w g t w'') := fun w' hb => (rootFault_W g (w.heap.size + 1) 0 t w' (h.later hb.bel) (tb_tbxR hb.t)).mono fun e w'' ⟨e1, e2⟩ => ⟨e1, hb.later hb.sz e2⟩
 have CR : Hid (∀ w', RtB w.heap.size w g t w' -> (t.prod = -1 ∨ (0 <= t.prod /\ t.prod < g.ps.length)) -> Calls Try.prog 34 #[g.val, .pointer (some ⟨w.heap.size + 1, 0, none⟩)] w' fun e w'' => e = .returned (.agg #[.int .i64 (rtU g t).1, .int .i64 (rtU g t).2]) /\ RtB w.heap.size w g t w'') := fun w' hb hr => (root_W g (w.heap.size + 1) 0 t w' (h.later hb.bel) (tb_tbxR hb.t) hr).mono fun e w'' ⟨e1, e2⟩ => ⟨e1, hb.later hb.sz e2⟩
 obtain ⟨c, hc⟩ : ∃ c : Int, (if t.prod = -1 then (if inT g t.kind = true then 0 else 82) else (if 0 <= t.prod /\ t.prod < g.ps.length then (0 : Int) else 81)) = c := ⟨_, rfl⟩
 rw [hc] at CF
 have R1 : Hid (er ≠ 0 -> rgU g er t = (0, 0, er)) := fun e => if_pos e
 have R2 : Hid (er = 0 -> c ≠ 0 -> rgU g er t = (0, 0, c)) := fun e1 e2 => by
  unfold rgU rkU
  rw [if_neg (by omega)]
  by_cases hp : t.prod = -1
  ·rw [if_pos hp] at hc
   by_cases hk : inT g t.kind = true
   ·rw [if_pos hk] at hc; omega
   ·rw [if_neg hk] at hc
    have hk' : ¬ (0 <= t.kind /\ t.kind < g.ts.length) := fun e => hk (by simp [inT, e])
    have r0 : rootU g t = (0, 0) := by unfold rootU; rw [if_neg (fun e => hk' e.2), if_neg (by omega)]
    rw [r0, if_pos rfl, if_pos hp, hc]
  ·rw [if_neg hp] at hc
   by_cases hr : 0 <= t.prod /\ t.prod < g.ps.length
   ·rw [if_pos hr] at hc; omega
   ·rw [if_neg hr] at hc
    have r0 : rootU g t = (0, 0) := by unfold rootU; rw [if_neg (fun e => hp e.1), if_neg hr]
    rw [r0, if_pos rfl, if_neg hp, hc]
 have R3 : Hid (er = 0 -> c = 0 -> rgU g er t = ((rtU g t).1, (rtU g t).2, 0) /\ (t.prod = -1 ∨ (0 <= t.prod /\ t.prod < g.ps.length))) := fun e1 e2 => by
  unfold rgU rkU
  rw [if_neg (by omega)]
  by_cases hp : t.prod = -1
  ·rw [if_pos hp] at hc
   by_cases hk : inT g t.kind = true
   ·have hk' : 0 <= t.kind /\ t.kind < g.ts.length := by simpa [inT] using hk
    have r0 : rootU g t = (1, t.kind) := by unfold rootU; rw [if_pos ⟨hp, hk'⟩]
    have r1 : rtU g t = (1, t.kind) := by unfold rtU; rw [if_pos hp]
    rw [r0, r1, if_neg (by simp)]
    exact ⟨rfl, .inl hp⟩
   ·rw [if_neg hk] at hc; omega
  ·rw [if_neg hp] at hc
   by_cases hr : 0 <= t.prod /\ t.prod < g.ps.length
   ·have r0 : rootU g t = (2, (g.ps.getD t.prod.toNat .none).left) := by unfold rootU; rw [if_neg (fun e => hp e.1), if_pos hr]
    have r1 : rtU g t = (2, (g.ps.getD t.prod.toNat .none).left) := by unfold rtU; rw [if_neg hp]
    rw [r0, r1, if_neg (by simp)]
    exact ⟨rfl, .inr hr⟩
   ·rw [if_neg hr] at hc; omega
 clear h hpc hE hc
 by_cases he : er = 0
 ·by_cases hc0 : c = 0
  ·obtain ⟨r1, r2⟩ := R3.out he hc0
   rw [r1]
   subst he hc0
   have R4 : Hid (t.prod = -1 ∨ (0 <= t.prod /\ t.prod < g.ps.length)) := r2
   clear r1 r2 R1 R2 R3
   go_enter Try.func14, Try.ntmps14
   go_upto_region 1 with fail
   refine wp_world (fun w' => RtB w.heap.size w g t w') S0.out fun w1 h1 => ?_
   have H1 : Hid (RtB w.heap.size w g t w1) := h1
   clear h1 S0
   obtain ⟨g0, g1, g2, g3, g4⟩ := gbx_cells H1.out.g
   go_upto_region 2 with (go_at_call 19; refine (CK.out _ H1.out).mono ?_; rintro e w2 ⟨rfl, h2⟩; have H2 : Hid (RtB w.heap.size w g t w2) := h2; clear h2 g0 g1 g2 g3 g4)
   clear H1 CK
   obtain ⟨g0, g1, g2, g3, g4⟩ := gbx_cells H2.out.g
   go_upto_region 5 with (go_at_call 33; refine (CF.out _ H2.out).mono ?_; rintro e w3 ⟨rfl, h3⟩; have H3 : Hid (RtB w.heap.size w g t w3) := h3; clear h3 g0 g1 g2 g3 g4)
   clear H2 CF
   obtain ⟨g0, g1, g2, g3, g4⟩ := gbx_cells H3.out.g
   have FIN : Hid (∀ w4, RtB w.heap.size w g t w4 -> (set2 w4 (w.heap.size + 1 + 1) (rtU g t).1 (rtU g t).2).heap[w.heap.size + 1 + 1]? = some (yBoxC (rtU g t).1 (rtU g t).2) /\ Below w.heap.size w (set2 w4 (w.heap.size + 1 + 1) (rtU g t).1 (rtU g t).2)) := fun w4 h4 => ⟨set2_box _ _ h4.y, set2_below h4.bel _ _ (by omega)⟩
   go_wp2_with (go_at_call 34; refine (CR.out _ H3.out R4.out).mono ?_; rintro e w4 ⟨rfl, h4⟩; obtain ⟨y0, y1, f0, f1⟩ := y_cells h4.y; have F4 : Hid ((set2 w4 (w.heap.size + 1 + 1) (rtU g t).1 (rtU g t).2).heap[w.heap.size + 1 + 1]? = some (yBoxC (rtU g t).1 (rtU g t).2) /\ Below w.heap.size w (set2 w4 (w.heap.size + 1 + 1) (rtU g t).1 (rtU g t).2)) := FIN.out w4 h4; clear h4 g0 g1 g2 g3 g4)
   change bodyPost _ _ _ _ _ (set2 w4 (w.heap.size + 1 + 1) (rtU g t).1 (rtU g t).2)
   generalize set2 w4 (w.heap.size + 1 + 1) (rtU g t).1 (rtU g t).2 = w5 at *
   obtain ⟨x0, x1, -, -⟩ := y_cells F4.out.1
   refine bodyPost_ret (v := .tuple #[.agg #[.int .i64 (rtU g t).1, .int .i64 (rtU g t).2], .int .i64 0]) (by simp [results, Try.results14, go_sem, x0, x1]) rfl ?_
   exact ⟨rfl, F4.out.2⟩
  ·rw [R2.out he hc0]
   subst he
   have t1 : (c != 0) = true := by simpa using hc0
   clear R1 R2 R3 CR
   go_enter Try.func14, Try.ntmps14
   go_upto_region 1 with fail
   refine wp_world (fun w' => RtB w.heap.size w g t w') S0.out fun w1 h1 => ?_
   have H1 : Hid (RtB w.heap.size w g t w1) := h1
   clear h1 S0
   obtain ⟨g0, g1, g2, g3, g4⟩ := gbx_cells H1.out.g
   go_upto_region 2 with (go_at_call 19; refine (CK.out _ H1.out).mono ?_; rintro e w2 ⟨rfl, h2⟩; have H2 : Hid (RtB w.heap.size w g t w2) := h2; clear h2 g0 g1 g2 g3 g4)
   clear H1 CK
   obtain ⟨g0, g1, g2, g3, g4⟩ := gbx_cells H2.out.g
   go_upto_region 5 with (go_at_call 33; refine (CF.out _ H2.out).mono ?_; rintro e w3 ⟨rfl, h3⟩; have H3 : Hid (RtB w.heap.size w g t w3) := h3; clear h3 g0 g1 g2 g3 g4)
   clear H2 CF
   obtain ⟨y0, y1, f0, f1⟩ := y_cells H3.out.y
   have F4 : Hid ((set2 w3 (w.heap.size + 1 + 1) 0 0).heap[w.heap.size + 1 + 1]? = some (yBoxC 0 0) /\ Below w.heap.size w (set2 w3 (w.heap.size + 1 + 1) 0 0)) := ⟨set2_box _ _ H3.out.y, set2_below H3.out.bel _ _ (by omega)⟩
   clear H3
   go_wp2
   change bodyPost _ _ _ _ _ (set2 w3 (w.heap.size + 1 + 1) 0 0)
   generalize set2 w3 (w.heap.size + 1 + 1) 0 0 = w5 at *
   obtain ⟨x0, x1, -, -⟩ := y_cells F4.out.1
   refine bodyPost_ret (v := .tuple #[.agg #[.int .i64 0, .int .i64 0], .int .i64 c]) (by simp [results, Try.results14, go_sem, x0, x1]) rfl ?_
   exact ⟨rfl, F4.out.2⟩
 ·rw [R1.out he]
  have t1 : (er != 0) = true := by simpa using he
  clear R1 R2 R3 CR CF
  go_enter Try.func14, Try.ntmps14
  go_upto_region 1 with fail
  refine wp_world (fun w' => RtB w.heap.size w g t w') S0.out fun w1 h1 => ?_
  have H1 : Hid (RtB w.heap.size w g t w1) := h1
  clear h1 S0
  obtain ⟨g0, g1, g2, g3, g4⟩ := gbx_cells H1.out.g
  go_upto_region 2 with (go_at_call 19; refine (CK.out _ H1.out).mono ?_; rintro e w2 ⟨rfl, h2⟩; have H2 : Hid (RtB w.heap.size w g t w2) := h2; clear h2 g0 g1 g2 g3 g4)
  clear H1 CK
  obtain ⟨y0, y1, f0, f1⟩ := y_cells H2.out.y
  have F4 : Hid ((set2 w2 (w.heap.size + 1 + 1) 0 0).heap[w.heap.size + 1 + 1]? = some (yBoxC 0 0) /\ Below w.heap.size w (set2 w2 (w.heap.size + 1 + 1) 0 0)) := ⟨set2_box _ _ H2.out.y, set2_below H2.out.bel _ _ (by omega)⟩
  clear H2
  go_wp2
  change bodyPost _ _ _ _ _ (set2 w2 (w.heap.size + 1 + 1) 0 0)
  generalize set2 w2 (w.heap.size + 1 + 1) 0 0 = w5 at *
  obtain ⟨x0, x1, -, -⟩ := y_cells F4.out.1
  refine bodyPost_ret (v := .tuple #[.agg #[.int .i64 0, .int .i64 0], .int .i64 er]) (by simp [results, Try.results14, go_sem, x0, x1]) rfl ?_
  exact ⟨rfl, F4.out.2⟩
end Go.Proofs.Ytccednepbkjajaa
