import Derived.Test.YtaeggelfhinedaaPZTK
import Derived.Test.YtaeggelfhinedaaPTDgToTDe
namespace Go.Proofs.Ytaeggelfhinedaa
set_option linter.unusedVariables false
open Go.RowKit
theorem core_at {g x : GV} (h : SameG g x) (n : Nat) : (x.ps.getD n .none).left = (g.ps.getD n .none).left /\ (x.ps.getD n .none).right = (g.ps.getD n .none).right := by
 have e : (x.ps.getD n .none).core = (g.ps.getD n .none).core := by
  have e1 : (x.ps.map PV.core)[n]? = (g.ps.map PV.core)[n]? := by rw [h.ps]
  rw [List.getElem?_map, List.getElem?_map] at e1
  simp only [List.getD]
  cases e2 : x.ps[n]? with
  | none =>
   rw [e2] at e1
   cases e3 : g.ps[n]? with
   | none => rfl
   | some y => rw [e3] at e1; cases e1
  | some z =>
   rw [e2] at e1
   cases e3 : g.ps[n]? with
   | none => rw [e3] at e1; cases e1
   | some y =>
    rw [e3] at e1
    simpa using e1
 unfold PV.core at e
 simp only [Prod.mk.injEq] at e
 exact ⟨e.1, e.2.1⟩
theorem plen_same {g x : GV} (h : SameG g x) : x.ps.length = g.ps.length := by
 have := congrArg List.length h.ps
 simpa using this
theorem right_same {g x : GV} (h : SameG g x) {t U : TV} (hp : U.prod = t.prod) : rightU x U = rightU g t := by
 unfold rightU
 rw [hp]
 exact (core_at h _).2
theorem al_same {g x : GV} (h : SameG g x) {t U : TV} (hs : sgV t = sgV U) : alTU x U = alTU g t := by
 unfold sgV at hs
 simp only [Prod.mk.injEq] at hs
 obtain ⟨h1, h2, h3, h4⟩ := hs
 unfold alTU
 rw [right_same h h1.symm, <- h1, <- h2, <- h3, <- h4, h.ts, plen_same h]
theorem root_same {g x : GV} (h : SameG g x) {t U : TV} (hs : sgV t = sgV U) : rootU x U = rootU g t := by
 unfold sgV at hs
 simp only [Prod.mk.injEq] at hs
 obtain ⟨h1, h2, h3, h4⟩ := hs
 unfold rootU
 rw [<- h1, <- h2, h.ts, plen_same h, (core_at h _).1]
theorem er_same {g x : GV} (h : SameG g x) {t U : TV} (hs : sgV t = sgV U) (d : Int) (s : Int × Int) (u : Bool) : erU x ⟨U, d, s, u⟩ = erU g ⟨t, d, s, u⟩ := by
 unfold erU
 dsimp only
 rw [al_same h hs, root_same h hs]
 unfold sgV at hs
 simp only [Prod.mk.injEq] at hs
 rw [hs.1]
def runE : List Int -> Nat -> Int × Nat
 | [], n => (0, n)
 | e :: l, n => if e ≠ 0 then (e, n) else runE l (n + 1)
theorem run_E (g : GV) : ∀ (l : List SP) (n : Nat), runU g l n = runE (l.map (erU g)) n
 | [], _ => rfl
 | x :: l, n => by rw [runU, List.map_cons, runE, run_E g l]
theorem ckL_same {g x : GV} : ∀ (r : List (Int × Int)) (l m : List TV), l.length = m.length -> (∀ i (h : i < l.length) (h' : i < m.length), ∀ s u, (ckT x s u m[i]).map (erU x) = (ckT g s u l[i]).map (erU g)) -> (ckL x r m).map (erU x) = (ckL g r l).map (erU g)
 | _, [], [], _, _ => rfl
 | _, [], _ :: _, h, _ => by simp at h
 | _, _ :: _, [], h, _ => by simp at h
 | r, a :: l, b :: m, h, hs => by
  rw [ckL_cons, ckL_cons, List.map_append, List.map_append, ckL_same r.tail l m (by simpa using h) (fun i h1 h2 => hs (i + 1) (by simpa using h1) (by simpa using h2))]
  have := hs 0 (by simp) (by simp) (r.headD (0, 0)) true
  simp only [List.getElem_cons_zero] at this
  rw [this]
theorem ck_same {g x : GV} (h : SameG g x) (t : TV) : ∀ U, samV t U -> ∀ s u, (ckT x s u U).map (erU x) = (ckT g s u t).map (erU g) := by
 induction t using TV.ind with
 | _ t ih =>
  intro U hU s u
  obtain ⟨h1, h2⟩ := (samV_iff t U).1 hU
  have hp : U.prod = t.prod := by
   have := congrArg Prod.fst h1
   exact this.symm
  rw [ckT_eq, ckT_eq, List.map_cons, List.map_cons, er_same h h1, right_same h hp, ckL_same _ t.kids U.kids (sgV_len h1) fun i hi hi' s u => ih _ (List.getElem_mem hi) _ (h2 i hi hi') s u]
theorem run_same {g x : GV} (h : SameG g x) {t U : TV} (hs : samV t U) : runU x (ckT x (0, 0) false U) 0 = runU g (ckT g (0, 0) false t) 0 := by
 rw [run_E, run_E, ck_same h t U hs]
def rkU (g : GV) (t : TV) : Int × Int × Int := if rootU g t = (0, 0) then (0, 0, if t.prod = -1 then 82 else 81) else ((rootU g t).1, (rootU g t).2, 0)
theorem rk_same {g x : GV} (h : SameG g x) {t U : TV} (hs : samV t U) : rkU x U = rkU g t := by
 obtain ⟨h1, _⟩ := (samV_iff t U).1 hs
 unfold rkU
 rw [root_same h h1]
 have := congrArg Prod.fst h1
 have e : U.prod = t.prod := this.symm
 rw [e]
theorem y_cells {w : World} {b : Nat} {x y : Int} (h : w.heap[b]? = some (yBoxC x y)) : w.cell? ⟨b, 0, none⟩ = some (.int .i64 x) /\ w.cell? ⟨b, 1, none⟩ = some (.int .i64 y) /\ w.frozen? ⟨b, 0, none⟩ = false /\ w.frozen? ⟨b, 1, none⟩ = false :=
 ⟨(cellq_any h).trans rfl, (cellq_any h).trans rfl, by simp [World.frozen?, h], by simp [World.frozen?, h]⟩
abbrev set2 (w : World) (b : Nat) (x y : Int) : World := (w.setCell ⟨b, 0, none⟩ (.int .i64 x)).setCell ⟨b, 1, none⟩ (.int .i64 y)
theorem set2_box {w : World} {b : Nat} {a c : Int} (x y : Int) (h : w.heap[b]? = some (yBoxC a c)) : (set2 w b x y).heap[b]? = some (yBoxC x y) :=
 heap_setCell_same _ b 1 _ _ (.int .i64 y) (heap_setCell_same w b 0 _ _ (.int .i64 x) h)
theorem set2_below {n : Nat} {w0 w : World} (h : Below n w0 w) {b : Nat} (x y : Int) (hb : n <= b) : Below n w0 (set2 w b x y) :=
 (h.setCell (p := ⟨b, 0, none⟩) hb _).setCell (p := ⟨b, 1, none⟩) hb _
structure RtB (n : Nat) (w0 : World) (g : GV) (t : TV) (w : World) : Prop where
 bel : Below n w0 w
 g : w.heap[n]? = some (gBox g)
 t : w.heap[n + 1]? = some (tBox t)
 y : w.heap[n + 1 + 1]? = some (yBoxC 0 0)
theorem RtB.later {n : Nat} {w0 : World} {g : GV} {t : TV} {w w' : World} (h : RtB n w0 g t w) (hn : n <= w.heap.size) (hb : Below w.heap.size w w') : RtB n w0 g t w' :=
 ⟨h.bel.trans (hb.mono hn), (hb.block _ (lt_of_block h.g)).trans h.g, (hb.block _ (lt_of_block h.t)).trans h.t, (hb.block _ (lt_of_block h.y)).trans h.y⟩
theorem RtB.sz {n : Nat} {w0 : World} {g : GV} {t : TV} {w : World} (h : RtB n w0 g t w) : n <= w.heap.size := Nat.le_of_lt (lt_of_block h.g)
theorem rtb_start (g : GV) (t : TV) (w : World) : RtB w.heap.size w g t (((w.alloc (gBox g)).alloc (tBox t)).alloc (yBoxC 0 0)) := by
 have hz : ∀ (v : World) (o : Obj), (v.alloc o).heap.size = v.heap.size + 1 := fun v o => by simp
 have k : ∀ (j : Nat) (o o' : Obj) (v : World), v.heap[j]? = some o -> (v.alloc o').heap[j]? = some o := fun j o o' v h => ((below_alloc v o').block j (lt_of_block h)).trans h
 have bl : ∀ (v : World) (o : Obj), Below w.heap.size w v -> Below w.heap.size w (v.alloc o) := fun v o h => h.trans ((below_alloc v o).mono h.size)
 have h2 := heap_alloc_new (w.alloc (gBox g)) (tBox t)
 rw [hz] at h2
 have h3 := heap_alloc_new ((w.alloc (gBox g)).alloc (tBox t)) (yBoxC 0 0)
 rw [hz, hz] at h3
 exact ⟨bl _ _ (bl _ _ (bl _ _ (Below.refl _ _))), k _ _ _ _ (k _ _ _ _ (heap_alloc_new _ _)), k _ _ _ _ h2, h3⟩
def rgU (g : GV) (er : Int) (t : TV) : Int × Int × Int := if er ≠ 0 then (0, 0, er) else rkU g t
set_option linter.unusedSimpArgs false in
set_option maxRecDepth 100000 in
set_option maxHeartbeats 4000000 in
theorem Root_W (g : GV) (t : TV) (w : World) (h : GAt 140737488355328 w g) (hpc : g.ps.length <= g.pc) (er at_ : Int) (hE : checkG g (checkF g.ts g.ns) = (er, at_)) : Calls Try.prog 7 #[g.val, t.val] w fun e w' => e = .returned (.tuple #[.agg #[.int .i64 (rgU g er t).1, .int .i64 (rgU g er t).2.1], .int .i64 (rgU g er t).2.2]) /\ Below w.heap.size w w' := by
 have S0 : Hid (RtB w.heap.size w g t (((w.alloc (gBox g)).alloc (tBox t)).alloc (yBoxC 0 0))) := rtb_start g t w
 have CK : Hid (∀ w', RtB w.heap.size w g t w' -> Calls Try.prog 19 #[g.val] w' fun e w'' => e = .returned (.tuple #[.int .i64 er, .int .i64 at_]) /\ RtB w.heap.size w g t w'') := fun w' hb => (check_G g w' (h.later hb.bel) hpc er at_ hE).mono fun e w'' ⟨e1, e2⟩ => ⟨e1, hb.later hb.sz e2⟩
 have CF : Hid (∀ w', RtB w.heap.size w g t w' -> Calls Try.prog 21 #[g.val, .pointer (some ⟨w.heap.size + 1, 0, none⟩)] w' fun e w'' => e = .returned (.int .i64 (if t.prod = -1 then (if inT g t.kind = true then 0 else 82) else (if 0 <= t.prod /\ t.prod < g.ps.length then 0 else 81))) /\ RtB w.heap.size w g t w'') := fun w' hb => (rootFault_W g (w.heap.size + 1) 0 t w' (h.later hb.bel) (tb_tbxC hb.t)).mono fun e w'' ⟨e1, e2⟩ => ⟨e1, hb.later hb.sz e2⟩
 have CR : Hid (∀ w', RtB w.heap.size w g t w' -> (t.prod = -1 ∨ (0 <= t.prod /\ t.prod < g.ps.length)) -> Calls Try.prog 22 #[g.val, .pointer (some ⟨w.heap.size + 1, 0, none⟩)] w' fun e w'' => e = .returned (.agg #[.int .i64 (rtU g t).1, .int .i64 (rtU g t).2]) /\ RtB w.heap.size w g t w'') := fun w' hb hr => (root_W g (w.heap.size + 1) 0 t w' (h.later hb.bel) (tb_tbxC hb.t) hr).mono fun e w'' ⟨e1, e2⟩ => ⟨e1, hb.later hb.sz e2⟩
 obtain ⟨c, hc⟩ : ∃ c : Int, (if t.prod = -1 then (if inT g t.kind = true then 0 else 82) else (if 0 <= t.prod /\ t.prod < g.ps.length then (0 : Int) else 81)) = c := ⟨_, rfl⟩
 rw [hc] at CF
 have R1 : Hid (er ≠ 0 -> rgU g er t = (0, 0, er)) := fun e => if_pos e
 have R2 : Hid (er = 0 -> c ≠ 0 -> rgU g er t = (0, 0, c)) := fun e1 e2 => by
  unfold rgU rkU
  rw [if_neg (by omega)]
  by_cases hp : t.prod = -1
  ·rw [if_pos hp] at hc
   by_cases hk : inT g t.kind = true
   ·rw [if_pos hk] at hc; omega
   ·rw [if_neg hk] at hc
    have hk' : ¬ (0 <= t.kind /\ t.kind < g.ts.length) := fun e => hk (by simp [inT, e])
    have r0 : rootU g t = (0, 0) := by unfold rootU; rw [if_neg (fun e => hk' e.2), if_neg (by omega)]
    rw [r0, if_pos rfl, if_pos hp, hc]
  ·rw [if_neg hp] at hc
   by_cases hr : 0 <= t.prod /\ t.prod < g.ps.length
   ·rw [if_pos hr] at hc; omega
   ·rw [if_neg hr] at hc
    have r0 : rootU g t = (0, 0) := by unfold rootU; rw [if_neg (fun e => hp e.1), if_neg hr]
    rw [r0, if_pos rfl, if_neg hp, hc]
 have R3 : Hid (er = 0 -> c = 0 -> rgU g er t = ((rtU g t).1, (rtU g t).2, 0) /\ (t.prod = -1 ∨ (0 <= t.prod /\ t.prod < g.ps.length))) := fun e1 e2 => by
  unfold rgU rkU
  rw [if_neg (by omega)]
  by_cases hp : t.prod = -1
  ·rw [if_pos hp] at hc
   by_cases hk : inT g t.kind = true
   ·have hk' : 0 <= t.kind /\ t.kind < g.ts.length := by simpa [inT] using hk
    have r0 : rootU g t = (1, t.kind) := by unfold rootU; rw [if_pos ⟨hp, hk'⟩]
    have r1 : rtU g t = (1, t.kind) := by unfold rtU; rw [if_pos hp]
    rw [r0, r1, if_neg (by simp)]
    exact ⟨rfl, .inl hp⟩
   ·rw [if_neg hk] at hc; omega
  ·rw [if_neg hp] at hc
   by_cases hr : 0 <= t.prod /\ t.prod < g.ps.length
   ·have r0 : rootU g t = (2, (g.ps.getD t.prod.toNat .none).left) := by unfold rootU; rw [if_neg (fun e => hp e.1), if_pos hr]
    have r1 : rtU g t = (2, (g.ps.getD t.prod.toNat .none).left) := by unfold rtU; rw [if_neg hp]
    rw [r0, r1, if_neg (by simp)]
    exact ⟨rfl, .inr hr⟩
   ·rw [if_neg hr] at hc; omega
 clear h hpc hE hc
 by_cases he : er = 0
 ·by_cases hc0 : c = 0
  ·obtain ⟨r1, r2⟩ := R3.out he hc0
   rw [r1]
   subst he hc0
   have R4 : Hid (t.prod = -1 ∨ (0 <= t.prod /\ t.prod < g.ps.length)) := r2
   clear r1 r2 R1 R2 R3
   go_enter Try.func7, Try.ntmps7
   go_upto_region 1 with fail
   refine wp_world (fun w' => RtB w.heap.size w g t w') S0.out fun w1 h1 => ?_
   have H1 : Hid (RtB w.heap.size w g t w1) := h1
   clear h1 S0
   obtain ⟨g0, g1, g2, g3, g4⟩ := gbx_cells H1.out.g
   go_upto_region 2 with (go_at_call 19; refine (CK.out _ H1.out).mono ?_; rintro e w2 ⟨rfl, h2⟩; have H2 : Hid (RtB w.heap.size w g t w2) := h2; clear h2 g0 g1 g2 g3 g4)
   clear H1 CK
   obtain ⟨g0, g1, g2, g3, g4⟩ := gbx_cells H2.out.g
   go_upto_region 5 with (go_at_call 21; refine (CF.out _ H2.out).mono ?_; rintro e w3 ⟨rfl, h3⟩; have H3 : Hid (RtB w.heap.size w g t w3) := h3; clear h3 g0 g1 g2 g3 g4)
   clear H2 CF
   obtain ⟨g0, g1, g2, g3, g4⟩ := gbx_cells H3.out.g
   have FIN : Hid (∀ w4, RtB w.heap.size w g t w4 -> (set2 w4 (w.heap.size + 1 + 1) (rtU g t).1 (rtU g t).2).heap[w.heap.size + 1 + 1]? = some (yBoxC (rtU g t).1 (rtU g t).2) /\ Below w.heap.size w (set2 w4 (w.heap.size + 1 + 1) (rtU g t).1 (rtU g t).2)) := fun w4 h4 => ⟨set2_box _ _ h4.y, set2_below h4.bel _ _ (by omega)⟩
   go_wp2_with (go_at_call 22; refine (CR.out _ H3.out R4.out).mono ?_; rintro e w4 ⟨rfl, h4⟩; obtain ⟨y0, y1, f0, f1⟩ := y_cells h4.y; have F4 : Hid ((set2 w4 (w.heap.size + 1 + 1) (rtU g t).1 (rtU g t).2).heap[w.heap.size + 1 + 1]? = some (yBoxC (rtU g t).1 (rtU g t).2) /\ Below w.heap.size w (set2 w4 (w.heap.size + 1 + 1) (rtU g t).1 (rtU g t).2)) := FIN.out w4 h4; clear h4 g0 g1 g2 g3 g4)
   change bodyPost _ _ _ _ _ (set2 w4 (w.heap.size + 1 + 1) (rtU g t).1 (rtU g t).2)
   generalize set2 w4 (w.heap.size + 1 + 1) (rtU g t).1 (rtU g t).2 = w5 at *
   obtain ⟨x0, x1, -, -⟩ := y_cells F4.out.1
   refine bodyPost_ret (v := .tuple #[.agg #[.int .i64 (rtU g t).1, .int .i64 (rtU g t).2], .int .i64 0]) (by simp [results, Try.results7, go_sem, x0, x1]) rfl ?_
   exact ⟨rfl, F4.out.2⟩
  ·rw [R2.out he hc0]
   subst he
   have t1 : (c != 0) = true := by simpa using hc0
   clear R1 R2 R3 CR
   go_enter Try.func7, Try.ntmps7
   go_upto_region 1 with fail
   refine wp_world (fun w' => RtB w.heap.size w g t w') S0.out fun w1 h1 => ?_
   have H1 : Hid (RtB w.heap.size w g t w1) := h1
   clear h1 S0
   obtain ⟨g0, g1, g2, g3, g4⟩ := gbx_cells H1.out.g
   go_upto_region 2 with (go_at_call 19; refine (CK.out _ H1.out).mono ?_; rintro e w2 ⟨rfl, h2⟩; have H2 : Hid (RtB w.heap.size w g t w2) := h2; clear h2 g0 g1 g2 g3 g4)
   clear H1 CK
   obtain ⟨g0, g1, g2, g3, g4⟩ := gbx_cells H2.out.g
   go_upto_region 5 with (go_at_call 21; refine (CF.out _ H2.out).mono ?_; rintro e w3 ⟨rfl, h3⟩; have H3 : Hid (RtB w.heap.size w g t w3) := h3; clear h3 g0 g1 g2 g3 g4)
   clear H2 CF
   obtain ⟨y0, y1, f0, f1⟩ := y_cells H3.out.y
   have F4 : Hid ((set2 w3 (w.heap.size + 1 + 1) 0 0).heap[w.heap.size + 1 + 1]? = some (yBoxC 0 0) /\ Below w.heap.size w (set2 w3 (w.heap.size + 1 + 1) 0 0)) := ⟨set2_box _ _ H3.out.y, set2_below H3.out.bel _ _ (by omega)⟩
   clear H3
   go_wp2
   change bodyPost _ _ _ _ _ (set2 w3 (w.heap.size + 1 + 1) 0 0)
   generalize set2 w3 (w.heap.size + 1 + 1) 0 0 = w5 at *
   obtain ⟨x0, x1, -, -⟩ := y_cells F4.out.1
   refine bodyPost_ret (v := .tuple #[.agg #[.int .i64 0, .int .i64 0], .int .i64 c]) (by simp [results, Try.results7, go_sem, x0, x1]) rfl ?_
   exact ⟨rfl, F4.out.2⟩
 ·rw [R1.out he]
  have t1 : (er != 0) = true := by simpa using he
  clear R1 R2 R3 CR CF
  go_enter Try.func7, Try.ntmps7
  go_upto_region 1 with fail
  refine wp_world (fun w' => RtB w.heap.size w g t w') S0.out fun w1 h1 => ?_
  have H1 : Hid (RtB w.heap.size w g t w1) := h1
  clear h1 S0
  obtain ⟨g0, g1, g2, g3, g4⟩ := gbx_cells H1.out.g
  go_upto_region 2 with (go_at_call 19; refine (CK.out _ H1.out).mono ?_; rintro e w2 ⟨rfl, h2⟩; have H2 : Hid (RtB w.heap.size w g t w2) := h2; clear h2 g0 g1 g2 g3 g4)
  clear H1 CK
  obtain ⟨y0, y1, f0, f1⟩ := y_cells H2.out.y
  have F4 : Hid ((set2 w2 (w.heap.size + 1 + 1) 0 0).heap[w.heap.size + 1 + 1]? = some (yBoxC 0 0) /\ Below w.heap.size w (set2 w2 (w.heap.size + 1 + 1) 0 0)) := ⟨set2_box _ _ H2.out.y, set2_below H2.out.bel _ _ (by omega)⟩
  clear H2
  go_wp2
  change bodyPost _ _ _ _ _ (set2 w2 (w.heap.size + 1 + 1) 0 0)
  generalize set2 w2 (w.heap.size + 1 + 1) 0 0 = w5 at *
  obtain ⟨x0, x1, -, -⟩ := y_cells F4.out.1
  refine bodyPost_ret (v := .tuple #[.agg #[.int .i64 0, .int .i64 0], .int .i64 er]) (by simp [results, Try.results7, go_sem, x0, x1]) rfl ?_
  exact ⟨rfl, F4.out.2⟩
set_option linter.unusedSimpArgs false in
set_option maxRecDepth 100000 in
set_option maxHeartbeats 4000000 in
theorem Root_S (g : GV) (t : TV) (w : World) (h : GAt 140737488355328 w g) : Calls Try.prog 14 #[g.val, t.val] w fun e w' => e = .returned (.tuple #[.agg #[.int .i64 (rkU g t).1, .int .i64 (rkU g t).2.1], .int .i64 (rkU g t).2.2]) /\ Below w.heap.size w w' := by
 have S0 : Hid (RtB w.heap.size w g t (((w.alloc (gBox g)).alloc (tBox t)).alloc (yBoxC 0 0))) := rtb_start g t w
 have CR : Hid (∀ w', RtB w.heap.size w g t w' -> Calls Try.prog 37 #[g.val, t.val] w' fun e w'' => e = .returned (.agg #[.int .i64 (rootU g t).1, .int .i64 (rootU g t).2]) /\ RtB w.heap.size w g t w'') := fun w' hb => (root_S g t w' (h.later hb.bel)).mono fun e w'' ⟨e1, e2⟩ => ⟨e1, hb.later hb.sz e2⟩
 have K1 : rootU g t = (0, 0) -> rkU g t = (0, 0, if t.prod = -1 then 82 else 81) := fun e => by unfold rkU; rw [if_pos e]
 have K2 : rootU g t ≠ (0, 0) -> rkU g t = ((rootU g t).1, (rootU g t).2, 0) := fun e => by unfold rkU; rw [if_neg e]
 obtain ⟨a1, a2, hr⟩ : ∃ a1 a2, rootU g t = (a1, a2) := ⟨_, _, rfl⟩
 rw [hr] at CR K1 K2
 dsimp only at CR K2
 have AL : Hid (∀ w4, RtB w.heap.size w g t w4 -> RtB w.heap.size w g t (w4.alloc (yBoxC a1 a2)) /\ (w4.alloc (yBoxC a1 a2)).heap[w4.heap.size]? = some (yBoxC a1 a2)) := fun w4 h4 => ⟨h4.later h4.sz (below_alloc _ _), heap_alloc_new _ _⟩
 clear h hr
 by_cases h0 : (a1, a2) = ((0, 0) : Int × Int)
 ·rw [K1 h0]
  simp only [Prod.mk.injEq] at h0
  obtain ⟨rfl, rfl⟩ := h0
  clear K1 K2
  obtain ⟨ec, hec⟩ : ∃ ec : Int, (if t.prod = -1 then 82 else 81) = ec := ⟨_, rfl⟩
  dsimp only
  rw [hec]
  have HEC : Hid ((if t.prod = -1 then 82 else 81) = ec) := hec
  clear hec
  go_enter Try.func14, Try.ntmps14
  go_upto_region 1 with fail
  refine wp_world (fun w' => RtB w.heap.size w g t w') S0.out fun w1 h1 => ?_
  have H1 : Hid (RtB w.heap.size w g t w1) := h1
  clear h1 S0
  obtain ⟨g0, g1, g2, g3, g4⟩ := gbx_cells H1.out.g
  obtain ⟨c0, c1, c2, c3⟩ := tb_cells H1.out.t
  go_upto_region 2 with (go_at_call 37; refine (CR.out _ H1.out).mono ?_; rintro e w2 ⟨rfl, h2⟩; have H2 : Hid (RtB w.heap.size w g t (w2.alloc (yBoxC 0 0)) /\ (w2.alloc (yBoxC 0 0)).heap[w2.heap.size]? = some (yBoxC 0 0)) := AL.out _ h2; clear h2 g0 g1 g2 g3 g4 c0 c1 c2 c3)
  clear H1 CR AL
  generalize w2.alloc (yBoxC 0 0) = w3 at *
  generalize w2.heap.size = b6 at *
  obtain ⟨x0, x1, -, -⟩ := y_cells H2.out.2
  obtain ⟨c0, c1, c2, c3⟩ := tb_cells H2.out.1.t
  obtain ⟨y0, y1, f0, f1⟩ := y_cells H2.out.1.y
  have F4 : Hid ((set2 w3 (w.heap.size + 1 + 1) 0 0).heap[w.heap.size + 1 + 1]? = some (yBoxC 0 0) /\ Below w.heap.size w (set2 w3 (w.heap.size + 1 + 1) 0 0)) := ⟨set2_box _ _ H2.out.1.y, set2_below H2.out.1.bel _ _ (by omega)⟩
  clear H2
  by_cases hp : t.prod = -1
  ·have t1 : (t.prod == -1) = true := by simp [hp]
   have hec := HEC.out
   rw [if_pos hp] at hec
   subst hec
   clear hp HEC
   go_wp2
   change bodyPost _ _ _ _ _ (set2 w3 (w.heap.size + 1 + 1) 0 0)
   generalize set2 w3 (w.heap.size + 1 + 1) 0 0 = w5 at *
   obtain ⟨z0, z1, -, -⟩ := y_cells F4.out.1
   refine bodyPost_ret (v := .tuple #[.agg #[.int .i64 0, .int .i64 0], .int .i64 82]) (by simp [results, Try.results14, go_sem, z0, z1]) rfl ?_
   exact ⟨rfl, F4.out.2⟩
  ·have t1 : (t.prod == -1) = false := by simp [hp]
   have hec := HEC.out
   rw [if_neg hp] at hec
   subst hec
   clear hp HEC
   go_wp2
   change bodyPost _ _ _ _ _ (set2 w3 (w.heap.size + 1 + 1) 0 0)
   generalize set2 w3 (w.heap.size + 1 + 1) 0 0 = w5 at *
   obtain ⟨z0, z1, -, -⟩ := y_cells F4.out.1
   refine bodyPost_ret (v := .tuple #[.agg #[.int .i64 0, .int .i64 0], .int .i64 81]) (by simp [results, Try.results14, go_sem, z0, z1]) rfl ?_
   exact ⟨rfl, F4.out.2⟩
 ·rw [K2 h0]
  clear K1 K2
  go_enter Try.func14, Try.ntmps14
  go_upto_region 1 with fail
  refine wp_world (fun w' => RtB w.heap.size w g t w') S0.out fun w1 h1 => ?_
  have H1 : Hid (RtB w.heap.size w g t w1) := h1
  clear h1 S0
  obtain ⟨g0, g1, g2, g3, g4⟩ := gbx_cells H1.out.g
  obtain ⟨c0, c1, c2, c3⟩ := tb_cells H1.out.t
  go_upto_region 2 with (go_at_call 37; refine (CR.out _ H1.out).mono ?_; rintro e w2 ⟨rfl, h2⟩; have H2 : Hid (RtB w.heap.size w g t (w2.alloc (yBoxC a1 a2)) /\ (w2.alloc (yBoxC a1 a2)).heap[w2.heap.size]? = some (yBoxC a1 a2)) := AL.out _ h2; clear h2 g0 g1 g2 g3 g4 c0 c1 c2 c3)
  clear H1 CR AL
  generalize w2.alloc (yBoxC a1 a2) = w3 at *
  generalize w2.heap.size = b6 at *
  obtain ⟨x0, x1, -, -⟩ := y_cells H2.out.2
  obtain ⟨y0, y1, f0, f1⟩ := y_cells H2.out.1.y
  have F4 : Hid ((set2 w3 (w.heap.size + 1 + 1) a1 a2).heap[w.heap.size + 1 + 1]? = some (yBoxC a1 a2) /\ Below w.heap.size w (set2 w3 (w.heap.size + 1 + 1) a1 a2)) := ⟨set2_box _ _ H2.out.1.y, set2_below H2.out.1.bel _ _ (by omega)⟩
  clear H2
  have h0' : ¬ (a1 = 0 /\ a2 = 0) := fun e => h0 (by rw [e.1, e.2])
  clear h0
  by_cases h1 : a1 = 0
  ·subst h1
   have t1 : (a2 == 0) = false := by simp; omega
   clear h0'
   go_wp2
   change bodyPost _ _ _ _ _ (set2 w3 (w.heap.size + 1 + 1) 0 a2)
   generalize set2 w3 (w.heap.size + 1 + 1) 0 a2 = w5 at *
   obtain ⟨z0, z1, -, -⟩ := y_cells F4.out.1
   refine bodyPost_ret (v := .tuple #[.agg #[.int .i64 0, .int .i64 a2], .int .i64 0]) (by simp [results, Try.results14, go_sem, z0, z1]) rfl ?_
   exact ⟨rfl, F4.out.2⟩
  ·have t1 : (a1 == 0) = false := by simp [h1]
   clear h0' h1
   go_wp2
   change bodyPost _ _ _ _ _ (set2 w3 (w.heap.size + 1 + 1) a1 a2)
   generalize set2 w3 (w.heap.size + 1 + 1) a1 a2 = w5 at *
   obtain ⟨z0, z1, -, -⟩ := y_cells F4.out.1
   refine bodyPost_ret (v := .tuple #[.agg #[.int .i64 a1, .int .i64 a2], .int .i64 0]) (by simp [results, Try.results14, go_sem, z0, z1]) rfl ?_
   exact ⟨rfl, F4.out.2⟩
end Go.Proofs.Ytaeggelfhinedaa
