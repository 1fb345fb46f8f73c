import Derived.Test.YtaeggelfhinedaaPTK6ToTKc
namespace Go.Proofs.Ytaeggelfhinedaa
set_option linter.unusedVariables false
open Go.RowKit
theorem run_gg2 {o : Oper} {a : Act} {t0 t1 : TypeId} {v0 v1 : Value} {x0 x1 : Operand} (hop : o.op = Op.call { callee := Callee.value (Operand.func 4), args := #[x0, x1], argTypes := #[t0, t1] }) (h0 : a.eval x0 = v0) (h1 : a.eval x1 = v1) (w : World) : (execOp a.eval o).run Try.prog w = .ok (.enter 4 #[v0, v1]) w := by
 have hf : a.eval (Operand.func 4) = .func (.func 4) #[] #[] := rfl
 simp [execOp, hop, resolve, invoke, h0, h1, hf, Deferred.ofValue]
theorem run_gt2 {o : Oper} {a : Act} {t0 t1 : TypeId} {v0 v1 : Value} {x0 x1 : Operand} (hop : o.op = Op.call { callee := Callee.value (Operand.func 5), args := #[x0, x1], argTypes := #[t0, t1] }) (h0 : a.eval x0 = v0) (h1 : a.eval x1 = v1) (w : World) : (execOp a.eval o).run Try.prog w = .ok (.enter 5 #[v0, v1]) w := by
 have hf : a.eval (Operand.func 5) = .func (.func 5) #[] #[] := rfl
 simp [execOp, hop, resolve, invoke, h0, h1, hf, Deferred.ofValue]
theorem wpX_world {P : Program} {md : Region.Mode} {ops : Array Oper} {Q : Exit -> Act -> World -> Prop} {S : Array Bool -> World -> Prop} {n : Nat} {L : Array Bool} {a : Act} {w : World} (I : World -> Prop) (h : I w) (k : ∀ w', I w' -> wpAnyX P md ops Q S n L a w') : wpAnyX P md ops Q S n L a w := k w h
theorem num_8 (n : Int) (w : World) : Calls Try.prog 12 #[.int .i64 n] w fun e w' => e = .returned (.int .i64 n) /\ w' = w := by
 go_enter Try.func12, Try.ntmps12
 go_wp2
 go_ret
 exact ⟨rfl, rfl⟩
theorem ck_start (g : GV) (t : TV) (w : World) : CkJ 0 w g t g t none none (((w.alloc (gBox g)).alloc (tBox t)).alloc gvBoxT).drew := by
 obtain ⟨h1, h2, h3⟩ := two_allocT w (gBox g) (tBox t)
 have hz : ((w.alloc (gBox g)).alloc (tBox t)).heap.size = w.heap.size + 2 := by simp
 have hg := hg_newT w.heap.size w ((w.alloc (gBox g)).alloc (tBox t)) h1 h1.size
 rw [hz] at hg
 have hb := below_alloc ((w.alloc (gBox g)).alloc (tBox t)) gvBoxT
 have hs : CkS w g t (((w.alloc (gBox g)).alloc (tBox t)).alloc gvBoxT) := CkS.later ⟨h1, h2, h3⟩ hb
 have hn : (((w.alloc (gBox g)).alloc (tBox t)).alloc gvBoxT).heap.size = w.heap.size + 3 := by simp
 have hJ : CkJ 0 w g t g t none none (((w.alloc (gBox g)).alloc (tBox t)).alloc gvBoxT) := ⟨hs, fun _ => hg, fun e => (by cases e), fun e => (by cases e), fun b e => (by cases e), fun b e => (by cases e), by rw [hn]; omega⟩
 exact hJ.later (Below.refl _ _).drew
set_option linter.unusedSimpArgs false in
set_option maxRecDepth 100000 in
set_option maxHeartbeats 16000000 in
theorem checks_walk (g : GV) (t : TV) (w : World) (hg : GAt 1048576 w g) (hpc : g.ps.length <= g.pc) (ht : TAt w t) (hsz : (plT 0 t).length <= 1048576) : Calls Try.prog 3 #[g.val, t.val] w fun e w' => e = .returned (.bool true) /\ Below w.heap.size w w' := by
 have hzz : szT t <= 100000000 := Nat.le_trans hsz (by omega)
 have S0 : Hid (CkJ 0 w g t g t none none (((w.alloc (gBox g)).alloc (tBox t)).alloc gvBoxT).drew) := ck_start g t w
 have HGT : Hid (GAt 1048576 w g /\ TAt w t /\ szT t <= 100000000) := ⟨hg, ht, hzz⟩
 have SC : Hid (∀ w', CkS w g t w' -> w'.heap[w.heap.size]? = some (gBox g) /\ w'.heap[w.heap.size + 1]? = some (tBox t)) := fun w' h => ⟨h.gb, h.tb⟩
 clear hg ht hzz
 go_enter Try.func3, Try.ntmps3
 go_upto_region 2 with fail
 go_cut [6, 7] (fun s6 s7 wx => ∃ b6 b7 x U, s6 = .pointer (some ⟨b6, 0, none⟩) /\ s7 = .pointer (some ⟨b7, 0, none⟩) /\ CkE w g t b6 b7 x U wx)
 case first =>
  refine wp_region_x (S := fun _ => (fun w' => w'.heap[w.heap.size]? = some (gBox g) /\ w'.heap[w.heap.size + 1]? = some (tBox t))) (by kernel_rfl) ?_
  refine wpX_world (fun w' => CkJ 0 w g t g t none none w') S0.out fun wd hwd => ?_
  have H0 : Hid (CkJ 0 w g t g t none none wd) := hwd
  clear hwd S0
  refine wpAnyX_takeS (i := 0) (v := ?_) rfl (by kernel_rfl) (by decide +kernel) (by decide +kernel) (fun _ _ _ h => h) (Or.inl ⟨by rfl, ?_⟩) (SC.out _ H0.out.s) ?_
  rotate_left
  ·(intro w hSw; obtain ⟨z0, z1, z2, z3, z4⟩ := gbx_cells hSw.1; obtain ⟨y0, y1, y2, y3⟩ := tb_cells hSw.2; clear hSw; go_simp; try (with_reducible rfl))
  (try simp only [Act.put, List.setIfInBounds_toArray, List.set_cons_zero, List.set_cons_succ])
  refine wpAnyX_takeS (i := 2) (v := ?_) rfl (by kernel_rfl) (by decide +kernel) (by decide +kernel) (fun _ _ _ h => h) (Or.inl ⟨by rfl, ?_⟩) (SC.out _ H0.out.s) ?_
  rotate_left
  ·(intro w hSw; obtain ⟨z0, z1, z2, z3, z4⟩ := gbx_cells hSw.1; obtain ⟨y0, y1, y2, y3⟩ := tb_cells hSw.2; clear hSw; go_simp; try (with_reducible rfl))
  (try simp only [Act.put, List.setIfInBounds_toArray, List.set_cons_zero, List.set_cons_succ])
  refine wpAnyX_mix (β := GV) (γ := TV) 1 3 4 5 rfl rfl rfl rfl rfl rfl rfl rfl (by decide) (by decide) (by decide +kernel) (by decide +kernel) (by decide +kernel) (by decide +kernel) (by decide +kernel) (by decide +kernel) (by decide +kernel) (by decide +kernel) (by decide +kernel) (by decide +kernel) (by decide +kernel) (J := fun A x U b6 b7 w' => CkJ A w g t x U b6 b7 w') (fun A x U b6 b7 w' L' h => SC.out w' h.s) (f1 := fun x => GV.val x) (f3 := fun U => TV.val U) (f4 := fun b => .pointer (some ⟨b, 0, none⟩)) (f5 := fun b => .pointer (some ⟨b, 0, none⟩)) (At := fun a' => a'.eval (.tmp 5) = .pointer (some ⟨w.heap.size + 2, 0, none⟩) /\ a'.eval (.tmp 17) = g.val /\ a'.eval (.tmp 19) = t.val) ⟨rfl, rfl, rfl⟩ (fun a' v h => ⟨(put_evalT a' (by decide) v).trans h.1, (put_evalT a' (by decide) v).trans h.2.1, (put_evalT a' (by decide) v).trans h.2.2⟩) (fun a' v h => ⟨(put_evalT a' (by decide) v).trans h.1, (put_evalT a' (by decide) v).trans h.2.1, (put_evalT a' (by decide) v).trans h.2.2⟩) (fun a' v h => ⟨(put_evalT a' (by decide) v).trans h.1, (put_evalT a' (by decide) v).trans h.2.1, (put_evalT a' (by decide) v).trans h.2.2⟩) (fun a' v h => ⟨(put_evalT a' (by decide) v).trans h.1, (put_evalT a' (by decide) v).trans h.2.1, (put_evalT a' (by decide) v).trans h.2.2⟩) ?s1 ?s3 ?s4 ?s5 g t H0.out ?go
  case s1 =>
   rintro a' w1 K x U b6 b7 ⟨p5, p17, p19⟩ hi hk
   refine step_callX rfl 4 #[.pointer (some ⟨w.heap.size + 2, 0, none⟩), g.val] _ (run_gg2 (v0 := .pointer (some ⟨w.heap.size + 2, 0, none⟩)) (v1 := g.val) rfl p5 p17 _) (CkJ.gram HGT.out.1 hi) ?_
   rintro e w' ⟨x', rfl, hj⟩
   exact ⟨_, rfl, hk x' w' hj⟩
  case s3 =>
   rintro a' w1 K x U b6 b7 ⟨p5, p17, p19⟩ hi hk
   refine step_callX rfl 5 #[.pointer (some ⟨w.heap.size + 2, 0, none⟩), t.val] _ (run_gt2 (v0 := .pointer (some ⟨w.heap.size + 2, 0, none⟩)) (v1 := t.val) rfl p5 p19 _) (CkJ.tree HGT.out.2.1 HGT.out.2.2 hi) ?_
   rintro e w' ⟨U', rfl, hj⟩
   exact ⟨_, rfl, hk U' w' hj⟩
  case s4 =>
   rintro a' w1 K A x U b7 - hi hk
   go_simp
   exact hk w1.heap.size _ hi.a6
  case s5 =>
   rintro a' w1 K A x U b6 - hi hk
   go_simp
   exact hk w1.heap.size _ hi.a7
  case go =>
   rintro xx UU b6 b7 w9 hj
   have H9 : Hid (CkJ 2 w g t xx UU (some b6) (some b7) w9) := hj
   clear hj H0
   (try simp only [Act.put, List.setIfInBounds_toArray, List.set_cons_zero, List.set_cons_succ])
   obtain ⟨fin, z7, sx⟩ := H9.out.fin
   have FIN : Hid (CkE w g t b6 b7 xx UU (set4 (set5G w9 b6 xx) b7 0 UU) /\ (set5G w9 b6 xx).heap[b7]? = some zTree /\ w9.heap[b6]? = some zGr /\ CkS w g t (set5G w9 b6 xx)) := ⟨fin, z7, (H9.out.x6 b6 rfl).1, sx⟩
   clear fin z7 sx H9
   refine wpAnyX_one (j := 6) (by decide +kernel) rfl (fun K' hK => ?_)
   refine step_storeM rfl 26 (.tmp 6) (.tmp 18) rfl b6 #[.slice xx.ta xx.ts.length xx.tc, .slice xx.na xx.ns.length xx.nc, .int .i64 xx.start, .slice xx.pa xx.ps.length xx.pc, .slice xx.la xx.ls.length xx.lc] rfl rfl (there_of (cs := #[.slice none 0 0, .slice none 0 0, .int .i64 0, .slice none 0 0, .slice none 0 0]) FIN.out.2.2.1) (by kernel_rfl) (by kernel_rfl) ?_
   refine hK.out _ _ (SC.out _ FIN.out.2.2.2) ?_
   clear hK K'
   (try simp only [Act.put, List.setIfInBounds_toArray, List.set_cons_zero, List.set_cons_succ])
   change wpAnyX _ _ _ _ _ _ _ _ (set5G w9 b6 xx)
   refine wpAnyX_one (j := 7) (by decide +kernel) rfl (fun K' hK => ?_)
   refine step_storeM rfl 31 (.tmp 7) (.tmp 20) rfl b7 #[.int .i64 UU.prod, .int .i64 UU.kind, .string UU.tx, .slice UU.ka UU.kids.length UU.kc] rfl rfl (there_of (cs := #[.int .i64 0, .int .i64 0, .string ByteArray.empty, .slice none 0 0]) FIN.out.2.1) (by kernel_rfl) (by kernel_rfl) ?_
   refine hK.out _ _ (SC.out _ FIN.out.1.s) ?_
   clear hK K'
   (try simp only [Act.put, List.setIfInBounds_toArray, List.set_cons_zero, List.set_cons_succ])
   refine wpAnyX_done (by decide +kernel) ?_
   go_wp2_with fail
   go_meet
   exact ⟨b6, b7, xx, UU, rfl, rfl, FIN.out.1⟩
 case rest =>
  obtain ⟨b6, b7, x, U, e6, e7, hE⟩ := hcut
  subst e6 e7
  have H2 : Hid (CkE w g t b6 b7 x U wc) := hE
  clear hE S0 SC
  obtain ⟨er, at_, hE⟩ : ∃ er at_, checkG g (checkF g.ts g.ns) = (er, at_) := ⟨_, _, rfl⟩
  have hEx : checkG x (checkF x.ts x.ns) = (er, at_) := (same_checkK H2.out.r.sg).trans hE
  have GX' : Hid (∀ w', CkE w g t b6 b7 x U w' -> GAt 140737488355328 w' x /\ x.ps.length <= x.pc /\ TAt w' U /\ szT U <= 100000000 /\ GAt 140737488355328 w' g /\ TAt w' t) := fun w' h => ⟨(h.r.gx.at h.r.sg (HGT.out.1.mono (by omega))).1, (h.r.gx.at h.r.sg (HGT.out.1.mono (m := 140737488355328) (by omega))).2, h.r.ta, by rw [<- samV_size _ _ h.r.sm]; exact HGT.out.2.2, (HGT.out.1.mono (by omega)).later h.s.bel, HGT.out.2.1.later h.s.bel⟩
  obtain ⟨r, hr⟩ : ∃ r, runU g (ckT g (0, 0) false t) 0 = r := ⟨_, rfl⟩
  have hrx : runU x (ckT x (0, 0) false U) 0 = r := (run_same H2.out.r.sg H2.out.r.sm).trans hr
  obtain ⟨k, hk⟩ : ∃ k, rkU g t = k := ⟨_, rfl⟩
  have hkx : rkU x U = k := (rk_same H2.out.r.sg H2.out.r.sm).trans hk
  have C1 : Hid (∀ w', CkE w g t b6 b7 x U w' -> Calls Try.prog 6 #[x.val, U.val] w' fun e w'' => e = .returned (.tuple #[.int .i64 (if er = 0 then r.1 else er), .int .i64 (if er = 0 then (r.2 : Int) else 0)]) /\ CkE w g t b6 b7 x U w'') := fun w' h => by
   have g' := GX'.out w' h
   have := Check_W x U w' g'.1 g'.2.1 er at_ hEx g'.2.2.1 g'.2.2.2.1
   rw [hrx] at this
   exact this.mono fun e w'' ⟨e1, e2⟩ => ⟨e1, h.later e2⟩
  obtain ⟨m, hm⟩ : ∃ m : Int × Int × Int, (if er ≠ 0 then ((0, 0, er) : Int × Int × Int) else k) = m := ⟨_, rfl⟩
  have C2 : Hid (∀ w', CkE w g t b6 b7 x U w' -> Calls Try.prog 7 #[x.val, U.val] w' fun e w'' => e = .returned (.tuple #[.agg #[.int .i64 m.1, .int .i64 m.2.1], .int .i64 m.2.2]) /\ CkE w g t b6 b7 x U w'') := fun w' h => by
   have g' := GX'.out w' h
   have := Root_W x U w' g'.1 g'.2.1 er at_ hEx
   have e : rgU x er U = m := by unfold rgU; rw [hkx]; exact hm
   rw [e] at this
   exact this.mono fun e w'' ⟨e1, e2⟩ => ⟨e1, h.later e2⟩
  have C3 : Hid (∀ w', CkE w g t b6 b7 x U w' -> Calls Try.prog 8 #[g.val] w' fun e w'' => e = .returned (.int .i64 er) /\ CkE w g t b6 b7 x U w'' /\ Below w'.heap.size w' w'') := fun w' h => by
   have := refmay_G g w' (GX'.out w' h).2.2.2.2.1
   rw [hE] at this
   exact this.mono fun e w'' ⟨e1, e2⟩ => ⟨e1, h.later e2, e2⟩
  have C4 : Hid (∀ w', CkE w g t b6 b7 x U w' -> Calls Try.prog 9 #[.pointer (some ⟨w.heap.size + 2, 0, none⟩)] w' fun e w'' => e = .returned (.bool true) /\ CkE w g t b6 b7 x U w'' /\ Below w'.heap.size w' w'') := fun w' h => by
   obtain ⟨V, E, g1, c1, g2, c2, T2, h1, h2, h3, h4, h5, _⟩ := h.r.ex
   exact (gintactT _ V tyG E w' g1 c1 g2 c2 U T2 h1 h2 (by omega) (by omega) (by omega)).mono fun e w'' ⟨e1, e2⟩ => ⟨e1, h.later e2, e2⟩
  have C5 : Hid (∀ w', CkE w g t b6 b7 x U w' -> Calls Try.prog 10 #[U.val, t.val] w' fun e w'' => e = .returned (.bool true) /\ CkE w g t b6 b7 x U w'' /\ Below w'.heap.size w' w'') := fun w' h => (sameTree_W U t w' (GX'.out w' h).2.2.1 (GX'.out w' h).2.2.2.2.2 (samV_symm _ _ h.r.sm) (GX'.out w' h).2.2.2.1).mono fun e w'' ⟨e1, e2⟩ => ⟨e1, h.later e2, e2⟩
  have C6 : Hid (∀ w', CkE w g t b6 b7 x U w' -> Calls Try.prog 11 #[] w' fun e w'' => e = .returned (.bool true) /\ CkE w g t b6 b7 x U w'' /\ Below w'.heap.size w' w'') := fun w' h => (works_W w').mono fun e w'' ⟨e1, e2⟩ => ⟨e1, h.later e2, e2⟩
  have C7 : Hid (∀ w', CkE w g t b6 b7 x U w' -> Calls Try.prog 13 #[g.val, t.val] w' fun e w'' => e = .returned (.tuple #[.int .i64 r.1, .int .i64 (r.2 : Int)]) /\ CkE w g t b6 b7 x U w'' /\ Below w'.heap.size w' w'') := fun w' h => by
   have := check_S g t w' (GX'.out w' h).2.2.2.2.1 (GX'.out w' h).2.2.2.2.2 HGT.out.2.2
   rw [hr] at this
   exact this.mono fun e w'' ⟨e1, e2⟩ => ⟨e1, h.later e2, e2⟩
  have C8 : Hid (∀ w', CkE w g t b6 b7 x U w' -> Calls Try.prog 14 #[g.val, t.val] w' fun e w'' => e = .returned (.tuple #[.agg #[.int .i64 k.1, .int .i64 k.2.1], .int .i64 k.2.2]) /\ CkE w g t b6 b7 x U w'' /\ Below w'.heap.size w' w'') := fun w' h => by
   have := Root_S g t w' (GX'.out w' h).2.2.2.2.1
   rw [hk] at this
   exact this.mono fun e w'' ⟨e1, e2⟩ => ⟨e1, h.later e2, e2⟩
  have C9 : Hid (∀ n w', Calls Try.prog 12 #[.int .i64 n] w' fun e w'' => e = .returned (.int .i64 n) /\ w'' = w') := fun n w' => num_8 n w'
  have HM : Hid ((if er ≠ 0 then ((0, 0, er) : Int × Int × Int) else k) = m) := hm
  clear hE hEx hr hrx hk hkx hm GX' HGT hpc hsz
  obtain ⟨r1, r2⟩ := r
  obtain ⟨m1, m2, m3⟩ := m
  obtain ⟨k1, k2, k3⟩ := k
  dsimp only at C1 C2 C7 C8
  by_cases he : er = 0
  ·subst he
   have hm := HM.out
   rw [if_neg (by simp)] at hm
   simp only [Prod.mk.injEq] at hm
   obtain ⟨rfl, rfl, rfl⟩ := hm
   simp only [if_true] at C1
   have t1 : (r1 == r1) = true := by simp
   have t2 : ((r2 : Int) == (r2 : Int)) = true := by simp
   have t3 : (k1 == k1) = true := by simp
   have t4 : (k2 == k2) = true := by simp
   have t5 : (k3 == k3) = true := by simp
   clear HM
   obtain ⟨g0, g1, g2, g3, g4⟩ := gbx_cells H2.out.g6
   obtain ⟨c0, c1, c2, c3⟩ := tb_cells H2.out.t7
   go_upto_region 4 with (go_at_call 6; refine (C1.out _ H2.out).mono ?_; rintro e w3 ⟨rfl, h3⟩; have H3 : Hid (CkE w g t b6 b7 x U w3) := h3; clear h3 g0 g1 g2 g3 g4 c0 c1 c2 c3)
   clear H2 C1
   obtain ⟨g0, g1, g2, g3, g4⟩ := gbx_cells H3.out.g6
   obtain ⟨c0, c1, c2, c3⟩ := tb_cells H3.out.t7
   go_upto_region 5 with (go_at_call 7; refine (C2.out _ H3.out).mono ?_; rintro e w4 ⟨rfl, h4⟩; have H4 : Hid (CkE w g t b6 b7 x U (w4.alloc (yBoxC k1 k2)) /\ (w4.alloc (yBoxC k1 k2)).heap[w4.heap.size]? = some (yBoxC k1 k2)) := ⟨h4.later (below_alloc _ _), heap_alloc_new _ _⟩; clear h4 g0 g1 g2 g3 g4 c0 c1 c2 c3)
   clear H3 C2
   generalize w4.alloc (yBoxC k1 k2) = W4 at *
   generalize w4.heap.size = b10 at *
   have YK : Hid (∀ w', Below W4.heap.size W4 w' -> w'.heap[b10]? = some (yBoxC k1 k2)) := fun w' hb => (hb.block _ (lt_of_block H4.out.2)).trans H4.out.2
   obtain ⟨g0, g1, g2, g3, g4⟩ := gbx_cells H4.out.1.s.gb
   go_upto_region 6 with (go_at_call 8; refine (C3.out _ H4.out.1).mono ?_; rintro e w5 ⟨rfl, h5, b5⟩; have H5 : Hid (CkE w g t b6 b7 x U w5 /\ Below W4.heap.size W4 w5) := ⟨h5, b5⟩; clear h5 b5 g0 g1 g2 g3 g4)
   clear H4 C3
   go_upto_region 8 with (first | (go_at_call 9; refine (C4.out _ H5.out.1).mono ?_; clear C4; rintro e w6 ⟨rfl, h6, b6_⟩; have H6 : Hid (CkE w g t b6 b7 x U w6 /\ Below W4.heap.size W4 w6) := ⟨h6, H5.out.2.trans (b6_.mono H5.out.2.size)⟩; clear h6 b6_; obtain ⟨c0, c1, c2, c3⟩ := tb_cells H6.out.1.t7; obtain ⟨y0, y1, y2, y3⟩ := tb_cells H6.out.1.s.tb) | (go_at_call 10; refine (C5.out _ H6.out.1).mono ?_; clear C5; rintro e w7 ⟨rfl, h7, b7_⟩; have H7 : Hid (CkE w g t b6 b7 x U w7 /\ Below W4.heap.size W4 w7) := ⟨h7, H6.out.2.trans (b7_.mono H6.out.2.size)⟩; clear h7 b7_ c0 c1 c2 c3 y0 y1 y2 y3) | (go_at_call 11; refine (C6.out _ H7.out.1).mono ?_; clear C6; rintro e w8 ⟨rfl, h8, b8_⟩; have H8 : Hid (CkE w g t b6 b7 x U w8 /\ Below W4.heap.size W4 w8) := ⟨h8, H7.out.2.trans (b8_.mono H7.out.2.size)⟩; clear h8 b8_))
   clear H5 H6 H7
   obtain ⟨g0, g1, g2, g3, g4⟩ := gbx_cells H8.out.1.s.gb
   obtain ⟨c0, c1, c2, c3⟩ := tb_cells H8.out.1.s.tb
   go_upto_region 11 with (go_at_call 13; refine (C7.out _ H8.out.1).mono ?_; rintro e w9 ⟨rfl, h9, b9_⟩; have H9 : Hid (CkE w g t b6 b7 x U w9 /\ Below W4.heap.size W4 w9) := ⟨h9, H8.out.2.trans (b9_.mono H8.out.2.size)⟩; clear h9 b9_ g0 g1 g2 g3 g4 c0 c1 c2 c3)
   clear H8 C7
   obtain ⟨g0, g1, g2, g3, g4⟩ := gbx_cells H9.out.1.s.gb
   obtain ⟨c0, c1, c2, c3⟩ := tb_cells H9.out.1.s.tb
   go_upto_region 12 with (go_at_call 14; refine (C8.out _ H9.out.1).mono ?_; rintro e wA ⟨rfl, hA, bA_⟩; have HA : Hid (CkE w g t b6 b7 x U (wA.alloc (yBoxC k1 k2)) /\ (wA.alloc (yBoxC k1 k2)).heap[b10]? = some (yBoxC k1 k2) /\ (wA.alloc (yBoxC k1 k2)).heap[wA.heap.size]? = some (yBoxC k1 k2)) := ⟨hA.later (below_alloc _ _), YK.out _ ((H9.out.2.trans (bA_.mono H9.out.2.size)).trans ((below_alloc _ _).mono (H9.out.2.trans (bA_.mono H9.out.2.size)).size)), heap_alloc_new _ _⟩; clear hA bA_ g0 g1 g2 g3 g4 c0 c1 c2 c3)
   clear H9 C8
   generalize wA.alloc (yBoxC k1 k2) = WA at *
   generalize wA.heap.size = b15 at *
   obtain ⟨p0, p1, -, -⟩ := y_cells HA.out.2.1
   obtain ⟨q0, q1, -, -⟩ := y_cells HA.out.2.2
   have R : Hid (Below w.heap.size w WA) := HA.out.1.s.bel
   clear HA YK
   go_wp2_with (go_at_call 12; refine (C9.out _ _).mono ?_; rintro e wB ⟨rfl, hB⟩; subst hB)
   go_ret
   exact ⟨rfl, R.out⟩
  ·have hm := HM.out
   rw [if_pos he] at hm
   simp only [Prod.mk.injEq] at hm
   obtain ⟨rfl, rfl, rfl⟩ := hm
   simp only [if_neg he] at C1
   have t1 : (er == er) = true := by simp
   have t2 : (er != 0) = true := by simpa using he
   clear HM C7 C8
   obtain ⟨g0, g1, g2, g3, g4⟩ := gbx_cells H2.out.g6
   obtain ⟨c0, c1, c2, c3⟩ := tb_cells H2.out.t7
   go_upto_region 4 with (go_at_call 6; refine (C1.out _ H2.out).mono ?_; rintro e w3 ⟨rfl, h3⟩; have H3 : Hid (CkE w g t b6 b7 x U w3) := h3; clear h3 g0 g1 g2 g3 g4 c0 c1 c2 c3)
   clear H2 C1
   obtain ⟨g0, g1, g2, g3, g4⟩ := gbx_cells H3.out.g6
   obtain ⟨c0, c1, c2, c3⟩ := tb_cells H3.out.t7
   go_upto_region 5 with (go_at_call 7; refine (C2.out _ H3.out).mono ?_; rintro e w4 ⟨rfl, h4⟩; have H4 : Hid (CkE w g t b6 b7 x U (w4.alloc (yBoxC 0 0)) /\ (w4.alloc (yBoxC 0 0)).heap[w4.heap.size]? = some (yBoxC 0 0)) := ⟨h4.later (below_alloc _ _), heap_alloc_new _ _⟩; clear h4 g0 g1 g2 g3 g4 c0 c1 c2 c3)
   clear H3 C2
   generalize w4.alloc (yBoxC 0 0) = W4 at *
   generalize w4.heap.size = b10 at *
   have YK : Hid (∀ w', Below W4.heap.size W4 w' -> w'.heap[b10]? = some (yBoxC 0 0)) := fun w' hb => (hb.block _ (lt_of_block H4.out.2)).trans H4.out.2
   obtain ⟨g0, g1, g2, g3, g4⟩ := gbx_cells H4.out.1.s.gb
   go_upto_region 6 with (go_at_call 8; refine (C3.out _ H4.out.1).mono ?_; rintro e w5 ⟨rfl, h5, b5⟩; have H5 : Hid (CkE w g t b6 b7 x U w5 /\ Below W4.heap.size W4 w5) := ⟨h5, b5⟩; clear h5 b5 g0 g1 g2 g3 g4)
   clear H4 C3
   go_upto_region 8 with (first | (go_at_call 9; refine (C4.out _ H5.out.1).mono ?_; clear C4; rintro e w6 ⟨rfl, h6, b6_⟩; have H6 : Hid (CkE w g t b6 b7 x U w6 /\ Below W4.heap.size W4 w6) := ⟨h6, H5.out.2.trans (b6_.mono H5.out.2.size)⟩; clear h6 b6_; obtain ⟨c0, c1, c2, c3⟩ := tb_cells H6.out.1.t7; obtain ⟨y0, y1, y2, y3⟩ := tb_cells H6.out.1.s.tb) | (go_at_call 10; refine (C5.out _ H6.out.1).mono ?_; clear C5; rintro e w7 ⟨rfl, h7, b7_⟩; have H7 : Hid (CkE w g t b6 b7 x U w7 /\ Below W4.heap.size W4 w7) := ⟨h7, H6.out.2.trans (b7_.mono H6.out.2.size)⟩; clear h7 b7_ c0 c1 c2 c3 y0 y1 y2 y3) | (go_at_call 11; refine (C6.out _ H7.out.1).mono ?_; clear C6; rintro e w8 ⟨rfl, h8, b8_⟩; have H8 : Hid (CkE w g t b6 b7 x U w8 /\ Below W4.heap.size W4 w8) := ⟨h8, H7.out.2.trans (b8_.mono H7.out.2.size)⟩; clear h8 b8_))
   clear H5 H6 H7
   obtain ⟨p0, p1, -, -⟩ := y_cells (YK.out _ H8.out.2)
   have R : Hid (Below w.heap.size w w8) := H8.out.1.s.bel
   clear H8 YK
   go_wp2_with (go_at_call 12; refine (C9.out _ _).mono ?_; rintro e wB ⟨rfl, hB⟩; subst hB)
   go_ret
   exact ⟨rfl, R.out⟩
end Go.Proofs.Ytaeggelfhinedaa
