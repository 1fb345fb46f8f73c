import Derived.Test.YtndbdliaidbocaaGreatPTK7
import Derived.Test.YtndbdliaidbocaaGreatPPD2
namespace Go.Proofs.YtndbdliaidbocaaGreat
set_option linter.unusedVariables false
open Go.RowKit
theorem txL_same {g x : GV} : ∀ (l m : List TV), l.length = m.length -> (∀ i (h : i < l.length) (h' : i < m.length), txT x m[i] = txT g l[i]) -> txL x m = txL g l
 | [], [], _, _ => rfl
 | [], _ :: _, h, _ => by simp at h
 | _ :: _, [], h, _ => by simp at h
 | a :: l, b :: m, h, hs => by
  rw [txL_cons, txL_cons, txL_same l m (by simpa using h) (fun i h1 h2 => hs (i + 1) (by simpa using h1) (by simpa using h2))]
  have := hs 0 (by simp) (by simp)
  simp only [List.getElem_cons_zero] at this
  rw [this]
theorem txT_same {g x : GV} (h : SameG g x) (t : TV) : ∀ U, samV t U -> txT x U = txT g t := by
 induction t using TV.ind with
 | _ t ih =>
  intro U hU
  obtain ⟨h1, h2⟩ := (samV_iff t U).1 hU
  have hl := sgV_len h1
  unfold sgV at h1
  simp only [Prod.mk.injEq] at h1
  obtain ⟨e1, e2, -, -⟩ := h1
  rw [txT_eq, txT_eq, txL_same t.kids U.kids hl fun i hi hi' => ih _ (List.getElem_mem hi) _ (h2 i hi hi')]
  unfold hdP enP nmT nmN
  rw [<- e1, <- e2, h.ts, h.ns, (core_at h _).1]
set_option linter.unusedSimpArgs false in
set_option maxRecDepth 100000 in
set_option maxHeartbeats 16000000 in
theorem prints_walk (g : GV) (t : TV) (w : World) (hg : GAt 1048576 w g) (hpc : g.ps.length <= g.pc) (ht : TAt w t) (hsz : (plT 0 t).length <= 1048576) : Calls Tryz.prog 3 #[g.val, t.val] w fun e w' => e = .returned (.bool true) /\ Below w.heap.size w w' := by
 have hzz : szT t <= 100000000 := Nat.le_trans hsz (by omega)
 have S0 : Hid (CkJ 0 w g t g t none none (((w.alloc (gBox g)).alloc (tBox t)).alloc gvBoxT).drew) := ck_start g t w
 have HGT : Hid (GAt 1048576 w g /\ TAt w t /\ szT t <= 100000000) := ⟨hg, ht, hzz⟩
 have SC : Hid (∀ w', CkS w g t w' -> w'.heap[w.heap.size]? = some (gBox g) /\ w'.heap[w.heap.size + 1]? = some (tBox t)) := fun w' h => ⟨h.gb, h.tb⟩
 clear hg ht hzz
 go_enter Tryz.func3, Tryz.ntmps3
 go_upto_region 2 with fail
 go_cut [6, 7] (fun s6 s7 wx => ∃ b6 b7 x U, s6 = .pointer (some ⟨b6, 0, none⟩) /\ s7 = .pointer (some ⟨b7, 0, none⟩) /\ CkE w g t b6 b7 x U wx)
 case first =>
  refine wp_region_x (S := fun _ => (fun w' => w'.heap[w.heap.size]? = some (gBox g) /\ w'.heap[w.heap.size + 1]? = some (tBox t))) (by kernel_rfl) ?_
  refine wpX_world (fun w' => CkJ 0 w g t g t none none w') S0.out fun wd hwd => ?_
  have H0 : Hid (CkJ 0 w g t g t none none wd) := hwd
  clear hwd S0
  refine wpAnyX_takeS (i := 0) (v := ?_) rfl (by kernel_rfl) (by decide +kernel) (by decide +kernel) (fun _ _ _ h => h) (Or.inl ⟨by rfl, ?_⟩) (SC.out _ H0.out.s) ?_
  rotate_left
  ·(intro w hSw; obtain ⟨z0, z1, z2, z3, z4⟩ := gbx_cells hSw.1; obtain ⟨y0, y1, y2, y3⟩ := tb_cells hSw.2; clear hSw; go_simp; try (with_reducible rfl))
  (try simp only [Act.put, List.setIfInBounds_toArray, List.set_cons_zero, List.set_cons_succ])
  refine wpAnyX_takeS (i := 2) (v := ?_) rfl (by kernel_rfl) (by decide +kernel) (by decide +kernel) (fun _ _ _ h => h) (Or.inl ⟨by rfl, ?_⟩) (SC.out _ H0.out.s) ?_
  rotate_left
  ·(intro w hSw; obtain ⟨z0, z1, z2, z3, z4⟩ := gbx_cells hSw.1; obtain ⟨y0, y1, y2, y3⟩ := tb_cells hSw.2; clear hSw; go_simp; try (with_reducible rfl))
  (try simp only [Act.put, List.setIfInBounds_toArray, List.set_cons_zero, List.set_cons_succ])
  refine wpAnyX_mix (β := GV) (γ := TV) 1 3 4 5 rfl rfl rfl rfl rfl rfl rfl rfl (by decide) (by decide) (by decide +kernel) (by decide +kernel) (by decide +kernel) (by decide +kernel) (by decide +kernel) (by decide +kernel) (by decide +kernel) (by decide +kernel) (by decide +kernel) (by decide +kernel) (by decide +kernel) (J := fun A x U b6 b7 w' => CkJ A w g t x U b6 b7 w') (fun A x U b6 b7 w' L' h => SC.out w' h.s) (f1 := fun x => GV.val x) (f3 := fun U => TV.val U) (f4 := fun b => .pointer (some ⟨b, 0, none⟩)) (f5 := fun b => .pointer (some ⟨b, 0, none⟩)) (At := fun a' => a'.eval (.tmp 5) = .pointer (some ⟨w.heap.size + 2, 0, none⟩) /\ a'.eval (.tmp 12) = g.val /\ a'.eval (.tmp 14) = t.val) ⟨rfl, rfl, rfl⟩ (fun a' v h => ⟨(put_evalT a' (by decide) v).trans h.1, (put_evalT a' (by decide) v).trans h.2.1, (put_evalT a' (by decide) v).trans h.2.2⟩) (fun a' v h => ⟨(put_evalT a' (by decide) v).trans h.1, (put_evalT a' (by decide) v).trans h.2.1, (put_evalT a' (by decide) v).trans h.2.2⟩) (fun a' v h => ⟨(put_evalT a' (by decide) v).trans h.1, (put_evalT a' (by decide) v).trans h.2.1, (put_evalT a' (by decide) v).trans h.2.2⟩) (fun a' v h => ⟨(put_evalT a' (by decide) v).trans h.1, (put_evalT a' (by decide) v).trans h.2.1, (put_evalT a' (by decide) v).trans h.2.2⟩) ?s1 ?s3 ?s4 ?s5 g t H0.out ?go
  case s1 =>
   rintro a' w1 K x U b6 b7 ⟨p5, p17, p19⟩ hi hk
   refine step_callX rfl 4 #[.pointer (some ⟨w.heap.size + 2, 0, none⟩), g.val] _ (run_gg2 (v0 := .pointer (some ⟨w.heap.size + 2, 0, none⟩)) (v1 := g.val) rfl p5 p17 _) (CkJ.gram HGT.out.1 hi) ?_
   rintro e w' ⟨x', rfl, hj⟩
   exact ⟨_, rfl, hk x' w' hj⟩
  case s3 =>
   rintro a' w1 K x U b6 b7 ⟨p5, p17, p19⟩ hi hk
   refine step_callX rfl 5 #[.pointer (some ⟨w.heap.size + 2, 0, none⟩), t.val] _ (run_gt2 (v0 := .pointer (some ⟨w.heap.size + 2, 0, none⟩)) (v1 := t.val) rfl p5 p19 _) (CkJ.tree HGT.out.2.1 HGT.out.2.2 hi) ?_
   rintro e w' ⟨U', rfl, hj⟩
   exact ⟨_, rfl, hk U' w' hj⟩
  case s4 =>
   rintro a' w1 K A x U b7 - hi hk
   go_simp
   exact hk w1.heap.size _ hi.a6
  case s5 =>
   rintro a' w1 K A x U b6 - hi hk
   go_simp
   exact hk w1.heap.size _ hi.a7
  case go =>
   rintro xx UU b6 b7 w9 hj
   have H9 : Hid (CkJ 2 w g t xx UU (some b6) (some b7) w9) := hj
   clear hj H0
   (try simp only [Act.put, List.setIfInBounds_toArray, List.set_cons_zero, List.set_cons_succ])
   obtain ⟨fin, z7, sx⟩ := H9.out.fin
   have FIN : Hid (CkE w g t b6 b7 xx UU (set4 (set5G w9 b6 xx) b7 0 UU) /\ (set5G w9 b6 xx).heap[b7]? = some zTree /\ w9.heap[b6]? = some zGr /\ CkS w g t (set5G w9 b6 xx)) := ⟨fin, z7, (H9.out.x6 b6 rfl).1, sx⟩
   clear fin z7 sx H9
   refine wpAnyX_one (j := 6) (by decide +kernel) rfl (fun K' hK => ?_)
   refine step_storeM rfl 26 (.tmp 6) (.tmp 13) rfl b6 #[.slice xx.ta xx.ts.length xx.tc, .slice xx.na xx.ns.length xx.nc, .int .i64 xx.start, .slice xx.pa xx.ps.length xx.pc, .slice xx.la xx.ls.length xx.lc] rfl rfl (there_of (cs := #[.slice none 0 0, .slice none 0 0, .int .i64 0, .slice none 0 0, .slice none 0 0]) FIN.out.2.2.1) (by kernel_rfl) (by kernel_rfl) ?_
   refine hK.out _ _ (SC.out _ FIN.out.2.2.2) ?_
   clear hK K'
   (try simp only [Act.put, List.setIfInBounds_toArray, List.set_cons_zero, List.set_cons_succ])
   change wpAnyX _ _ _ _ _ _ _ _ (set5G w9 b6 xx)
   refine wpAnyX_one (j := 7) (by decide +kernel) rfl (fun K' hK => ?_)
   refine step_storeM rfl 31 (.tmp 7) (.tmp 15) rfl b7 #[.int .i64 UU.prod, .int .i64 UU.kind, .string UU.tx, .slice UU.ka UU.kids.length UU.kc] rfl rfl (there_of (cs := #[.int .i64 0, .int .i64 0, .string ByteArray.empty, .slice none 0 0]) FIN.out.2.1) (by kernel_rfl) (by kernel_rfl) ?_
   refine hK.out _ _ (SC.out _ FIN.out.1.s) ?_
   clear hK K'
   (try simp only [Act.put, List.setIfInBounds_toArray, List.set_cons_zero, List.set_cons_succ])
   refine wpAnyX_done (by decide +kernel) ?_
   go_wp2_with fail
   go_meet
   exact ⟨b6, b7, xx, UU, rfl, rfl, FIN.out.1⟩
 case rest =>
  obtain ⟨b6, b7, x, U, e6, e7, hE⟩ := hcut
  subst e6 e7
  have H2 : Hid (CkE w g t b6 b7 x U wc) := hE
  clear hE S0 SC
  obtain ⟨er, at_, hE⟩ : ∃ er at_, checkG g (checkF g.ts g.ns) = (er, at_) := ⟨_, _, rfl⟩
  have hEx : checkG x (checkF x.ts x.ns) = (er, at_) := (same_checkK H2.out.r.sg).trans hE
  have GX' : Hid (∀ w', CkE w g t b6 b7 x U w' -> GAt 140737488355328 w' x /\ x.ps.length <= x.pc /\ TAt w' U /\ szT U <= 100000000 /\ GAt 140737488355328 w' g /\ TAt w' t) := fun w' h => ⟨(h.r.gx.at h.r.sg (HGT.out.1.mono (by omega))).1, (h.r.gx.at h.r.sg (HGT.out.1.mono (m := 140737488355328) (by omega))).2, h.r.ta, by rw [<- samV_size _ _ h.r.sm]; exact HGT.out.2.2, (HGT.out.1.mono (by omega)).later h.s.bel, HGT.out.2.1.later h.s.bel⟩
  have hrs := run_same H2.out.r.sg H2.out.r.sm
  have hEr : prEr x er U = prEr g er t := by unfold prEr; rw [hrs]
  have hTx : prTx x er U = prTx g er t := by unfold prTx; rw [hEr, txT_same H2.out.r.sg t U H2.out.r.sm]
  have C1 : Hid (∀ w', CkE w g t b6 b7 x U w' -> Calls Tryz.prog 6 #[x.val, U.val] w' fun e w'' => e = .returned (.tuple #[.string (prTx g er t), .int .i64 (prEr g er t)]) /\ CkE w g t b6 b7 x U w'') := fun w' h => by
   have g' := GX'.out w' h
   have := Print_W x U w' g'.1 g'.2.1 er at_ hEx g'.2.2.1 g'.2.2.2.1
   rw [hEr, hTx] at this
   exact this.mono fun e w'' ⟨e1, e2⟩ => ⟨e1, h.later e2⟩
  have C3 : Hid (∀ w', CkE w g t b6 b7 x U w' -> Calls Tryz.prog 7 #[g.val] w' fun e w'' => e = .returned (.int .i64 er) /\ CkE w g t b6 b7 x U w'') := fun w' h => by
   have := refmay_G g w' (GX'.out w' h).2.2.2.2.1
   rw [hE] at this
   exact this.mono fun e w'' ⟨e1, e2⟩ => ⟨e1, h.later e2⟩
  have C4 : Hid (∀ w', CkE w g t b6 b7 x U w' -> Calls Tryz.prog 11 #[.pointer (some ⟨w.heap.size + 2, 0, none⟩)] w' fun e w'' => e = .returned (.bool true) /\ CkE w g t b6 b7 x U w'') := fun w' h => by
   obtain ⟨V, E, g1, c1, g2, c2, T2, h1, h2, h3, h4, h5, _⟩ := h.r.ex
   exact (gintactT _ V tyG E w' g1 c1 g2 c2 U T2 h1 h2 (by omega) (by omega) (by omega)).mono fun e w'' ⟨e1, e2⟩ => ⟨e1, h.later e2⟩
  have C6 : Hid (∀ w', CkE w g t b6 b7 x U w' -> Calls Tryz.prog 12 #[] w' fun e w'' => e = .returned (.bool true) /\ CkE w g t b6 b7 x U w'') := fun w' h => (works_W w').mono fun e w'' ⟨e1, e2⟩ => ⟨e1, h.later e2⟩
  obtain ⟨r, hr⟩ : ∃ r, runU g (ckT g (0, 0) false t) 0 = r := ⟨_, rfl⟩
  have C7 : Hid (∀ w', CkE w g t b6 b7 x U w' -> Calls Tryz.prog 8 #[g.val, t.val] w' fun e w'' => e = .returned (.tuple #[.int .i64 r.1, .int .i64 (r.2 : Int)]) /\ CkE w g t b6 b7 x U w'') := fun w' h => by
   have := check_S g t w' (GX'.out w' h).2.2.2.2.1 (GX'.out w' h).2.2.2.2.2 HGT.out.2.2
   rw [hr] at this
   exact this.mono fun e w'' ⟨e1, e2⟩ => ⟨e1, h.later e2⟩
  have HR0 : Hid (er = 0 -> prEr g er t = r.1) := fun z => by unfold prEr; rw [if_pos z, hr]
  have HR1 : Hid (er ≠ 0 -> prEr g er t = er /\ prTx g er t = ⟨#[]⟩) := fun z => by
   have : prEr g er t = er := by unfold prEr; rw [if_neg z]
   exact ⟨this, by unfold prTx; rw [this, if_neg z]⟩
  have HR2 : Hid (prEr g er t ≠ 0 -> prTx g er t = ⟨#[]⟩) := fun z => by unfold prTx; rw [if_neg z]
  have C8 : Hid (er = 0 -> r.1 = 0 -> ∀ w', CkE w g t b6 b7 x U w' -> Calls Tryz.prog 9 #[g.val, t.val] w' fun e w'' => e = .returned (.string (prTx g er t)) /\ CkE w g t b6 b7 x U w'') := fun z z1 w' h => by
   have hc : OkC g := OkC.of (by rw [hE]; exact z)
   have hrt : RT g t := rt_of (by rw [hr]; exact z1)
   have e1 : prTx g er t = ⟨(txT g t).toArray⟩ := by unfold prTx; rw [if_pos (by rw [HR0.out z]; exact z1)]
   rw [e1]
   exact (rprint_S g t w' (GX'.out w' h).2.2.2.2.1 (GX'.out w' h).2.2.2.2.2 hsz (plAll_of hc hrt) (noLk_of hrt) hc.ts hc.ns).mono fun e w'' ⟨e1, e2⟩ => ⟨e1, h.later e2⟩
  have C9 : Hid (∀ n w', Calls Tryz.prog 10 #[.int .i64 n] w' fun e w'' => e = .returned (.int .i64 n) /\ w'' = w') := fun n w' => num_8 n w'
  clear hE hEx hrs hEr hTx hr GX' HGT hpc hsz
  obtain ⟨r1, r2⟩ := r
  dsimp only at C7 C8 HR0
  generalize prTx g er t = S at *
  generalize prEr g er t = E at *
  obtain ⟨g0, g1, g2, g3, g4⟩ := gbx_cells H2.out.g6
  obtain ⟨c0, c1, c2, c3⟩ := tb_cells H2.out.t7
  go_upto_region 4 with (go_at_call 6; refine (C1.out _ H2.out).mono ?_; rintro e w3 ⟨rfl, h3⟩; have H3 : Hid (CkE w g t b6 b7 x U w3) := h3; clear h3 g0 g1 g2 g3 g4 c0 c1 c2 c3)
  clear H2 C1
  obtain ⟨g0, g1, g2, g3, g4⟩ := gbx_cells H3.out.s.gb
  go_upto_region 6 with (go_at_call 7; refine (C3.out _ H3.out).mono ?_; rintro e w4 ⟨rfl, h4⟩; have H4 : Hid (CkE w g t b6 b7 x U w4) := h4; clear h4 g0 g1 g2 g3 g4)
  clear H3 C3
  by_cases he : er = 0
  ·have hE0 := HR0.out he
   subst hE0
   subst he
   have C8' : Hid (E = 0 -> ∀ w', CkE w g t b6 b7 x U w' -> Calls Tryz.prog 9 #[g.val, t.val] w' fun e w'' => e = .returned (.string S) /\ CkE w g t b6 b7 x U w'') := C8.out rfl
   clear HR0 HR1 C8
   obtain ⟨g0, g1, g2, g3, g4⟩ := gbx_cells H4.out.s.gb
   obtain ⟨c0, c1, c2, c3⟩ := tb_cells H4.out.s.tb
   go_upto_region 8 with (go_at_call 8; refine (C7.out _ H4.out).mono ?_; rintro e w5 ⟨rfl, h5⟩; have H5 : Hid (CkE w g t b6 b7 x U w5) := h5; clear h5 g0 g1 g2 g3 g4 c0 c1 c2 c3)
   clear H4 C7
   by_cases hz : E = 0
   ·subst hz
    have CQ : Hid (∀ w', CkE w g t b6 b7 x U w' -> Calls Tryz.prog 9 #[g.val, t.val] w' fun e w'' => e = .returned (.string S) /\ CkE w g t b6 b7 x U w'') := C8'.out rfl
    clear C8' HR2
    obtain ⟨g0, g1, g2, g3, g4⟩ := gbx_cells H5.out.s.gb
    obtain ⟨c0, c1, c2, c3⟩ := tb_cells H5.out.s.tb
    go_upto_region 10 with (go_at_call 9; refine (CQ.out _ H5.out).mono ?_; rintro e w8 ⟨rfl, h8⟩; have H8 : Hid (CkE w g t b6 b7 x U w8) := h8; clear h8 g0 g1 g2 g3 g4 c0 c1 c2 c3)
    clear H5 CQ
    go_wp2_with (first
     | (go_at_call 10; refine (C9.out _ _).mono ?_; rintro e wB ⟨rfl, hB⟩; subst hB)
     | (go_at_call 11; refine (C4.out _ H8.out).mono ?_; clear C4; rintro e w6 ⟨rfl, h6⟩; have H6 : Hid (CkE w g t b6 b7 x U w6) := h6; clear h6)
     | (go_at_call 12; refine (C6.out _ H6.out).mono ?_; clear C6; rintro e w7 ⟨rfl, h7⟩; have H7 : Hid (Below w.heap.size w w7) := h7.s.bel; clear h7))
    go_ret
    exact ⟨rfl, H7.out⟩
   ·have hS := HR2.out hz
    subst hS
    have t1 : (E == 0) = false := by simpa using hz
    have t2 : (E == E) = true := by simp
    clear C8' HR2
    go_wp2_with (first
     | (go_at_call 10; refine (C9.out _ _).mono ?_; rintro e wB ⟨rfl, hB⟩; subst hB)
     | (go_at_call 11; refine (C4.out _ H5.out).mono ?_; clear C4; rintro e w6 ⟨rfl, h6⟩; have H6 : Hid (CkE w g t b6 b7 x U w6) := h6; clear h6)
     | (go_at_call 12; refine (C6.out _ H6.out).mono ?_; clear C6; rintro e w7 ⟨rfl, h7⟩; have H7 : Hid (Below w.heap.size w w7) := h7.s.bel; clear h7))
    go_ret
    exact ⟨rfl, H7.out⟩
  ·obtain ⟨q1, q2⟩ := HR1.out he
   subst q2
   have t1 : (er == 0) = false := by simpa using he
   have t2 : (er == er) = true := by simp
   clear HR0 HR2 C7 C8
   rw [q1]
   clear q1 HR1
   go_wp2_with (first
    | (go_at_call 10; refine (C9.out _ _).mono ?_; rintro e wB ⟨rfl, hB⟩; subst hB)
    | (go_at_call 11; refine (C4.out _ H4.out).mono ?_; clear C4; rintro e w6 ⟨rfl, h6⟩; have H6 : Hid (CkE w g t b6 b7 x U w6) := h6; clear h6)
    | (go_at_call 12; refine (C6.out _ H6.out).mono ?_; clear C6; rintro e w7 ⟨rfl, h7⟩; have H7 : Hid (Below w.heap.size w w7) := h7.s.bel; clear h7))
   go_ret
   exact ⟨rfl, H7.out⟩
end Go.Proofs.YtndbdliaidbocaaGreat
