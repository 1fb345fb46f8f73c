import Derived.Test.YteciabdjkaackaaGreatPTG3ToTG4
namespace Go.Proofs.YteciabdjkaackaaGreat
set_option linter.unusedVariables false
open Go.RowKit
theorem step_callXM {P : Program} {ops : Array Oper} {Q : Exit -> Act -> World -> Prop} {o : Oper} {a : Act} {w : World} {K : Act -> World -> Prop} {E : Prop} (hw : Region.wanted o (yielded ops a.tmps) = true) (f : FuncId) (args : Array Value) (R : Ending -> World -> Prop)
  (hrun : (execOp a.eval o).run P w = .ok (.enter f args) w) (hC : Calls P f args w R) (hK : ∀ e w', R e w' -> ∃ v, e = .returned v /\ K (a.put o.dst v) w') :
  if Region.wanted o (yielded ops a.tmps) = true then Oper.wp P o a w K Q else E := by
 rw [if_pos hw]
 show o.upon P a K Q ((execOp a.eval o).run P w)
 rw [hrun, Oper.upon_enter]
 refine hC.mono fun e w' hR => ?_
 obtain ⟨v, rfl, hk⟩ := hK e w' hR
 exact hk
theorem run_cM0 {o : Oper} {a : Act} (f : FuncId) (hE : EntW f) (hop : o.op = Op.call { callee := Callee.value (Operand.func f), args := #[], argTypes := #[] }) (w : World) : (execOp a.eval o).run Tryz.prog w = .ok (.enter f #[]) w := by
 have hf : a.eval (Operand.func f) = .func (.func f) #[] #[] := rfl
 simp [execOp, hop, resolve, invoke, hf, Deferred.ofValue]
 exact hE _ _
theorem run_cM1 {o : Oper} {a : Act} (f : FuncId) (hE : EntW f) {t0 : TypeId} {v0 : Value} {x0 : Operand} (hop : o.op = Op.call { callee := Callee.value (Operand.func f), args := #[x0], argTypes := #[t0] }) (h0 : a.eval x0 = v0) (w : World) : (execOp a.eval o).run Tryz.prog w = .ok (.enter f #[v0]) w := by
 have hf : a.eval (Operand.func f) = .func (.func f) #[] #[] := rfl
 simp [execOp, hop, resolve, invoke, h0, hf, Deferred.ofValue]
 exact hE _ _
theorem run_cM2 {o : Oper} {a : Act} (f : FuncId) (hE : EntW f) {t0 t1 : TypeId} {v0 v1 : Value} {x0 x1 : Operand} (hop : o.op = Op.call { callee := Callee.value (Operand.func f), args := #[x0, x1], argTypes := #[t0, t1] }) (h0 : a.eval x0 = v0) (h1 : a.eval x1 = v1) (w : World) : (execOp a.eval o).run Tryz.prog w = .ok (.enter f #[v0, v1]) w := by
 have hf : a.eval (Operand.func f) = .func (.func f) #[] #[] := rfl
 simp [execOp, hop, resolve, invoke, h0, h1, hf, Deferred.ofValue]
 exact hE _ _
set_option linter.unusedSimpArgs false in
set_option maxRecDepth 100000 in
set_option maxHeartbeats 8000000 in
theorem measures_walk (t s : TV) (place : Int) (w : World) (hpl : -9223372036854775808 <= place /\ place <= 9223372036854775807) (ht : TAt w t) (hs : TAt w s) (hsz : (plT 0 t).length <= 1048576) (hss : (plT 0 s).length <= 1048576) : Calls Tryz.prog 3 #[t.val, .int .i64 place, s.val] w fun e w' => e = .returned (.bool true) /\ Below w.heap.size w w' := by
 have S0 : Hid (MsB w t s (((w.alloc (tBox t)).alloc (tBox s)).alloc gvBoxM)) := msb_start t s w ht hs
 have HT : Hid (TAt w t /\ TAt w s /\ szT t <= 1048576 /\ szT s <= 1048576 /\ -9223372036854775808 <= place /\ place <= 9223372036854775807) := ⟨ht, hs, hsz, hss, hpl⟩
 clear hpl ht hs hsz hss
 go_enter Tryz.func3, Tryz.ntmps3
 go_upto_region 2 with fail
 refine wp_world (fun w' => MsB w t s w') S0.out fun w1 h1 => ?_
 have H1 : Hid (MsB w t s w1) := h1
 clear h1 S0
 obtain ⟨c0, c1, c2, c3⟩ := tb_cells (H1.out.env.get (k := w.heap.size) (t := t) (by simp)).1
 go_upto_region 3 with (go_at_call 5; refine (H1.out.call HT.out.1 (by have := HT.out.2.2.1; omega)).mono ?_; rintro e w2 ⟨U, rfl, s2, h2⟩; have H2 : Hid (samV t U /\ MsA w t s w2.heap.size U (w2.alloc (tBox U))) := ⟨s2, h2⟩; clear s2 h2 c0 c1 c2 c3)
 clear H1
 generalize w2.alloc (tBox U) = W2 at *
 generalize w2.heap.size = b8 at *
 obtain ⟨c0, c1, c2, c3⟩ := tb_cells H2.out.2.bs
 go_upto_region 4 with (go_at_call 5; refine (H2.out.2.call HT.out.1 HT.out.2.1 (by have := HT.out.2.2.2.1; omega)).mono ?_; rintro e w3 ⟨V, rfl, s3, h3⟩; have H3 : Hid (samV s V /\ MsS w (w.heap.size + 2) [(w3.heap.size, V), (b8, U), (w.heap.size, t), (w.heap.size + 1, s)] [U, V] (w3.alloc (tBox V))) := ⟨s3, h3⟩; clear s3 h3 c0 c1 c2 c3)
 generalize w3.alloc (tBox V) = W3 at *
 generalize w3.heap.size = b9 at *
 have SU : Hid (samV t U) := H2.out.1
 have SV : Hid (samV s V) := H3.out.1
 have HS : Hid (MsS w (w.heap.size + 2) [(b9, V), (b8, U), (w.heap.size, t), (w.heap.size + 1, s)] [U, V] W3) := H3.out.2
 clear H2 H3
 obtain ⟨m1, m2, m3, CM, CN⟩ : ∃ m1 m2 m3 : Int, Hid (∀ w, TAt w U -> Calls Tryz.prog 6 #[U.val] w fun e w' => e = .returned (.tuple #[.int .i64 m1, .int .i64 m2, .int .i64 m3]) /\ Below w.heap.size w w') /\ Hid (∀ w, TAt w t -> Calls Tryz.prog 7 #[t.val] w fun e w' => e = .returned (.tuple #[.int .i64 m1, .int .i64 m2, .int .i64 m3]) /\ Below w.heap.size w w') := ⟨_, _, _, fun w h => meas_P SU.out w h (by have := HT.out.2.2.1; omega), fun w h => measure_S t w h HT.out.2.2.1⟩
 obtain ⟨e1, A0, zA, CA, CB⟩ := at_both SU.out place HT.out.2.2.2.2 (by have := HT.out.2.2.1; omega)
 obtain ⟨e2, G0, zG, CG, CH⟩ := graft_both SU.out SV.out place HT.out.2.2.2.2 (by have := HT.out.2.2.1; omega) (by have := HT.out.2.2.2.1; omega)
 have CA' : Hid _ := CA
 have CB' : Hid _ := CB
 have CG' : Hid _ := CG
 have CH' : Hid _ := CH
 have ZZ : Hid (szT A0 <= 100000000 /\ szT G0 <= 100000000) := ⟨zA, zG⟩
 clear CA CB CG CH zA zG
 obtain ⟨c0, c1, c2, c3⟩ := tb_cells (HS.out.env.get (k := b8) (t := U) (by simp)).1
 go_upto_region 5 with (go_at_call 6; refine (CM.out _ (HS.out.env.get (k := b8) (t := U) (by simp)).2).mono ?_; rintro e w4 ⟨rfl, g4⟩; have H4 : Hid (MsS w (w.heap.size + 2) [(b9, V), (b8, U), (w.heap.size, t), (w.heap.size + 1, s)] [U, V] w4) := HS.out.later g4; clear g4 c0 c1 c2 c3)
 clear HS CM
 obtain ⟨c0, c1, c2, c3⟩ := tb_cells (H4.out.env.get (k := w.heap.size) (t := t) (by simp)).1
 go_upto_region 6 with (go_at_call 7; refine (CN.out _ (H4.out.env.get (k := w.heap.size) (t := t) (by simp)).2).mono ?_; rintro e w5 ⟨rfl, g5⟩; have H5 : Hid (MsS w (w.heap.size + 2) [(b9, V), (b8, U), (w.heap.size, t), (w.heap.size + 1, s)] [U, V] w5) := H4.out.later g5; clear g5 c0 c1 c2 c3)
 clear H4 CN
 obtain ⟨c0, c1, c2, c3⟩ := tb_cells (H5.out.env.get (k := b8) (t := U) (by simp)).1
 go_upto_region 7 with (go_at_call 8; refine (CA'.out _ (H5.out.env.get (k := b8) (t := U) (by simp)).2).mono ?_; rintro e w6 ⟨P, rfl, sm, tp, g⟩; have K6 : Hid (samV A0 P /\ MsS w (w.heap.size + 2) [(w6.heap.size, P), (b9, V), (b8, U), (w.heap.size, t), (w.heap.size + 1, s)] [U, V] (w6.alloc (tBox P))) := ⟨sm, (H5.out.later g).add tp⟩; clear sm tp g c0 c1 c2 c3)
 clear H5 CA'
 generalize w6.alloc (tBox P) = W6 at *
 generalize w6.heap.size = b16 at *
 have SP : Hid (samV A0 P) := K6.out.1
 have H6 : Hid (MsS w (w.heap.size + 2) [(b16, P), (b9, V), (b8, U), (w.heap.size, t), (w.heap.size + 1, s)] [U, V] W6) := K6.out.2
 clear K6
 obtain ⟨c0, c1, c2, c3⟩ := tb_cells (H6.out.env.get (k := w.heap.size) (t := t) (by simp)).1
 go_upto_region 8 with (go_at_call 9; refine (CB'.out _ (H6.out.env.get (k := w.heap.size) (t := t) (by simp)).2).mono ?_; rintro e w7 ⟨Q, rfl, sm, tp, g⟩; have K7 : Hid (samV A0 Q /\ MsS w (w.heap.size + 2) [(w7.heap.size, Q), (b16, P), (b9, V), (b8, U), (w.heap.size, t), (w.heap.size + 1, s)] [U, V] (w7.alloc (tBox Q))) := ⟨sm, (H6.out.later g).add tp⟩; clear sm tp g c0 c1 c2 c3)
 clear H6 CB'
 generalize w7.alloc (tBox Q) = W7 at *
 generalize w7.heap.size = b18 at *
 have SQ : Hid (samV A0 Q) := K7.out.1
 have H7 : Hid (MsS w (w.heap.size + 2) [(b18, Q), (b16, P), (b9, V), (b8, U), (w.heap.size, t), (w.heap.size + 1, s)] [U, V] W7) := K7.out.2
 clear K7
 obtain ⟨c0, c1, c2, c3⟩ := tb_cells (H7.out.env.get (k := b8) (t := U) (by simp)).1
 obtain ⟨d0, d1, d2, d3⟩ := tb_cells (H7.out.env.get (k := b9) (t := V) (by simp)).1
 go_upto_region 9 with (go_at_call 10; refine (CG'.out _ (H7.out.env.get (k := b8) (t := U) (by simp)).2 (H7.out.env.get (k := b9) (t := V) (by simp)).2).mono ?_; rintro e w8 ⟨I, rfl, sm, tp, g⟩; have K8 : Hid (samV G0 I /\ MsS w (w.heap.size + 2) [(w8.heap.size, I), (b18, Q), (b16, P), (b9, V), (b8, U), (w.heap.size, t), (w.heap.size + 1, s)] [U, V] (w8.alloc (tBox I))) := ⟨sm, (H7.out.later g).add tp⟩; clear sm tp g c0 c1 c2 c3 d0 d1 d2 d3)
 clear H7 CG'
 generalize w8.alloc (tBox I) = W8 at *
 generalize w8.heap.size = b20 at *
 have SI : Hid (samV G0 I) := K8.out.1
 have H8 : Hid (MsS w (w.heap.size + 2) [(b20, I), (b18, Q), (b16, P), (b9, V), (b8, U), (w.heap.size, t), (w.heap.size + 1, s)] [U, V] W8) := K8.out.2
 clear K8
 obtain ⟨c0, c1, c2, c3⟩ := tb_cells (H8.out.env.get (k := w.heap.size) (t := t) (by simp)).1
 obtain ⟨d0, d1, d2, d3⟩ := tb_cells (H8.out.env.get (k := w.heap.size + 1) (t := s) (by simp)).1
 go_upto_region 10 with (go_at_call 11; refine (CH'.out _ (H8.out.env.get (k := w.heap.size) (t := t) (by simp)).2 (H8.out.env.get (k := w.heap.size + 1) (t := s) (by simp)).2).mono ?_; rintro e w9 ⟨K, rfl, sm, tp, g⟩; have K9 : Hid (samV G0 K /\ MsS w (w.heap.size + 2) [(w9.heap.size, K), (b20, I), (b18, Q), (b16, P), (b9, V), (b8, U), (w.heap.size, t), (w.heap.size + 1, s)] [U, V] (w9.alloc (tBox K))) := ⟨sm, (H8.out.later g).add tp⟩; clear sm tp g c0 c1 c2 c3 d0 d1 d2 d3)
 clear H8 CH'
 generalize w9.alloc (tBox K) = W9 at *
 generalize w9.heap.size = b22 at *
 have SK : Hid (samV G0 K) := K9.out.1
 have H9 : Hid (MsS w (w.heap.size + 2) [(b22, K), (b20, I), (b18, Q), (b16, P), (b9, V), (b8, U), (w.heap.size, t), (w.heap.size + 1, s)] [U, V] W9) := K9.out.2
 clear K9
 have t1 : (m1 != m1) = false := by simp
 have t2 : (m2 != m2) = false := by simp
 have t3 : (m3 != m3) = false := by simp
 have t4 : (e1 != e1) = false := by simp
 have t5 : (e2 != e2) = false := by simp
 have CT : Hid (∀ w', MsS w (w.heap.size + 2) [(b22, K), (b20, I), (b18, Q), (b16, P), (b9, V), (b8, U), (w.heap.size, t), (w.heap.size + 1, s)] [U, V] w' -> Calls Tryz.prog 13 #[P.val, Q.val] w' fun e w'' => e = .returned (.bool true) /\ MsS w (w.heap.size + 2) [(b22, K), (b20, I), (b18, Q), (b16, P), (b9, V), (b8, U), (w.heap.size, t), (w.heap.size + 1, s)] [U, V] w'') := fun w' h => (sameTree_W P Q w' (h.env.get (k := b16) (t := P) (by simp)).2 (h.env.get (k := b18) (t := Q) (by simp)).2 (samV_trans _ _ _ (samV_symm _ _ SP.out) SQ.out) (by rw [<- samV_size _ _ SP.out]; exact ZZ.out.1)).mono fun e w'' ⟨e1, e2⟩ => ⟨e1, h.later e2⟩
 have CU : Hid (∀ w', MsS w (w.heap.size + 2) [(b22, K), (b20, I), (b18, Q), (b16, P), (b9, V), (b8, U), (w.heap.size, t), (w.heap.size + 1, s)] [U, V] w' -> Calls Tryz.prog 13 #[I.val, K.val] w' fun e w'' => e = .returned (.bool true) /\ MsS w (w.heap.size + 2) [(b22, K), (b20, I), (b18, Q), (b16, P), (b9, V), (b8, U), (w.heap.size, t), (w.heap.size + 1, s)] [U, V] w'') := fun w' h => (sameTree_W I K w' (h.env.get (k := b20) (t := I) (by simp)).2 (h.env.get (k := b22) (t := K) (by simp)).2 (samV_trans _ _ _ (samV_symm _ _ SI.out) SK.out) (by rw [<- samV_size _ _ SI.out]; exact ZZ.out.2)).mono fun e w'' ⟨e1, e2⟩ => ⟨e1, h.later e2⟩
 obtain ⟨c0, c1, c2, c3⟩ := tb_cells (H9.out.env.get (k := b16) (t := P) (by simp)).1
 obtain ⟨d0, d1, d2, d3⟩ := tb_cells (H9.out.env.get (k := b18) (t := Q) (by simp)).1
 go_upto_region 12 with (first | (go_at_call 12; refine (num_M _ _).mono ?_; rintro e wB ⟨rfl, hB⟩; subst hB) | (go_at_call 13; refine (CT.out _ H9.out).mono ?_; clear CT; rintro e wA ⟨rfl, hA⟩; have HA : Hid (MsS w (w.heap.size + 2) [(b22, K), (b20, I), (b18, Q), (b16, P), (b9, V), (b8, U), (w.heap.size, t), (w.heap.size + 1, s)] [U, V] wA) := hA; clear hA c0 c1 c2 c3 d0 d1 d2 d3; obtain ⟨c0, c1, c2, c3⟩ := tb_cells (HA.out.env.get (k := b20) (t := I) (by simp)).1; obtain ⟨d0, d1, d2, d3⟩ := tb_cells (HA.out.env.get (k := b22) (t := K) (by simp)).1) | (go_at_call 13; refine (CU.out _ HA.out).mono ?_; clear CU; rintro e wC ⟨rfl, hC⟩; have HC : Hid (MsS w (w.heap.size + 2) [(b22, K), (b20, I), (b18, Q), (b16, P), (b9, V), (b8, U), (w.heap.size, t), (w.heap.size + 1, s)] [U, V] wC) := hC; clear hC c0 c1 c2 c3 d0 d1 d2 d3))
 clear H9 HA
 obtain ⟨wd, hwd⟩ : ∃ wd : World, wd = wC.drew := ⟨_, rfl⟩
 have HD : Hid (MsS w (w.heap.size + 2) [(b22, K), (b20, I), (b18, Q), (b16, P), (b9, V), (b8, U), (w.heap.size, t), (w.heap.size + 1, s)] [U, V] wd) := by rw [hwd]; exact HC.out.later (Below.refl _ _).drew
 obtain ⟨β, BS, BT⟩ := same_both SU.out SV.out (by have := HT.out.2.2.1; omega) (by have := HT.out.2.2.2.1; omega)
 have BS' : Hid _ := BS
 have BT' : Hid _ := BT
 have zU : Hid (szT U <= 100000000) := by show _ <= _; rw [<- samV_size _ _ SU.out]; have := HT.out.2.2.1; omega
 have tb : (β == β) = true := by cases β <;> rfl
 have NL : Hid ((nodP (preT t)).length <= 100000000 /\ (nodP (posT t)).length <= 100000000 /\ ((leafT (preT t)).map tkV).length <= 100000000) := by have h := nodP_lenM t; have := HT.out.2.2.1; exact ⟨by omega, by omega, by omega⟩
 have ZT : Hid (szT t <= 100000000) := by show _ <= _; have := HT.out.2.2.1; omega
 clear BS BT HC SP SQ SI SK ZZ t1 t2 t3 t4 t5
 refine wp_region_x (S := fun _ => (fun w' => MsS w (w.heap.size + 2) [(b22, K), (b20, I), (b18, Q), (b16, P), (b9, V), (b8, U), (w.heap.size, t), (w.heap.size + 1, s)] [U, V] w')) (by kernel_rfl) ?_
 rw [<- hwd]
 clear hwd
 refine wpAnyX_takeSM (i := 0) (v := ?_) rfl (by kernel_rfl) (by decide +kernel) (by decide +kernel) (fun _ _ _ h => h) (Or.inl ⟨by rfl, ?_⟩) (HD.out) ?_
 rotate_left
 ·(intro wq hSw; obtain ⟨c0, c1, c2, c3⟩ := tb_cells (hSw.env.get (k := b8) (t := U) (by simp)).1; clear hSw; go_simp; try (with_reducible rfl))
 (try simp only [Act.put, List.setIfInBounds_toArray, List.set_cons_zero, List.set_cons_succ])
 refine wpAnyX_takeSM (i := 2) (v := ?_) rfl (by kernel_rfl) (by decide +kernel) (by decide +kernel) (fun _ _ _ h => h) (Or.inl ⟨by rfl, ?_⟩) (HD.out) ?_
 rotate_left
 ·(intro wq hSw; obtain ⟨c0, c1, c2, c3⟩ := tb_cells (hSw.env.get (k := w.heap.size) (t := t) (by simp)).1; clear hSw; go_simp; try (with_reducible rfl))
 (try simp only [Act.put, List.setIfInBounds_toArray, List.set_cons_zero, List.set_cons_succ])
 refine wpAnyX_one (j := 1) (by decide +kernel) rfl (fun K' hK => ?_)
 refine step_callXM (by rfl) 15 #[U.val] _ (run_cM1 15 (fun _ _ => by simp) (v0 := U.val) rfl rfl _) (yield_P SU.out _ (HD.out.env.get (k := b8) (t := U) (by simp)).2 ZT.out) ?_
 rintro e wx1 ⟨v1, rfl, tv, bx⟩
 refine ⟨_, rfl, ?_⟩
 have X1 : Hid (MsS w (w.heap.size + 2) [(b22, K), (b20, I), (b18, Q), (b16, P), (b9, V), (b8, U), (w.heap.size, t), (w.heap.size + 1, s)] [U, V] wx1) := HD.out.later bx
 have Y1 : Hid (TkS ((leafT (preT t)).map tkV) v1 wx1) := tv
 refine hK.out _ _ X1.out ?_
 clear hK K' bx tv HD
 (try simp only [Act.put, List.setIfInBounds_toArray, List.set_cons_zero, List.set_cons_succ])
 refine wpAnyX_one (j := 3) (by decide +kernel) rfl (fun K' hK => ?_)
 refine step_callXM (by rfl) 16 #[t.val] _ (run_cM1 16 (fun _ _ => by simp) (v0 := t.val) rfl rfl _) (yield_R t _ (X1.out.env.get (k := w.heap.size) (t := t) (by simp)).2 ZT.out) ?_
 rintro e wx2 ⟨v2, rfl, tv, bx⟩
 refine ⟨_, rfl, ?_⟩
 have X2 : Hid (MsS w (w.heap.size + 2) [(b22, K), (b20, I), (b18, Q), (b16, P), (b9, V), (b8, U), (w.heap.size, t), (w.heap.size + 1, s)] [U, V] wx2) := X1.out.later bx
 have Y2 : Hid (TkS ((leafT (preT t)).map tkV) v1 wx2 /\ TkS ((leafT (preT t)).map tkV) v2 wx2) := ⟨Y1.out.later bx, tv⟩
 refine hK.out _ _ X2.out ?_
 clear hK K' bx tv X1 Y1
 (try simp only [Act.put, List.setIfInBounds_toArray, List.set_cons_zero, List.set_cons_succ])
 refine wpAnyX_one (j := 4) (by decide +kernel) rfl (fun K' hK => ?_)
 refine step_callXM (by rfl) 14 #[v1, v2] _ (run_cM2 14 (fun _ _ => by simp) (v0 := v1) (v1 := v2) rfl rfl rfl _) (samtoks_V _ v1 v2 _ NL.out.2.2 Y2.out.1 Y2.out.2) ?_
 rintro e wx3 ⟨rfl, bx⟩
 refine ⟨_, rfl, ?_⟩
 have X3 : Hid (MsS w (w.heap.size + 2) [(b22, K), (b20, I), (b18, Q), (b16, P), (b9, V), (b8, U), (w.heap.size, t), (w.heap.size + 1, s)] [U, V] wx3) := X2.out.later bx
 refine hK.out _ _ X3.out ?_
 clear hK K' bx X2
 (try simp only [Act.put, List.setIfInBounds_toArray, List.set_cons_zero, List.set_cons_succ])
 refine wpAnyX_takeSM (i := 5) (v := ?_) rfl (by kernel_rfl) (by decide +kernel) (by decide +kernel) (fun _ _ _ h => h) (Or.inl ⟨by rfl, ?_⟩) (X3.out) ?_
 rotate_left
 ·(intro wq hSw; clear hSw; go_simp; try (with_reducible rfl))
 (try simp only [Act.put, List.setIfInBounds_toArray, List.set_cons_zero, List.set_cons_succ])
 refine wpAnyX_takeSM (i := 6) (v := ?_) rfl (by kernel_rfl) (by decide +kernel) (by decide +kernel) (fun _ _ _ h => h) (Or.inl ⟨by rfl, ?_⟩) (X3.out) ?_
 rotate_left
 ·(intro wq hSw; obtain ⟨c0, c1, c2, c3⟩ := tb_cells (hSw.env.get (k := b8) (t := U) (by simp)).1; clear hSw; go_simp; try (with_reducible rfl))
 (try simp only [Act.put, List.setIfInBounds_toArray, List.set_cons_zero, List.set_cons_succ])
 refine wpAnyX_takeSM (i := 8) (v := ?_) rfl (by kernel_rfl) (by decide +kernel) (by decide +kernel) (fun _ _ _ h => h) (Or.inl ⟨by rfl, ?_⟩) (X3.out) ?_
 rotate_left
 ·(intro wq hSw; obtain ⟨c0, c1, c2, c3⟩ := tb_cells (hSw.env.get (k := w.heap.size) (t := t) (by simp)).1; clear hSw; go_simp; try (with_reducible rfl))
 (try simp only [Act.put, List.setIfInBounds_toArray, List.set_cons_zero, List.set_cons_succ])
 refine wpAnyX_one (j := 7) (by decide +kernel) rfl (fun K' hK => ?_)
 refine step_callXM (by rfl) 18 #[U.val] _ (run_cM1 18 (fun _ _ => by simp) (v0 := U.val) rfl rfl _) (left_P SU.out _ (X3.out.env.get (k := b8) (t := U) (by simp)).2 ZT.out) ?_
 rintro e wx4 ⟨v1, rfl, tv, bx⟩
 refine ⟨_, rfl, ?_⟩
 have X4 : Hid (MsS w (w.heap.size + 2) [(b22, K), (b20, I), (b18, Q), (b16, P), (b9, V), (b8, U), (w.heap.size, t), (w.heap.size + 1, s)] [U, V] wx4) := X3.out.later bx
 have Y4 : Hid (InS (nodP (preT t)) v1 wx4) := tv
 refine hK.out _ _ X4.out ?_
 clear hK K' bx tv X3
 (try simp only [Act.put, List.setIfInBounds_toArray, List.set_cons_zero, List.set_cons_succ])
 refine wpAnyX_one (j := 9) (by decide +kernel) rfl (fun K' hK => ?_)
 refine step_callXM (by rfl) 19 #[t.val] _ (run_cM1 19 (fun _ _ => by simp) (v0 := t.val) rfl rfl _) (left_R t _ (X4.out.env.get (k := w.heap.size) (t := t) (by simp)).2 ZT.out) ?_
 rintro e wx5 ⟨v2, rfl, tv, bx⟩
 refine ⟨_, rfl, ?_⟩
 have X5 : Hid (MsS w (w.heap.size + 2) [(b22, K), (b20, I), (b18, Q), (b16, P), (b9, V), (b8, U), (w.heap.size, t), (w.heap.size + 1, s)] [U, V] wx5) := X4.out.later bx
 have Y5 : Hid (InS (nodP (preT t)) v1 wx5 /\ InS (nodP (preT t)) v2 wx5) := ⟨Y4.out.later bx, tv⟩
 refine hK.out _ _ X5.out ?_
 clear hK K' bx tv X4 Y4
 (try simp only [Act.put, List.setIfInBounds_toArray, List.set_cons_zero, List.set_cons_succ])
 refine wpAnyX_one (j := 10) (by decide +kernel) rfl (fun K' hK => ?_)
 refine step_callXM (by rfl) 17 #[v1, v2] _ (run_cM2 17 (fun _ _ => by simp) (v0 := v1) (v1 := v2) rfl rfl rfl _) (samints_V _ v1 v2 _ NL.out.1 Y5.out.1 Y5.out.2) ?_
 rintro e wx6 ⟨rfl, bx⟩
 refine ⟨_, rfl, ?_⟩
 have X6 : Hid (MsS w (w.heap.size + 2) [(b22, K), (b20, I), (b18, Q), (b16, P), (b9, V), (b8, U), (w.heap.size, t), (w.heap.size + 1, s)] [U, V] wx6) := X5.out.later bx
 refine hK.out _ _ X6.out ?_
 clear hK K' bx X5
 (try simp only [Act.put, List.setIfInBounds_toArray, List.set_cons_zero, List.set_cons_succ])
 refine wpAnyX_takeSM (i := 11) (v := ?_) rfl (by kernel_rfl) (by decide +kernel) (by decide +kernel) (fun _ _ _ h => h) (Or.inl ⟨by rfl, ?_⟩) (X6.out) ?_
 rotate_left
 ·(intro wq hSw; clear hSw; go_simp; try (with_reducible rfl))
 (try simp only [Act.put, List.setIfInBounds_toArray, List.set_cons_zero, List.set_cons_succ])
 refine wpAnyX_takeSM (i := 12) (v := ?_) rfl (by kernel_rfl) (by decide +kernel) (by decide +kernel) (fun _ _ _ h => h) (Or.inl ⟨by rfl, ?_⟩) (X6.out) ?_
 rotate_left
 ·(intro wq hSw; clear hSw; go_simp; try (with_reducible rfl))
 (try simp only [Act.put, List.setIfInBounds_toArray, List.set_cons_zero, List.set_cons_succ])
 refine wpAnyX_takeSM (i := 13) (v := ?_) rfl (by kernel_rfl) (by decide +kernel) (by decide +kernel) (fun _ _ _ h => h) (Or.inl ⟨by rfl, ?_⟩) (X6.out) ?_
 rotate_left
 ·(intro wq hSw; obtain ⟨c0, c1, c2, c3⟩ := tb_cells (hSw.env.get (k := b8) (t := U) (by simp)).1; clear hSw; go_simp; try (with_reducible rfl))
 (try simp only [Act.put, List.setIfInBounds_toArray, List.set_cons_zero, List.set_cons_succ])
 refine wpAnyX_takeSM (i := 15) (v := ?_) rfl (by kernel_rfl) (by decide +kernel) (by decide +kernel) (fun _ _ _ h => h) (Or.inl ⟨by rfl, ?_⟩) (X6.out) ?_
 rotate_left
 ·(intro wq hSw; obtain ⟨c0, c1, c2, c3⟩ := tb_cells (hSw.env.get (k := w.heap.size) (t := t) (by simp)).1; clear hSw; go_simp; try (with_reducible rfl))
 (try simp only [Act.put, List.setIfInBounds_toArray, List.set_cons_zero, List.set_cons_succ])
 refine wpAnyX_one (j := 14) (by decide +kernel) rfl (fun K' hK => ?_)
 refine step_callXM (by rfl) 20 #[U.val] _ (run_cM1 20 (fun _ _ => by simp) (v0 := U.val) rfl rfl _) (right_P SU.out _ (X6.out.env.get (k := b8) (t := U) (by simp)).2 ZT.out) ?_
 rintro e wx7 ⟨v1, rfl, tv, bx⟩
 refine ⟨_, rfl, ?_⟩
 have X7 : Hid (MsS w (w.heap.size + 2) [(b22, K), (b20, I), (b18, Q), (b16, P), (b9, V), (b8, U), (w.heap.size, t), (w.heap.size + 1, s)] [U, V] wx7) := X6.out.later bx
 have Y7 : Hid (InS (nodP (posT t)) v1 wx7) := tv
 refine hK.out _ _ X7.out ?_
 clear hK K' bx tv X6
 (try simp only [Act.put, List.setIfInBounds_toArray, List.set_cons_zero, List.set_cons_succ])
 refine wpAnyX_one (j := 16) (by decide +kernel) rfl (fun K' hK => ?_)
 refine step_callXM (by rfl) 21 #[t.val] _ (run_cM1 21 (fun _ _ => by simp) (v0 := t.val) rfl rfl _) (right_R t _ (X7.out.env.get (k := w.heap.size) (t := t) (by simp)).2 ZT.out) ?_
 rintro e wx8 ⟨v2, rfl, tv, bx⟩
 refine ⟨_, rfl, ?_⟩
 have X8 : Hid (MsS w (w.heap.size + 2) [(b22, K), (b20, I), (b18, Q), (b16, P), (b9, V), (b8, U), (w.heap.size, t), (w.heap.size + 1, s)] [U, V] wx8) := X7.out.later bx
 have Y8 : Hid (InS (nodP (posT t)) v1 wx8 /\ InS (nodP (posT t)) v2 wx8) := ⟨Y7.out.later bx, tv⟩
 refine hK.out _ _ X8.out ?_
 clear hK K' bx tv X7 Y7
 (try simp only [Act.put, List.setIfInBounds_toArray, List.set_cons_zero, List.set_cons_succ])
 refine wpAnyX_one (j := 17) (by decide +kernel) rfl (fun K' hK => ?_)
 refine step_callXM (by rfl) 17 #[v1, v2] _ (run_cM2 17 (fun _ _ => by simp) (v0 := v1) (v1 := v2) rfl rfl rfl _) (samints_V _ v1 v2 _ NL.out.2.1 Y8.out.1 Y8.out.2) ?_
 rintro e wx9 ⟨rfl, bx⟩
 refine ⟨_, rfl, ?_⟩
 have X9 : Hid (MsS w (w.heap.size + 2) [(b22, K), (b20, I), (b18, Q), (b16, P), (b9, V), (b8, U), (w.heap.size, t), (w.heap.size + 1, s)] [U, V] wx9) := X8.out.later bx
 refine hK.out _ _ X9.out ?_
 clear hK K' bx X8
 (try simp only [Act.put, List.setIfInBounds_toArray, List.set_cons_zero, List.set_cons_succ])
 refine wpAnyX_takeSM (i := 18) (v := ?_) rfl (by kernel_rfl) (by decide +kernel) (by decide +kernel) (fun _ _ _ h => h) (Or.inl ⟨by rfl, ?_⟩) (X9.out) ?_
 rotate_left
 ·(intro wq hSw; clear hSw; go_simp; try (with_reducible rfl))
 (try simp only [Act.put, List.setIfInBounds_toArray, List.set_cons_zero, List.set_cons_succ])
 refine wpAnyX_takeSM (i := 19) (v := ?_) rfl (by kernel_rfl) (by decide +kernel) (by decide +kernel) (fun _ _ _ h => h) (Or.inl ⟨by rfl, ?_⟩) (X9.out) ?_
 rotate_left
 ·(intro wq hSw; clear hSw; go_simp; try (with_reducible rfl))
 (try simp only [Act.put, List.setIfInBounds_toArray, List.set_cons_zero, List.set_cons_succ])
 refine wpAnyX_takeSM (i := 20) (v := ?_) rfl (by kernel_rfl) (by decide +kernel) (by decide +kernel) (fun _ _ _ h => h) (Or.inl ⟨by rfl, ?_⟩) (X9.out) ?_
 rotate_left
 ·(intro wq hSw; obtain ⟨c0, c1, c2, c3⟩ := tb_cells (hSw.env.get (k := b8) (t := U) (by simp)).1; clear hSw; go_simp; try (with_reducible rfl))
 (try simp only [Act.put, List.setIfInBounds_toArray, List.set_cons_zero, List.set_cons_succ])
 refine wpAnyX_takeSM (i := 21) (v := ?_) rfl (by kernel_rfl) (by decide +kernel) (by decide +kernel) (fun _ _ _ h => h) (Or.inl ⟨by rfl, ?_⟩) (X9.out) ?_
 rotate_left
 ·(intro wq hSw; obtain ⟨c0, c1, c2, c3⟩ := tb_cells (hSw.env.get (k := b9) (t := V) (by simp)).1; clear hSw; go_simp; try (with_reducible rfl))
 (try simp only [Act.put, List.setIfInBounds_toArray, List.set_cons_zero, List.set_cons_succ])
 refine wpAnyX_takeSM (i := 23) (v := ?_) rfl (by kernel_rfl) (by decide +kernel) (by decide +kernel) (fun _ _ _ h => h) (Or.inl ⟨by rfl, ?_⟩) (X9.out) ?_
 rotate_left
 ·(intro wq hSw; obtain ⟨c0, c1, c2, c3⟩ := tb_cells (hSw.env.get (k := w.heap.size) (t := t) (by simp)).1; clear hSw; go_simp; try (with_reducible rfl))
 (try simp only [Act.put, List.setIfInBounds_toArray, List.set_cons_zero, List.set_cons_succ])
 refine wpAnyX_takeSM (i := 24) (v := ?_) rfl (by kernel_rfl) (by decide +kernel) (by decide +kernel) (fun _ _ _ h => h) (Or.inl ⟨by rfl, ?_⟩) (X9.out) ?_
 rotate_left
 ·(intro wq hSw; obtain ⟨c0, c1, c2, c3⟩ := tb_cells (hSw.env.get (k := w.heap.size + 1) (t := s) (by simp)).1; clear hSw; go_simp; try (with_reducible rfl))
 (try simp only [Act.put, List.setIfInBounds_toArray, List.set_cons_zero, List.set_cons_succ])
 refine wpAnyX_one (j := 22) (by decide +kernel) rfl (fun K' hK => ?_)
 refine step_callXM (by rfl) 22 #[U.val, V.val] _ (run_cM2 22 (fun _ _ => by simp) (v0 := U.val) (v1 := V.val) rfl rfl rfl _) (BS'.out _ (X9.out.env.get (k := b8) (t := U) (by simp)).2 (X9.out.env.get (k := b9) (t := V) (by simp)).2) ?_
 rintro e wx10 ⟨rfl, bx⟩
 refine ⟨_, rfl, ?_⟩
 have X10 : Hid (MsS w (w.heap.size + 2) [(b22, K), (b20, I), (b18, Q), (b16, P), (b9, V), (b8, U), (w.heap.size, t), (w.heap.size + 1, s)] [U, V] wx10) := X9.out.later bx
 refine hK.out _ _ X10.out ?_
 clear hK K' bx X9
 (try simp only [Act.put, List.setIfInBounds_toArray, List.set_cons_zero, List.set_cons_succ])
 refine wpAnyX_one (j := 25) (by decide +kernel) rfl (fun K' hK => ?_)
 refine step_callXM (by rfl) 13 #[t.val, s.val] _ (run_cM2 13 (fun _ _ => by simp) (v0 := t.val) (v1 := s.val) rfl rfl rfl _) (BT'.out _ (X10.out.env.get (k := w.heap.size) (t := t) (by simp)).2 (X10.out.env.get (k := w.heap.size + 1) (t := s) (by simp)).2) ?_
 rintro e wx11 ⟨rfl, bx⟩
 refine ⟨_, rfl, ?_⟩
 have X11 : Hid (MsS w (w.heap.size + 2) [(b22, K), (b20, I), (b18, Q), (b16, P), (b9, V), (b8, U), (w.heap.size, t), (w.heap.size + 1, s)] [U, V] wx11) := X10.out.later bx
 refine hK.out _ _ X11.out ?_
 clear hK K' bx X10
 (try simp only [Act.put, List.setIfInBounds_toArray, List.set_cons_zero, List.set_cons_succ])
 refine wpAnyX_takeSM (i := 26) (v := ?_) rfl (by kernel_rfl) (by decide +kernel) (by decide +kernel) (fun _ _ _ h => h) (Or.inl ⟨by rfl, ?_⟩) (X11.out) ?_
 rotate_left
 ·(intro wq hSw; clear hSw; go_simp; try (with_reducible rfl))
 (try simp only [Act.put, List.setIfInBounds_toArray, List.set_cons_zero, List.set_cons_succ])
 refine wpAnyX_takeSM (i := 27) (v := ?_) rfl (by kernel_rfl) (by decide +kernel) (by decide +kernel) (fun _ _ _ h => h) (Or.inl ⟨by rfl, ?_⟩) (X11.out) ?_
 rotate_left
 ·(intro wq hSw; clear hSw; go_simp; try (with_reducible rfl))
 (try simp only [Act.put, List.setIfInBounds_toArray, List.set_cons_zero, List.set_cons_succ])
 refine wpAnyX_takeSM (i := 28) (v := ?_) rfl (by kernel_rfl) (by decide +kernel) (by decide +kernel) (fun _ _ _ h => h) (Or.inl ⟨by rfl, ?_⟩) (X11.out) ?_
 rotate_left
 ·(intro wq hSw; clear hSw; go_simp; try (with_reducible rfl))
 (try simp only [Act.put, List.setIfInBounds_toArray, List.set_cons_zero, List.set_cons_succ])
 refine wpAnyX_takeSM (i := 29) (v := ?_) rfl (by kernel_rfl) (by decide +kernel) (by decide +kernel) (fun _ _ _ h => h) (Or.inl ⟨by rfl, ?_⟩) (X11.out) ?_
 rotate_left
 ·(intro wq hSw; obtain ⟨c0, c1, c2, c3⟩ := tb_cells (hSw.env.get (k := b8) (t := U) (by simp)).1; clear hSw; go_simp; try (with_reducible rfl))
 (try simp only [Act.put, List.setIfInBounds_toArray, List.set_cons_zero, List.set_cons_succ])
 refine wpAnyX_takeSM (i := 30) (v := ?_) rfl (by kernel_rfl) (by decide +kernel) (by decide +kernel) (fun _ _ _ h => h) (Or.inl ⟨by rfl, ?_⟩) (X11.out) ?_
 rotate_left
 ·(intro wq hSw; obtain ⟨c0, c1, c2, c3⟩ := tb_cells (hSw.env.get (k := w.heap.size) (t := t) (by simp)).1; clear hSw; go_simp; try (with_reducible rfl))
 (try simp only [Act.put, List.setIfInBounds_toArray, List.set_cons_zero, List.set_cons_succ])
 refine wpAnyX_one (j := 31) (by decide +kernel) rfl (fun K' hK => ?_)
 refine step_callXM (by rfl) 22 #[U.val, t.val] _ (run_cM2 22 (fun _ _ => by simp) (v0 := U.val) (v1 := t.val) rfl rfl rfl _) (same_W (X11.out.env.get (k := b8) (t := U) (by simp)).2 (X11.out.env.get (k := w.heap.size) (t := t) (by simp)).2 (samV_symm _ _ SU.out) zU.out) ?_
 rintro e wx12 ⟨rfl, bx⟩
 refine ⟨_, rfl, ?_⟩
 have X12 : Hid (MsS w (w.heap.size + 2) [(b22, K), (b20, I), (b18, Q), (b16, P), (b9, V), (b8, U), (w.heap.size, t), (w.heap.size + 1, s)] [U, V] wx12) := X11.out.later bx
 refine hK.out _ _ X12.out ?_
 clear hK K' bx X11
 (try simp only [Act.put, List.setIfInBounds_toArray, List.set_cons_zero, List.set_cons_succ])
 refine wpAnyX_takeSM (i := 32) (v := ?_) rfl (by kernel_rfl) (by decide +kernel) (by decide +kernel) (fun _ _ _ h => h) (Or.inl ⟨by rfl, ?_⟩) (X12.out) ?_
 rotate_left
 ·(intro wq hSw; clear hSw; go_simp; try (with_reducible rfl))
 (try simp only [Act.put, List.setIfInBounds_toArray, List.set_cons_zero, List.set_cons_succ])
 refine wpAnyX_takeSM (i := 33) (v := ?_) rfl (by kernel_rfl) (by decide +kernel) (by decide +kernel) (fun _ _ _ h => h) (Or.inl ⟨by rfl, ?_⟩) (X12.out) ?_
 rotate_left
 ·(intro wq hSw; clear hSw; go_simp; try (with_reducible rfl))
 (try simp only [Act.put, List.setIfInBounds_toArray, List.set_cons_zero, List.set_cons_succ])
 obtain ⟨g1, k1, g2, k2, MU, hGV⟩ := X12.out.gv
 have GI : Hid (GvT (w.heap.size + 2) g1 k1 g2 k2 [U, V] MU _) := hGV
 clear hGV
 refine wpAnyX_one (j := 34) (by decide +kernel) rfl (fun K' hK => ?_)
 refine step_callXM (by rfl) 23 #[.pointer (some ⟨w.heap.size + 2, 0, none⟩)] _ (run_cM1 23 (fun _ _ => by simp) (v0 := .pointer (some ⟨w.heap.size + 2, 0, none⟩)) rfl rfl _) (gintactM _ g1 k1 g2 k2 _ _ _ GI.out (by simp)) ?_
 rintro e wx13 ⟨rfl, bx⟩
 refine ⟨_, rfl, ?_⟩
 have X13 : Hid (MsS w (w.heap.size + 2) [(b22, K), (b20, I), (b18, Q), (b16, P), (b9, V), (b8, U), (w.heap.size, t), (w.heap.size + 1, s)] [U, V] wx13) := X12.out.later bx
 refine hK.out _ _ X13.out ?_
 clear hK K' bx X12
 (try simp only [Act.put, List.setIfInBounds_toArray, List.set_cons_zero, List.set_cons_succ])
 clear GI
 refine wpAnyX_takeSM (i := 35) (v := ?_) rfl (by kernel_rfl) (by decide +kernel) (by decide +kernel) (fun _ _ _ h => h) (Or.inl ⟨by rfl, ?_⟩) (X13.out) ?_
 rotate_left
 ·(intro wq hSw; clear hSw; go_simp; try (with_reducible rfl))
 (try simp only [Act.put, List.setIfInBounds_toArray, List.set_cons_zero, List.set_cons_succ])
 refine wpAnyX_takeSM (i := 36) (v := ?_) rfl (by kernel_rfl) (by decide +kernel) (by decide +kernel) (fun _ _ _ h => h) (Or.inl ⟨by rfl, ?_⟩) (X13.out) ?_
 rotate_left
 ·(intro wq hSw; clear hSw; go_simp; try (with_reducible rfl))
 (try simp only [Act.put, List.setIfInBounds_toArray, List.set_cons_zero, List.set_cons_succ])
 refine wpAnyX_takeSM (i := 37) (v := ?_) rfl (by kernel_rfl) (by decide +kernel) (by decide +kernel) (fun _ _ _ h => h) (Or.inl ⟨by rfl, ?_⟩) (X13.out) ?_
 rotate_left
 ·(intro wq hSw; obtain ⟨c0, c1, c2, c3⟩ := tb_cells (hSw.env.get (k := b8) (t := U) (by simp)).1; clear hSw; go_simp; try (with_reducible rfl))
 (try simp only [Act.put, List.setIfInBounds_toArray, List.set_cons_zero, List.set_cons_succ])
 refine wpAnyX_takeSM (i := 38) (v := ?_) rfl (by kernel_rfl) (by decide +kernel) (by decide +kernel) (fun _ _ _ h => h) (Or.inl ⟨by rfl, ?_⟩) (X13.out) ?_
 rotate_left
 ·(intro wq hSw; obtain ⟨c0, c1, c2, c3⟩ := tb_cells (hSw.env.get (k := w.heap.size) (t := t) (by simp)).1; clear hSw; go_simp; try (with_reducible rfl))
 (try simp only [Act.put, List.setIfInBounds_toArray, List.set_cons_zero, List.set_cons_succ])
 refine wpAnyX_one (j := 39) (by decide +kernel) rfl (fun K' hK => ?_)
 refine step_callXM (by rfl) 13 #[U.val, t.val] _ (run_cM2 13 (fun _ _ => by simp) (v0 := U.val) (v1 := t.val) rfl rfl rfl _) (sameTree_W U t _ (X13.out.env.get (k := b8) (t := U) (by simp)).2 (X13.out.env.get (k := w.heap.size) (t := t) (by simp)).2 (samV_symm _ _ SU.out) zU.out) ?_
 rintro e wx14 ⟨rfl, bx⟩
 refine ⟨_, rfl, ?_⟩
 have X14 : Hid (MsS w (w.heap.size + 2) [(b22, K), (b20, I), (b18, Q), (b16, P), (b9, V), (b8, U), (w.heap.size, t), (w.heap.size + 1, s)] [U, V] wx14) := X13.out.later bx
 refine hK.out _ _ X14.out ?_
 clear hK K' bx X13
 (try simp only [Act.put, List.setIfInBounds_toArray, List.set_cons_zero, List.set_cons_succ])
 refine wpAnyX_takeSM (i := 40) (v := ?_) rfl (by kernel_rfl) (by decide +kernel) (by decide +kernel) (fun _ _ _ h => h) (Or.inl ⟨by rfl, ?_⟩) (X14.out) ?_
 rotate_left
 ·(intro wq hSw; clear hSw; go_simp; try (with_reducible rfl))
 (try simp only [Act.put, List.setIfInBounds_toArray, List.set_cons_zero, List.set_cons_succ])
 refine wpAnyX_takeSM (i := 41) (v := ?_) rfl (by kernel_rfl) (by decide +kernel) (by decide +kernel) (fun _ _ _ h => h) (Or.inl ⟨by rfl, ?_⟩) (X14.out) ?_
 rotate_left
 ·(intro wq hSw; clear hSw; go_simp; try (with_reducible rfl))
 (try simp only [Act.put, List.setIfInBounds_toArray, List.set_cons_zero, List.set_cons_succ])
 refine wpAnyX_one (j := 42) (by decide +kernel) rfl (fun K' hK => ?_)
 refine step_callXM (by rfl) 24 #[] _ (run_cM0 24 (fun _ _ => by simp) rfl _) (works_W _) ?_
 rintro e wx15 ⟨rfl, bx⟩
 refine ⟨_, rfl, ?_⟩
 have X15 : Hid (MsS w (w.heap.size + 2) [(b22, K), (b20, I), (b18, Q), (b16, P), (b9, V), (b8, U), (w.heap.size, t), (w.heap.size + 1, s)] [U, V] wx15) := X14.out.later bx
 refine hK.out _ _ X15.out ?_
 clear hK K' bx X14
 (try simp only [Act.put, List.setIfInBounds_toArray, List.set_cons_zero, List.set_cons_succ])
 refine wpAnyX_takeSM (i := 43) (v := ?_) rfl (by kernel_rfl) (by decide +kernel) (by decide +kernel) (fun _ _ _ h => h) (Or.inl ⟨by rfl, ?_⟩) (X15.out) ?_
 rotate_left
 ·(intro wq hSw; clear hSw; go_simp; try (with_reducible rfl))
 (try simp only [Act.put, List.setIfInBounds_toArray, List.set_cons_zero, List.set_cons_succ])
 refine wpAnyX_one (j := 44) (by decide +kernel) rfl (fun K' hK => ?_)
 go_simp
 refine hK.out _ _ X15.out ?_
 clear hK K'
 (try simp only [Act.put, List.setIfInBounds_toArray, List.set_cons_zero, List.set_cons_succ])
 refine wpAnyX_done (by decide +kernel) ?_
 go_wp2
 go_ret
 exact ⟨rfl, X15.out.env.bel⟩
end Go.Proofs.YteciabdjkaackaaGreat
