import Derived.Test.YtccednepbkjajaaPTB9ToTB10
namespace Go.Proofs.Ytccednepbkjajaa
set_option linter.unusedVariables false
open Go.RowKit
def twdS (db : Nat) (xb xo r xl xc : Nat) (tk : Int) (tx : ByteArray) (w : World) : Prop := w.cell? ⟨db, 6, none⟩ = some (.slice (some ⟨xb, xo, none⟩) xl xc) /\ w.cell? ⟨db, 8, none⟩ = some (.int .i64 (r : Int)) /\ w.cell? ⟨xb, xo + r * 2, none⟩ = some (.int .i64 tk) /\ w.cell? ⟨xb, xo + r * 2 + 1, none⟩ = some (.string tx)
theorem twdS.later {db : Nat} {xb xo r xl xc : Nat} {tk : Int} {tx : ByteArray} {w w' : World} (h : twdS db xb xo r xl xc tk tx w) (hb : Below w.heap.size w w') : twdS db xb xo r xl xc tk tx w' := ⟨cellW hb h.1, cellW hb h.2.1, cellW hb h.2.2.1, cellW hb h.2.2.2⟩
theorem ent_leaf : EntW 88 := fun _ _ => by kernel_rfl
section
variable {w0 : World} {N db : Nat} {RF : Nat -> Option Obj} {w : World} {g : GV} {wa : Option Addr} {wc : Nat} {pl : Value} {u : Int} {A : AB}
set_option linter.unusedSimpArgs false in
set_option maxRecDepth 100000 in
set_option maxHeartbeats 4000000 in
theorem word_short {L : List (Int × ByteArray)} {r : Nat} {s : Int} (h : BdS w0 N db 9 (dvO g pl (.slice wa L.length wc) u (r : Int)) RF A w) (hr : r = L.length) : Calls Try.prog 63 #[.pointer (some ⟨db, 0, none⟩), .int .i64 s] w fun e w' => e = .returned (.tuple #[.int .i64 82, .int .i64 (r : Int)]) /\ BdS w0 N db 9 (dvO g pl (.slice wa L.length wc) u (r : Int)) RF A w' := by
 have c6 := h.oc (o := 6) (by omega) (by omega)
 have c8 := h.oc (o := 8) (by omega) (by omega)
 simp only [dvO, List.getElem?_cons_succ, List.getElem?_cons_zero] at c6 c8
 have HH : Hid (BdS w0 N db 9 (dvO g pl (.slice wa L.length wc) u (r : Int)) RF A w) := h
 rw [<- hr] at c6
 clear h hr
 go_enter Try.func63, Try.ntmps63
 go_upto_region 1 with fail
 obtain ⟨wd, hwd⟩ : ∃ wd : World, wd = w.drew := ⟨_, rfl⟩
 have HD : Hid (BdS w0 N db 9 (dvO g pl (.slice wa L.length wc) u (r : Int)) RF A wd) := by show BdS _ _ _ _ _ _ _ _; rw [hwd]; exact HH.out.later (Below.refl _ _).drew
 have d6 : wd.cell? ⟨db, 6, none⟩ = some (.slice wa r wc) := by rw [hwd]; exact c6
 have d8 : wd.cell? ⟨db, 8, none⟩ = some (.int .i64 (r : Int)) := by rw [hwd]; exact c8
 refine wp_region_s (by kernel_rfl) (by kernel_rfl) wd hwd ?_
 clear hwd c6 c8 HH
 iterate 11 (refine st_yes (v := ?_) (by rfl) ?_ ?_; rotate_left; (· (go_simp; with_reducible rfl)); (try simp only [Act.put, List.setIfInBounds_toArray, List.set_cons_zero, List.set_cons_succ]))
 iterate 13 (refine st_no (by rfl) ?_; (try simp only [Act.put, List.setIfInBounds_toArray, List.set_cons_zero, List.set_cons_succ]))
 iterate 1 (refine st_yes (v := ?_) (by rfl) ?_ ?_; rotate_left; (· (go_simp; with_reducible rfl)); (try simp only [Act.put, List.setIfInBounds_toArray, List.set_cons_zero, List.set_cons_succ]))
 refine st_nil ?_
 go_upto_region 2 with fail
 obtain ⟨we, hwe⟩ : ∃ we : World, we = wd.drew := ⟨_, rfl⟩
 have HE : Hid (BdS w0 N db 9 (dvO g pl (.slice wa L.length wc) u (r : Int)) RF A we) := by show BdS _ _ _ _ _ _ _ _; rw [hwe]; exact HD.out.later (Below.refl _ _).drew
 have e8 : we.cell? ⟨db, 8, none⟩ = some (.int .i64 (r : Int)) := by rw [hwe]; exact d8
 refine wp_region_s (by kernel_rfl) (by kernel_rfl) we hwe ?_
 clear hwe d6 d8 HD
 iterate 6 (refine st_yes (v := ?_) (by rfl) ?_ ?_; rotate_left; (· (go_simp; with_reducible rfl)); (try simp only [Act.put, List.setIfInBounds_toArray, List.set_cons_zero, List.set_cons_succ]))
 refine st_nil ?_
 go_wp2
 refine bodyPost_ret (v := .tuple #[.int .i64 82, .int .i64 (r : Int)]) (by simp [results, Try.results63, go_sem]) rfl ?_
 exact ⟨rfl, HE.out⟩
set_option linter.unusedSimpArgs false in
set_option maxRecDepth 100000 in
set_option maxHeartbeats 4000000 in
theorem word_wrong {L : List (Int × ByteArray)} {r : Nat} {s : Int} (h : BdS w0 N db 9 (dvO g pl (.slice wa L.length wc) u (r : Int)) RF A w) (hl : TkRow w wa L) (hr : r < L.length) (hrb : r <= 1000000000) (hs : (L.getD r (0, ByteArray.empty)).1 ≠ s) : Calls Try.prog 63 #[.pointer (some ⟨db, 0, none⟩), .int .i64 s] w fun e w' => e = .returned (.tuple #[.int .i64 82, .int .i64 (r : Int)]) /\ BdS w0 N db 9 (dvO g pl (.slice wa L.length wc) u (r : Int)) RF A w' := by
 have c6 := h.oc (o := 6) (by omega) (by omega)
 have c8 := h.oc (o := 8) (by omega) (by omega)
 simp only [dvO, List.getElem?_cons_succ, List.getElem?_cons_zero] at c6 c8
 obtain ⟨xb, xo, rfl, -, hcl⟩ := hl (by intro e; rw [e] at hr; simp at hr)
 obtain ⟨k0, k1⟩ := hcl r hr
 obtain ⟨x, hx⟩ : ∃ x, L.getD r (0, ByteArray.empty) = x := ⟨_, rfl⟩
 rw [hx] at k0 k1 hs
 clear hx
 obtain ⟨tk, tx⟩ := x
 dsimp only at k0 k1 hs
 have sne : ¬ tk = s := hs
 clear hs
 have rne : ¬ (r : Int) = (L.length : Int) := by omega
 have rnn : ¬ r = L.length := by omega
 have rlt : (r : Int) < (L.length : Int) := by omega
 have HH : Hid (BdS w0 N db 9 (dvO g pl (.slice (some ⟨xb, xo, none⟩) L.length wc) u (r : Int)) RF A w) := h
 have HS : Hid (twdS db xb xo r L.length wc tk tx w) := ⟨c6, c8, k0, k1⟩
 clear h hl c6 c8 k0 k1 hcl
 have rbe : ((r : Int) == (L.length : Int)) = false := by simp; omega
 clear hr
 generalize L.length = ll at *
 go_enter Try.func63, Try.ntmps63
 go_upto_region 1 with fail
 obtain ⟨wd, hwd⟩ : ∃ wd : World, wd = w.drew := ⟨_, rfl⟩
 have HD : Hid (BdS w0 N db 9 (dvO g pl (.slice (some ⟨xb, xo, none⟩) ll wc) u (r : Int)) RF A wd) := by show BdS _ _ _ _ _ _ _ _; rw [hwd]; exact HH.out.later (Below.refl _ _).drew
 have SD : Hid (twdS db xb xo r ll wc tk tx wd) := by show twdS _ _ _ _ _ _ _ _ _; rw [hwd]; exact HS.out.later (Below.refl _ _).drew
 obtain ⟨d6, d8, m0, m1⟩ := SD.out
 refine wp_region_s (by kernel_rfl) (by kernel_rfl) wd hwd ?_
 clear hwd HH HS
 iterate 11 (refine st_yes (v := ?_) (by rfl) ?_ ?_; rotate_left; (· (go_simp; with_reducible rfl)); (try simp only [Act.put, List.setIfInBounds_toArray, List.set_cons_zero, List.set_cons_succ]))
 (try simp only [rbe])
 iterate 14 (refine st_yes (v := ?_) (by rfl) ?_ ?_; rotate_left; (· (go_simp; with_reducible rfl)); (try simp only [Act.put, List.setIfInBounds_toArray, List.set_cons_zero, List.set_cons_succ]))
 refine st_nil ?_
 clear d6 d8 m0 m1
 go_upto_region 2 with fail
 obtain ⟨wf, hwf⟩ : ∃ wf : World, wf = wd.drew := ⟨_, rfl⟩
 have HF : Hid (BdS w0 N db 9 (dvO g pl (.slice (some ⟨xb, xo, none⟩) ll wc) u (r : Int)) RF A wf) := by show BdS _ _ _ _ _ _ _ _; rw [hwf]; exact HD.out.later (Below.refl _ _).drew
 have d8 : wf.cell? ⟨db, 8, none⟩ = some (.int .i64 (r : Int)) := by rw [hwf]; exact SD.out.2.1
 refine wp_region_s (by kernel_rfl) (by kernel_rfl) wf hwf ?_
 clear hwf HD SD
 iterate 6 (refine st_yes (v := ?_) (by rfl) ?_ ?_; rotate_left; (· (go_simp; with_reducible rfl)); (try simp only [Act.put, List.setIfInBounds_toArray, List.set_cons_zero, List.set_cons_succ]))
 refine st_nil ?_
 go_wp2
 refine bodyPost_ret (v := .tuple #[.int .i64 82, .int .i64 (r : Int)]) (by simp [results, Try.results63, go_sem]) rfl ?_
 exact ⟨rfl, HF.out⟩
set_option linter.unusedSimpArgs false in
set_option maxRecDepth 100000 in
set_option maxHeartbeats 4000000 in
theorem word_ok {L : List (Int × ByteArray)} {r : Nat} {s : Int} (h : BdS w0 N db 9 (dvO g pl (.slice wa L.length wc) u (r : Int)) RF A w) (hl : TkRow w wa L) (hr : r < L.length) (hrb : r <= 1000000000) (hs : (L.getD r (0, ByteArray.empty)).1 = s) (hz : (dlA A).length + A.2.length <= 999999999) : Calls Try.prog 63 #[.pointer (some ⟨db, 0, none⟩), .int .i64 s] w fun e w' => e = .returned (.tuple #[.int .i64 0, .int .i64 0]) /\ BdS w0 N db 9 (dvO g pl (.slice wa L.length wc) u ((r : Int) + 1)) RF (clU2 (adA A (lfT (L.getD r (0, ByteArray.empty)).1 (L.getD r (0, ByteArray.empty)).2))) w' := by
 have c6 := h.oc (o := 6) (by omega) (by omega)
 have c8 := h.oc (o := 8) (by omega) (by omega)
 simp only [dvO, List.getElem?_cons_succ, List.getElem?_cons_zero] at c6 c8
 obtain ⟨xb, xo, rfl, -, hcl⟩ := hl (by intro e; rw [e] at hr; simp at hr)
 obtain ⟨k0, k1⟩ := hcl r hr
 obtain ⟨x, hx⟩ : ∃ x, L.getD r (0, ByteArray.empty) = x := ⟨_, rfl⟩
 rw [hx] at k0 k1 hs ⊢
 clear hx
 obtain ⟨tk, tx⟩ := x
 dsimp only at k0 k1 hs ⊢
 subst hs
 have HZ : Hid ((dlA A).length + A.2.length <= 999999999) := hz
 have e2 : IntKind.i64.wrap ((r : Int) + 1) = (r : Int) + 1 := IntWalk.i64_in _ ⟨by omega, by omega⟩
 clear hz
 have rne : ¬ (r : Int) = (L.length : Int) := by omega
 have rnn : ¬ r = L.length := by omega
 have rlt : (r : Int) < (L.length : Int) := by omega
 have HH : Hid (BdS w0 N db 9 (dvO g pl (.slice (some ⟨xb, xo, none⟩) L.length wc) u (r : Int)) RF A w) := h
 have HS : Hid (twdS db xb xo r L.length wc tk tx w) := ⟨c6, c8, k0, k1⟩
 clear h hl c6 c8 k0 k1 hcl
 have rbe : ((r : Int) == (L.length : Int)) = false := by simp; omega
 clear hr
 generalize L.length = ll at *
 go_enter Try.func63, Try.ntmps63
 go_upto_region 1 with fail
 obtain ⟨wd, hwd⟩ : ∃ wd : World, wd = w.drew := ⟨_, rfl⟩
 have HD : Hid (BdS w0 N db 9 (dvO g pl (.slice (some ⟨xb, xo, none⟩) ll wc) u (r : Int)) RF A wd) := by show BdS _ _ _ _ _ _ _ _; rw [hwd]; exact HH.out.later (Below.refl _ _).drew
 have SD : Hid (twdS db xb xo r ll wc tk tx wd) := by show twdS _ _ _ _ _ _ _ _ _; rw [hwd]; exact HS.out.later (Below.refl _ _).drew
 obtain ⟨d6, d8, m0, m1⟩ := SD.out
 refine wp_region_s (by kernel_rfl) (by kernel_rfl) wd hwd ?_
 clear hwd HH HS
 iterate 11 (refine st_yes (v := ?_) (by rfl) ?_ ?_; rotate_left; (· (go_simp; with_reducible rfl)); (try simp only [Act.put, List.setIfInBounds_toArray, List.set_cons_zero, List.set_cons_succ]))
 (try simp only [rbe])
 iterate 14 (refine st_yes (v := ?_) (by rfl) ?_ ?_; rotate_left; (· (go_simp; with_reducible rfl)); (try simp only [Act.put, List.setIfInBounds_toArray, List.set_cons_zero, List.set_cons_succ]))
 refine st_nil ?_
 clear d6 d8 m0 m1
 go_upto_region 3 with fail
 obtain ⟨wf, hwf⟩ : ∃ wf : World, wf = wd.drew := ⟨_, rfl⟩
 have HF : Hid (BdS w0 N db 9 (dvO g pl (.slice (some ⟨xb, xo, none⟩) ll wc) u (r : Int)) RF A wf) := by show BdS _ _ _ _ _ _ _ _; rw [hwf]; exact HD.out.later (Below.refl _ _).drew
 have SF : Hid (twdS db xb xo r ll wc tk tx wf) := by show twdS _ _ _ _ _ _ _ _ _; rw [hwf]; exact SD.out.later (Below.refl _ _).drew
 refine wp_region_x (S := SX 13 (fun _ => True) (twdS db xb xo r ll wc tk tx)) (by kernel_rfl) ?_
 rw [<- hwf]
 clear hwf HD SD
 refine wpAnyX_takeBP (m := 13) (i := 0) (v := ?_) rfl (by kernel_rfl) (by decide) (by decide +kernel) (by decide +kernel) (fun _ _ _ h => h) (Or.inl ⟨by rfl, ?_⟩) (SX.both trivial SF.out) ?_
 rotate_left
 ·(intro w _; go_simp; try (with_reducible rfl))
 (try simp only [Act.put, List.setIfInBounds_toArray, List.set_cons_zero, List.set_cons_succ])
 refine wpAnyX_takeBP (m := 13) (i := 1) (v := ?_) rfl (by kernel_rfl) (by decide) (by decide +kernel) (by decide +kernel) (fun _ _ _ h => h) (Or.inl ⟨by rfl, ?_⟩) (SX.both trivial SF.out) ?_
 rotate_left
 ·(intro w _; go_simp; try (with_reducible rfl))
 (try simp only [Act.put, List.setIfInBounds_toArray, List.set_cons_zero, List.set_cons_succ])
 refine wpAnyX_takeBP (m := 13) (i := 2) (v := ?_) rfl (by kernel_rfl) (by decide) (by decide +kernel) (by decide +kernel) (fun _ _ _ h => h) (Or.inl ⟨by rfl, ?_⟩) (SX.both trivial SF.out) ?_
 rotate_left
 ·(intro w _; go_simp; try (with_reducible rfl))
 (try simp only [Act.put, List.setIfInBounds_toArray, List.set_cons_zero, List.set_cons_succ])
 refine wpAnyX_takeBP (m := 13) (i := 3) (v := ?_) rfl (by kernel_rfl) (by decide) (by decide +kernel) (by decide +kernel) (fun _ _ _ h => h) (Or.inl ⟨by rfl, ?_⟩) (SX.both trivial SF.out) ?_
 rotate_left
 ·(intro w _; go_simp; try (with_reducible rfl))
 (try simp only [Act.put, List.setIfInBounds_toArray, List.set_cons_zero, List.set_cons_succ])
 refine wpAnyX_takeBP (m := 13) (i := 4) (v := ?_) rfl (by kernel_rfl) (by decide) (by decide +kernel) (by decide +kernel) (fun _ _ _ h => h) (Or.inl ⟨by rfl, ?_⟩) (SX.both trivial SF.out) ?_
 rotate_left
 ·(intro w _; go_simp; try (with_reducible rfl))
 (try simp only [Act.put, List.setIfInBounds_toArray, List.set_cons_zero, List.set_cons_succ])
 refine wpAnyX_takeBP (m := 13) (i := 5) (v := ?_) rfl (by kernel_rfl) (by decide) (by decide +kernel) (by decide +kernel) (fun _ _ _ h => h) (Or.inl ⟨by rfl, ?_⟩) (SX.both trivial SF.out) ?_
 rotate_left
 ·(intro w _; go_simp; try (with_reducible rfl))
 (try simp only [Act.put, List.setIfInBounds_toArray, List.set_cons_zero, List.set_cons_succ])
 refine wpAnyX_takeBC (m := 13) (i := 6) (v := ?_) [(13, 12), (12, 11), (11, 6)] rfl (by kernel_rfl) (by kernel_rfl) (fun L h e => h (11, 6) (by decide) (h (12, 11) (by decide) (h (13, 12) (by decide) e))) (by decide) (by decide +kernel) (by decide +kernel) (fun _ _ _ h => h) (by kernel_rfl) (Or.inl ⟨by rfl, ?_⟩) (SX.both trivial SF.out) ?_
 rotate_left
 ·(intro w hSw; have z0 := hSw.2; unfold twdS at z0; obtain ⟨z1, z2, z3, z4⟩ := z0; clear hSw; go_simp; try (with_reducible rfl))
 (try simp only [Act.put, List.setIfInBounds_toArray, List.set_cons_zero, List.set_cons_succ])
 refine wpAnyX_takeBP (m := 13) (i := 7) (v := ?_) rfl (by kernel_rfl) (by decide) (by decide +kernel) (by decide +kernel) (fun _ _ _ h => h) (Or.inl ⟨by rfl, ?_⟩) (SX.both trivial SF.out) ?_
 rotate_left
 ·(intro w _; go_simp; try (with_reducible rfl))
 (try simp only [Act.put, List.setIfInBounds_toArray, List.set_cons_zero, List.set_cons_succ])
 refine wpAnyX_takeBP (m := 13) (i := 8) (v := ?_) rfl (by kernel_rfl) (by decide) (by decide +kernel) (by decide +kernel) (fun _ _ _ h => h) (Or.inl ⟨by rfl, ?_⟩) (SX.both trivial SF.out) ?_
 rotate_left
 ·(intro w _; go_simp; try (with_reducible rfl))
 (try simp only [Act.put, List.setIfInBounds_toArray, List.set_cons_zero, List.set_cons_succ])
 refine wpAnyX_takeBP (m := 13) (i := 9) (v := ?_) rfl (by kernel_rfl) (by decide) (by decide +kernel) (by decide +kernel) (fun _ _ _ h => h) (Or.inl ⟨by rfl, ?_⟩) (SX.both trivial SF.out) ?_
 rotate_left
 ·(intro w _; go_simp; try (with_reducible rfl))
 (try simp only [Act.put, List.setIfInBounds_toArray, List.set_cons_zero, List.set_cons_succ])
 refine wpAnyX_takeBC (m := 13) (i := 10) (v := ?_) [(13, 12), (12, 11), (11, 10)] rfl (by kernel_rfl) (by kernel_rfl) (fun L h e => h (11, 10) (by decide) (h (12, 11) (by decide) (h (13, 12) (by decide) e))) (by decide) (by decide +kernel) (by decide +kernel) (fun _ _ _ h => h) (by kernel_rfl) (Or.inl ⟨by rfl, ?_⟩) (SX.both trivial SF.out) ?_
 rotate_left
 ·(intro w hSw; have z0 := hSw.2; unfold twdS at z0; obtain ⟨z1, z2, z3, z4⟩ := z0; clear hSw; go_simp; try (with_reducible rfl))
 (try simp only [Act.put, List.setIfInBounds_toArray, List.set_cons_zero, List.set_cons_succ])
 refine wpAnyX_takeBP (m := 13) (i := 11) (v := ?_) rfl (by kernel_rfl) (by decide) (by decide +kernel) (by decide +kernel) (fun _ _ _ h => h) (Or.inl ⟨by rfl, ?_⟩) (SX.both trivial SF.out) ?_
 rotate_left
 ·(intro w _; go_simp; try (with_reducible rfl))
 (try simp only [Act.put, List.setIfInBounds_toArray, List.set_cons_zero, List.set_cons_succ])
 refine wpAnyX_takeBC (m := 13) (i := 12) (v := ?_) [(13, 12)] rfl (by kernel_rfl) (by kernel_rfl) (fun L h e => h (13, 12) (by decide) e) (by decide) (by decide +kernel) (by decide +kernel) (fun _ _ _ h => h) (by kernel_rfl) (Or.inl ⟨by rfl, ?_⟩) (SX.both trivial SF.out) ?_
 rotate_left
 ·(intro w hSw; have z0 := hSw.2; unfold twdS at z0; obtain ⟨z1, z2, z3, z4⟩ := z0; clear hSw; go_simp; try (with_reducible rfl))
 (try simp only [Act.put, List.setIfInBounds_toArray, List.set_cons_zero, List.set_cons_succ])
 refine wpAnyX_one (j := 13) (by decide +kernel) rfl (fun K' hK => ?_)
 refine step_callX rfl 88 #[.pointer (some ⟨db, 9, none⟩), .agg #[.int .i64 tk, .string tx]] _ (run_W2 ent_leaf (v0 := .pointer (some ⟨db, 9, none⟩)) (v1 := .agg #[.int .i64 tk, .string tx]) (by rfl) (by rfl) (by rfl)) (leaf_B tk tx HF.out HZ.out) ?_
 rintro e w3 ⟨rfl, b3⟩
 have H3 : Hid (BdS w0 N db 9 (dvO g pl (.slice (some ⟨xb, xo, none⟩) ll wc) u (r : Int)) RF (clU2 (adA A (lfT tk tx))) w3) := b3
 clear b3 SF HF
 refine ⟨_, rfl, hK.out _ _ (SX.one trivial (by kernel_rfl)) ?_⟩
 clear hK K'
 (try simp only [Act.put, List.setIfInBounds_toArray, List.set_cons_zero, List.set_cons_succ])
 refine wpAnyX_done (by decide +kernel) ?_
 have d8 : w3.cell? ⟨db, 8, none⟩ = some (.int .i64 (r : Int)) := H3.out.oc (o := 8) (by omega) (by omega)
 have f8 : w3.frozen? ⟨db, 8, none⟩ = false := H3.out.fro 8
 have FIN : Hid (BdS w0 N db 9 (dvO g pl (.slice (some ⟨xb, xo, none⟩) ll wc) u ((r : Int) + 1)) RF (clU2 (adA A (lfT tk tx))) (w3.setCell ⟨db, 8, none⟩ (.int .i64 ((r : Int) + 1)))) := by
  have := H3.out.setC (o := 8) (by omega) (by omega) (c := .int .i64 (r : Int)) rfl (.int .i64 ((r : Int) + 1))
  rw [dvO_r] at this
  exact this
 clear H3
 go_wp2
 refine bodyPost_ret (v := .tuple #[.int .i64 0, .int .i64 0]) (by simp [results, Try.results63, go_sem]) rfl ?_
 exact ⟨rfl, FIN.out⟩
end
set_option linter.unusedSimpArgs false in
set_option maxRecDepth 100000 in
set_option maxHeartbeats 4000000 in
theorem step_term {db : Nat} {n e1 at_ : Int} {w : World} {P : World -> Prop} (hn : Calls Try.prog 62 #[.pointer (some ⟨db, 0, none⟩)] w fun e w' => e = .returned (.agg #[.int .i64 1, .int .i64 n]) /\ Below w.heap.size w w') (ht : ∀ w', Below w.heap.size w w' -> Calls Try.prog 63 #[.pointer (some ⟨db, 0, none⟩), .int .i64 n] w' fun e w'' => e = .returned (.tuple #[.int .i64 e1, .int .i64 at_]) /\ P w'') : Calls Try.prog 47 #[.pointer (some ⟨db, 0, none⟩)] w fun e w' => e = .returned (.tuple #[.int .i64 e1, .int .i64 at_]) /\ P w' := by
 have CN : Hid (Calls Try.prog 62 #[.pointer (some ⟨db, 0, none⟩)] w fun e w' => e = .returned (.agg #[.int .i64 1, .int .i64 n]) /\ Below w.heap.size w w') := hn
 have CT : Hid (∀ w', Below w.heap.size w w' -> Calls Try.prog 63 #[.pointer (some ⟨db, 0, none⟩), .int .i64 n] w' fun e w'' => e = .returned (.tuple #[.int .i64 e1, .int .i64 at_]) /\ P w'') := ht
 clear hn ht
 go_enter Try.func47, Try.ntmps47
 go_upto_region 2 with (go_at_call 62; refine CN.out.mono ?_; rintro e w1 ⟨rfl, b1⟩; have B1 : Hid (Below w.heap.size w w1) := b1; clear b1)
 refine wp_world (fun w' => Below w.heap.size w w' /\ w'.heap[w1.heap.size]? = some (yBoxC 1 n)) ⟨B1.out.trans ((below_alloc _ _).mono B1.out.size), heap_alloc_new _ _⟩ fun w2 h2 => ?_
 have z0 : w2.cell? ⟨w1.heap.size, 0, none⟩ = some (.int .i64 1) := (cellq_any h2.2).trans rfl
 have z1 : w2.cell? ⟨w1.heap.size, 1, none⟩ = some (.int .i64 n) := (cellq_any h2.2).trans rfl
 have B2 : Hid (Below w.heap.size w w2) := h2.1
 clear h2 B1
 generalize w1.heap.size = b4 at *
 go_wp2_with (go_at_call 63; refine (CT.out _ B2.out).mono ?_; rintro e w3 ⟨rfl, b3⟩; have B3 : Hid (P w3) := b3; clear b3)
 refine bodyPost_ret (v := .tuple #[.int .i64 e1, .int .i64 at_]) (by simp [results, Try.results47, go_sem]) rfl ?_
 exact ⟨rfl, B3.out⟩
set_option linter.unusedSimpArgs false in
set_option maxRecDepth 100000 in
set_option maxHeartbeats 4000000 in
theorem step_non {db : Nat} {n e1 at_ : Int} {w : World} {P : World -> Prop} {k : Int} (hk : ¬ k = 1) (hn : Calls Try.prog 62 #[.pointer (some ⟨db, 0, none⟩)] w fun e w' => e = .returned (.agg #[.int .i64 k, .int .i64 n]) /\ Below w.heap.size w w') (ht : ∀ w', Below w.heap.size w w' -> Calls Try.prog 64 #[.pointer (some ⟨db, 0, none⟩), .int .i64 n] w' fun e w'' => e = .returned (.tuple #[.int .i64 e1, .int .i64 at_]) /\ P w'') : Calls Try.prog 47 #[.pointer (some ⟨db, 0, none⟩)] w fun e w' => e = .returned (.tuple #[.int .i64 e1, .int .i64 at_]) /\ P w' := by
 have CN : Hid (Calls Try.prog 62 #[.pointer (some ⟨db, 0, none⟩)] w fun e w' => e = .returned (.agg #[.int .i64 k, .int .i64 n]) /\ Below w.heap.size w w') := hn
 have CT : Hid (∀ w', Below w.heap.size w w' -> Calls Try.prog 64 #[.pointer (some ⟨db, 0, none⟩), .int .i64 n] w' fun e w'' => e = .returned (.tuple #[.int .i64 e1, .int .i64 at_]) /\ P w'') := ht
 clear hn ht
 go_enter Try.func47, Try.ntmps47
 go_upto_region 2 with (go_at_call 62; refine CN.out.mono ?_; rintro e w1 ⟨rfl, b1⟩; have B1 : Hid (Below w.heap.size w w1) := b1; clear b1)
 refine wp_world (fun w' => Below w.heap.size w w' /\ w'.heap[w1.heap.size]? = some (yBoxC k n)) ⟨B1.out.trans ((below_alloc _ _).mono B1.out.size), heap_alloc_new _ _⟩ fun w2 h2 => ?_
 have z0 : w2.cell? ⟨w1.heap.size, 0, none⟩ = some (.int .i64 k) := (cellq_any h2.2).trans rfl
 have z1 : w2.cell? ⟨w1.heap.size, 1, none⟩ = some (.int .i64 n) := (cellq_any h2.2).trans rfl
 have B2 : Hid (Below w.heap.size w w2) := h2.1
 clear h2 B1
 generalize w1.heap.size = b4 at *
 go_wp2_with (go_at_call 64; refine (CT.out _ B2.out).mono ?_; rintro e w3 ⟨rfl, b3⟩; have B3 : Hid (P w3) := b3; clear b3)
 refine bodyPost_ret (v := .tuple #[.int .i64 e1, .int .i64 at_]) (by simp [results, Try.results47, go_sem]) rfl ?_
 exact ⟨rfl, B3.out⟩
end Go.Proofs.Ytccednepbkjajaa
