import Derived.Test.YtobhemaikomdaaaGreatDoorPTB6
namespace Go.Proofs.YtobhemaikomdaaaGreatDoor
set_option linter.unusedVariables false
open Go.RowKit
def dvO (g : GV) (pl wl : Value) (u r : Int) (o : Nat) : Option Value := [Value.slice g.ta g.ts.length g.tc, .slice g.na g.ns.length g.nc, .int .i64 g.start, .slice g.pa g.ps.length g.pc, .slice g.la g.ls.length g.lc, pl, wl, .int .i64 u, .int .i64 r][o]?
theorem BdS.oc {w0 : World} {N bb bo : Nat} {OC : Nat -> Option Value} {RF : Nat -> Option Obj} {A : AB} {w : World} (h : BdS w0 N bb bo OC RF A w) {o : Nat} (h1 : o ≠ bo) (h2 : o ≠ bo + 1) : w.cell? ⟨bb, o, none⟩ = OC o := by
 obtain ⟨a, b, c, d, e⟩ := h
 exact e.oc o h1 h2
def nxS (db : Nat) (g : GV) (pb po j lb lo : Nat) (ll lc : Nat) (L : Int) (w : World) : Prop := w.cell? ⟨db, 3, none⟩ = some (.slice (some ⟨pb, po, none⟩) g.ps.length g.pc) /\ w.cell? ⟨db, 5, none⟩ = some (.slice (some ⟨lb, lo, none⟩) ll lc) /\ w.cell? ⟨lb, lo, none⟩ = some (.int .i64 (j : Int)) /\ w.cell? ⟨pb, po + j * 3, none⟩ = some (.int .i64 L)
theorem nxS.later {db : Nat} {g : GV} {pb po j lb lo : Nat} {ll lc : Nat} {L : Int} {w w' : World} (h : nxS db g pb po j lb lo ll lc L w) (hb : Below w.heap.size w w') : nxS db g pb po j lb lo ll lc L w' := ⟨cellW hb h.1, cellW hb h.2.1, cellW hb h.2.2.1, cellW hb h.2.2.2⟩
section
variable {w0 : World} {N db : Nat} {RF : Nat -> Option Obj} {w : World} {g : GV} {pa : Option Addr} {pc : Nat} {wl : Value} {u r : Int} {D : List TV}
set_option linter.unusedSimpArgs false in
set_option maxRecDepth 100000 in
set_option maxHeartbeats 4000000 in
theorem next_no {l : List Int} (h : BdS w0 N db 9 (dvO g (.slice pa l.length pc) wl u r) RF (D, []) w) (hg : GAt 140737488355328 w g) (hl : InRow w pa l) (hne : l ≠ []) {j : Nat} (hj : l.getD 0 0 = (j : Int)) (hjl : j < g.ps.length) : Calls Tryz.prog 94 #[.pointer (some ⟨db, 0, none⟩)] w fun e w' => e = .returned (.agg #[.int .i64 2, .int .i64 (g.ps.getD j .none).left]) /\ Below w.heap.size w w' := by
 have hdb : db < w.heap.size := by
  obtain ⟨a, b, c, d, e⟩ := h
  obtain ⟨C, ty, hC, -⟩ := e.bk
  exact lt_of_block hC
 have c3 := h.oc (o := 3) (by omega) (by omega)
 have c5 := h.oc (o := 5) (by omega) (by omega)
 obtain ⟨oa, ocp, co⟩ : ∃ oa ocp, w.cell? ⟨db, 9, none⟩ = some (.slice oa 0 ocp) := by
  obtain ⟨a, b, ⟨E, T⟩, ⟨hs1, hs2⟩, e⟩ := h
  cases T with
  | cons x T => exact hs2.elim
  | nil =>
   have hno : NDo w a [] := e.no
   obtain ⟨oa, ocp, rfl, _⟩ := RO.len hno
   exact ⟨oa, ocp, e.co.1⟩
 simp only [dvO, List.getElem?_cons_succ, List.getElem?_cons_zero] at c3 c5
 obtain ⟨pb, po, hpa, -, k0, -⟩ := ps_cells hg hjl
 obtain ⟨lb, lo, rfl, -, hcl⟩ := hl hne
 have k1 := hcl 0 (List.length_pos_iff.2 hne)
 rw [hj, Nat.add_zero] at k1
 rw [hpa] at c3
 have hpos : 0 < l.length := List.length_pos_iff.2 hne
 have jlt : (j : Int) < (g.ps.length : Int) := by omega
 obtain ⟨L, hL⟩ : ∃ L, (g.ps.getD j .none).left = L := ⟨_, rfl⟩
 rw [hL] at k0 ⊢
 have S0 : Hid (nxS db g pb po j lb lo l.length pc L w) := ⟨c3, c5, k1, k0⟩
 have CO : Hid (∀ w', Below w.heap.size w w' -> w'.cell? ⟨db, 9, none⟩ = some (.slice oa 0 ocp)) := fun w' hb => (hb.cell (p := ⟨db, 9, none⟩) hdb).trans co
 clear h hg hl hne hj hjl hdb c3 c5 co hpa k0 hcl k1 hL
 generalize l.length = ll at *
 go_enter Tryz.func94, Tryz.ntmps94
 go_upto_region 1 with fail
 refine wp_world (fun w' => Below w.heap.size w w' /\ w'.heap[w.heap.size]? = some (yBoxC 0 0)) ⟨below_alloc _ _, heap_alloc_new _ _⟩ fun w1 h1 => ?_
 have H1 : Hid (Below w.heap.size w w1 /\ w1.heap[w.heap.size]? = some (yBoxC 0 0)) := h1
 clear h1
 have co := CO.out _ H1.out.1
 go_upto_region 2 with fail
 clear co
 obtain ⟨wd, hwd⟩ : ∃ wd : World, wd = w1.drew := ⟨_, rfl⟩
 have HD : Hid (Below w.heap.size w wd /\ wd.heap[w.heap.size]? = some (yBoxC 0 0)) := by rw [hwd]; exact ⟨H1.out.1.drew, H1.out.2⟩
 have hs : Hid (nxS db g pb po j lb lo ll pc L wd) := S0.out.later HD.out.1
 refine wp_region_x (S := SX 15 (fun _ => True) (nxS db g pb po j lb lo ll pc L)) (by kernel_rfl) ?_
 rw [<- hwd]
 clear hwd H1 CO
 refine wpAnyX_takeBM (m := 15) (i := 0) (v := ?_) rfl (by kernel_rfl) (by kernel_rfl) (by decide) (by decide +kernel) (by decide +kernel) (fun _ _ _ h => h) (by kernel_rfl) (Or.inl ⟨by rfl, ?_⟩) (SX.both trivial hs.out) ?_
 rotate_left
 ·(intro w hSw; have z0 := hSw.2; unfold nxS at z0; obtain ⟨z1, z2, z3, z4⟩ := z0; clear hSw; go_simp; try (with_reducible rfl))
 (try simp only [Act.put, List.setIfInBounds_toArray, List.set_cons_zero, List.set_cons_succ])
 refine wpAnyX_takeBM (m := 15) (i := 1) (v := ?_) rfl (by kernel_rfl) (by kernel_rfl) (by decide) (by decide +kernel) (by decide +kernel) (fun _ _ _ h => h) (by kernel_rfl) (Or.inl ⟨by rfl, ?_⟩) (SX.both trivial hs.out) ?_
 rotate_left
 ·(intro w hSw; have z0 := hSw.2; unfold nxS at z0; obtain ⟨z1, z2, z3, z4⟩ := z0; clear hSw; go_simp; try (with_reducible rfl))
 (try simp only [Act.put, List.setIfInBounds_toArray, List.set_cons_zero, List.set_cons_succ])
 refine wpAnyX_takeBM (m := 15) (i := 2) (v := ?_) rfl (by kernel_rfl) (by kernel_rfl) (by decide) (by decide +kernel) (by decide +kernel) (fun _ _ _ h => h) (by kernel_rfl) (Or.inl ⟨by rfl, ?_⟩) (SX.both trivial hs.out) ?_
 rotate_left
 ·(intro w hSw; have z0 := hSw.2; unfold nxS at z0; obtain ⟨z1, z2, z3, z4⟩ := z0; clear hSw; go_simp; try (with_reducible rfl))
 (try simp only [Act.put, List.setIfInBounds_toArray, List.set_cons_zero, List.set_cons_succ])
 refine wpAnyX_takeBM (m := 15) (i := 3) (v := ?_) rfl (by kernel_rfl) (by kernel_rfl) (by decide) (by decide +kernel) (by decide +kernel) (fun _ _ _ h => h) (by kernel_rfl) (Or.inl ⟨by rfl, ?_⟩) (SX.both trivial hs.out) ?_
 rotate_left
 ·(intro w hSw; have z0 := hSw.2; unfold nxS at z0; obtain ⟨z1, z2, z3, z4⟩ := z0; clear hSw; go_simp; try (with_reducible rfl))
 (try simp only [Act.put, List.setIfInBounds_toArray, List.set_cons_zero, List.set_cons_succ])
 refine wpAnyX_takeBM (m := 15) (i := 4) (v := ?_) rfl (by kernel_rfl) (by kernel_rfl) (by decide) (by decide +kernel) (by decide +kernel) (fun _ _ _ h => h) (by kernel_rfl) (Or.inl ⟨by rfl, ?_⟩) (SX.both trivial hs.out) ?_
 rotate_left
 ·(intro w hSw; have z0 := hSw.2; unfold nxS at z0; obtain ⟨z1, z2, z3, z4⟩ := z0; clear hSw; go_simp; try (with_reducible rfl))
 (try simp only [Act.put, List.setIfInBounds_toArray, List.set_cons_zero, List.set_cons_succ])
 refine wpAnyX_takeBM (m := 15) (i := 5) (v := ?_) rfl (by kernel_rfl) (by kernel_rfl) (by decide) (by decide +kernel) (by decide +kernel) (fun _ _ _ h => h) (by kernel_rfl) (Or.inl ⟨by rfl, ?_⟩) (SX.both trivial hs.out) ?_
 rotate_left
 ·(intro w hSw; have z0 := hSw.2; unfold nxS at z0; obtain ⟨z1, z2, z3, z4⟩ := z0; clear hSw; go_simp; try (with_reducible rfl))
 (try simp only [Act.put, List.setIfInBounds_toArray, List.set_cons_zero, List.set_cons_succ])
 refine wpAnyX_takeBM (m := 15) (i := 6) (v := ?_) rfl (by kernel_rfl) (by kernel_rfl) (by decide) (by decide +kernel) (by decide +kernel) (fun _ _ _ h => h) (by kernel_rfl) (Or.inl ⟨by rfl, ?_⟩) (SX.both trivial hs.out) ?_
 rotate_left
 ·(intro w hSw; have z0 := hSw.2; unfold nxS at z0; obtain ⟨z1, z2, z3, z4⟩ := z0; clear hSw; go_simp; try (with_reducible rfl))
 (try simp only [Act.put, List.setIfInBounds_toArray, List.set_cons_zero, List.set_cons_succ])
 refine wpAnyX_takeBM (m := 15) (i := 7) (v := ?_) rfl (by kernel_rfl) (by kernel_rfl) (by decide) (by decide +kernel) (by decide +kernel) (fun _ _ _ h => h) (by kernel_rfl) (Or.inl ⟨by rfl, ?_⟩) (SX.both trivial hs.out) ?_
 rotate_left
 ·(intro w hSw; have z0 := hSw.2; unfold nxS at z0; obtain ⟨z1, z2, z3, z4⟩ := z0; clear hSw; go_simp; try (with_reducible rfl))
 (try simp only [Act.put, List.setIfInBounds_toArray, List.set_cons_zero, List.set_cons_succ])
 refine wpAnyX_takeBM (m := 15) (i := 8) (v := ?_) rfl (by kernel_rfl) (by kernel_rfl) (by decide) (by decide +kernel) (by decide +kernel) (fun _ _ _ h => h) (by kernel_rfl) (Or.inl ⟨by rfl, ?_⟩) (SX.both trivial hs.out) ?_
 rotate_left
 ·(intro w hSw; have z0 := hSw.2; unfold nxS at z0; obtain ⟨z1, z2, z3, z4⟩ := z0; clear hSw; go_simp; try (with_reducible rfl))
 (try simp only [Act.put, List.setIfInBounds_toArray, List.set_cons_zero, List.set_cons_succ])
 refine wpAnyX_takeBM (m := 15) (i := 9) (v := ?_) rfl (by kernel_rfl) (by kernel_rfl) (by decide) (by decide +kernel) (by decide +kernel) (fun _ _ _ h => h) (by kernel_rfl) (Or.inl ⟨by rfl, ?_⟩) (SX.both trivial hs.out) ?_
 rotate_left
 ·(intro w hSw; have z0 := hSw.2; unfold nxS at z0; obtain ⟨z1, z2, z3, z4⟩ := z0; clear hSw; go_simp; try (with_reducible rfl))
 (try simp only [Act.put, List.setIfInBounds_toArray, List.set_cons_zero, List.set_cons_succ])
 refine wpAnyX_takeBM (m := 15) (i := 10) (v := ?_) rfl (by kernel_rfl) (by kernel_rfl) (by decide) (by decide +kernel) (by decide +kernel) (fun _ _ _ h => h) (by kernel_rfl) (Or.inl ⟨by rfl, ?_⟩) (SX.both trivial hs.out) ?_
 rotate_left
 ·(intro w hSw; have z0 := hSw.2; unfold nxS at z0; obtain ⟨z1, z2, z3, z4⟩ := z0; clear hSw; go_simp; try (with_reducible rfl))
 (try simp only [Act.put, List.setIfInBounds_toArray, List.set_cons_zero, List.set_cons_succ])
 refine wpAnyX_takeBM (m := 15) (i := 11) (v := ?_) rfl (by kernel_rfl) (by kernel_rfl) (by decide) (by decide +kernel) (by decide +kernel) (fun _ _ _ h => h) (by kernel_rfl) (Or.inl ⟨by rfl, ?_⟩) (SX.both trivial hs.out) ?_
 rotate_left
 ·(intro w hSw; have z0 := hSw.2; unfold nxS at z0; obtain ⟨z1, z2, z3, z4⟩ := z0; clear hSw; go_simp; try (with_reducible rfl))
 (try simp only [Act.put, List.setIfInBounds_toArray, List.set_cons_zero, List.set_cons_succ])
 refine wpAnyX_takeBM (m := 15) (i := 12) (v := ?_) rfl (by kernel_rfl) (by kernel_rfl) (by decide) (by decide +kernel) (by decide +kernel) (fun _ _ _ h => h) (by kernel_rfl) (Or.inl ⟨by rfl, ?_⟩) (SX.both trivial hs.out) ?_
 rotate_left
 ·(intro w hSw; have z0 := hSw.2; unfold nxS at z0; obtain ⟨z1, z2, z3, z4⟩ := z0; clear hSw; go_simp; try (with_reducible rfl))
 (try simp only [Act.put, List.setIfInBounds_toArray, List.set_cons_zero, List.set_cons_succ])
 refine wpAnyX_takeBM (m := 15) (i := 13) (v := ?_) rfl (by kernel_rfl) (by kernel_rfl) (by decide) (by decide +kernel) (by decide +kernel) (fun _ _ _ h => h) (by kernel_rfl) (Or.inl ⟨by rfl, ?_⟩) (SX.both trivial hs.out) ?_
 rotate_left
 ·(intro w hSw; have z0 := hSw.2; unfold nxS at z0; obtain ⟨z1, z2, z3, z4⟩ := z0; clear hSw; go_simp; try (with_reducible rfl))
 (try simp only [Act.put, List.setIfInBounds_toArray, List.set_cons_zero, List.set_cons_succ])
 refine wpAnyX_one (j := 14) (by decide +kernel) rfl (fun K' hK => ?_)
 refine step_callX rfl 125 #[.int .i64 L] _ (run_W1 ent_non (v0 := .int .i64 L) (by rfl) (by rfl)) (non_W L _) ?_
 rintro e w3 ⟨rfl, b3⟩
 have hs3 : Hid (nxS db g pb po j lb lo ll pc L w3) := hs.out.later b3
 have B3 : Hid (Below w.heap.size w w3 /\ w3.heap[w.heap.size]? = some (yBoxC 0 0)) := ⟨HD.out.1.trans (b3.mono HD.out.1.size), (b3.block _ (lt_of_block HD.out.2)).trans HD.out.2⟩
 clear b3 hs
 refine ⟨_, rfl, hK.out _ _ (SX.both trivial hs3.out) ?_⟩
 clear hK K'
 (try simp only [Act.put, List.setIfInBounds_toArray, List.set_cons_zero, List.set_cons_succ])
 have z0 := (cellq_any (i := 0) B3.out.2).trans rfl
 have z1 := (cellq_any (i := 1) B3.out.2).trans rfl
 have zf : ∀ i, w3.frozen? ⟨w.heap.size, i, none⟩ = false := (fun i => by simp [World.frozen?, B3.out.2])
 have RB : Hid (Below w.heap.size w ((w3.setCell ⟨w.heap.size, 0, none⟩ (.int .i64 2)).setCell ⟨w.heap.size, 1, none⟩ (.int .i64 L))) := (B3.out.1.setCell (p := ⟨w.heap.size, 0, none⟩) (Nat.le_refl _) _).setCell (p := ⟨w.heap.size, 1, none⟩) (Nat.le_refl _) _
 refine wpAnyX_one (j := 15) (by decide +kernel) rfl (fun K' hK => ?_)
 go_simp
 refine hK.out _ _ (SX.one trivial (by kernel_rfl)) ?_
 clear hK K'
 (try simp only [Act.put, List.setIfInBounds_toArray, List.set_cons_zero, List.set_cons_succ])
 refine wpAnyX_done (by decide +kernel) ?_
 go_wp2
 refine bodyPost_ret (v := .agg #[.int .i64 2, .int .i64 L]) (by simp [results, Tryz.results94, go_sem, z0, z1]) rfl ?_
 exact ⟨rfl, RB.out⟩
end
theorem run_kids1 {o : Oper} {a : Act} {t0 : TypeId} {v0 : Value} {x0 : Operand} (hop : o.op = Op.call { callee := Callee.value (Operand.func 128), args := #[x0], argTypes := #[t0] }) (h0 : a.eval x0 = v0) (w : World) : (execOp a.eval o).run Tryz.prog w = .ok (.enter 128 #[v0]) w := by
 have hf : a.eval (Operand.func 128) = .func (.func 128) #[] #[] := rfl
 simp [execOp, hop, resolve, invoke, h0, hf, Deferred.ofValue]
def ntS (db : Nat) (g : GV) (pb po j rb ro i : Nat) (rl rc : Nat) (s1 s2 : Int) (w : World) : Prop := w.cell? ⟨db, 3, none⟩ = some (.slice (some ⟨pb, po, none⟩) g.ps.length g.pc) /\ w.cell? ⟨pb, po + j * 3 + 1, none⟩ = some (.slice (some ⟨rb, ro, none⟩) rl rc) /\ w.cell? ⟨rb, ro + i * 2, none⟩ = some (.int .i64 s1) /\ w.cell? ⟨rb, ro + i * 2 + 1, none⟩ = some (.int .i64 s2)
theorem ntS.later {db : Nat} {g : GV} {pb po j rb ro i : Nat} {rl rc : Nat} {s1 s2 : Int} {w w' : World} (h : ntS db g pb po j rb ro i rl rc s1 s2 w) (hb : Below w.heap.size w w') : ntS db g pb po j rb ro i rl rc s1 s2 w' := ⟨cellW hb h.1, cellW hb h.2.1, cellW hb h.2.2.1, cellW hb h.2.2.2⟩
section
variable {w0 : World} {N db : Nat} {RF : Nat -> Option Obj} {w : World} {g : GV} {pl wl : Value} {u r : Int} {D : List TV}
set_option linter.unusedSimpArgs false in
set_option maxRecDepth 100000 in
set_option maxHeartbeats 4000000 in
theorem next_some {f : FrB} {S : List FrB} (h : BdS w0 N db 9 (dvO g pl wl u r) RF (D, f :: S) w) (hz : (dlA (D, f :: S)).length + (f :: S).length <= 1000000000) (hg : GAt 140737488355328 w g) {j : Nat} (hj : f.p = (j : Int)) (hjl : j < g.ps.length) (hk : f.ks.length < (g.ps.getD j .none).right.length) : Calls Tryz.prog 94 #[.pointer (some ⟨db, 0, none⟩)] w fun e w' => e = .returned (.agg #[.int .i64 ((g.ps.getD j .none).right.getD f.ks.length (0, 0)).1, .int .i64 ((g.ps.getD j .none).right.getD f.ks.length (0, 0)).2]) /\ Below w.heap.size w w' := by
 have c3 := h.oc (o := 3) (by omega) (by omega)
 simp only [dvO, List.getElem?_cons_succ, List.getElem?_cons_zero] at c3
 obtain ⟨pb, po, hpa, -, -, k0, hsr⟩ := ps_cells hg hjl
 obtain ⟨rb, ro, hra, -, hrc⟩ := hsr (by intro e; rw [e] at hk; simp at hk)
 obtain ⟨q1, q2⟩ := hrc f.ks.length hk
 rw [hpa] at c3
 rw [hra] at k0
 obtain ⟨vo, vd, ⟨E, T⟩, hs, hM⟩ := h
 have hzE := dlA_len hs
 cases T with
 | nil => exact hs.2.elim
 | cons x T =>
  obtain ⟨h1, h2, h3, h4, h5⟩ := hs
  have hn := nlA_len (E, T)
  have hTl := samS_len h5
  dsimp only at hn
  rw [nlA_cons, dlA_cons] at hM
  rw [dlA_cons, List.length_append] at hzE
  simp only [List.length_cons] at hz
  have CK : Hid (∀ w', Below w.heap.size w w' -> Calls Tryz.prog 128 #[.pointer (some ⟨db, 9, none⟩)] w' fun e w'' => e = .returned (.int .i64 (x.ks.length : Int)) /\ Below w'.heap.size w' w'') := fun w' hb => kids_B2 (hM.later hb) (by omega) (by rw [List.length_append]; omega)
  have CL : Hid (∀ w', Below w.heap.size w w' -> Calls Tryz.prog 127 #[.pointer (some ⟨db, 9, none⟩)] w' fun e w'' => e = .returned (.agg #[.int .i64 x.p, .int .i64 (x.k : Int), .int .i64 ((dlA (E, T)).length : Int)]) /\ Below w'.heap.size w' w'') := fun w' hb => last_B (hM.later hb) (by omega)
  obtain ⟨oa, ocp, e0, -⟩ := RO.len hM.no
  have co := hM.co.1
  rw [e0, List.length_append, List.length_singleton] at co
  have hdb : db < w.heap.size := by
   obtain ⟨C, ty, hC, -⟩ := hM.bk
   exact lt_of_block hC
  rw [h4.1] at CK
  rw [h2, hj] at CL
  obtain ⟨rl, hrl⟩ : ∃ rl, (g.ps.getD j .none).right.length = rl := ⟨_, rfl⟩
  rw [hrl] at k0 hk
  obtain ⟨rc, hrc'⟩ : ∃ rc, (g.ps.getD j .none).rc = rc := ⟨_, rfl⟩
  rw [hrc'] at k0
  obtain ⟨s, hss⟩ : ∃ s, (g.ps.getD j .none).right.getD f.ks.length (0, 0) = s := ⟨_, rfl⟩
  rw [hss] at q1 q2 ⊢
  obtain ⟨i, hi⟩ : ∃ i, f.ks.length = i := ⟨_, rfl⟩
  rw [hi] at q1 q2 CK hk
  obtain ⟨s1, s2⟩ := s
  dsimp only at q1 q2 ⊢
  have jlt : (j : Int) < (g.ps.length : Int) := by omega
  have ilt : (i : Int) < (rl : Int) := by omega
  have S0 : Hid (ntS db g pb po j rb ro i rl rc s1 s2 w) := ⟨c3, k0, q1, q2⟩
  obtain ⟨nn, hnn⟩ : ∃ nn, (nlA (E, T)).length = nn := ⟨_, rfl⟩
  rw [hnn] at co
  obtain ⟨m, hm⟩ : ∃ m, (dlA (E, T)).length = m := ⟨_, rfl⟩
  rw [hm] at CL
  generalize x.k = k at *
  have CO : Hid (∀ w', Below w.heap.size w w' -> w'.cell? ⟨db, 9, none⟩ = some (.slice oa (nn + 1) ocp)) := fun w' hb => (hb.cell (p := ⟨db, 9, none⟩) hdb).trans co
  clear hM h1 h2 h3 h4 h5 hz hzE hn hTl hg hj hk hpa hra hrc q1 q2 c3 k0 co hdb hrl hrc' hss hi hnn hm e0 hjl
  go_enter Tryz.func94, Tryz.ntmps94
  go_upto_region 1 with fail
  refine wp_world (fun w' => Below w.heap.size w w' /\ w'.heap[w.heap.size]? = some (yBoxC 0 0)) ⟨below_alloc _ _, heap_alloc_new _ _⟩ fun w1 h1 => ?_
  have H1 : Hid (Below w.heap.size w w1 /\ w1.heap[w.heap.size]? = some (yBoxC 0 0)) := h1
  clear h1
  have co := CO.out _ H1.out.1
  have npos : ¬ (nn : Int) + 1 = 0 := by omega
  go_upto_region 3 with fail
  clear co npos
  obtain ⟨wd, hwd⟩ : ∃ wd : World, wd = w1.drew := ⟨_, rfl⟩
  have HD : Hid (Below w.heap.size w wd /\ wd.heap[w.heap.size]? = some (yBoxC 0 0)) := by rw [hwd]; exact ⟨H1.out.1.drew, H1.out.2⟩
  have hs : Hid (ntS db g pb po j rb ro i rl rc s1 s2 wd) := S0.out.later HD.out.1
  refine wp_region_x (S := SX 19 (fun _ => True) (ntS db g pb po j rb ro i rl rc s1 s2)) (by kernel_rfl) ?_
  rw [<- hwd]
  clear hwd H1 CO
  refine wpAnyX_takeBM (m := 19) (i := 0) (v := ?_) rfl (by kernel_rfl) (by kernel_rfl) (by decide) (by decide +kernel) (by decide +kernel) (fun _ _ _ h => h) (by kernel_rfl) (Or.inl ⟨by rfl, ?_⟩) (SX.both trivial hs.out) ?_
  rotate_left
  ·(intro w hSw; have fd := fun w => nd_field0 (j : Int) (k : Int) (m : Int) w; have z0 := hSw.2; unfold ntS at z0; obtain ⟨z1, z2, z3, z4⟩ := z0; clear hSw; go_simp; try (with_reducible rfl))
  (try simp only [Act.put, List.setIfInBounds_toArray, List.set_cons_zero, List.set_cons_succ])
  refine wpAnyX_takeBM (m := 19) (i := 1) (v := ?_) rfl (by kernel_rfl) (by kernel_rfl) (by decide) (by decide +kernel) (by decide +kernel) (fun _ _ _ h => h) (by kernel_rfl) (Or.inl ⟨by rfl, ?_⟩) (SX.both trivial hs.out) ?_
  rotate_left
  ·(intro w hSw; have fd := fun w => nd_field0 (j : Int) (k : Int) (m : Int) w; have z0 := hSw.2; unfold ntS at z0; obtain ⟨z1, z2, z3, z4⟩ := z0; clear hSw; go_simp; try (with_reducible rfl))
  (try simp only [Act.put, List.setIfInBounds_toArray, List.set_cons_zero, List.set_cons_succ])
  refine wpAnyX_takeBM (m := 19) (i := 2) (v := ?_) rfl (by kernel_rfl) (by kernel_rfl) (by decide) (by decide +kernel) (by decide +kernel) (fun _ _ _ h => h) (by kernel_rfl) (Or.inl ⟨by rfl, ?_⟩) (SX.both trivial hs.out) ?_
  rotate_left
  ·(intro w hSw; have fd := fun w => nd_field0 (j : Int) (k : Int) (m : Int) w; have z0 := hSw.2; unfold ntS at z0; obtain ⟨z1, z2, z3, z4⟩ := z0; clear hSw; go_simp; try (with_reducible rfl))
  (try simp only [Act.put, List.setIfInBounds_toArray, List.set_cons_zero, List.set_cons_succ])
  refine wpAnyX_takeBM (m := 19) (i := 3) (v := ?_) rfl (by kernel_rfl) (by kernel_rfl) (by decide) (by decide +kernel) (by decide +kernel) (fun _ _ _ h => h) (by kernel_rfl) (Or.inl ⟨by rfl, ?_⟩) (SX.both trivial hs.out) ?_
  rotate_left
  ·(intro w hSw; have fd := fun w => nd_field0 (j : Int) (k : Int) (m : Int) w; have z0 := hSw.2; unfold ntS at z0; obtain ⟨z1, z2, z3, z4⟩ := z0; clear hSw; go_simp; try (with_reducible rfl))
  (try simp only [Act.put, List.setIfInBounds_toArray, List.set_cons_zero, List.set_cons_succ])
  refine wpAnyX_takeBM (m := 19) (i := 4) (v := ?_) rfl (by kernel_rfl) (by kernel_rfl) (by decide) (by decide +kernel) (by decide +kernel) (fun _ _ _ h => h) (by kernel_rfl) (Or.inl ⟨by rfl, ?_⟩) (SX.both trivial hs.out) ?_
  rotate_left
  ·(intro w hSw; have fd := fun w => nd_field0 (j : Int) (k : Int) (m : Int) w; have z0 := hSw.2; unfold ntS at z0; obtain ⟨z1, z2, z3, z4⟩ := z0; clear hSw; go_simp; try (with_reducible rfl))
  (try simp only [Act.put, List.setIfInBounds_toArray, List.set_cons_zero, List.set_cons_succ])
  refine wpAnyX_takeBM (m := 19) (i := 5) (v := ?_) rfl (by kernel_rfl) (by kernel_rfl) (by decide) (by decide +kernel) (by decide +kernel) (fun _ _ _ h => h) (by kernel_rfl) (Or.inl ⟨by rfl, ?_⟩) (SX.both trivial hs.out) ?_
  rotate_left
  ·(intro w hSw; have fd := fun w => nd_field0 (j : Int) (k : Int) (m : Int) w; have z0 := hSw.2; unfold ntS at z0; obtain ⟨z1, z2, z3, z4⟩ := z0; clear hSw; go_simp; try (with_reducible rfl))
  (try simp only [Act.put, List.setIfInBounds_toArray, List.set_cons_zero, List.set_cons_succ])
  refine wpAnyX_takeBM (m := 19) (i := 6) (v := ?_) rfl (by kernel_rfl) (by kernel_rfl) (by decide) (by decide +kernel) (by decide +kernel) (fun _ _ _ h => h) (by kernel_rfl) (Or.inl ⟨by rfl, ?_⟩) (SX.both trivial hs.out) ?_
  rotate_left
  ·(intro w hSw; have fd := fun w => nd_field0 (j : Int) (k : Int) (m : Int) w; have z0 := hSw.2; unfold ntS at z0; obtain ⟨z1, z2, z3, z4⟩ := z0; clear hSw; go_simp; try (with_reducible rfl))
  (try simp only [Act.put, List.setIfInBounds_toArray, List.set_cons_zero, List.set_cons_succ])
  refine wpAnyX_takeBM (m := 19) (i := 7) (v := ?_) rfl (by kernel_rfl) (by kernel_rfl) (by decide) (by decide +kernel) (by decide +kernel) (fun _ _ _ h => h) (by kernel_rfl) (Or.inl ⟨by rfl, ?_⟩) (SX.both trivial hs.out) ?_
  rotate_left
  ·(intro w hSw; have fd := fun w => nd_field0 (j : Int) (k : Int) (m : Int) w; have z0 := hSw.2; unfold ntS at z0; obtain ⟨z1, z2, z3, z4⟩ := z0; clear hSw; go_simp; try (with_reducible rfl))
  (try simp only [Act.put, List.setIfInBounds_toArray, List.set_cons_zero, List.set_cons_succ])
  refine wpAnyX_takeBM (m := 19) (i := 13) (v := ?_) rfl (by kernel_rfl) (by kernel_rfl) (by decide) (by decide +kernel) (by decide +kernel) (fun _ _ _ h => h) (by kernel_rfl) (Or.inl ⟨by rfl, ?_⟩) (SX.both trivial hs.out) ?_
  rotate_left
  ·(intro w hSw; have fd := fun w => nd_field0 (j : Int) (k : Int) (m : Int) w; have z0 := hSw.2; unfold ntS at z0; obtain ⟨z1, z2, z3, z4⟩ := z0; clear hSw; go_simp; try (with_reducible rfl))
  (try simp only [Act.put, List.setIfInBounds_toArray, List.set_cons_zero, List.set_cons_succ])
  refine wpAnyX_takeBM (m := 19) (i := 14) (v := ?_) rfl (by kernel_rfl) (by kernel_rfl) (by decide) (by decide +kernel) (by decide +kernel) (fun _ _ _ h => h) (by kernel_rfl) (Or.inl ⟨by rfl, ?_⟩) (SX.both trivial hs.out) ?_
  rotate_left
  ·(intro w hSw; have fd := fun w => nd_field0 (j : Int) (k : Int) (m : Int) w; have z0 := hSw.2; unfold ntS at z0; obtain ⟨z1, z2, z3, z4⟩ := z0; clear hSw; go_simp; try (with_reducible rfl))
  (try simp only [Act.put, List.setIfInBounds_toArray, List.set_cons_zero, List.set_cons_succ])
  refine wpAnyX_takeBM (m := 19) (i := 15) (v := ?_) rfl (by kernel_rfl) (by kernel_rfl) (by decide) (by decide +kernel) (by decide +kernel) (fun _ _ _ h => h) (by kernel_rfl) (Or.inl ⟨by rfl, ?_⟩) (SX.both trivial hs.out) ?_
  rotate_left
  ·(intro w hSw; have fd := fun w => nd_field0 (j : Int) (k : Int) (m : Int) w; have z0 := hSw.2; unfold ntS at z0; obtain ⟨z1, z2, z3, z4⟩ := z0; clear hSw; go_simp; try (with_reducible rfl))
  (try simp only [Act.put, List.setIfInBounds_toArray, List.set_cons_zero, List.set_cons_succ])
  refine wpAnyX_one (j := 8) (by decide +kernel) rfl (fun K' hK => ?_)
  refine step_callX rfl 127 #[.pointer (some ⟨db, 9, none⟩)] _ (run_last1 (v0 := .pointer (some ⟨db, 9, none⟩)) (by rfl) (by rfl) _) (CL.out _ HD.out.1) ?_
  rintro e w3 ⟨rfl, b3⟩
  have hs3 : Hid (ntS db g pb po j rb ro i rl rc s1 s2 w3) := hs.out.later b3
  have B3 : Hid (Below w.heap.size w w3 /\ w3.heap[w.heap.size]? = some (yBoxC 0 0)) := ⟨HD.out.1.trans (b3.mono HD.out.1.size), (b3.block _ (lt_of_block HD.out.2)).trans HD.out.2⟩
  clear b3 hs
  refine ⟨_, rfl, hK.out _ _ (SX.both trivial hs3.out) ?_⟩
  clear hK K'
  (try simp only [Act.put, List.setIfInBounds_toArray, List.set_cons_zero, List.set_cons_succ])
  refine wpAnyX_takeBM (m := 19) (i := 9) (v := ?_) rfl (by kernel_rfl) (by kernel_rfl) (by decide) (by decide +kernel) (by decide +kernel) (fun _ _ _ h => h) (by kernel_rfl) (Or.inl ⟨by rfl, ?_⟩) (SX.both trivial hs3.out) ?_
  rotate_left
  ·(intro w hSw; have fd := fun w => nd_field0 (j : Int) (k : Int) (m : Int) w; have z0 := hSw.2; unfold ntS at z0; obtain ⟨z1, z2, z3, z4⟩ := z0; clear hSw; go_simp; try (with_reducible rfl))
  (try simp only [Act.put, List.setIfInBounds_toArray, List.set_cons_zero, List.set_cons_succ])
  refine wpAnyX_takeBM (m := 19) (i := 10) (v := ?_) rfl (by kernel_rfl) (by kernel_rfl) (by decide) (by decide +kernel) (by decide +kernel) (fun _ _ _ h => h) (by kernel_rfl) (Or.inl ⟨by rfl, ?_⟩) (SX.both trivial hs3.out) ?_
  rotate_left
  ·(intro w hSw; have fd := fun w => nd_field0 (j : Int) (k : Int) (m : Int) w; have z0 := hSw.2; unfold ntS at z0; obtain ⟨z1, z2, z3, z4⟩ := z0; clear hSw; go_simp; try (with_reducible rfl))
  (try simp only [Act.put, List.setIfInBounds_toArray, List.set_cons_zero, List.set_cons_succ])
  refine wpAnyX_takeBM (m := 19) (i := 11) (v := ?_) rfl (by kernel_rfl) (by kernel_rfl) (by decide) (by decide +kernel) (by decide +kernel) (fun _ _ _ h => h) (by kernel_rfl) (Or.inl ⟨by rfl, ?_⟩) (SX.both trivial hs3.out) ?_
  rotate_left
  ·(intro w hSw; have fd := fun w => nd_field0 (j : Int) (k : Int) (m : Int) w; have z0 := hSw.2; unfold ntS at z0; obtain ⟨z1, z2, z3, z4⟩ := z0; clear hSw; go_simp; try (with_reducible rfl))
  (try simp only [Act.put, List.setIfInBounds_toArray, List.set_cons_zero, List.set_cons_succ])
  refine wpAnyX_takeBM (m := 19) (i := 12) (v := ?_) rfl (by kernel_rfl) (by kernel_rfl) (by decide) (by decide +kernel) (by decide +kernel) (fun _ _ _ h => h) (by kernel_rfl) (Or.inl ⟨by rfl, ?_⟩) (SX.both trivial hs3.out) ?_
  rotate_left
  ·(intro w hSw; have fd := fun w => nd_field0 (j : Int) (k : Int) (m : Int) w; have z0 := hSw.2; unfold ntS at z0; obtain ⟨z1, z2, z3, z4⟩ := z0; clear hSw; go_simp; try (with_reducible rfl))
  (try simp only [Act.put, List.setIfInBounds_toArray, List.set_cons_zero, List.set_cons_succ])
  refine wpAnyX_one (j := 16) (by decide +kernel) rfl (fun K' hK => ?_)
  refine step_callX rfl 128 #[.pointer (some ⟨db, 9, none⟩)] _ (run_kids1 (v0 := .pointer (some ⟨db, 9, none⟩)) (by rfl) (by rfl) _) (CK.out _ B3.out.1) ?_
  rintro e w4 ⟨rfl, b4⟩
  have hs4 : Hid (ntS db g pb po j rb ro i rl rc s1 s2 w4) := hs3.out.later b4
  have B4 : Hid (Below w.heap.size w w4 /\ w4.heap[w.heap.size]? = some (yBoxC 0 0)) := ⟨B3.out.1.trans (b4.mono B3.out.1.size), (b4.block _ (lt_of_block B3.out.2)).trans B3.out.2⟩
  clear b4 hs3
  refine ⟨_, rfl, hK.out _ _ (SX.both trivial hs4.out) ?_⟩
  clear hK K'
  (try simp only [Act.put, List.setIfInBounds_toArray, List.set_cons_zero, List.set_cons_succ])
  refine wpAnyX_takeBM (m := 19) (i := 17) (v := ?_) rfl (by kernel_rfl) (by kernel_rfl) (by decide) (by decide +kernel) (by decide +kernel) (fun _ _ _ h => h) (by kernel_rfl) (Or.inl ⟨by rfl, ?_⟩) (SX.both trivial hs4.out) ?_
  rotate_left
  ·(intro w hSw; have fd := fun w => nd_field0 (j : Int) (k : Int) (m : Int) w; have z0 := hSw.2; unfold ntS at z0; obtain ⟨z1, z2, z3, z4⟩ := z0; clear hSw; go_simp; try (with_reducible rfl))
  (try simp only [Act.put, List.setIfInBounds_toArray, List.set_cons_zero, List.set_cons_succ])
  refine wpAnyX_takeBM (m := 19) (i := 18) (v := ?_) rfl (by kernel_rfl) (by kernel_rfl) (by decide) (by decide +kernel) (by decide +kernel) (fun _ _ _ h => h) (by kernel_rfl) (Or.inl ⟨by rfl, ?_⟩) (SX.both trivial hs4.out) ?_
  rotate_left
  ·(intro w hSw; have fd := fun w => nd_field0 (j : Int) (k : Int) (m : Int) w; have z0 := hSw.2; unfold ntS at z0; obtain ⟨z1, z2, z3, z4⟩ := z0; clear hSw; go_simp; try (with_reducible rfl))
  (try simp only [Act.put, List.setIfInBounds_toArray, List.set_cons_zero, List.set_cons_succ])
  have z0 := (cellq_any (i := 0) B4.out.2).trans rfl
  have z1 := (cellq_any (i := 1) B4.out.2).trans rfl
  have zf : ∀ i, w4.frozen? ⟨w.heap.size, i, none⟩ = false := (fun i => by simp [World.frozen?, B4.out.2])
  have RB : Hid (Below w.heap.size w ((w4.setCell ⟨w.heap.size, 0, none⟩ (.int .i64 s1)).setCell ⟨w.heap.size, 1, none⟩ (.int .i64 s2))) := (B4.out.1.setCell (p := ⟨w.heap.size, 0, none⟩) (Nat.le_refl _) _).setCell (p := ⟨w.heap.size, 1, none⟩) (Nat.le_refl _) _
  refine wpAnyX_one (j := 19) (by decide +kernel) rfl (fun K' hK => ?_)
  go_simp
  refine hK.out _ _ (SX.one trivial (by kernel_rfl)) ?_
  clear hK K'
  (try simp only [Act.put, List.setIfInBounds_toArray, List.set_cons_zero, List.set_cons_succ])
  refine wpAnyX_done (by decide +kernel) ?_
  go_wp2
  refine bodyPost_ret (v := .agg #[.int .i64 s1, .int .i64 s2]) (by simp [results, Tryz.results94, go_sem, z0, z1]) rfl ?_
  exact ⟨rfl, RB.out⟩
end
section
variable {w0 : World} {N bb bo : Nat} {OC : Nat -> Option Value} {RF : Nat -> Option Obj} {vo vd : Value} {NL : List (Int × Nat × Nat)} {DL : List TV} {w : World}
theorem BdM.setC (h : BdM w0 N bb bo OC RF vo vd NL DL w) {o : Nat} (h1 : o ≠ bo) (h2 : o ≠ bo + 1) {c : Value} (hc : OC o = some c) (v : Value) : BdM w0 N bb bo (fun i => if i = o then some v else OC i) RF vo vd NL DL (w.setCell ⟨bb, o, none⟩ v) := by
 obtain ⟨C, ty, hC, n1, n2, c0, c1⟩ := h.bk
 have ho : ∀ j, j ≠ bb -> (w.setCell ⟨bb, o, none⟩ v).heap[j]? = w.heap[j]? := fun j hj => Below.heap_setCell _ _ _ _ hj
 have hz : (w.setCell ⟨bb, o, none⟩ v).heap.size = w.heap.size := by simp [World.setCell]
 have hco : C[o]? = some c := by
  have := h.oc o h1 h2
  rw [hc, cellq_any hC] at this
  exact this
 have hlt : o < C.size := by
  apply Classical.byContradiction
  intro e
  rw [Array.getElem?_eq_none (by omega)] at hco
  cases hco
 have hS := heap_setCell_same w bb o _ _ v hC
 refine ⟨h.bel.setCell (p := ⟨bb, o, none⟩) h.bn _, by rw [hz]; exact h.nz, ⟨C.setIfInBounds o v, ty, hS, n1, n2, by rw [Array.getElem?_setIfInBounds_ne h1]; exact c0, by rw [Array.getElem?_setIfInBounds_ne h2]; exact c1⟩, h.bn, fun i k1 k2 => ?_, fun j q hj => ?_, h.no.kept fun j hj => ho j (fun e => h.bb_o (by rw [<- e]; exact hj)), h.td.kept fun j hj => ho j (fun e => h.bb_d (by rw [<- e]; exact hj)), h.oo, h.od, fun t ht => ?_, fun a ha => ?_, h.dn⟩
 ·by_cases e : i = o
  ·subst e
   rw [if_pos rfl, cellq_any hS]
   simp [hlt]
  ·rw [if_neg e, World.cell?_setCell_other _ _ _ _ (fun q => by simp only [Addr.mk.injEq] at q; exact e q.2.1.symm)]
   exact h.oc i k1 k2
 ·obtain ⟨a, b, c, d⟩ := h.rf j q hj
  exact ⟨(ho j b).trans a, b, c, d⟩
 ·refine keep_at t 0 0 (h.tr t ht) fun a ha => ?_
  have hm : a ∈ inR DL := List.mem_flatMap.2 ⟨t, ht, ha⟩
  obtain ⟨-, -, -, cs, hc'⟩ := h.ad a hm
  have e := ho a.1 (h.o_a hm).2
  exact ⟨lt_of_block (e.trans hc'), fun i _ => World.cell?_of_block e⟩
 ·obtain ⟨a1, b, c, cs, hc'⟩ := h.ad a ha
  exact ⟨a1, b, c, cs, (ho a.1 (h.o_a ha).2).trans hc'⟩
theorem BdS.setC {A : AB} (h : BdS w0 N bb bo OC RF A w) {o : Nat} (h1 : o ≠ bo) (h2 : o ≠ bo + 1) {c : Value} (hc : OC o = some c) (v : Value) : BdS w0 N bb bo (fun i => if i = o then some v else OC i) RF A (w.setCell ⟨bb, o, none⟩ v) := by
 obtain ⟨a, b, B, d, e⟩ := h
 exact ⟨a, b, B, d, e.setC h1 h2 hc v⟩
end
theorem dvO_u (g : GV) (pl wl : Value) (u r u' : Int) : (fun i => if i = 7 then some (Value.int .i64 u') else dvO g pl wl u r i) = dvO g pl wl u' r := by
 funext i
 unfold dvO
 rcases i with _ | _ | _ | _ | _ | _ | _ | _ | _ | i <;> simp
theorem dvO_r (g : GV) (pl wl : Value) (u r r' : Int) : (fun i => if i = 8 then some (Value.int .i64 r') else dvO g pl wl u r i) = dvO g pl wl u r' := by
 funext i
 unfold dvO
 rcases i with _ | _ | _ | _ | _ | _ | _ | _ | _ | i <;> simp
section
variable {w0 : World} {N db : Nat} {RF : Nat -> Option Obj} {w : World} {g : GV} {pa : Option Addr} {pc : Nat} {wl : Value} {r : Int} {A : AB}
set_option linter.unusedSimpArgs false in
set_option maxRecDepth 100000 in
set_option maxHeartbeats 4000000 in
theorem prod_short {l : List Int} {u : Nat} {s : Int} (h : BdS w0 N db 9 (dvO g (.slice pa l.length pc) wl (u : Int) r) RF A w) (hu : u = l.length) : Calls Tryz.prog 96 #[.pointer (some ⟨db, 0, none⟩), .int .i64 s] w fun e w' => e = .returned (.tuple #[.int .i64 11, .int .i64 (u : Int)]) /\ BdS w0 N db 9 (dvO g (.slice pa l.length pc) wl (u : Int) r) RF A w' := by
 have c5 := h.oc (o := 5) (by omega) (by omega)
 have c7 := h.oc (o := 7) (by omega) (by omega)
 simp only [dvO, List.getElem?_cons_succ, List.getElem?_cons_zero] at c5 c7
 have HH : Hid (BdS w0 N db 9 (dvO g (.slice pa l.length pc) wl (u : Int) r) RF A w) := h
 rw [<- hu] at c5
 clear h hu
 go_enter Tryz.func96, Tryz.ntmps96
 go_upto_region 1 with fail
 obtain ⟨wd, hwd⟩ : ∃ wd : World, wd = w.drew := ⟨_, rfl⟩
 have HD : Hid (BdS w0 N db 9 (dvO g (.slice pa l.length pc) wl (u : Int) r) RF A wd) := by show BdS _ _ _ _ _ _ _ _; rw [hwd]; exact HH.out.later (Below.refl _ _).drew
 have d5 : wd.cell? ⟨db, 5, none⟩ = some (.slice pa u pc) := by rw [hwd]; exact c5
 have d7 : wd.cell? ⟨db, 7, none⟩ = some (.int .i64 (u : Int)) := by rw [hwd]; exact c7
 refine wp_region_s (by kernel_rfl) (by kernel_rfl) wd hwd ?_
 clear hwd c5 c7 HH
 iterate 10 (refine st_yes (v := ?_) (by rfl) ?_ ?_; rotate_left; (· (go_simp; with_reducible rfl)); (try simp only [Act.put, List.setIfInBounds_toArray, List.set_cons_zero, List.set_cons_succ]))
 refine st_nil ?_
 go_upto_region 2 with fail
 obtain ⟨we, hwe⟩ : ∃ we : World, we = wd.drew := ⟨_, rfl⟩
 have HE : Hid (BdS w0 N db 9 (dvO g (.slice pa l.length pc) wl (u : Int) r) RF A we) := by show BdS _ _ _ _ _ _ _ _; rw [hwe]; exact HD.out.later (Below.refl _ _).drew
 have e7 : we.cell? ⟨db, 7, none⟩ = some (.int .i64 (u : Int)) := by rw [hwe]; exact d7
 refine wp_region_s (by kernel_rfl) (by kernel_rfl) we hwe ?_
 clear hwe d5 d7 HD
 iterate 6 (refine st_yes (v := ?_) (by rfl) ?_ ?_; rotate_left; (· (go_simp; with_reducible rfl)); (try simp only [Act.put, List.setIfInBounds_toArray, List.set_cons_zero, List.set_cons_succ]))
 refine st_nil ?_
 go_wp2
 refine bodyPost_ret (v := .tuple #[.int .i64 11, .int .i64 (u : Int)]) (by simp [results, Tryz.results96, go_sem]) rfl ?_
 exact ⟨rfl, HE.out⟩
end
def tpS (db : Nat) (g : GV) (pb po n lb lo u ll lc : Nat) (L : Int) (ra : Option Addr) (rl rc : Nat) (w : World) : Prop := w.cell? ⟨db, 3, none⟩ = some (.slice (some ⟨pb, po, none⟩) g.ps.length g.pc) /\ w.cell? ⟨db, 5, none⟩ = some (.slice (some ⟨lb, lo, none⟩) ll lc) /\ w.cell? ⟨db, 7, none⟩ = some (.int .i64 (u : Int)) /\ w.cell? ⟨lb, lo + u, none⟩ = some (.int .i64 (n : Int)) /\ w.cell? ⟨pb, po + n * 3, none⟩ = some (.int .i64 L) /\ w.cell? ⟨pb, po + n * 3 + 1, none⟩ = some (.slice ra rl rc)
theorem tpS.later {db : Nat} {g : GV} {pb po n lb lo u ll lc : Nat} {L : Int} {ra : Option Addr} {rl rc : Nat} {w w' : World} (h : tpS db g pb po n lb lo u ll lc L ra rl rc w) (hb : Below w.heap.size w w') : tpS db g pb po n lb lo u ll lc L ra rl rc w' := ⟨cellW hb h.1, cellW hb h.2.1, cellW hb h.2.2.1, cellW hb h.2.2.2.1, cellW hb h.2.2.2.2.1, cellW hb h.2.2.2.2.2⟩
theorem wpAnyX_takeBC {P : Program} {ops : Array Oper} {Q : Exit -> Act -> World -> Prop} {md : Region.Mode} {m i : Nat} {oi : Oper} {v : Value} {S0 S1 : World -> Prop} {fuel : Nat} {listed : Array Bool} {a : Act} {w : World} (ch : List (Nat × Nat)) (hi' : ops.toList[i]? = some oi)
  (hs : Region.noSelect ops = true) (hl : (ch.all fun p => Region.waitsFor md ops p.1 p.2) = true) (hch : ∀ L : Nat -> Prop, (∀ p ∈ ch, L p.1 -> L p.2) -> L m -> L i) (him : i < m) (hf : Region.free md ops listed i = true) (hr : (Region.ready md ops listed).contains i = true)
  (hQ : ∀ c a w, Q (.panic c) (a.put oi.dst v) w -> Q (.panic c) a w) (hcl : (ch.all fun p => !listed.getD p.1 false) = true) (hy : YieldsIf P ops (fun w => S0 w /\ S1 w) oi v a) (hS : SX m S0 S1 listed w)
  (h : wpAnyX P md ops Q (SX m S0 S1) fuel (listed.setIfInBounds i true) (a.put oi.dst v) w) : wpAnyX P md ops Q (SX m S0 S1) (fuel + 1) listed a w :=
 have hi : ops[i]? = some oi := by rw [<- Array.getElem?_toList]; exact hi'
 wpAnyX_first (Cl := fun L => ∀ p ∈ ch, L.getD p.1 false = true -> L.getD p.2 false = true) hi (Region.noSelect_spec hs) hQ
  (fun L j hL hj => fun p hp hm => by
   by_cases hjm : j = p.1
   ·subst hjm
    obtain ⟨_, oj, hoj, hall⟩ := mem_ready.1 hj
    obtain ⟨o', ho', e, he, hb, hon⟩ := Region.waitsFor_spec (List.all_eq_true.1 hl p hp)
    obtain rfl : o' = oj := Option.some.inj (ho'.symm.trans hoj)
    have h2 := hall e he hb
    rw [hon] at h2
    exact getD_set_true h2
   ·rw [getD_set_ne false hjm] at hm
    exact getD_set_true (hL p hp hm))
  (fun L w hc hun hS => ⟨hS.1, hS.2 (by
   cases e : L.getD m false with
   | false => rfl
   | true => have := hch (fun k => L.getD k false = true) hc e; rw [getD_both hun] at this; cases this)⟩)
  (fun L w => by
   have e : (L.setIfInBounds i true).getD m false = L.getD m false := getD_set_ne false (by omega)
   unfold SX
   rw [e]) fuel listed a w (Region.free_spec hi hf) (by simpa using hr) (fun p hp e => by have := List.all_eq_true.1 hcl p hp; rw [e] at this; cases this) hy hS h
theorem ent_node : EntW 76 := fun _ _ => by kernel_rfl
theorem BdS.fro {w0 : World} {N bb bo : Nat} {OC : Nat -> Option Value} {RF : Nat -> Option Obj} {A : AB} {w : World} (h : BdS w0 N bb bo OC RF A w) (o : Nat) : w.frozen? ⟨bb, o, none⟩ = false := by
 obtain ⟨a, b, c, d, e⟩ := h
 obtain ⟨C, ty, hC, -⟩ := e.bk
 simp [World.frozen?, hC]
section
variable {w0 : World} {N db : Nat} {RF : Nat -> Option Obj} {w : World} {g : GV} {pa : Option Addr} {pc : Nat} {wl : Value} {r : Int} {A : AB}
set_option linter.unusedSimpArgs false in
set_option maxRecDepth 100000 in
set_option maxHeartbeats 4000000 in
theorem prod_wrong {l : List Int} {u n : Nat} {s : Int} (h : BdS w0 N db 9 (dvO g (.slice pa l.length pc) wl (u : Int) r) RF A w) (hg : GAt 140737488355328 w g) (hl : InRow w pa l) (hu : u < l.length) (hub : u <= 1000000000) (hn : l.getD u 0 = (n : Int)) (hnl : n < g.ps.length) (hs : (g.ps.getD n .none).left ≠ s) : Calls Tryz.prog 96 #[.pointer (some ⟨db, 0, none⟩), .int .i64 s] w fun e w' => e = .returned (.tuple #[.int .i64 81, .int .i64 (u : Int)]) /\ BdS w0 N db 9 (dvO g (.slice pa l.length pc) wl (u : Int) r) RF A w' := by
 have c3 := h.oc (o := 3) (by omega) (by omega)
 have c5 := h.oc (o := 5) (by omega) (by omega)
 have c7 := h.oc (o := 7) (by omega) (by omega)
 simp only [dvO, List.getElem?_cons_succ, List.getElem?_cons_zero] at c3 c5 c7
 obtain ⟨pb, po, hpa, -, k0, k1, -⟩ := ps_cells hg hnl
 obtain ⟨lb, lo, rfl, -, hcl⟩ := hl (by intro e; rw [e] at hu; simp at hu)
 have k2 := hcl u hu
 rw [hn] at k2
 rw [hpa] at c3
 obtain ⟨L, hL⟩ : ∃ L, (g.ps.getD n .none).left = L := ⟨_, rfl⟩
 obtain ⟨ra, hra⟩ : ∃ ra, (g.ps.getD n .none).ra = ra := ⟨_, rfl⟩
 obtain ⟨rc, hrc⟩ : ∃ rc, (g.ps.getD n .none).rc = rc := ⟨_, rfl⟩
 obtain ⟨rl, hrl⟩ : ∃ rl, (g.ps.getD n .none).right.length = rl := ⟨_, rfl⟩
 rw [hL] at k0
 rw [hra, hrl, hrc] at k1
 rw [hL] at hs
 have lne : ¬ L = s := hs
 clear hs hL hrl
 have une : ¬ (u : Int) = (l.length : Int) := by omega
 have unn : ¬ u = l.length := by omega
 have ult : (u : Int) < (l.length : Int) := by omega
 have nlt : (n : Int) < (g.ps.length : Int) := by omega
 have HH : Hid (BdS w0 N db 9 (dvO g (.slice (some ⟨lb, lo, none⟩) l.length pc) wl (u : Int) r) RF A w) := h
 have HS : Hid (tpS db g pb po n lb lo u l.length pc L ra rl rc w) := ⟨c3, c5, c7, k2, k0, k1⟩
 clear h hg hl hu hn hnl c3 c5 c7 hpa k0 k1 k2 hcl hra hrc
 generalize l.length = ll at *
 go_enter Tryz.func96, Tryz.ntmps96
 go_upto_region 1 with fail
 obtain ⟨wd, hwd⟩ : ∃ wd : World, wd = w.drew := ⟨_, rfl⟩
 have HD : Hid (BdS w0 N db 9 (dvO g (.slice (some ⟨lb, lo, none⟩) ll pc) wl (u : Int) r) RF A wd) := by show BdS _ _ _ _ _ _ _ _; rw [hwd]; exact HH.out.later (Below.refl _ _).drew
 have SD : Hid (tpS db g pb po n lb lo u ll pc L ra rl rc wd) := by show tpS _ _ _ _ _ _ _ _ _ _ _ _ _ _ _; rw [hwd]; exact HS.out.later (Below.refl _ _).drew
 obtain ⟨d3, d5, d7, m2, m0, m1⟩ := SD.out
 refine wp_region_s (by kernel_rfl) (by kernel_rfl) wd hwd ?_
 clear hwd HH HS
 iterate 10 (refine st_yes (v := ?_) (by rfl) ?_ ?_; rotate_left; (· (go_simp; with_reducible rfl)); (try simp only [Act.put, List.setIfInBounds_toArray, List.set_cons_zero, List.set_cons_succ]))
 refine st_nil ?_
 clear d3 d5 d7 m2 m0 m1
 go_upto_region 3 with fail
 obtain ⟨we, hwe⟩ : ∃ we : World, we = wd.drew := ⟨_, rfl⟩
 have HE : Hid (BdS w0 N db 9 (dvO g (.slice (some ⟨lb, lo, none⟩) ll pc) wl (u : Int) r) RF A we) := by show BdS _ _ _ _ _ _ _ _; rw [hwe]; exact HD.out.later (Below.refl _ _).drew
 have SE : Hid (tpS db g pb po n lb lo u ll pc L ra rl rc we) := by show tpS _ _ _ _ _ _ _ _ _ _ _ _ _ _ _; rw [hwe]; exact SD.out.later (Below.refl _ _).drew
 obtain ⟨d3, d5, d7, m2, m0, m1⟩ := SE.out
 refine wp_region_s (by kernel_rfl) (by kernel_rfl) we hwe ?_
 clear hwe HD SD
 iterate 11 (refine st_yes (v := ?_) (by rfl) ?_ ?_; rotate_left; (· (go_simp; with_reducible rfl)); (try simp only [Act.put, List.setIfInBounds_toArray, List.set_cons_zero, List.set_cons_succ]))
 refine st_nil ?_
 go_upto_region 5 with fail
 clear d3 d5 d7 m2 m0 m1
 obtain ⟨wf, hwf⟩ : ∃ wf : World, wf = we.drew := ⟨_, rfl⟩
 have HF : Hid (BdS w0 N db 9 (dvO g (.slice (some ⟨lb, lo, none⟩) ll pc) wl (u : Int) r) RF A wf) := by show BdS _ _ _ _ _ _ _ _; rw [hwf]; exact HE.out.later (Below.refl _ _).drew
 have d7 : wf.cell? ⟨db, 7, none⟩ = some (.int .i64 (u : Int)) := by rw [hwf]; exact SE.out.2.2.1
 refine wp_region_s (by kernel_rfl) (by kernel_rfl) wf hwf ?_
 clear hwf HE SE
 iterate 6 (refine st_yes (v := ?_) (by rfl) ?_ ?_; rotate_left; (· (go_simp; with_reducible rfl)); (try simp only [Act.put, List.setIfInBounds_toArray, List.set_cons_zero, List.set_cons_succ]))
 refine st_nil ?_
 go_wp2
 refine bodyPost_ret (v := .tuple #[.int .i64 81, .int .i64 (u : Int)]) (by simp [results, Tryz.results96, go_sem]) rfl ?_
 exact ⟨rfl, HF.out⟩
set_option linter.unusedSimpArgs false in
set_option maxRecDepth 100000 in
set_option maxHeartbeats 4000000 in
theorem prod_ok {l : List Int} {u n : Nat} {s : Int} (h : BdS w0 N db 9 (dvO g (.slice pa l.length pc) wl (u : Int) r) RF A w) (hg : GAt 140737488355328 w g) (hl : InRow w pa l) (hu : u < l.length) (hub : u <= 1000000000) (hn : l.getD u 0 = (n : Int)) (hnl : n < g.ps.length) (hs : (g.ps.getD n .none).left = s) (hz : (dlA A).length + A.2.length <= 999999999) : Calls Tryz.prog 96 #[.pointer (some ⟨db, 0, none⟩), .int .i64 s] w fun e w' => e = .returned (.tuple #[.int .i64 0, .int .i64 0]) /\ BdS w0 N db 9 (dvO g (.slice pa l.length pc) wl ((u : Int) + 1) r) RF (clU2 (A.1, ⟨(n : Int), (g.ps.getD n .none).right.length, []⟩ :: A.2)) w' := by
 have c3 := h.oc (o := 3) (by omega) (by omega)
 have c5 := h.oc (o := 5) (by omega) (by omega)
 have c7 := h.oc (o := 7) (by omega) (by omega)
 simp only [dvO, List.getElem?_cons_succ, List.getElem?_cons_zero] at c3 c5 c7
 obtain ⟨pb, po, hpa, -, k0, k1, -⟩ := ps_cells hg hnl
 obtain ⟨lb, lo, rfl, -, hcl⟩ := hl (by intro e; rw [e] at hu; simp at hu)
 have k2 := hcl u hu
 rw [hn] at k2
 rw [hpa] at c3
 obtain ⟨L, hL⟩ : ∃ L, (g.ps.getD n .none).left = L := ⟨_, rfl⟩
 obtain ⟨ra, hra⟩ : ∃ ra, (g.ps.getD n .none).ra = ra := ⟨_, rfl⟩
 obtain ⟨rc, hrc⟩ : ∃ rc, (g.ps.getD n .none).rc = rc := ⟨_, rfl⟩
 obtain ⟨rl, hrl⟩ : ∃ rl, (g.ps.getD n .none).right.length = rl := ⟨_, rfl⟩
 rw [hL] at k0
 rw [hra, hrl, hrc] at k1
 rw [hL] at hs
 rw [hrl]
 subst hs
 have HZ : Hid ((dlA A).length + A.2.length <= 999999999) := hz
 have e2 : IntKind.i64.wrap ((u : Int) + 1) = (u : Int) + 1 := IntWalk.i64_in _ ⟨by omega, by omega⟩
 clear hz hL hrl
 have une : ¬ (u : Int) = (l.length : Int) := by omega
 have unn : ¬ u = l.length := by omega
 have ult : (u : Int) < (l.length : Int) := by omega
 have nlt : (n : Int) < (g.ps.length : Int) := by omega
 have HH : Hid (BdS w0 N db 9 (dvO g (.slice (some ⟨lb, lo, none⟩) l.length pc) wl (u : Int) r) RF A w) := h
 have HS : Hid (tpS db g pb po n lb lo u l.length pc L ra rl rc w) := ⟨c3, c5, c7, k2, k0, k1⟩
 clear h hg hl hu hn hnl c3 c5 c7 hpa k0 k1 k2 hcl hra hrc
 generalize l.length = ll at *
 go_enter Tryz.func96, Tryz.ntmps96
 go_upto_region 1 with fail
 obtain ⟨wd, hwd⟩ : ∃ wd : World, wd = w.drew := ⟨_, rfl⟩
 have HD : Hid (BdS w0 N db 9 (dvO g (.slice (some ⟨lb, lo, none⟩) ll pc) wl (u : Int) r) RF A wd) := by show BdS _ _ _ _ _ _ _ _; rw [hwd]; exact HH.out.later (Below.refl _ _).drew
 have SD : Hid (tpS db g pb po n lb lo u ll pc L ra rl rc wd) := by show tpS _ _ _ _ _ _ _ _ _ _ _ _ _ _ _; rw [hwd]; exact HS.out.later (Below.refl _ _).drew
 obtain ⟨d3, d5, d7, m2, m0, m1⟩ := SD.out
 refine wp_region_s (by kernel_rfl) (by kernel_rfl) wd hwd ?_
 clear hwd HH HS
 iterate 10 (refine st_yes (v := ?_) (by rfl) ?_ ?_; rotate_left; (· (go_simp; with_reducible rfl)); (try simp only [Act.put, List.setIfInBounds_toArray, List.set_cons_zero, List.set_cons_succ]))
 refine st_nil ?_
 clear d3 d5 d7 m2 m0 m1
 go_upto_region 3 with fail
 obtain ⟨we, hwe⟩ : ∃ we : World, we = wd.drew := ⟨_, rfl⟩
 have HE : Hid (BdS w0 N db 9 (dvO g (.slice (some ⟨lb, lo, none⟩) ll pc) wl (u : Int) r) RF A we) := by show BdS _ _ _ _ _ _ _ _; rw [hwe]; exact HD.out.later (Below.refl _ _).drew
 have SE : Hid (tpS db g pb po n lb lo u ll pc L ra rl rc we) := by show tpS _ _ _ _ _ _ _ _ _ _ _ _ _ _ _; rw [hwe]; exact SD.out.later (Below.refl _ _).drew
 obtain ⟨d3, d5, d7, m2, m0, m1⟩ := SE.out
 refine wp_region_s (by kernel_rfl) (by kernel_rfl) we hwe ?_
 clear hwe HD SD
 iterate 11 (refine st_yes (v := ?_) (by rfl) ?_ ?_; rotate_left; (· (go_simp; with_reducible rfl)); (try simp only [Act.put, List.setIfInBounds_toArray, List.set_cons_zero, List.set_cons_succ]))
 refine st_nil ?_
 go_upto_region 6 with fail
 clear d3 d5 d7 m2 m0 m1
 obtain ⟨wf, hwf⟩ : ∃ wf : World, wf = we.drew := ⟨_, rfl⟩
 have HF : Hid (BdS w0 N db 9 (dvO g (.slice (some ⟨lb, lo, none⟩) ll pc) wl (u : Int) r) RF A wf) := by show BdS _ _ _ _ _ _ _ _; rw [hwf]; exact HE.out.later (Below.refl _ _).drew
 have SF : Hid (tpS db g pb po n lb lo u ll pc L ra rl rc wf) := by show tpS _ _ _ _ _ _ _ _ _ _ _ _ _ _ _; rw [hwf]; exact SE.out.later (Below.refl _ _).drew
 refine wp_region_x (S := SX 14 (fun _ => True) (tpS db g pb po n lb lo u ll pc L ra rl rc)) (by kernel_rfl) ?_
 rw [<- hwf]
 clear hwf HE SE
 refine wpAnyX_takeBP (m := 14) (i := 0) (v := ?_) rfl (by kernel_rfl) (by decide) (by decide +kernel) (by decide +kernel) (fun _ _ _ h => h) (Or.inl ⟨by rfl, ?_⟩) (SX.both trivial SF.out) ?_
 rotate_left
 ·(intro w _; go_simp; try (with_reducible rfl))
 (try simp only [Act.put, List.setIfInBounds_toArray, List.set_cons_zero, List.set_cons_succ])
 refine wpAnyX_takeBP (m := 14) (i := 1) (v := ?_) rfl (by kernel_rfl) (by decide) (by decide +kernel) (by decide +kernel) (fun _ _ _ h => h) (Or.inl ⟨by rfl, ?_⟩) (SX.both trivial SF.out) ?_
 rotate_left
 ·(intro w _; go_simp; try (with_reducible rfl))
 (try simp only [Act.put, List.setIfInBounds_toArray, List.set_cons_zero, List.set_cons_succ])
 refine wpAnyX_takeBP (m := 14) (i := 2) (v := ?_) rfl (by kernel_rfl) (by decide) (by decide +kernel) (by decide +kernel) (fun _ _ _ h => h) (Or.inl ⟨by rfl, ?_⟩) (SX.both trivial SF.out) ?_
 rotate_left
 ·(intro w _; go_simp; try (with_reducible rfl))
 (try simp only [Act.put, List.setIfInBounds_toArray, List.set_cons_zero, List.set_cons_succ])
 refine wpAnyX_takeBP (m := 14) (i := 3) (v := ?_) rfl (by kernel_rfl) (by decide) (by decide +kernel) (by decide +kernel) (fun _ _ _ h => h) (Or.inl ⟨by rfl, ?_⟩) (SX.both trivial SF.out) ?_
 rotate_left
 ·(intro w _; go_simp; try (with_reducible rfl))
 (try simp only [Act.put, List.setIfInBounds_toArray, List.set_cons_zero, List.set_cons_succ])
 refine wpAnyX_takeBP (m := 14) (i := 4) (v := ?_) rfl (by kernel_rfl) (by decide) (by decide +kernel) (by decide +kernel) (fun _ _ _ h => h) (Or.inl ⟨by rfl, ?_⟩) (SX.both trivial SF.out) ?_
 rotate_left
 ·(intro w _; go_simp; try (with_reducible rfl))
 (try simp only [Act.put, List.setIfInBounds_toArray, List.set_cons_zero, List.set_cons_succ])
 refine wpAnyX_takeBP (m := 14) (i := 5) (v := ?_) rfl (by kernel_rfl) (by decide) (by decide +kernel) (by decide +kernel) (fun _ _ _ h => h) (Or.inl ⟨by rfl, ?_⟩) (SX.both trivial SF.out) ?_
 rotate_left
 ·(intro w _; go_simp; try (with_reducible rfl))
 (try simp only [Act.put, List.setIfInBounds_toArray, List.set_cons_zero, List.set_cons_succ])
 refine wpAnyX_takeBP (m := 14) (i := 6) (v := ?_) rfl (by kernel_rfl) (by decide) (by decide +kernel) (by decide +kernel) (fun _ _ _ h => h) (Or.inl ⟨by rfl, ?_⟩) (SX.both trivial SF.out) ?_
 rotate_left
 ·(intro w _; go_simp; try (with_reducible rfl))
 (try simp only [Act.put, List.setIfInBounds_toArray, List.set_cons_zero, List.set_cons_succ])
 refine wpAnyX_takeBP (m := 14) (i := 7) (v := ?_) rfl (by kernel_rfl) (by decide) (by decide +kernel) (by decide +kernel) (fun _ _ _ h => h) (Or.inl ⟨by rfl, ?_⟩) (SX.both trivial SF.out) ?_
 rotate_left
 ·(intro w _; go_simp; try (with_reducible rfl))
 (try simp only [Act.put, List.setIfInBounds_toArray, List.set_cons_zero, List.set_cons_succ])
 refine wpAnyX_takeBC (m := 14) (i := 8) (v := ?_) [(14, 13), (13, 12), (12, 11), (11, 10), (10, 8)] rfl (by kernel_rfl) (by kernel_rfl) (fun L h e => h (10, 8) (by decide) (h (11, 10) (by decide) (h (12, 11) (by decide) (h (13, 12) (by decide) (h (14, 13) (by decide) e))))) (by decide) (by decide +kernel) (by decide +kernel) (fun _ _ _ h => h) (by kernel_rfl) (Or.inl ⟨by rfl, ?_⟩) (SX.both trivial SF.out) ?_
 rotate_left
 ·(intro w hSw; have z0 := hSw.2; unfold tpS at z0; obtain ⟨z1, z2, z3, z4, z5, z6⟩ := z0; clear hSw; go_simp; try (with_reducible rfl))
 (try simp only [Act.put, List.setIfInBounds_toArray, List.set_cons_zero, List.set_cons_succ])
 refine wpAnyX_takeBP (m := 14) (i := 9) (v := ?_) rfl (by kernel_rfl) (by decide) (by decide +kernel) (by decide +kernel) (fun _ _ _ h => h) (Or.inl ⟨by rfl, ?_⟩) (SX.both trivial SF.out) ?_
 rotate_left
 ·(intro w _; go_simp; try (with_reducible rfl))
 (try simp only [Act.put, List.setIfInBounds_toArray, List.set_cons_zero, List.set_cons_succ])
 refine wpAnyX_takeBP (m := 14) (i := 10) (v := ?_) rfl (by kernel_rfl) (by decide) (by decide +kernel) (by decide +kernel) (fun _ _ _ h => h) (Or.inl ⟨by rfl, ?_⟩) (SX.both trivial SF.out) ?_
 rotate_left
 ·(intro w _; go_simp; try (with_reducible rfl))
 (try simp only [Act.put, List.setIfInBounds_toArray, List.set_cons_zero, List.set_cons_succ])
 refine wpAnyX_takeBP (m := 14) (i := 11) (v := ?_) rfl (by kernel_rfl) (by decide) (by decide +kernel) (by decide +kernel) (fun _ _ _ h => h) (Or.inl ⟨by rfl, ?_⟩) (SX.both trivial SF.out) ?_
 rotate_left
 ·(intro w _; go_simp; try (with_reducible rfl))
 (try simp only [Act.put, List.setIfInBounds_toArray, List.set_cons_zero, List.set_cons_succ])
 refine wpAnyX_takeBC (m := 14) (i := 12) (v := ?_) [(14, 13), (13, 12)] rfl (by kernel_rfl) (by kernel_rfl) (fun L h e => h (13, 12) (by decide) (h (14, 13) (by decide) e)) (by decide) (by decide +kernel) (by decide +kernel) (fun _ _ _ h => h) (by kernel_rfl) (Or.inl ⟨by rfl, ?_⟩) (SX.both trivial SF.out) ?_
 rotate_left
 ·(intro w hSw; have z0 := hSw.2; unfold tpS at z0; obtain ⟨z1, z2, z3, z4, z5, z6⟩ := z0; clear hSw; go_simp; try (with_reducible rfl))
 (try simp only [Act.put, List.setIfInBounds_toArray, List.set_cons_zero, List.set_cons_succ])
 refine wpAnyX_takeBP (m := 14) (i := 13) (v := ?_) rfl (by kernel_rfl) (by decide) (by decide +kernel) (by decide +kernel) (fun _ _ _ h => h) (Or.inl ⟨by rfl, ?_⟩) (SX.both trivial SF.out) ?_
 rotate_left
 ·(intro w _; go_simp; try (with_reducible rfl))
 (try simp only [Act.put, List.setIfInBounds_toArray, List.set_cons_zero, List.set_cons_succ])
 refine wpAnyX_one (j := 14) (by decide +kernel) rfl (fun K' hK => ?_)
 refine step_callX rfl 76 #[.pointer (some ⟨db, 9, none⟩), .int .i64 (n : Int), .int .i64 (rl : Int)] _ (run_W3 ent_node (v0 := .pointer (some ⟨db, 9, none⟩)) (v1 := .int .i64 (n : Int)) (v2 := .int .i64 (rl : Int)) (by rfl) (by rfl) (by rfl) (by rfl)) (node_B HF.out HZ.out) ?_
 rintro e w3 ⟨rfl, b3⟩
 have H3 : Hid (BdS w0 N db 9 (dvO g (.slice (some ⟨lb, lo, none⟩) ll pc) wl (u : Int) r) RF (clU2 (A.1, ⟨(n : Int), rl, []⟩ :: A.2)) w3) := b3
 clear b3 SF HF
 refine ⟨_, rfl, hK.out _ _ (SX.one trivial (by kernel_rfl)) ?_⟩
 clear hK K'
 (try simp only [Act.put, List.setIfInBounds_toArray, List.set_cons_zero, List.set_cons_succ])
 refine wpAnyX_done (by decide +kernel) ?_
 have d7 : w3.cell? ⟨db, 7, none⟩ = some (.int .i64 (u : Int)) := H3.out.oc (o := 7) (by omega) (by omega)
 have f7 : w3.frozen? ⟨db, 7, none⟩ = false := H3.out.fro 7
 have FIN : Hid (BdS w0 N db 9 (dvO g (.slice (some ⟨lb, lo, none⟩) ll pc) wl ((u : Int) + 1) r) RF (clU2 (A.1, ⟨(n : Int), rl, []⟩ :: A.2)) (w3.setCell ⟨db, 7, none⟩ (.int .i64 ((u : Int) + 1)))) := by
  have := H3.out.setC (o := 7) (by omega) (by omega) (c := .int .i64 (u : Int)) rfl (.int .i64 ((u : Int) + 1))
  rw [dvO_u] at this
  exact this
 clear H3
 go_wp2
 refine bodyPost_ret (v := .tuple #[.int .i64 0, .int .i64 0]) (by simp [results, Tryz.results96, go_sem]) rfl ?_
 exact ⟨rfl, FIN.out⟩
end
def twdS (db : Nat) (xb xo r xl xc : Nat) (tk : Int) (tx : ByteArray) (w : World) : Prop := w.cell? ⟨db, 6, none⟩ = some (.slice (some ⟨xb, xo, none⟩) xl xc) /\ w.cell? ⟨db, 8, none⟩ = some (.int .i64 (r : Int)) /\ w.cell? ⟨xb, xo + r * 2, none⟩ = some (.int .i64 tk) /\ w.cell? ⟨xb, xo + r * 2 + 1, none⟩ = some (.string tx)
theorem twdS.later {db : Nat} {xb xo r xl xc : Nat} {tk : Int} {tx : ByteArray} {w w' : World} (h : twdS db xb xo r xl xc tk tx w) (hb : Below w.heap.size w w') : twdS db xb xo r xl xc tk tx w' := ⟨cellW hb h.1, cellW hb h.2.1, cellW hb h.2.2.1, cellW hb h.2.2.2⟩
theorem ent_leaf : EntW 74 := fun _ _ => by kernel_rfl
section
variable {w0 : World} {N db : Nat} {RF : Nat -> Option Obj} {w : World} {g : GV} {wa : Option Addr} {wc : Nat} {pl : Value} {u : Int} {A : AB}
set_option linter.unusedSimpArgs false in
set_option maxRecDepth 100000 in
set_option maxHeartbeats 4000000 in
theorem word_short {L : List (Int × ByteArray)} {r : Nat} {s : Int} (h : BdS w0 N db 9 (dvO g pl (.slice wa L.length wc) u (r : Int)) RF A w) (hr : r = L.length) : Calls Tryz.prog 95 #[.pointer (some ⟨db, 0, none⟩), .int .i64 s] w fun e w' => e = .returned (.tuple #[.int .i64 82, .int .i64 (r : Int)]) /\ BdS w0 N db 9 (dvO g pl (.slice wa L.length wc) u (r : Int)) RF A w' := by
 have c6 := h.oc (o := 6) (by omega) (by omega)
 have c8 := h.oc (o := 8) (by omega) (by omega)
 simp only [dvO, List.getElem?_cons_succ, List.getElem?_cons_zero] at c6 c8
 have HH : Hid (BdS w0 N db 9 (dvO g pl (.slice wa L.length wc) u (r : Int)) RF A w) := h
 rw [<- hr] at c6
 clear h hr
 go_enter Tryz.func95, Tryz.ntmps95
 go_upto_region 1 with fail
 obtain ⟨wd, hwd⟩ : ∃ wd : World, wd = w.drew := ⟨_, rfl⟩
 have HD : Hid (BdS w0 N db 9 (dvO g pl (.slice wa L.length wc) u (r : Int)) RF A wd) := by show BdS _ _ _ _ _ _ _ _; rw [hwd]; exact HH.out.later (Below.refl _ _).drew
 have d6 : wd.cell? ⟨db, 6, none⟩ = some (.slice wa r wc) := by rw [hwd]; exact c6
 have d8 : wd.cell? ⟨db, 8, none⟩ = some (.int .i64 (r : Int)) := by rw [hwd]; exact c8
 refine wp_region_s (by kernel_rfl) (by kernel_rfl) wd hwd ?_
 clear hwd c6 c8 HH
 iterate 11 (refine st_yes (v := ?_) (by rfl) ?_ ?_; rotate_left; (· (go_simp; with_reducible rfl)); (try simp only [Act.put, List.setIfInBounds_toArray, List.set_cons_zero, List.set_cons_succ]))
 iterate 13 (refine st_no (by rfl) ?_; (try simp only [Act.put, List.setIfInBounds_toArray, List.set_cons_zero, List.set_cons_succ]))
 iterate 1 (refine st_yes (v := ?_) (by rfl) ?_ ?_; rotate_left; (· (go_simp; with_reducible rfl)); (try simp only [Act.put, List.setIfInBounds_toArray, List.set_cons_zero, List.set_cons_succ]))
 refine st_nil ?_
 go_upto_region 2 with fail
 obtain ⟨we, hwe⟩ : ∃ we : World, we = wd.drew := ⟨_, rfl⟩
 have HE : Hid (BdS w0 N db 9 (dvO g pl (.slice wa L.length wc) u (r : Int)) RF A we) := by show BdS _ _ _ _ _ _ _ _; rw [hwe]; exact HD.out.later (Below.refl _ _).drew
 have e8 : we.cell? ⟨db, 8, none⟩ = some (.int .i64 (r : Int)) := by rw [hwe]; exact d8
 refine wp_region_s (by kernel_rfl) (by kernel_rfl) we hwe ?_
 clear hwe d6 d8 HD
 iterate 6 (refine st_yes (v := ?_) (by rfl) ?_ ?_; rotate_left; (· (go_simp; with_reducible rfl)); (try simp only [Act.put, List.setIfInBounds_toArray, List.set_cons_zero, List.set_cons_succ]))
 refine st_nil ?_
 go_wp2
 refine bodyPost_ret (v := .tuple #[.int .i64 82, .int .i64 (r : Int)]) (by simp [results, Tryz.results95, go_sem]) rfl ?_
 exact ⟨rfl, HE.out⟩
set_option linter.unusedSimpArgs false in
set_option maxRecDepth 100000 in
set_option maxHeartbeats 4000000 in
theorem word_wrong {L : List (Int × ByteArray)} {r : Nat} {s : Int} (h : BdS w0 N db 9 (dvO g pl (.slice wa L.length wc) u (r : Int)) RF A w) (hl : TkRow w wa L) (hr : r < L.length) (hrb : r <= 1000000000) (hs : (L.getD r (0, ByteArray.empty)).1 ≠ s) : Calls Tryz.prog 95 #[.pointer (some ⟨db, 0, none⟩), .int .i64 s] w fun e w' => e = .returned (.tuple #[.int .i64 82, .int .i64 (r : Int)]) /\ BdS w0 N db 9 (dvO g pl (.slice wa L.length wc) u (r : Int)) RF A w' := by
 have c6 := h.oc (o := 6) (by omega) (by omega)
 have c8 := h.oc (o := 8) (by omega) (by omega)
 simp only [dvO, List.getElem?_cons_succ, List.getElem?_cons_zero] at c6 c8
 obtain ⟨xb, xo, rfl, -, hcl⟩ := hl (by intro e; rw [e] at hr; simp at hr)
 obtain ⟨k0, k1⟩ := hcl r hr
 obtain ⟨x, hx⟩ : ∃ x, L.getD r (0, ByteArray.empty) = x := ⟨_, rfl⟩
 rw [hx] at k0 k1 hs
 clear hx
 obtain ⟨tk, tx⟩ := x
 dsimp only at k0 k1 hs
 have sne : ¬ tk = s := hs
 clear hs
 have rne : ¬ (r : Int) = (L.length : Int) := by omega
 have rnn : ¬ r = L.length := by omega
 have rlt : (r : Int) < (L.length : Int) := by omega
 have HH : Hid (BdS w0 N db 9 (dvO g pl (.slice (some ⟨xb, xo, none⟩) L.length wc) u (r : Int)) RF A w) := h
 have HS : Hid (twdS db xb xo r L.length wc tk tx w) := ⟨c6, c8, k0, k1⟩
 clear h hl c6 c8 k0 k1 hcl
 have rbe : ((r : Int) == (L.length : Int)) = false := by simp; omega
 clear hr
 generalize L.length = ll at *
 go_enter Tryz.func95, Tryz.ntmps95
 go_upto_region 1 with fail
 obtain ⟨wd, hwd⟩ : ∃ wd : World, wd = w.drew := ⟨_, rfl⟩
 have HD : Hid (BdS w0 N db 9 (dvO g pl (.slice (some ⟨xb, xo, none⟩) ll wc) u (r : Int)) RF A wd) := by show BdS _ _ _ _ _ _ _ _; rw [hwd]; exact HH.out.later (Below.refl _ _).drew
 have SD : Hid (twdS db xb xo r ll wc tk tx wd) := by show twdS _ _ _ _ _ _ _ _ _; rw [hwd]; exact HS.out.later (Below.refl _ _).drew
 obtain ⟨d6, d8, m0, m1⟩ := SD.out
 refine wp_region_s (by kernel_rfl) (by kernel_rfl) wd hwd ?_
 clear hwd HH HS
 iterate 11 (refine st_yes (v := ?_) (by rfl) ?_ ?_; rotate_left; (· (go_simp; with_reducible rfl)); (try simp only [Act.put, List.setIfInBounds_toArray, List.set_cons_zero, List.set_cons_succ]))
 (try simp only [rbe])
 iterate 14 (refine st_yes (v := ?_) (by rfl) ?_ ?_; rotate_left; (· (go_simp; with_reducible rfl)); (try simp only [Act.put, List.setIfInBounds_toArray, List.set_cons_zero, List.set_cons_succ]))
 refine st_nil ?_
 clear d6 d8 m0 m1
 go_upto_region 2 with fail
 obtain ⟨wf, hwf⟩ : ∃ wf : World, wf = wd.drew := ⟨_, rfl⟩
 have HF : Hid (BdS w0 N db 9 (dvO g pl (.slice (some ⟨xb, xo, none⟩) ll wc) u (r : Int)) RF A wf) := by show BdS _ _ _ _ _ _ _ _; rw [hwf]; exact HD.out.later (Below.refl _ _).drew
 have d8 : wf.cell? ⟨db, 8, none⟩ = some (.int .i64 (r : Int)) := by rw [hwf]; exact SD.out.2.1
 refine wp_region_s (by kernel_rfl) (by kernel_rfl) wf hwf ?_
 clear hwf HD SD
 iterate 6 (refine st_yes (v := ?_) (by rfl) ?_ ?_; rotate_left; (· (go_simp; with_reducible rfl)); (try simp only [Act.put, List.setIfInBounds_toArray, List.set_cons_zero, List.set_cons_succ]))
 refine st_nil ?_
 go_wp2
 refine bodyPost_ret (v := .tuple #[.int .i64 82, .int .i64 (r : Int)]) (by simp [results, Tryz.results95, go_sem]) rfl ?_
 exact ⟨rfl, HF.out⟩
set_option linter.unusedSimpArgs false in
set_option maxRecDepth 100000 in
set_option maxHeartbeats 4000000 in
theorem word_ok {L : List (Int × ByteArray)} {r : Nat} {s : Int} (h : BdS w0 N db 9 (dvO g pl (.slice wa L.length wc) u (r : Int)) RF A w) (hl : TkRow w wa L) (hr : r < L.length) (hrb : r <= 1000000000) (hs : (L.getD r (0, ByteArray.empty)).1 = s) (hz : (dlA A).length + A.2.length <= 999999999) : Calls Tryz.prog 95 #[.pointer (some ⟨db, 0, none⟩), .int .i64 s] w fun e w' => e = .returned (.tuple #[.int .i64 0, .int .i64 0]) /\ BdS w0 N db 9 (dvO g pl (.slice wa L.length wc) u ((r : Int) + 1)) RF (clU2 (adA A (lfT (L.getD r (0, ByteArray.empty)).1 (L.getD r (0, ByteArray.empty)).2))) w' := by
 have c6 := h.oc (o := 6) (by omega) (by omega)
 have c8 := h.oc (o := 8) (by omega) (by omega)
 simp only [dvO, List.getElem?_cons_succ, List.getElem?_cons_zero] at c6 c8
 obtain ⟨xb, xo, rfl, -, hcl⟩ := hl (by intro e; rw [e] at hr; simp at hr)
 obtain ⟨k0, k1⟩ := hcl r hr
 obtain ⟨x, hx⟩ : ∃ x, L.getD r (0, ByteArray.empty) = x := ⟨_, rfl⟩
 rw [hx] at k0 k1 hs ⊢
 clear hx
 obtain ⟨tk, tx⟩ := x
 dsimp only at k0 k1 hs ⊢
 subst hs
 have HZ : Hid ((dlA A).length + A.2.length <= 999999999) := hz
 have e2 : IntKind.i64.wrap ((r : Int) + 1) = (r : Int) + 1 := IntWalk.i64_in _ ⟨by omega, by omega⟩
 clear hz
 have rne : ¬ (r : Int) = (L.length : Int) := by omega
 have rnn : ¬ r = L.length := by omega
 have rlt : (r : Int) < (L.length : Int) := by omega
 have HH : Hid (BdS w0 N db 9 (dvO g pl (.slice (some ⟨xb, xo, none⟩) L.length wc) u (r : Int)) RF A w) := h
 have HS : Hid (twdS db xb xo r L.length wc tk tx w) := ⟨c6, c8, k0, k1⟩
 clear h hl c6 c8 k0 k1 hcl
 have rbe : ((r : Int) == (L.length : Int)) = false := by simp; omega
 clear hr
 generalize L.length = ll at *
 go_enter Tryz.func95, Tryz.ntmps95
 go_upto_region 1 with fail
 obtain ⟨wd, hwd⟩ : ∃ wd : World, wd = w.drew := ⟨_, rfl⟩
 have HD : Hid (BdS w0 N db 9 (dvO g pl (.slice (some ⟨xb, xo, none⟩) ll wc) u (r : Int)) RF A wd) := by show BdS _ _ _ _ _ _ _ _; rw [hwd]; exact HH.out.later (Below.refl _ _).drew
 have SD : Hid (twdS db xb xo r ll wc tk tx wd) := by show twdS _ _ _ _ _ _ _ _ _; rw [hwd]; exact HS.out.later (Below.refl _ _).drew
 obtain ⟨d6, d8, m0, m1⟩ := SD.out
 refine wp_region_s (by kernel_rfl) (by kernel_rfl) wd hwd ?_
 clear hwd HH HS
 iterate 11 (refine st_yes (v := ?_) (by rfl) ?_ ?_; rotate_left; (· (go_simp; with_reducible rfl)); (try simp only [Act.put, List.setIfInBounds_toArray, List.set_cons_zero, List.set_cons_succ]))
 (try simp only [rbe])
 iterate 14 (refine st_yes (v := ?_) (by rfl) ?_ ?_; rotate_left; (· (go_simp; with_reducible rfl)); (try simp only [Act.put, List.setIfInBounds_toArray, List.set_cons_zero, List.set_cons_succ]))
 refine st_nil ?_
 clear d6 d8 m0 m1
 go_upto_region 3 with fail
 obtain ⟨wf, hwf⟩ : ∃ wf : World, wf = wd.drew := ⟨_, rfl⟩
 have HF : Hid (BdS w0 N db 9 (dvO g pl (.slice (some ⟨xb, xo, none⟩) ll wc) u (r : Int)) RF A wf) := by show BdS _ _ _ _ _ _ _ _; rw [hwf]; exact HD.out.later (Below.refl _ _).drew
 have SF : Hid (twdS db xb xo r ll wc tk tx wf) := by show twdS _ _ _ _ _ _ _ _ _; rw [hwf]; exact SD.out.later (Below.refl _ _).drew
 refine wp_region_x (S := SX 13 (fun _ => True) (twdS db xb xo r ll wc tk tx)) (by kernel_rfl) ?_
 rw [<- hwf]
 clear hwf HD SD
 refine wpAnyX_takeBP (m := 13) (i := 0) (v := ?_) rfl (by kernel_rfl) (by decide) (by decide +kernel) (by decide +kernel) (fun _ _ _ h => h) (Or.inl ⟨by rfl, ?_⟩) (SX.both trivial SF.out) ?_
 rotate_left
 ·(intro w _; go_simp; try (with_reducible rfl))
 (try simp only [Act.put, List.setIfInBounds_toArray, List.set_cons_zero, List.set_cons_succ])
 refine wpAnyX_takeBP (m := 13) (i := 1) (v := ?_) rfl (by kernel_rfl) (by decide) (by decide +kernel) (by decide +kernel) (fun _ _ _ h => h) (Or.inl ⟨by rfl, ?_⟩) (SX.both trivial SF.out) ?_
 rotate_left
 ·(intro w _; go_simp; try (with_reducible rfl))
 (try simp only [Act.put, List.setIfInBounds_toArray, List.set_cons_zero, List.set_cons_succ])
 refine wpAnyX_takeBP (m := 13) (i := 2) (v := ?_) rfl (by kernel_rfl) (by decide) (by decide +kernel) (by decide +kernel) (fun _ _ _ h => h) (Or.inl ⟨by rfl, ?_⟩) (SX.both trivial SF.out) ?_
 rotate_left
 ·(intro w _; go_simp; try (with_reducible rfl))
 (try simp only [Act.put, List.setIfInBounds_toArray, List.set_cons_zero, List.set_cons_succ])
 refine wpAnyX_takeBP (m := 13) (i := 3) (v := ?_) rfl (by kernel_rfl) (by decide) (by decide +kernel) (by decide +kernel) (fun _ _ _ h => h) (Or.inl ⟨by rfl, ?_⟩) (SX.both trivial SF.out) ?_
 rotate_left
 ·(intro w _; go_simp; try (with_reducible rfl))
 (try simp only [Act.put, List.setIfInBounds_toArray, List.set_cons_zero, List.set_cons_succ])
 refine wpAnyX_takeBP (m := 13) (i := 4) (v := ?_) rfl (by kernel_rfl) (by decide) (by decide +kernel) (by decide +kernel) (fun _ _ _ h => h) (Or.inl ⟨by rfl, ?_⟩) (SX.both trivial SF.out) ?_
 rotate_left
 ·(intro w _; go_simp; try (with_reducible rfl))
 (try simp only [Act.put, List.setIfInBounds_toArray, List.set_cons_zero, List.set_cons_succ])
 refine wpAnyX_takeBP (m := 13) (i := 5) (v := ?_) rfl (by kernel_rfl) (by decide) (by decide +kernel) (by decide +kernel) (fun _ _ _ h => h) (Or.inl ⟨by rfl, ?_⟩) (SX.both trivial SF.out) ?_
 rotate_left
 ·(intro w _; go_simp; try (with_reducible rfl))
 (try simp only [Act.put, List.setIfInBounds_toArray, List.set_cons_zero, List.set_cons_succ])
 refine wpAnyX_takeBC (m := 13) (i := 6) (v := ?_) [(13, 12), (12, 11), (11, 6)] rfl (by kernel_rfl) (by kernel_rfl) (fun L h e => h (11, 6) (by decide) (h (12, 11) (by decide) (h (13, 12) (by decide) e))) (by decide) (by decide +kernel) (by decide +kernel) (fun _ _ _ h => h) (by kernel_rfl) (Or.inl ⟨by rfl, ?_⟩) (SX.both trivial SF.out) ?_
 rotate_left
 ·(intro w hSw; have z0 := hSw.2; unfold twdS at z0; obtain ⟨z1, z2, z3, z4⟩ := z0; clear hSw; go_simp; try (with_reducible rfl))
 (try simp only [Act.put, List.setIfInBounds_toArray, List.set_cons_zero, List.set_cons_succ])
 refine wpAnyX_takeBP (m := 13) (i := 7) (v := ?_) rfl (by kernel_rfl) (by decide) (by decide +kernel) (by decide +kernel) (fun _ _ _ h => h) (Or.inl ⟨by rfl, ?_⟩) (SX.both trivial SF.out) ?_
 rotate_left
 ·(intro w _; go_simp; try (with_reducible rfl))
 (try simp only [Act.put, List.setIfInBounds_toArray, List.set_cons_zero, List.set_cons_succ])
 refine wpAnyX_takeBP (m := 13) (i := 8) (v := ?_) rfl (by kernel_rfl) (by decide) (by decide +kernel) (by decide +kernel) (fun _ _ _ h => h) (Or.inl ⟨by rfl, ?_⟩) (SX.both trivial SF.out) ?_
 rotate_left
 ·(intro w _; go_simp; try (with_reducible rfl))
 (try simp only [Act.put, List.setIfInBounds_toArray, List.set_cons_zero, List.set_cons_succ])
 refine wpAnyX_takeBP (m := 13) (i := 9) (v := ?_) rfl (by kernel_rfl) (by decide) (by decide +kernel) (by decide +kernel) (fun _ _ _ h => h) (Or.inl ⟨by rfl, ?_⟩) (SX.both trivial SF.out) ?_
 rotate_left
 ·(intro w _; go_simp; try (with_reducible rfl))
 (try simp only [Act.put, List.setIfInBounds_toArray, List.set_cons_zero, List.set_cons_succ])
 refine wpAnyX_takeBC (m := 13) (i := 10) (v := ?_) [(13, 12), (12, 11), (11, 10)] rfl (by kernel_rfl) (by kernel_rfl) (fun L h e => h (11, 10) (by decide) (h (12, 11) (by decide) (h (13, 12) (by decide) e))) (by decide) (by decide +kernel) (by decide +kernel) (fun _ _ _ h => h) (by kernel_rfl) (Or.inl ⟨by rfl, ?_⟩) (SX.both trivial SF.out) ?_
 rotate_left
 ·(intro w hSw; have z0 := hSw.2; unfold twdS at z0; obtain ⟨z1, z2, z3, z4⟩ := z0; clear hSw; go_simp; try (with_reducible rfl))
 (try simp only [Act.put, List.setIfInBounds_toArray, List.set_cons_zero, List.set_cons_succ])
 refine wpAnyX_takeBP (m := 13) (i := 11) (v := ?_) rfl (by kernel_rfl) (by decide) (by decide +kernel) (by decide +kernel) (fun _ _ _ h => h) (Or.inl ⟨by rfl, ?_⟩) (SX.both trivial SF.out) ?_
 rotate_left
 ·(intro w _; go_simp; try (with_reducible rfl))
 (try simp only [Act.put, List.setIfInBounds_toArray, List.set_cons_zero, List.set_cons_succ])
 refine wpAnyX_takeBC (m := 13) (i := 12) (v := ?_) [(13, 12)] rfl (by kernel_rfl) (by kernel_rfl) (fun L h e => h (13, 12) (by decide) e) (by decide) (by decide +kernel) (by decide +kernel) (fun _ _ _ h => h) (by kernel_rfl) (Or.inl ⟨by rfl, ?_⟩) (SX.both trivial SF.out) ?_
 rotate_left
 ·(intro w hSw; have z0 := hSw.2; unfold twdS at z0; obtain ⟨z1, z2, z3, z4⟩ := z0; clear hSw; go_simp; try (with_reducible rfl))
 (try simp only [Act.put, List.setIfInBounds_toArray, List.set_cons_zero, List.set_cons_succ])
 refine wpAnyX_one (j := 13) (by decide +kernel) rfl (fun K' hK => ?_)
 refine step_callX rfl 74 #[.pointer (some ⟨db, 9, none⟩), .agg #[.int .i64 tk, .string tx]] _ (run_W2 ent_leaf (v0 := .pointer (some ⟨db, 9, none⟩)) (v1 := .agg #[.int .i64 tk, .string tx]) (by rfl) (by rfl) (by rfl)) (leaf_B tk tx HF.out HZ.out) ?_
 rintro e w3 ⟨rfl, b3⟩
 have H3 : Hid (BdS w0 N db 9 (dvO g pl (.slice (some ⟨xb, xo, none⟩) ll wc) u (r : Int)) RF (clU2 (adA A (lfT tk tx))) w3) := b3
 clear b3 SF HF
 refine ⟨_, rfl, hK.out _ _ (SX.one trivial (by kernel_rfl)) ?_⟩
 clear hK K'
 (try simp only [Act.put, List.setIfInBounds_toArray, List.set_cons_zero, List.set_cons_succ])
 refine wpAnyX_done (by decide +kernel) ?_
 have d8 : w3.cell? ⟨db, 8, none⟩ = some (.int .i64 (r : Int)) := H3.out.oc (o := 8) (by omega) (by omega)
 have f8 : w3.frozen? ⟨db, 8, none⟩ = false := H3.out.fro 8
 have FIN : Hid (BdS w0 N db 9 (dvO g pl (.slice (some ⟨xb, xo, none⟩) ll wc) u ((r : Int) + 1)) RF (clU2 (adA A (lfT tk tx))) (w3.setCell ⟨db, 8, none⟩ (.int .i64 ((r : Int) + 1)))) := by
  have := H3.out.setC (o := 8) (by omega) (by omega) (c := .int .i64 (r : Int)) rfl (.int .i64 ((r : Int) + 1))
  rw [dvO_r] at this
  exact this
 clear H3
 go_wp2
 refine bodyPost_ret (v := .tuple #[.int .i64 0, .int .i64 0]) (by simp [results, Tryz.results95, go_sem]) rfl ?_
 exact ⟨rfl, FIN.out⟩
end
set_option linter.unusedSimpArgs false in
set_option maxRecDepth 100000 in
set_option maxHeartbeats 4000000 in
theorem step_term {db : Nat} {n e1 at_ : Int} {w : World} {P : World -> Prop} (hn : Calls Tryz.prog 94 #[.pointer (some ⟨db, 0, none⟩)] w fun e w' => e = .returned (.agg #[.int .i64 1, .int .i64 n]) /\ Below w.heap.size w w') (ht : ∀ w', Below w.heap.size w w' -> Calls Tryz.prog 95 #[.pointer (some ⟨db, 0, none⟩), .int .i64 n] w' fun e w'' => e = .returned (.tuple #[.int .i64 e1, .int .i64 at_]) /\ P w'') : Calls Tryz.prog 58 #[.pointer (some ⟨db, 0, none⟩)] w fun e w' => e = .returned (.tuple #[.int .i64 e1, .int .i64 at_]) /\ P w' := by
 have CN : Hid (Calls Tryz.prog 94 #[.pointer (some ⟨db, 0, none⟩)] w fun e w' => e = .returned (.agg #[.int .i64 1, .int .i64 n]) /\ Below w.heap.size w w') := hn
 have CT : Hid (∀ w', Below w.heap.size w w' -> Calls Tryz.prog 95 #[.pointer (some ⟨db, 0, none⟩), .int .i64 n] w' fun e w'' => e = .returned (.tuple #[.int .i64 e1, .int .i64 at_]) /\ P w'') := ht
 clear hn ht
 go_enter Tryz.func58, Tryz.ntmps58
 go_upto_region 2 with (go_at_call 94; refine CN.out.mono ?_; rintro e w1 ⟨rfl, b1⟩; have B1 : Hid (Below w.heap.size w w1) := b1; clear b1)
 refine wp_world (fun w' => Below w.heap.size w w' /\ w'.heap[w1.heap.size]? = some (yBoxC 1 n)) ⟨B1.out.trans ((below_alloc _ _).mono B1.out.size), heap_alloc_new _ _⟩ fun w2 h2 => ?_
 have z0 : w2.cell? ⟨w1.heap.size, 0, none⟩ = some (.int .i64 1) := (cellq_any h2.2).trans rfl
 have z1 : w2.cell? ⟨w1.heap.size, 1, none⟩ = some (.int .i64 n) := (cellq_any h2.2).trans rfl
 have B2 : Hid (Below w.heap.size w w2) := h2.1
 clear h2 B1
 generalize w1.heap.size = b4 at *
 go_wp2_with (go_at_call 95; refine (CT.out _ B2.out).mono ?_; rintro e w3 ⟨rfl, b3⟩; have B3 : Hid (P w3) := b3; clear b3)
 refine bodyPost_ret (v := .tuple #[.int .i64 e1, .int .i64 at_]) (by simp [results, Tryz.results58, go_sem]) rfl ?_
 exact ⟨rfl, B3.out⟩
set_option linter.unusedSimpArgs false in
set_option maxRecDepth 100000 in
set_option maxHeartbeats 4000000 in
theorem step_non {db : Nat} {n e1 at_ : Int} {w : World} {P : World -> Prop} {k : Int} (hk : ¬ k = 1) (hn : Calls Tryz.prog 94 #[.pointer (some ⟨db, 0, none⟩)] w fun e w' => e = .returned (.agg #[.int .i64 k, .int .i64 n]) /\ Below w.heap.size w w') (ht : ∀ w', Below w.heap.size w w' -> Calls Tryz.prog 96 #[.pointer (some ⟨db, 0, none⟩), .int .i64 n] w' fun e w'' => e = .returned (.tuple #[.int .i64 e1, .int .i64 at_]) /\ P w'') : Calls Tryz.prog 58 #[.pointer (some ⟨db, 0, none⟩)] w fun e w' => e = .returned (.tuple #[.int .i64 e1, .int .i64 at_]) /\ P w' := by
 have CN : Hid (Calls Tryz.prog 94 #[.pointer (some ⟨db, 0, none⟩)] w fun e w' => e = .returned (.agg #[.int .i64 k, .int .i64 n]) /\ Below w.heap.size w w') := hn
 have CT : Hid (∀ w', Below w.heap.size w w' -> Calls Tryz.prog 96 #[.pointer (some ⟨db, 0, none⟩), .int .i64 n] w' fun e w'' => e = .returned (.tuple #[.int .i64 e1, .int .i64 at_]) /\ P w'') := ht
 clear hn ht
 go_enter Tryz.func58, Tryz.ntmps58
 go_upto_region 2 with (go_at_call 94; refine CN.out.mono ?_; rintro e w1 ⟨rfl, b1⟩; have B1 : Hid (Below w.heap.size w w1) := b1; clear b1)
 refine wp_world (fun w' => Below w.heap.size w w' /\ w'.heap[w1.heap.size]? = some (yBoxC k n)) ⟨B1.out.trans ((below_alloc _ _).mono B1.out.size), heap_alloc_new _ _⟩ fun w2 h2 => ?_
 have z0 : w2.cell? ⟨w1.heap.size, 0, none⟩ = some (.int .i64 k) := (cellq_any h2.2).trans rfl
 have z1 : w2.cell? ⟨w1.heap.size, 1, none⟩ = some (.int .i64 n) := (cellq_any h2.2).trans rfl
 have B2 : Hid (Below w.heap.size w w2) := h2.1
 clear h2 B1
 generalize w1.heap.size = b4 at *
 go_wp2_with (go_at_call 96; refine (CT.out _ B2.out).mono ?_; rintro e w3 ⟨rfl, b3⟩; have B3 : Hid (P w3) := b3; clear b3)
 refine bodyPost_ret (v := .tuple #[.int .i64 e1, .int .i64 at_]) (by simp [results, Tryz.results58, go_sem]) rfl ?_
 exact ⟨rfl, B3.out⟩
end Go.Proofs.YtobhemaikomdaaaGreatDoor
