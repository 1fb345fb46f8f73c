import Derived.Test.YtndbdliaidbocaaPPB2
import Derived.Test.YtndbdliaidbocaaPRTwoToTSn
import Derived.Test.YtndbdliaidbocaaPTS1ToTS3
namespace Go.Proofs.Ytndbdliaidbocaa
set_option linter.unusedVariables false
open Go.RowKit
theorem run_br1 {o : Oper} {a : Act} {t0 : TypeId} {v0 : Value} {x0 : Operand} (hop : o.op = Op.call { callee := Callee.value (Operand.func 7), args := #[x0], argTypes := #[t0] }) (h0 : a.eval x0 = v0) (w : World) : (execOp a.eval o).run Try.prog w = .ok (.enter 7 #[v0]) w := by
 have hf : a.eval (Operand.func 7) = .func (.func 7) #[] #[] := rfl
 simp [execOp, hop, resolve, invoke, h0, hf, Deferred.ofValue]
theorem run_st2 {o : Oper} {a : Act} {t0 t1 : TypeId} {v0 v1 : Value} {x0 x1 : Operand} (hop : o.op = Op.call { callee := Callee.value (Operand.func 6), args := #[x0, x1], argTypes := #[t0, t1] }) (h0 : a.eval x0 = v0) (h1 : a.eval x1 = v1) (w : World) : (execOp a.eval o).run Try.prog w = .ok (.enter 6 #[v0, v1]) w := by
 have hf : a.eval (Operand.func 6) = .func (.func 6) #[] #[] := rfl
 simp [execOp, hop, resolve, invoke, h0, h1, hf, Deferred.ofValue]
structure ApS (w0 : World) (g : GV) (a b : TV) (w : World) : Prop where
 bel : Below w0.heap.size w0 w
 gb : w.heap[w0.heap.size]? = some (gBox g)
 ab : w.heap[w0.heap.size + 1]? = some (tBox a)
 bb : w.heap[w0.heap.size + 2]? = some (tBox b)
theorem ApS.later {w0 : World} {g : GV} {a b : TV} {w w' : World} (h : ApS w0 g a b w) (hb : Below w.heap.size w w') : ApS w0 g a b w' :=
 ⟨h.bel.trans (hb.mono h.bel.size), (hb.block _ (lt_of_block h.gb)).trans h.gb, (hb.block _ (lt_of_block h.ab)).trans h.ab, (hb.block _ (lt_of_block h.bb)).trans h.bb⟩
theorem aps_start (w : World) (g : GV) (a b : TV) : ApS w g a b (((w.alloc (gBox g)).alloc (tBox a)).alloc (tBox b)) := by
 have hz : ∀ (v : World) (o : Obj), (v.alloc o).heap.size = v.heap.size + 1 := fun v o => by simp
 have k : ∀ (j : Nat) (o o' : Obj) (v : World), v.heap[j]? = some o -> (v.alloc o').heap[j]? = some o := fun j o o' v h => ((below_alloc v o').block j (lt_of_block h)).trans h
 have bl : ∀ (v : World) (o : Obj), Below w.heap.size w v -> Below w.heap.size w (v.alloc o) := fun v o h => h.trans ((below_alloc v o).mono h.size)
 have h2 := heap_alloc_new (w.alloc (gBox g)) (tBox a)
 rw [hz] at h2
 have h3 := heap_alloc_new ((w.alloc (gBox g)).alloc (tBox a)) (tBox b)
 rw [hz, hz] at h3
 exact ⟨bl _ _ (bl _ _ (bl _ _ (Below.refl _ _))), k _ _ _ _ (k _ _ _ _ (heap_alloc_new _ _)), k _ _ _ _ h2, h3⟩
set_option linter.unusedSimpArgs false in
set_option maxRecDepth 100000 in
set_option maxHeartbeats 8000000 in
theorem apart_walk (g : GV) (a b : TV) (w : World) (h : GAt 140737488355328 w g) (hpc : g.ps.length <= g.pc) (ha : TAt w a) (hb : TAt w b) (hsa : szT a <= 100000000) (hsb : szT b <= 100000000) :
  Calls Try.prog 3 #[g.val, a.val, b.val] w fun e w' => e = .returned (.bool true) /\ Below w.heap.size w w' := by
 obtain ⟨er, at_, hE⟩ : ∃ er at_, checkG g (checkF g.ts g.ns) = (er, at_) := ⟨_, _, rfl⟩
 have CW : Hid (∀ w', ApS w g a b w' -> Calls Try.prog 4 #[] w' fun e w'' => e = .returned (.bool true) /\ ApS w g a b w'') := fun w' h => (works_W w').mono fun e w'' ⟨e1, e2⟩ => ⟨e1, h.later e2⟩
 have CA : Hid (∀ w', ApS w g a b w' -> Calls Try.prog 5 #[g.val, a.val] w' fun e w'' => e = .returned (.tuple #[.string (prTx g er a), .int .i64 (prEr g er a)]) /\ ApS w g a b w'') := fun w' hs => (Print_W g a w' (h.later hs.bel) hpc er at_ hE (ha.later hs.bel) hsa).mono fun e w'' ⟨e1, e2⟩ => ⟨e1, hs.later e2⟩
 have CB : Hid (∀ w', ApS w g a b w' -> Calls Try.prog 5 #[g.val, b.val] w' fun e w'' => e = .returned (.tuple #[.string (prTx g er b), .int .i64 (prEr g er b)]) /\ ApS w g a b w'') := fun w' hs => (Print_W g b w' (h.later hs.bel) hpc er at_ hE (hb.later hs.bel) hsb).mono fun e w'' ⟨e1, e2⟩ => ⟨e1, hs.later e2⟩
 have BA : Hid (∀ w', ApS w g a b w' -> Calls Try.prog 7 #[a.val] w' fun e w'' => ∃ T, e = .returned (brV T).val /\ samV a T /\ TAt w'' (brV T) /\ Below w'.heap.size w' w'') := fun w' hs => bare_W a w' (ha.later hs.bel) hsa
 have BB : Hid (∀ w', ApS w g a b w' -> Calls Try.prog 7 #[b.val] w' fun e w'' => ∃ T, e = .returned (brV T).val /\ samV b T /\ TAt w'' (brV T) /\ Below w'.heap.size w' w'') := fun w' hs => bare_W b w' (hb.later hs.bel) hsb
 have HSA : Hid (szT a <= 100000000) := hsa
 have NA : Hid (prEr g er a ≠ 0 -> prTx g er a = ⟨#[]⟩) := fun z => by unfold prTx; rw [if_neg z]
 have NB : Hid (prEr g er b ≠ 0 -> prTx g er b = ⟨#[]⟩) := fun z => by unfold prTx; rw [if_neg z]
 have HQ : Hid (prEr g er a = 0 -> prEr g er b = 0 -> (prTx g er a = prTx g er b ↔ sabV a b)) := fun za zb => by
  have he0 : er = 0 := by
   unfold prEr at za
   by_cases z : er = 0
   ·exact z
   ·rw [if_neg z] at za; exact absurd za z
  have ra : (runU g (ckT g (0, 0) false a) 0).1 = 0 := by unfold prEr at za; rwa [if_pos he0] at za
  have rb : (runU g (ckT g (0, 0) false b) 0).1 = 0 := by unfold prEr at zb; rwa [if_pos he0] at zb
  rw [he0] at hE
  have hn := NmG.of hE
  rw [<- txT_one hn (rt_of ra) (alAll_of ra) (rt_of rb) (alAll_of rb)]
  unfold prTx
  rw [if_pos za, if_pos zb]
  constructor
  ·intro e
   simpa using e
  ·intro e
   rw [e]
 have S0 : Hid (ApS w g a b (((w.alloc (gBox g)).alloc (tBox a)).alloc (tBox b))) := aps_start w g a b
 clear h hpc ha hb hsa hsb hE
 generalize prTx g er a = SA at *
 generalize prTx g er b = SB at *
 generalize prEr g er a = EA at *
 generalize prEr g er b = EB at *
 go_enter Try.func3, Try.ntmps3
 go_upto_region 1 with fail
 refine wp_world (fun w' => ApS w g a b w') S0.out fun w1 h1 => ?_
 have H1 : Hid (ApS w g a b w1) := h1
 clear h1 S0
 go_upto_region 3 with (go_at_call 4; refine (CW.out _ H1.out).mono ?_; rintro e w2 ⟨rfl, h2⟩; have H2 : Hid (ApS w g a b w2) := h2; clear h2)
 clear H1 CW
 obtain ⟨g0, g1, g2, g3, g4⟩ := gbx_cells H2.out.gb
 obtain ⟨c0, c1, c2, c3⟩ := tb_cells H2.out.ab
 go_upto_region 4 with (go_at_call 5; refine (CA.out _ H2.out).mono ?_; rintro e w3 ⟨rfl, h3⟩; have H3 : Hid (ApS w g a b w3) := h3; clear h3 g0 g1 g2 g3 g4 c0 c1 c2 c3)
 clear H2 CA
 obtain ⟨g0, g1, g2, g3, g4⟩ := gbx_cells H3.out.gb
 obtain ⟨c0, c1, c2, c3⟩ := tb_cells H3.out.bb
 go_upto_region 5 with (go_at_call 5; refine (CB.out _ H3.out).mono ?_; rintro e w4 ⟨rfl, h4⟩; have H4 : Hid (ApS w g a b w4) := h4; clear h4 g0 g1 g2 g3 g4 c0 c1 c2 c3)
 clear H3 CB
 have R4 : Hid (Below w.heap.size w w4) := H4.out.bel
 by_cases za : EA = 0
 ·by_cases zb : EB = 0
  ·have HX := HQ.out za zb
   subst za zb
   clear HQ NA NB
   by_cases hst : SA = SB
   ·have HS : Hid (sabV a b) := HX.1 hst
    subst hst
    clear HX
    go_upto_region 7 with fail
    obtain ⟨wd, hwd⟩ : ∃ wd : World, wd = w4.drew := ⟨_, rfl⟩
    have HD : Hid (ApS w g a b wd) := by rw [hwd]; exact H4.out.later (Below.refl _ _).drew
    refine wp_region_x (S := SX 9 (fun w' => w'.heap[w.heap.size + 1]? = some (tBox a) /\ w'.heap[w.heap.size + 2]? = some (tBox b)) (fun _ => True)) (by kernel_rfl) ?_
    rw [<- hwd]
    clear hwd H4
    refine wpAnyX_take (m := 9) (i := 0) (v := ?_) rfl (by kernel_rfl) (by kernel_rfl) (by decide) (by decide +kernel) (by decide +kernel) (fun _ _ _ h => h) (by kernel_rfl) (Or.inl ⟨by rfl, ?_⟩) (SX.both ⟨HD.out.ab, HD.out.bb⟩ trivial) ?_
    rotate_left
    ·(intro w hSw; obtain ⟨⟨q1, q2⟩, _⟩ := hSw; obtain ⟨z0, z1, z2, z3⟩ := tb_cells q1; obtain ⟨y0, y1, y2, y3⟩ := tb_cells q2; clear q1 q2; go_simp; try (with_reducible rfl))
    (try simp only [Act.put, List.setIfInBounds_toArray, List.set_cons_zero, List.set_cons_succ])
    refine wpAnyX_take (m := 9) (i := 1) (v := ?_) rfl (by kernel_rfl) (by kernel_rfl) (by decide) (by decide +kernel) (by decide +kernel) (fun _ _ _ h => h) (by kernel_rfl) (Or.inl ⟨by rfl, ?_⟩) (SX.both ⟨HD.out.ab, HD.out.bb⟩ trivial) ?_
    rotate_left
    ·(intro w hSw; obtain ⟨⟨q1, q2⟩, _⟩ := hSw; obtain ⟨z0, z1, z2, z3⟩ := tb_cells q1; obtain ⟨y0, y1, y2, y3⟩ := tb_cells q2; clear q1 q2; go_simp; try (with_reducible rfl))
    (try simp only [Act.put, List.setIfInBounds_toArray, List.set_cons_zero, List.set_cons_succ])
    refine wpAnyX_take (m := 9) (i := 2) (v := ?_) rfl (by kernel_rfl) (by kernel_rfl) (by decide) (by decide +kernel) (by decide +kernel) (fun _ _ _ h => h) (by kernel_rfl) (Or.inl ⟨by rfl, ?_⟩) (SX.both ⟨HD.out.ab, HD.out.bb⟩ trivial) ?_
    rotate_left
    ·(intro w hSw; obtain ⟨⟨q1, q2⟩, _⟩ := hSw; obtain ⟨z0, z1, z2, z3⟩ := tb_cells q1; obtain ⟨y0, y1, y2, y3⟩ := tb_cells q2; clear q1 q2; go_simp; try (with_reducible rfl))
    (try simp only [Act.put, List.setIfInBounds_toArray, List.set_cons_zero, List.set_cons_succ])
    refine wpAnyX_take (m := 9) (i := 3) (v := ?_) rfl (by kernel_rfl) (by kernel_rfl) (by decide) (by decide +kernel) (by decide +kernel) (fun _ _ _ h => h) (by kernel_rfl) (Or.inl ⟨by rfl, ?_⟩) (SX.both ⟨HD.out.ab, HD.out.bb⟩ trivial) ?_
    rotate_left
    ·(intro w hSw; obtain ⟨⟨q1, q2⟩, _⟩ := hSw; obtain ⟨z0, z1, z2, z3⟩ := tb_cells q1; obtain ⟨y0, y1, y2, y3⟩ := tb_cells q2; clear q1 q2; go_simp; try (with_reducible rfl))
    (try simp only [Act.put, List.setIfInBounds_toArray, List.set_cons_zero, List.set_cons_succ])
    refine wpAnyX_take (m := 9) (i := 5) (v := ?_) rfl (by kernel_rfl) (by kernel_rfl) (by decide) (by decide +kernel) (by decide +kernel) (fun _ _ _ h => h) (by kernel_rfl) (Or.inl ⟨by rfl, ?_⟩) (SX.both ⟨HD.out.ab, HD.out.bb⟩ trivial) ?_
    rotate_left
    ·(intro w hSw; obtain ⟨⟨q1, q2⟩, _⟩ := hSw; obtain ⟨z0, z1, z2, z3⟩ := tb_cells q1; obtain ⟨y0, y1, y2, y3⟩ := tb_cells q2; clear q1 q2; go_simp; try (with_reducible rfl))
    (try simp only [Act.put, List.setIfInBounds_toArray, List.set_cons_zero, List.set_cons_succ])
    refine wpAnyX_one (j := 4) (by decide +kernel) rfl (fun K' hK => ?_)
    refine step_callX rfl 7 #[a.val] _ (run_br1 (v0 := a.val) rfl rfl _) (BA.out _ HD.out) ?_
    rintro e w5 ⟨TA, rfl, sa, ta, b5⟩
    have H5 : Hid (ApS w g a b w5 /\ samV a TA /\ TAt w5 (brV TA)) := ⟨HD.out.later b5, sa, ta⟩
    clear sa ta b5
    refine ⟨_, rfl, hK.out _ _ (SX.both ⟨H5.out.1.ab, H5.out.1.bb⟩ trivial) ?_⟩
    clear hK K' HD
    (try simp only [Act.put, List.setIfInBounds_toArray, List.set_cons_zero, List.set_cons_succ])
    refine wpAnyX_one (j := 6) (by decide +kernel) rfl (fun K' hK => ?_)
    refine step_callX rfl 7 #[b.val] _ (run_br1 (v0 := b.val) rfl rfl _) (BB.out _ H5.out.1) ?_
    rintro e w6 ⟨TB, rfl, sb, tb, b6⟩
    have H6 : Hid (ApS w g a b w6 /\ samV a TA /\ TAt w6 (brV TA) /\ samV b TB /\ TAt w6 (brV TB) /\ szT (brV TA) <= 100000000) := ⟨H5.out.1.later b6, H5.out.2.1, H5.out.2.2.later b6, sb, tb, by rw [brV_size, <- samV_size _ _ H5.out.2.1]; exact HSA.out⟩
    clear sb tb b6 H5
    refine ⟨_, rfl, hK.out _ _ (SX.both ⟨H6.out.1.ab, H6.out.1.bb⟩ trivial) ?_⟩
    clear hK K'
    (try simp only [Act.put, List.setIfInBounds_toArray, List.set_cons_zero, List.set_cons_succ])
    have CS : Hid (Calls Try.prog 6 #[(brV TA).val, (brV TB).val] w6 fun e w'' => e = .returned (.bool true) /\ ApS w g a b w'') := (sameTree_W (brV TA) (brV TB) w6 H6.out.2.2.1 H6.out.2.2.2.2.1 ((br_same H6.out.2.1 H6.out.2.2.2.1).2 HS.out) H6.out.2.2.2.2.2).mono fun e w'' ⟨e1, e2⟩ => ⟨e1, H6.out.1.later e2⟩
    refine wpAnyX_one (j := 7) (by decide +kernel) rfl (fun K' hK => ?_)
    refine step_callX rfl 6 #[(brV TA).val, (brV TB).val] _ (run_st2 (v0 := (brV TA).val) (v1 := (brV TB).val) rfl rfl rfl _) CS.out ?_
    rintro e w7 ⟨rfl, h7⟩
    have H7 : Hid (ApS w g a b w7) := h7
    clear h7 CS H6
    refine ⟨_, rfl, hK.out _ _ (SX.both ⟨H7.out.ab, H7.out.bb⟩ trivial) ?_⟩
    clear hK K'
    (try simp only [Act.put, List.setIfInBounds_toArray, List.set_cons_zero, List.set_cons_succ])
    refine wpAnyX_take (m := 9) (i := 8) (v := ?_) rfl (by kernel_rfl) (by kernel_rfl) (by decide) (by decide +kernel) (by decide +kernel) (fun _ _ _ h => h) (by kernel_rfl) (Or.inl ⟨by rfl, ?_⟩) (SX.both ⟨H7.out.ab, H7.out.bb⟩ trivial) ?_
    rotate_left
    ·(intro w hSw; obtain ⟨⟨q1, q2⟩, _⟩ := hSw; obtain ⟨z0, z1, z2, z3⟩ := tb_cells q1; obtain ⟨y0, y1, y2, y3⟩ := tb_cells q2; clear q1 q2; go_simp; try (with_reducible rfl))
    (try simp only [Act.put, List.setIfInBounds_toArray, List.set_cons_zero, List.set_cons_succ])
    refine wpAnyX_one (j := 9) (by decide +kernel) rfl (fun K' hK => ?_)
    go_simp
    refine hK.out _ _ (SX.one ⟨H7.out.ab, H7.out.bb⟩ (by kernel_rfl)) ?_
    clear hK K'
    (try simp only [Act.put, List.setIfInBounds_toArray, List.set_cons_zero, List.set_cons_succ])
    refine wpAnyX_done (by decide +kernel) ?_
    go_wp2
    go_ret
    exact ⟨rfl, H7.out.bel⟩
   ·have HS : Hid (¬ sabV a b) := fun e => hst (HX.2 e)
    have n1 : ¬ SA.toList = SB.toList := fun e => hst (by rw [ByteArray.toList_eq, ByteArray.toList_eq] at e; exact ByteArray.ext (Array.toList_inj.1 e))
    have n2 : (!(SA.toList == SB.toList)) = true := by simp [n1]
    clear HX hst
    go_upto_region 7 with fail
    obtain ⟨wd, hwd⟩ : ∃ wd : World, wd = w4.drew := ⟨_, rfl⟩
    have HD : Hid (ApS w g a b wd) := by rw [hwd]; exact H4.out.later (Below.refl _ _).drew
    refine wp_region_x (S := SX 9 (fun w' => w'.heap[w.heap.size + 1]? = some (tBox a) /\ w'.heap[w.heap.size + 2]? = some (tBox b)) (fun _ => True)) (by kernel_rfl) ?_
    rw [<- hwd]
    clear hwd H4
    refine wpAnyX_take (m := 9) (i := 0) (v := ?_) rfl (by kernel_rfl) (by kernel_rfl) (by decide) (by decide +kernel) (by decide +kernel) (fun _ _ _ h => h) (by kernel_rfl) (Or.inl ⟨by rfl, ?_⟩) (SX.both ⟨HD.out.ab, HD.out.bb⟩ trivial) ?_
    rotate_left
    ·(intro w hSw; obtain ⟨⟨q1, q2⟩, _⟩ := hSw; obtain ⟨z0, z1, z2, z3⟩ := tb_cells q1; obtain ⟨y0, y1, y2, y3⟩ := tb_cells q2; clear q1 q2; go_simp; try (with_reducible rfl))
    (try simp only [Act.put, List.setIfInBounds_toArray, List.set_cons_zero, List.set_cons_succ])
    refine wpAnyX_take (m := 9) (i := 1) (v := ?_) rfl (by kernel_rfl) (by kernel_rfl) (by decide) (by decide +kernel) (by decide +kernel) (fun _ _ _ h => h) (by kernel_rfl) (Or.inl ⟨by rfl, ?_⟩) (SX.both ⟨HD.out.ab, HD.out.bb⟩ trivial) ?_
    rotate_left
    ·(intro w hSw; obtain ⟨⟨q1, q2⟩, _⟩ := hSw; obtain ⟨z0, z1, z2, z3⟩ := tb_cells q1; obtain ⟨y0, y1, y2, y3⟩ := tb_cells q2; clear q1 q2; go_simp; try (with_reducible rfl))
    (try simp only [Act.put, List.setIfInBounds_toArray, List.set_cons_zero, List.set_cons_succ])
    refine wpAnyX_take (m := 9) (i := 2) (v := ?_) rfl (by kernel_rfl) (by kernel_rfl) (by decide) (by decide +kernel) (by decide +kernel) (fun _ _ _ h => h) (by kernel_rfl) (Or.inl ⟨by rfl, ?_⟩) (SX.both ⟨HD.out.ab, HD.out.bb⟩ trivial) ?_
    rotate_left
    ·(intro w hSw; obtain ⟨⟨q1, q2⟩, _⟩ := hSw; obtain ⟨z0, z1, z2, z3⟩ := tb_cells q1; obtain ⟨y0, y1, y2, y3⟩ := tb_cells q2; clear q1 q2; go_simp; try (with_reducible rfl))
    (try simp only [Act.put, List.setIfInBounds_toArray, List.set_cons_zero, List.set_cons_succ])
    refine wpAnyX_take (m := 9) (i := 3) (v := ?_) rfl (by kernel_rfl) (by kernel_rfl) (by decide) (by decide +kernel) (by decide +kernel) (fun _ _ _ h => h) (by kernel_rfl) (Or.inl ⟨by rfl, ?_⟩) (SX.both ⟨HD.out.ab, HD.out.bb⟩ trivial) ?_
    rotate_left
    ·(intro w hSw; obtain ⟨⟨q1, q2⟩, _⟩ := hSw; obtain ⟨z0, z1, z2, z3⟩ := tb_cells q1; obtain ⟨y0, y1, y2, y3⟩ := tb_cells q2; clear q1 q2; go_simp; try (with_reducible rfl))
    (try simp only [Act.put, List.setIfInBounds_toArray, List.set_cons_zero, List.set_cons_succ])
    refine wpAnyX_take (m := 9) (i := 5) (v := ?_) rfl (by kernel_rfl) (by kernel_rfl) (by decide) (by decide +kernel) (by decide +kernel) (fun _ _ _ h => h) (by kernel_rfl) (Or.inl ⟨by rfl, ?_⟩) (SX.both ⟨HD.out.ab, HD.out.bb⟩ trivial) ?_
    rotate_left
    ·(intro w hSw; obtain ⟨⟨q1, q2⟩, _⟩ := hSw; obtain ⟨z0, z1, z2, z3⟩ := tb_cells q1; obtain ⟨y0, y1, y2, y3⟩ := tb_cells q2; clear q1 q2; go_simp; try (with_reducible rfl))
    (try simp only [Act.put, List.setIfInBounds_toArray, List.set_cons_zero, List.set_cons_succ])
    refine wpAnyX_one (j := 4) (by decide +kernel) rfl (fun K' hK => ?_)
    refine step_callX rfl 7 #[a.val] _ (run_br1 (v0 := a.val) rfl rfl _) (BA.out _ HD.out) ?_
    rintro e w5 ⟨TA, rfl, sa, ta, b5⟩
    have H5 : Hid (ApS w g a b w5 /\ samV a TA /\ TAt w5 (brV TA)) := ⟨HD.out.later b5, sa, ta⟩
    clear sa ta b5
    refine ⟨_, rfl, hK.out _ _ (SX.both ⟨H5.out.1.ab, H5.out.1.bb⟩ trivial) ?_⟩
    clear hK K' HD
    (try simp only [Act.put, List.setIfInBounds_toArray, List.set_cons_zero, List.set_cons_succ])
    refine wpAnyX_one (j := 6) (by decide +kernel) rfl (fun K' hK => ?_)
    refine step_callX rfl 7 #[b.val] _ (run_br1 (v0 := b.val) rfl rfl _) (BB.out _ H5.out.1) ?_
    rintro e w6 ⟨TB, rfl, sb, tb, b6⟩
    have H6 : Hid (ApS w g a b w6 /\ samV a TA /\ TAt w6 (brV TA) /\ samV b TB /\ TAt w6 (brV TB) /\ szT (brV TA) <= 100000000) := ⟨H5.out.1.later b6, H5.out.2.1, H5.out.2.2.later b6, sb, tb, by rw [brV_size, <- samV_size _ _ H5.out.2.1]; exact HSA.out⟩
    clear sb tb b6 H5
    refine ⟨_, rfl, hK.out _ _ (SX.both ⟨H6.out.1.ab, H6.out.1.bb⟩ trivial) ?_⟩
    clear hK K'
    (try simp only [Act.put, List.setIfInBounds_toArray, List.set_cons_zero, List.set_cons_succ])
    have CS : Hid (Calls Try.prog 6 #[(brV TA).val, (brV TB).val] w6 fun e w'' => e = .returned (.bool false) /\ ApS w g a b w'') := (sameTree_no (brV TA) (brV TB) w6 H6.out.2.2.1 H6.out.2.2.2.2.1 (fun e => HS.out ((br_same H6.out.2.1 H6.out.2.2.2.1).1 e)) H6.out.2.2.2.2.2).mono fun e w'' ⟨e1, e2⟩ => ⟨e1, H6.out.1.later e2⟩
    refine wpAnyX_one (j := 7) (by decide +kernel) rfl (fun K' hK => ?_)
    refine step_callX rfl 6 #[(brV TA).val, (brV TB).val] _ (run_st2 (v0 := (brV TA).val) (v1 := (brV TB).val) rfl rfl rfl _) CS.out ?_
    rintro e w7 ⟨rfl, h7⟩
    have H7 : Hid (ApS w g a b w7) := h7
    clear h7 CS H6
    refine ⟨_, rfl, hK.out _ _ (SX.both ⟨H7.out.ab, H7.out.bb⟩ trivial) ?_⟩
    clear hK K'
    (try simp only [Act.put, List.setIfInBounds_toArray, List.set_cons_zero, List.set_cons_succ])
    refine wpAnyX_take (m := 9) (i := 8) (v := ?_) rfl (by kernel_rfl) (by kernel_rfl) (by decide) (by decide +kernel) (by decide +kernel) (fun _ _ _ h => h) (by kernel_rfl) (Or.inl ⟨by rfl, ?_⟩) (SX.both ⟨H7.out.ab, H7.out.bb⟩ trivial) ?_
    rotate_left
    ·(intro w hSw; obtain ⟨⟨q1, q2⟩, _⟩ := hSw; obtain ⟨z0, z1, z2, z3⟩ := tb_cells q1; obtain ⟨y0, y1, y2, y3⟩ := tb_cells q2; clear q1 q2; go_simp; try (with_reducible rfl))
    (try simp only [Act.put, List.setIfInBounds_toArray, List.set_cons_zero, List.set_cons_succ])
    refine wpAnyX_one (j := 9) (by decide +kernel) rfl (fun K' hK => ?_)
    go_simp
    refine hK.out _ _ (SX.one ⟨H7.out.ab, H7.out.bb⟩ (by kernel_rfl)) ?_
    clear hK K'
    (try simp only [Act.put, List.setIfInBounds_toArray, List.set_cons_zero, List.set_cons_succ])
    refine wpAnyX_done (by decide +kernel) ?_
    go_wp2
    go_ret
    exact ⟨rfl, H7.out.bel⟩
  ·have hS := NB.out zb
   subst hS
   subst za
   have t2 : (EB != 0) = true := by simpa using zb
   have t3 : (EB == 0) = false := by simpa using zb
   clear HQ NA NB zb
   go_wp2
   go_ret
   exact ⟨rfl, R4.out⟩
 ·have hS := NA.out za
  subst hS
  have t0 : (EA != 0) = true := by simpa using za
  have t1 : (EA == 0) = false := by simpa using za
  by_cases zb : EB = 0
  ·subst zb
   clear HQ NA NB za
   go_wp2
   go_ret
   exact ⟨rfl, R4.out⟩
  ·have hS := NB.out zb
   subst hS
   have t2 : (EB != 0) = true := by simpa using zb
   have t3 : (EB == 0) = false := by simpa using zb
   clear HQ NA NB za zb
   go_wp2
   go_ret
   exact ⟨rfl, R4.out⟩
end Go.Proofs.Ytndbdliaidbocaa
