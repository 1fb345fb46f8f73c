import Derived.Test.YteciabdjkaackaaGreatPTC1ToTC2
namespace Go.Proofs.YteciabdjkaackaaGreat
set_option linter.unusedVariables false
open Go.RowKit
theorem run_W1 {f : FuncId} (eg : EntW f) {o : Oper} {a : Act} {t0 : TypeId} {v0 : Value} {x0 : Operand} (hop : o.op = Op.call { callee := Callee.value (Operand.func f), args := #[x0], argTypes := #[t0] }) (h0 : a.eval x0 = v0) {w : World} : (execOp a.eval o).run Tryz.prog w = .ok (.enter f #[v0]) w := by
 have hf : a.eval (Operand.func f) = .func (.func f) #[] #[] := rfl
 have eg' := eg #[v0] w
 simp [execOp, hop, resolve, invoke, hf, h0, Deferred.ofValue, eg']
theorem run_W2 {f : FuncId} (eg : EntW f) {o : Oper} {a : Act} {t0 t1 : TypeId} {v0 v1 : Value} {x0 x1 : Operand} (hop : o.op = Op.call { callee := Callee.value (Operand.func f), args := #[x0, x1], argTypes := #[t0, t1] }) (h0 : a.eval x0 = v0) (h1 : a.eval x1 = v1) {w : World} : (execOp a.eval o).run Tryz.prog w = .ok (.enter f #[v0, v1]) w := by
 have hf : a.eval (Operand.func f) = .func (.func f) #[] #[] := rfl
 have eg' := eg #[v0, v1] w
 simp [execOp, hop, resolve, invoke, hf, h0, h1, Deferred.ofValue, eg']
theorem run_W3 {f : FuncId} (eg : EntW f) {o : Oper} {a : Act} {t0 t1 t2 : TypeId} {v0 v1 v2 : Value} {x0 x1 x2 : Operand} (hop : o.op = Op.call { callee := Callee.value (Operand.func f), args := #[x0, x1, x2], argTypes := #[t0, t1, t2] }) (h0 : a.eval x0 = v0) (h1 : a.eval x1 = v1) (h2 : a.eval x2 = v2) {w : World} : (execOp a.eval o).run Tryz.prog w = .ok (.enter f #[v0, v1, v2]) w := by
 have hf : a.eval (Operand.func f) = .func (.func f) #[] #[] := rfl
 have eg' := eg #[v0, v1, v2] w
 simp [execOp, hop, resolve, invoke, hf, h0, h1, h2, Deferred.ofValue, eg']
theorem ent_non : EntW 127 := fun _ _ => by kernel_rfl
theorem rtU_leaf {g : GV} {t : TV} (hp : t.prod = -1) : rtU g t = (1, t.kind) := if_pos hp
theorem rtU_node {g : GV} {t : TV} {j : Nat} (hp : t.prod = (j : Int)) : rtU g t = (2, (g.ps.getD j .none).left) := by
 unfold rtU
 rw [if_neg (by omega), hp, Int.toNat_natCast]
abbrev yBoxC (a b : Int) : Obj := .cells #[.int .i64 a, .int .i64 b] 82
def rtS (wb : Nat) (g : GV) (pb po j : Nat) (L : Int) (p q : Nat) (w : World) : Prop := w.cell? ⟨wb, 3, none⟩ = some (.slice (some ⟨pb, po, none⟩) g.ps.length g.pc) /\ w.cell? ⟨p, q, none⟩ = some (.int .i64 (j : Int)) /\ w.cell? ⟨pb, po + j * 3, none⟩ = some (.int .i64 L) /\ w.heap[wb + 1]? = some (yBoxC 0 0)
theorem rtS.later {wb : Nat} {g : GV} {pb po j : Nat} {L : Int} {p q : Nat} {w w' : World} (h : rtS wb g pb po j L p q w) (hb : Below w.heap.size w w') : rtS wb g pb po j L p q w' := ⟨cellW hb h.1, cellW hb h.2.1, cellW hb h.2.2.1, (hb.block _ (lt_of_block h.2.2.2)).trans h.2.2.2⟩
set_option linter.unusedSimpArgs false in
set_option maxRecDepth 100000 in
set_option maxHeartbeats 4000000 in
theorem root_W (g : GV) (p q : Nat) (t : TV) (w : World) (h : GAt 140737488355328 w g) (ht : TBx w p q t) (hr : t.prod = -1 ∨ (0 <= t.prod /\ t.prod < g.ps.length)) : Calls Tryz.prog 125 #[g.val, .pointer (some ⟨p, q, none⟩)] w fun e w' => e = .returned (.agg #[.int .i64 (rtU g t).1, .int .i64 (rtU g t).2]) /\ Below w.heap.size w w' := by
 have BA : Hid (Below w.heap.size w ((w.alloc (gBox g)).alloc (yBoxC 0 0)) /\ ((w.alloc (gBox g)).alloc (yBoxC 0 0)).heap[w.heap.size]? = some (gBox g) /\ ((w.alloc (gBox g)).alloc (yBoxC 0 0)).heap[w.heap.size + 1]? = some (yBoxC 0 0)) := by
  have h1 := below_alloc w (gBox g)
  have h2 := below_alloc (w.alloc (gBox g)) (yBoxC 0 0)
  refine ⟨h1.trans (h2.mono h1.size), (h2.block _ (by simp)).trans (heap_alloc_new _ _), ?_⟩
  have := heap_alloc_new (w.alloc (gBox g)) (yBoxC 0 0)
  rwa [show (w.alloc (gBox g)).heap.size = w.heap.size + 1 by simp] at this
 have HT : Hid (∀ w', Below w.heap.size w w' -> TBx w' p q t) := fun w' hb => ht.later hb
 have CI : Hid (∀ w', Below w.heap.size w w' -> Calls Tryz.prog 36 #[.pointer (some ⟨p, q, none⟩)] w' fun e w'' => e = .returned (.bool (t.prod == -1)) /\ w'' = w') := fun w' hb => isLeaf_W p q t w' (ht.later hb)
 have HGA : Hid (∀ w', Below w.heap.size w w' -> GAt 140737488355328 w' g) := fun w' hb => h.later hb
 have hpl := h.pl
 clear h ht
 by_cases hp : t.prod = -1
 ·have t1 : (t.prod == -1) = true := by simpa using hp
  rw [t1] at CI
  rw [rtU_leaf hp]
  have k1 := (HT.out _ BA.out.1).c1
  have y1 : ∀ w1, Below ((w.alloc (gBox g)).alloc (yBoxC 0 0)).heap.size ((w.alloc (gBox g)).alloc (yBoxC 0 0)) w1 -> w1.heap[w.heap.size + 1]? = some (yBoxC 0 0) := fun w1 hb => (hb.block _ (lt_of_block BA.out.2.2)).trans BA.out.2.2
  have Y1 : Hid _ := y1
  clear t1 hp hr y1
  go_enter Tryz.func125, Tryz.ntmps125
  go_wp2_with (first
   | (go_at_call 36; refine (CI.out _ BA.out.1).mono ?_; rintro e w1 ⟨rfl, rfl⟩)
   | (go_at_call 152; refine (term_W t.kind _).mono ?_; rintro e w2 ⟨rfl, b2⟩; have W2 : Hid (Below w.heap.size w w2 /\ w2.heap[w.heap.size + 1]? = some (yBoxC 0 0)) := ⟨BA.out.1.trans (b2.mono BA.out.1.size), Y1.out _ b2⟩; have z0 := (cellq_any (i := 0) W2.out.2).trans rfl; have z1 := (cellq_any (i := 1) W2.out.2).trans rfl; have zf : ∀ i, w2.frozen? ⟨w.heap.size + 1, i, none⟩ = false := (fun i => by simp [World.frozen?, W2.out.2]); clear b2 k1))
  have RB : Hid (Below w.heap.size w ((w2.setCell ⟨w.heap.size + 1, 0, none⟩ (.int .i64 1)).setCell ⟨w.heap.size + 1, 1, none⟩ (.int .i64 t.kind))) := (W2.out.1.setCell (p := ⟨w.heap.size + 1, 0, none⟩) (Nat.le_add_right _ _) _).setCell (p := ⟨w.heap.size + 1, 1, none⟩) (Nat.le_add_right _ _) _
  refine bodyPost_ret (v := .agg #[.int .i64 1, .int .i64 t.kind]) (by simp [results, Tryz.results125, go_sem, z0, z1]) rfl ?_
  exact ⟨rfl, RB.out⟩
 ·have t1 : (t.prod == -1) = false := by simpa using hp
  rw [t1] at CI
  obtain ⟨j, hj⟩ : ∃ j : Nat, t.prod = (j : Int) := ⟨t.prod.toNat, by omega⟩
  have hjl : j < g.ps.length := by omega
  rw [rtU_node hj]
  obtain ⟨pb, po, hpa, -⟩ := ps_cells (HGA.out _ BA.out.1) hjl
  have jlt : (j : Int) < (g.ps.length : Int) := by omega
  obtain ⟨L, hL⟩ : ∃ L, (g.ps.getD j .none).left = L := ⟨_, rfl⟩
  rw [hL]
  have hs0 : Hid (rtS w.heap.size g pb po j L p q ((w.alloc (gBox g)).alloc (yBoxC 0 0))) := by
   obtain ⟨pb', po', hpa', -, c0, -⟩ := ps_cells (HGA.out _ BA.out.1) hjl
   rw [hpa] at hpa'
   simp only [Option.some.injEq, Addr.mk.injEq, and_true] at hpa'
   obtain ⟨rfl, rfl⟩ := hpa'
   have k0 := (HT.out _ BA.out.1).c0
   have k3 := (gbx_cells BA.out.2.1).2.2.2.1
   rw [hj] at k0
   rw [hpa] at k3
   rw [hL] at c0
   exact ⟨k3, k0, c0, BA.out.2.2⟩
  clear t1 hp hr hj hjl hpa hL
  go_enter Tryz.func125, Tryz.ntmps125
  go_upto_region 3 with (go_at_call 36; refine (CI.out _ BA.out.1).mono ?_; rintro e w1 ⟨rfl, rfl⟩)
  obtain ⟨wr, hwr⟩ : ∃ wr : World, wr = (w.alloc (gBox g)).alloc (yBoxC 0 0) := ⟨_, rfl⟩
  rw [<- hwr] at BA hs0 ⊢
  clear hwr
  obtain ⟨wd, hwd⟩ : ∃ wd : World, wd = wr.drew := ⟨_, rfl⟩
  have BD : Hid (Below w.heap.size w wd) := by rw [hwd]; exact BA.out.1.drew
  have hs : Hid (rtS w.heap.size g pb po j L p q wd) := by rw [hwd]; exact hs0.out.later (Below.refl _ _).drew
  refine wp_region_x (S := SX 10 (fun _ => True) (rtS w.heap.size g pb po j L p q)) (by kernel_rfl) ?_
  rw [<- hwd]
  clear hwd hs0
  refine wpAnyX_take (m := 10) (i := 0) (v := ?_) rfl (by kernel_rfl) (by kernel_rfl) (by decide) (by decide +kernel) (by decide +kernel) (fun _ _ _ h => h) (by kernel_rfl) (Or.inl ⟨by rfl, ?_⟩) (SX.both trivial hs.out) ?_
  rotate_left
  ·(intro w hSw; obtain ⟨_, z0, z1, z2, z3⟩ := hSw; go_simp; try (with_reducible rfl))
  (try simp only [Act.put, List.setIfInBounds_toArray, List.set_cons_zero, List.set_cons_succ])
  refine wpAnyX_take (m := 10) (i := 1) (v := ?_) rfl (by kernel_rfl) (by kernel_rfl) (by decide) (by decide +kernel) (by decide +kernel) (fun _ _ _ h => h) (by kernel_rfl) (Or.inl ⟨by rfl, ?_⟩) (SX.both trivial hs.out) ?_
  rotate_left
  ·(intro w hSw; obtain ⟨_, z0, z1, z2, z3⟩ := hSw; go_simp; try (with_reducible rfl))
  (try simp only [Act.put, List.setIfInBounds_toArray, List.set_cons_zero, List.set_cons_succ])
  refine wpAnyX_take (m := 10) (i := 2) (v := ?_) rfl (by kernel_rfl) (by kernel_rfl) (by decide) (by decide +kernel) (by decide +kernel) (fun _ _ _ h => h) (by kernel_rfl) (Or.inl ⟨by rfl, ?_⟩) (SX.both trivial hs.out) ?_
  rotate_left
  ·(intro w hSw; obtain ⟨_, z0, z1, z2, z3⟩ := hSw; go_simp; try (with_reducible rfl))
  (try simp only [Act.put, List.setIfInBounds_toArray, List.set_cons_zero, List.set_cons_succ])
  refine wpAnyX_take (m := 10) (i := 3) (v := ?_) rfl (by kernel_rfl) (by kernel_rfl) (by decide) (by decide +kernel) (by decide +kernel) (fun _ _ _ h => h) (by kernel_rfl) (Or.inl ⟨by rfl, ?_⟩) (SX.both trivial hs.out) ?_
  rotate_left
  ·(intro w hSw; obtain ⟨_, z0, z1, z2, z3⟩ := hSw; go_simp; try (with_reducible rfl))
  (try simp only [Act.put, List.setIfInBounds_toArray, List.set_cons_zero, List.set_cons_succ])
  refine wpAnyX_take (m := 10) (i := 4) (v := ?_) rfl (by kernel_rfl) (by kernel_rfl) (by decide) (by decide +kernel) (by decide +kernel) (fun _ _ _ h => h) (by kernel_rfl) (Or.inl ⟨by rfl, ?_⟩) (SX.both trivial hs.out) ?_
  rotate_left
  ·(intro w hSw; obtain ⟨_, z0, z1, z2, z3⟩ := hSw; go_simp; try (with_reducible rfl))
  (try simp only [Act.put, List.setIfInBounds_toArray, List.set_cons_zero, List.set_cons_succ])
  refine wpAnyX_take (m := 10) (i := 5) (v := ?_) rfl (by kernel_rfl) (by kernel_rfl) (by decide) (by decide +kernel) (by decide +kernel) (fun _ _ _ h => h) (by kernel_rfl) (Or.inl ⟨by rfl, ?_⟩) (SX.both trivial hs.out) ?_
  rotate_left
  ·(intro w hSw; obtain ⟨_, z0, z1, z2, z3⟩ := hSw; go_simp; try (with_reducible rfl))
  (try simp only [Act.put, List.setIfInBounds_toArray, List.set_cons_zero, List.set_cons_succ])
  refine wpAnyX_take (m := 10) (i := 6) (v := ?_) rfl (by kernel_rfl) (by kernel_rfl) (by decide) (by decide +kernel) (by decide +kernel) (fun _ _ _ h => h) (by kernel_rfl) (Or.inl ⟨by rfl, ?_⟩) (SX.both trivial hs.out) ?_
  rotate_left
  ·(intro w hSw; obtain ⟨_, z0, z1, z2, z3⟩ := hSw; go_simp; try (with_reducible rfl))
  (try simp only [Act.put, List.setIfInBounds_toArray, List.set_cons_zero, List.set_cons_succ])
  refine wpAnyX_take (m := 10) (i := 7) (v := ?_) rfl (by kernel_rfl) (by kernel_rfl) (by decide) (by decide +kernel) (by decide +kernel) (fun _ _ _ h => h) (by kernel_rfl) (Or.inl ⟨by rfl, ?_⟩) (SX.both trivial hs.out) ?_
  rotate_left
  ·(intro w hSw; obtain ⟨_, z0, z1, z2, z3⟩ := hSw; go_simp; try (with_reducible rfl))
  (try simp only [Act.put, List.setIfInBounds_toArray, List.set_cons_zero, List.set_cons_succ])
  refine wpAnyX_take (m := 10) (i := 8) (v := ?_) rfl (by kernel_rfl) (by kernel_rfl) (by decide) (by decide +kernel) (by decide +kernel) (fun _ _ _ h => h) (by kernel_rfl) (Or.inl ⟨by rfl, ?_⟩) (SX.both trivial hs.out) ?_
  rotate_left
  ·(intro w hSw; obtain ⟨_, z0, z1, z2, z3⟩ := hSw; go_simp; try (with_reducible rfl))
  (try simp only [Act.put, List.setIfInBounds_toArray, List.set_cons_zero, List.set_cons_succ])
  refine wpAnyX_one (j := 9) (by decide +kernel) rfl (fun K' hK => ?_)
  refine step_callX rfl 127 #[.int .i64 L] _ (run_W1 ent_non (v0 := .int .i64 L) (by rfl) (by rfl)) (non_W L _) ?_
  rintro e w3 ⟨rfl, b3⟩
  have hs3 : Hid (rtS w.heap.size g pb po j L p q w3) := hs.out.later b3
  have B3 : Hid (Below w.heap.size w w3) := BD.out.trans (b3.mono BD.out.size)
  clear b3 hs
  refine ⟨_, rfl, hK.out _ _ (SX.both trivial hs3.out) ?_⟩
  clear hK K'
  (try simp only [Act.put, List.setIfInBounds_toArray, List.set_cons_zero, List.set_cons_succ])
  have z0 := (cellq_any (i := 0) hs3.out.2.2.2).trans rfl
  have z1 := (cellq_any (i := 1) hs3.out.2.2.2).trans rfl
  have zf : ∀ i, w3.frozen? ⟨w.heap.size + 1, i, none⟩ = false := (fun i => by simp [World.frozen?, hs3.out.2.2.2])
  have RB : Hid (Below w.heap.size w ((w3.setCell ⟨w.heap.size + 1, 0, none⟩ (.int .i64 2)).setCell ⟨w.heap.size + 1, 1, none⟩ (.int .i64 L))) := (B3.out.setCell (p := ⟨w.heap.size + 1, 0, none⟩) (Nat.le_add_right _ _) _).setCell (p := ⟨w.heap.size + 1, 1, none⟩) (Nat.le_add_right _ _) _
  refine wpAnyX_one (j := 10) (by decide +kernel) rfl (fun K' hK => ?_)
  go_simp
  refine hK.out _ _ (SX.one trivial (by kernel_rfl)) ?_
  clear hK K'
  (try simp only [Act.put, List.setIfInBounds_toArray, List.set_cons_zero, List.set_cons_succ])
  refine wpAnyX_done (by decide +kernel) ?_
  go_wp2
  refine bodyPost_ret (v := .agg #[.int .i64 2, .int .i64 L]) (by simp [results, Tryz.results125, go_sem, z0, z1]) rfl ?_
  exact ⟨rfl, RB.out⟩
def duU (g : GV) (t : TV) (s : Int × Int) : Int := if rtU g t = s then 0 else if s.1 = 1 ∨ t.prod = -1 then 82 else 81
set_option linter.unusedSimpArgs false in
set_option maxRecDepth 100000 in
set_option maxHeartbeats 4000000 in
theorem dueFault_W (g : GV) (p q : Nat) (t : TV) (s : Int × Int) (w : World) (h : GAt 140737488355328 w g) (ht : TBx w p q t) (hr : t.prod = -1 ∨ (0 <= t.prod /\ t.prod < g.ps.length)) : Calls Tryz.prog 105 #[g.val, .pointer (some ⟨p, q, none⟩), .agg #[.int .i64 s.1, .int .i64 s.2]] w fun e w' => e = .returned (.int .i64 (duU g t s)) /\ Below w.heap.size w w' := by
 obtain ⟨s1, s2⟩ := s
 dsimp only
 have BA : Hid (Below w.heap.size w ((w.alloc (gBox g)).alloc (yBoxC s1 s2)) /\ ((w.alloc (gBox g)).alloc (yBoxC s1 s2)).heap[w.heap.size]? = some (gBox g) /\ ((w.alloc (gBox g)).alloc (yBoxC s1 s2)).heap[w.heap.size + 1]? = some (yBoxC s1 s2)) := by
  have h1 := below_alloc w (gBox g)
  have h2 := below_alloc (w.alloc (gBox g)) (yBoxC s1 s2)
  refine ⟨h1.trans (h2.mono h1.size), (h2.block _ (by simp)).trans (heap_alloc_new _ _), ?_⟩
  have := heap_alloc_new (w.alloc (gBox g)) (yBoxC s1 s2)
  rwa [show (w.alloc (gBox g)).heap.size = w.heap.size + 1 by simp] at this
 have CI : Hid (∀ w', Below w.heap.size w w' -> Calls Tryz.prog 36 #[.pointer (some ⟨p, q, none⟩)] w' fun e w'' => e = .returned (.bool (t.prod == -1)) /\ w'' = w') := fun w' hb => isLeaf_W p q t w' (ht.later hb)
 have CR : Hid (∀ w', Below w.heap.size w w' -> Calls Tryz.prog 125 #[g.val, .pointer (some ⟨p, q, none⟩)] w' fun e w'' => e = .returned (.agg #[.int .i64 (rtU g t).1, .int .i64 (rtU g t).2]) /\ Below w'.heap.size w' w'') := fun w' hb => root_W g p q t w' (h.later hb) (ht.later hb) hr
 clear h ht hr
 unfold duU
 dsimp only
 obtain ⟨rr, hrr⟩ : ∃ rr, rtU g t = rr := ⟨_, rfl⟩
 rw [hrr] at CR ⊢
 clear hrr
 obtain ⟨r1, r2⟩ := rr
 dsimp only at CR
 by_cases he : (r1, r2) = (s1, s2)
 ·rw [if_pos he]
  simp only [Prod.mk.injEq] at he
  obtain ⟨rfl, rfl⟩ := he
  go_enter Tryz.func105, Tryz.ntmps105
  go_upto_region 1 with fail
  obtain ⟨wr, hwr⟩ : ∃ wr : World, wr = (w.alloc (gBox g)).alloc (yBoxC r1 r2) := ⟨_, rfl⟩
  rw [<- hwr] at BA ⊢
  clear hwr
  have FX : Hid (∀ wq, Below wr.heap.size wr wq -> wq.cell? ⟨w.heap.size, 0, none⟩ = some (.slice g.ta g.ts.length g.tc) /\ wq.cell? ⟨w.heap.size, 1, none⟩ = some (.slice g.na g.ns.length g.nc) /\ wq.cell? ⟨w.heap.size, 2, none⟩ = some (.int .i64 g.start) /\ wq.cell? ⟨w.heap.size, 3, none⟩ = some (.slice g.pa g.ps.length g.pc) /\ wq.cell? ⟨w.heap.size, 4, none⟩ = some (.slice g.la g.ls.length g.lc) /\ wq.cell? ⟨w.heap.size + 1, 0, none⟩ = some (.int .i64 r1) /\ wq.cell? ⟨w.heap.size + 1, 1, none⟩ = some (.int .i64 r2)) := fun wq hq => by
   obtain ⟨a, b, c, d, e⟩ := gbx_cells ((hq.block _ (lt_of_block BA.out.2.1)).trans BA.out.2.1)
   have hy := (hq.block _ (lt_of_block BA.out.2.2)).trans BA.out.2.2
   exact ⟨a, b, c, d, e, (cellq_any hy).trans rfl, (cellq_any hy).trans rfl⟩
  have BR : Hid (Below wr.heap.size wr wr.drew) := (Below.refl _ _).drew
  have C2 : Hid (∀ wq, Below wr.heap.size wr wq -> Calls Tryz.prog 125 #[g.val, .pointer (some ⟨p, q, none⟩)] wq fun e w' => e = .returned (.agg #[.int .i64 r1, .int .i64 r2]) /\ Below wr.heap.size wr w') := fun wq hq => (CR.out wq (BA.out.1.trans (hq.mono BA.out.1.size))).mono fun e w' ⟨q1, q2⟩ => ⟨q1, hq.trans (q2.mono hq.size)⟩
  refine wp_region_q (C := fun wq => Below wr.heap.size wr wq) (by kernel_rfl) (by kernel_rfl) BR.out ?_
  iterate 2 (refine qt_yes (v := ?_) (by rfl) ?_ ?_; rotate_left; (· (intro wq hSw; obtain ⟨f0, f1, f2, f3, f4, f5, f6⟩ := FX.out wq hSw; clear hSw; go_simp; with_reducible rfl)); (try simp only [Act.put, List.setIfInBounds_toArray, List.set_cons_zero, List.set_cons_succ]))
  refine qt_call (v := .agg #[.int .i64 r1, .int .i64 r2]) 125 #[g.val, .pointer (some ⟨p, q, none⟩)] (by rfl) ?_ (fun wq hq => C2.out wq hq) ?_
  ·intro wq hSw
   clear hSw
   go_simp
   try with_reducible rfl
  (try simp only [Act.put, List.setIfInBounds_toArray, List.set_cons_zero, List.set_cons_succ])
  iterate 3 (refine qt_yes (v := ?_) (by rfl) ?_ ?_; rotate_left; (· (intro wq hSw; obtain ⟨f0, f1, f2, f3, f4, f5, f6⟩ := FX.out wq hSw; clear hSw; go_simp; with_reducible rfl)); (try simp only [Act.put, List.setIfInBounds_toArray, List.set_cons_zero, List.set_cons_succ]))
  refine qt_nil ?_
  intro wq hSw
  have R : Hid (Below w.heap.size w wq /\ wq.cell? ⟨w.heap.size + 1, 0, none⟩ = some (.int .i64 r1)) := ⟨BA.out.1.trans (hSw.mono BA.out.1.size), (FX.out wq hSw).2.2.2.2.2.1⟩
  clear hSw
  go_wp2
  go_ret
  exact ⟨rfl, R.out.1⟩
 ·rw [if_neg he]
  have t1 : ∀ wq : World, (if r1 = s1 then if r2 = s2 then Result.ok (Next.value (Value.bool true)) wq else Result.ok (Next.value (Value.bool false)) wq else Result.ok (Next.value (Value.bool false)) wq) = Result.ok (Next.value (Value.bool false)) wq := fun wq => by
   split
   ·rw [if_neg (fun e => he (by simp only [Prod.mk.injEq]; exact ⟨by assumption, e⟩))]
   ·rfl
  have t1b : (decide (r1 = s1) && decide (r2 = s2)) = false := by
   rw [Bool.eq_false_iff]
   intro e
   simp only [Bool.and_eq_true, decide_eq_true_eq] at e
   exact he (by rw [e.1, e.2])
  clear he
  obtain ⟨v, hv⟩ : ∃ v, (if s1 = 1 ∨ t.prod = -1 then (82 : Int) else 81) = v := ⟨_, rfl⟩
  rw [hv]
  have HV : Hid ((if s1 = 1 ∨ t.prod = -1 then (82 : Int) else 81) = v) := hv
  clear hv
  go_enter Tryz.func105, Tryz.ntmps105
  go_upto_region 1 with fail
  obtain ⟨wr, hwr⟩ : ∃ wr : World, wr = (w.alloc (gBox g)).alloc (yBoxC s1 s2) := ⟨_, rfl⟩
  rw [<- hwr] at BA ⊢
  clear hwr
  have FX : Hid (∀ wq, Below wr.heap.size wr wq -> wq.cell? ⟨w.heap.size, 0, none⟩ = some (.slice g.ta g.ts.length g.tc) /\ wq.cell? ⟨w.heap.size, 1, none⟩ = some (.slice g.na g.ns.length g.nc) /\ wq.cell? ⟨w.heap.size, 2, none⟩ = some (.int .i64 g.start) /\ wq.cell? ⟨w.heap.size, 3, none⟩ = some (.slice g.pa g.ps.length g.pc) /\ wq.cell? ⟨w.heap.size, 4, none⟩ = some (.slice g.la g.ls.length g.lc) /\ wq.cell? ⟨w.heap.size + 1, 0, none⟩ = some (.int .i64 s1) /\ wq.cell? ⟨w.heap.size + 1, 1, none⟩ = some (.int .i64 s2)) := fun wq hq => by
   obtain ⟨a, b, c, d, e⟩ := gbx_cells ((hq.block _ (lt_of_block BA.out.2.1)).trans BA.out.2.1)
   have hy := (hq.block _ (lt_of_block BA.out.2.2)).trans BA.out.2.2
   exact ⟨a, b, c, d, e, (cellq_any hy).trans rfl, (cellq_any hy).trans rfl⟩
  have BR : Hid (Below wr.heap.size wr wr.drew) := (Below.refl _ _).drew
  have C2 : Hid (∀ wq, Below wr.heap.size wr wq -> Calls Tryz.prog 125 #[g.val, .pointer (some ⟨p, q, none⟩)] wq fun e w' => e = .returned (.agg #[.int .i64 r1, .int .i64 r2]) /\ Below wr.heap.size wr w') := fun wq hq => (CR.out wq (BA.out.1.trans (hq.mono BA.out.1.size))).mono fun e w' ⟨q1, q2⟩ => ⟨q1, hq.trans (q2.mono hq.size)⟩
  refine wp_region_q (C := fun wq => Below wr.heap.size wr wq) (by kernel_rfl) (by kernel_rfl) BR.out ?_
  iterate 2 (refine qt_yes (v := ?_) (by rfl) ?_ ?_; rotate_left; (· (intro wq hSw; obtain ⟨f0, f1, f2, f3, f4, f5, f6⟩ := FX.out wq hSw; clear hSw; go_simp; with_reducible rfl)); (try simp only [Act.put, List.setIfInBounds_toArray, List.set_cons_zero, List.set_cons_succ]))
  refine qt_call (v := .agg #[.int .i64 r1, .int .i64 r2]) 125 #[g.val, .pointer (some ⟨p, q, none⟩)] (by rfl) ?_ (fun wq hq => C2.out wq hq) ?_
  ·intro wq hSw
   clear hSw
   go_simp
   try with_reducible rfl
  (try simp only [Act.put, List.setIfInBounds_toArray, List.set_cons_zero, List.set_cons_succ])
  iterate 3 (refine qt_yes (v := ?_) (by rfl) ?_ ?_; rotate_left; (· (intro wq hSw; obtain ⟨f0, f1, f2, f3, f4, f5, f6⟩ := FX.out wq hSw; clear hSw; go_simp; with_reducible rfl)); (try simp only [Act.put, List.setIfInBounds_toArray, List.set_cons_zero, List.set_cons_succ]))
  refine qt_nil ?_
  intro wq hSw
  have R : Hid (Below w.heap.size w wq /\ wq.cell? ⟨w.heap.size + 1, 0, none⟩ = some (.int .i64 s1)) := ⟨BA.out.1.trans (hSw.mono BA.out.1.size), (FX.out wq hSw).2.2.2.2.2.1⟩
  clear hSw
  clear t1 t1b FX
  have z0 := R.out.2
  by_cases h1 : s1 = 1
  ·have t2 : (s1 == 1) = true := by simpa using h1
   have HE : Hid (v = 82) := by show _ = _; rw [<- HV.out, if_pos (.inl h1)]
   clear h1
   go_wp2
   go_ret
   exact ⟨by rw [HE.out]; rfl, R.out.1⟩
  ·have t2 : (s1 == 1) = false := by simpa using h1
   by_cases hp : t.prod = -1
   ·have t3 : (t.prod == -1) = true := by simpa using hp
    rw [t3] at CI
    have HE : Hid (v = 82) := by show _ = _; rw [<- HV.out, if_pos (.inr hp)]
    clear h1 hp t3
    go_wp2_with (go_at_call 36; refine (CI.out _ R.out.1).mono ?_; rintro e w2 ⟨rfl, rfl⟩)
    go_ret
    exact ⟨by rw [HE.out]; rfl, R.out.1⟩
   ·have t3 : (t.prod == -1) = false := by simpa using hp
    rw [t3] at CI
    have HE : Hid (v = 81) := by show _ = _; rw [<- HV.out, if_neg (by rintro (q | q); exact h1 q; exact hp q)]
    clear h1 hp t3
    go_wp2_with (go_at_call 36; refine (CI.out _ R.out.1).mono ?_; rintro e w2 ⟨rfl, rfl⟩)
    go_ret
    exact ⟨by rw [HE.out]; rfl, R.out.1⟩
end Go.Proofs.YteciabdjkaackaaGreat
