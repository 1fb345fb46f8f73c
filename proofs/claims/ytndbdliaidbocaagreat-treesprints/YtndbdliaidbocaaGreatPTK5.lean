import Derived.Test.YtndbdliaidbocaaGreatPRTwoGToTK4
namespace Go.Proofs.YtndbdliaidbocaaGreat
set_option linter.unusedVariables false
open Go.RowKit
structure HTr (w : World) (q : Nat) (V : Nat -> Value) (ty : Nat -> TypeId) (E : Nat -> List HE) (g1 c1 g2 c2 : Nat) (T1 T2 : TV) : Prop where
 hq : w.heap[q]? = some (.cells (hArr (updV (updV V 20 (.slice (some ⟨g1, 0, none⟩) 1 c1)) 21 (.slice (some ⟨g2, 0, none⟩) 1 c2))) 43 (0, 0))
 row : ∀ i, HL (ty i) w (V i) (hS E i)
 at_ : ∀ κ, ∀ e ∈ E κ, e.At w
 t1 : TRo w (.slice (some ⟨g1, 0, none⟩) 1 c1) [T1]
 t2 : TRo w (.slice (some ⟨g2, 0, none⟩) 1 c2) [T2]
 a1 : TAt w T1
 a2 : TAt w T2
 sm : samV T1 T2
 sz : szT T1 <= 100000000
theorem HTr.later {w w' : World} {q : Nat} {V : Nat -> Value} {ty : Nat -> TypeId} {E : Nat -> List HE} {g1 c1 g2 c2 : Nat} {T1 T2 : TV} (h : HTr w q V ty E g1 c1 g2 c2 T1 T2) (hb : Below w.heap.size w w') : HTr w' q V ty E g1 c1 g2 c2 T1 T2 :=
 ⟨(hb.block _ (lt_of_block h.hq)).trans h.hq, fun i => (h.row i).later hb, fun κ e he => (h.at_ κ e he).later hb, h.t1.later hb, h.t2.later hb, h.a1.later hb, h.a2.later hb, h.sm, h.sz⟩
theorem HTr.cell {w : World} {q : Nat} {V : Nat -> Value} {ty : Nat -> TypeId} {E : Nat -> List HE} {g1 c1 g2 c2 : Nat} {T1 T2 : TV} (h : HTr w q V ty E g1 c1 g2 c2 T1 T2) {i : Nat} (hi : i < 20) : w.cell? ⟨q, i, none⟩ = some (V i) := by
 rw [cellq_any h.hq, hArr_get _ (by omega)]
 unfold updV
 rw [if_neg (by omega), if_neg (by omega)]
theorem HTr.c2 {w : World} {q : Nat} {V : Nat -> Value} {ty : Nat -> TypeId} {E : Nat -> List HE} {g1 c1 g2 c2 : Nat} {T1 T2 : TV} (h : HTr w q V ty E g1 c1 g2 c2 T1 T2) : w.cell? ⟨q, 20, none⟩ = some (.slice (some ⟨g1, 0, none⟩) 1 c1) /\ w.cell? ⟨q, 21, none⟩ = some (.slice (some ⟨g2, 0, none⟩) 1 c2) := by
 refine ⟨?_, ?_⟩
 ·rw [cellq_any h.hq, hArr_get _ (by omega)]
  rfl
 ·rw [cellq_any h.hq, hArr_get _ (by omega)]
  rfl
theorem wpAnyX_takeS {P : Program} {ops : Array Oper} {Q : Exit -> Act -> World -> Prop} {md : Region.Mode} {i : Nat} {oi : Oper} {v : Value} {S : World -> Prop} {fuel : Nat} {listed : Array Bool} {a : Act} {w : World} (hi' : ops.toList[i]? = some oi)
  (hs : Region.noSelect ops = true) (hf : Region.free md ops listed i = true) (hr : (Region.ready md ops listed).contains i = true)
  (hQ : ∀ c a w, Q (.panic c) (a.put oi.dst v) w -> Q (.panic c) a w) (hy : YieldsIf P ops S oi v a) (hS : S w)
  (h : wpAnyX P md ops Q (fun _ => S) fuel (listed.setIfInBounds i true) (a.put oi.dst v) w) : wpAnyX P md ops Q (fun _ => S) (fuel + 1) listed a w :=
 have hi : ops[i]? = some oi := by rw [<- Array.getElem?_toList]; exact hi'
 wpAnyX_first (Cl := fun _ => True) (T := S) hi (Region.noSelect_spec hs) hQ (fun _ _ _ _ => trivial) (fun _ _ _ _ h => h) (fun _ _ => Iff.rfl) fuel listed a w (Region.free_spec hi hf) (by simpa using hr) trivial hy hS h
theorem run_sameT2 {o : Oper} {a : Act} {t0 t1 : TypeId} {v0 v1 : Value} {x0 x1 : Operand} (hop : o.op = Op.call { callee := Callee.value (Operand.func 52), args := #[x0, x1], argTypes := #[t0, t1] }) (h0 : a.eval x0 = v0) (h1 : a.eval x1 = v1) (w : World) : (execOp a.eval o).run Tryz.prog w = .ok (.enter 52 #[v0, v1]) w := by
 have hf : a.eval (Operand.func 52) = .func (.func 52) #[] #[] := rfl
 simp [execOp, hop, resolve, invoke, h0, h1, hf, Deferred.ofValue]
theorem run_sameTs2 {o : Oper} {a : Act} {t0 t1 : TypeId} {v0 v1 : Value} {x0 x1 : Operand} (hop : o.op = Op.call { callee := Callee.value (Operand.func 33), args := #[x0, x1], argTypes := #[t0, t1] }) (h0 : a.eval x0 = v0) (h1 : a.eval x1 = v1) (w : World) : (execOp a.eval o).run Tryz.prog w = .ok (.enter 33 #[v0, v1]) w := by
 have hf : a.eval (Operand.func 33) = .func (.func 33) #[] #[] := rfl
 simp [execOp, hop, resolve, invoke, h0, h1, hf, Deferred.ofValue]
set_option linter.unusedSimpArgs false in
set_option maxRecDepth 100000 in
set_option maxHeartbeats 4000000 in
theorem sametrees_1 (g1 c1 g2 c2 : Nat) (T1 T2 : TV) (w : World) (h1 : TRo w (.slice (some ⟨g1, 0, none⟩) 1 c1) [T1]) (h2 : TRo w (.slice (some ⟨g2, 0, none⟩) 1 c2) [T2]) (a1 : TAt w T1) (a2 : TAt w T2) (hs : samV T1 T2) (hsz : szT T1 <= 100000000) : Calls Tryz.prog 33 #[.slice (some ⟨g1, 0, none⟩) 1 c1, .slice (some ⟨g2, 0, none⟩) 1 c2] w fun e w' => e = .returned (.bool true) /\ Below w.heap.size w w' := by
 have HB : Hid (∀ w', Below w.heap.size w w' -> TBx w' g1 0 T1 /\ TBx w' g2 0 T2) := fun w' hb => ⟨(tro_bx h1).1.later hb, (tro_bx h2).1.later hb⟩
 have CS : Hid (∀ w', Below w.heap.size w w' -> Calls Tryz.prog 52 #[T1.val, T2.val] w' fun e w'' => e = .returned (.bool true) /\ Below w'.heap.size w' w'') := fun w' hb => sameTree_W T1 T2 w' (a1.later hb) (a2.later hb) hs hsz
 clear h1 h2 a1 a2 hs hsz
 go_enter Tryz.func33, Tryz.ntmps33
 go_wp2
 go_loopg [5] 2 (fun gk v5 wr => ∃ i : Nat, i <= 1 /\ v5 = .int .i64 (i : Int) /\ Below w.heap.size w wr /\ 1 - i < gk)
 case atStart => exact ⟨0, by omega, rfl, Below.refl _ _, by omega⟩
 case round =>
  obtain ⟨i, hi, rfl, hB, hg⟩ := hrel
  have HW : Hid (Below w.heap.size w wr /\ 1 - i < gk) := ⟨hB, hg⟩
  clear hB hg
  by_cases h0 : i = 0
  ·subst h0
   go_upto_region 6 with fail
   obtain ⟨wd, hwd⟩ : ∃ wd : World, wd = wr.drew := ⟨_, rfl⟩
   have HD : Hid (Below w.heap.size w wd) := by rw [hwd]; exact HW.out.1.drew
   refine wp_region_x (S := fun _ => (fun w' => TBx w' g1 0 T1 /\ TBx w' g2 0 T2)) (by kernel_rfl) ?_
   rw [<- hwd]
   clear hwd
   refine wpAnyX_takeS (i := 0) (v := ?_) rfl (by kernel_rfl) (by decide +kernel) (by decide +kernel) (fun _ _ _ h => h) (Or.inl ⟨by rfl, ?_⟩) ((HB.out _ HD.out)) ?_
   rotate_left
   ·(intro w hSw; have z0 := hSw.1.c0; have z1 := hSw.1.c1; have z2 := hSw.1.c2; have z3 := hSw.1.c3; have y0 := hSw.2.c0; have y1 := hSw.2.c1; have y2 := hSw.2.c2; have y3 := hSw.2.c3; simp only [Nat.zero_add] at z1 z2 z3 y1 y2 y3; clear hSw; go_simp; try (with_reducible rfl))
   (try simp only [Act.put, List.setIfInBounds_toArray, List.set_cons_zero, List.set_cons_succ])
   refine wpAnyX_takeS (i := 1) (v := ?_) rfl (by kernel_rfl) (by decide +kernel) (by decide +kernel) (fun _ _ _ h => h) (Or.inl ⟨by rfl, ?_⟩) ((HB.out _ HD.out)) ?_
   rotate_left
   ·(intro w hSw; have z0 := hSw.1.c0; have z1 := hSw.1.c1; have z2 := hSw.1.c2; have z3 := hSw.1.c3; have y0 := hSw.2.c0; have y1 := hSw.2.c1; have y2 := hSw.2.c2; have y3 := hSw.2.c3; simp only [Nat.zero_add] at z1 z2 z3 y1 y2 y3; clear hSw; go_simp; try (with_reducible rfl))
   (try simp only [Act.put, List.setIfInBounds_toArray, List.set_cons_zero, List.set_cons_succ])
   refine wpAnyX_takeS (i := 2) (v := ?_) rfl (by kernel_rfl) (by decide +kernel) (by decide +kernel) (fun _ _ _ h => h) (Or.inl ⟨by rfl, ?_⟩) ((HB.out _ HD.out)) ?_
   rotate_left
   ·(intro w hSw; have z0 := hSw.1.c0; have z1 := hSw.1.c1; have z2 := hSw.1.c2; have z3 := hSw.1.c3; have y0 := hSw.2.c0; have y1 := hSw.2.c1; have y2 := hSw.2.c2; have y3 := hSw.2.c3; simp only [Nat.zero_add] at z1 z2 z3 y1 y2 y3; clear hSw; go_simp; try (with_reducible rfl))
   (try simp only [Act.put, List.setIfInBounds_toArray, List.set_cons_zero, List.set_cons_succ])
   refine wpAnyX_takeS (i := 3) (v := ?_) rfl (by kernel_rfl) (by decide +kernel) (by decide +kernel) (fun _ _ _ h => h) (Or.inl ⟨by rfl, ?_⟩) ((HB.out _ HD.out)) ?_
   rotate_left
   ·(intro w hSw; have z0 := hSw.1.c0; have z1 := hSw.1.c1; have z2 := hSw.1.c2; have z3 := hSw.1.c3; have y0 := hSw.2.c0; have y1 := hSw.2.c1; have y2 := hSw.2.c2; have y3 := hSw.2.c3; simp only [Nat.zero_add] at z1 z2 z3 y1 y2 y3; clear hSw; go_simp; try (with_reducible rfl))
   (try simp only [Act.put, List.setIfInBounds_toArray, List.set_cons_zero, List.set_cons_succ])
   refine wpAnyX_takeS (i := 4) (v := ?_) rfl (by kernel_rfl) (by decide +kernel) (by decide +kernel) (fun _ _ _ h => h) (Or.inl ⟨by rfl, ?_⟩) ((HB.out _ HD.out)) ?_
   rotate_left
   ·(intro w hSw; have z0 := hSw.1.c0; have z1 := hSw.1.c1; have z2 := hSw.1.c2; have z3 := hSw.1.c3; have y0 := hSw.2.c0; have y1 := hSw.2.c1; have y2 := hSw.2.c2; have y3 := hSw.2.c3; simp only [Nat.zero_add] at z1 z2 z3 y1 y2 y3; clear hSw; go_simp; try (with_reducible rfl))
   (try simp only [Act.put, List.setIfInBounds_toArray, List.set_cons_zero, List.set_cons_succ])
   refine wpAnyX_takeS (i := 5) (v := ?_) rfl (by kernel_rfl) (by decide +kernel) (by decide +kernel) (fun _ _ _ h => h) (Or.inl ⟨by rfl, ?_⟩) ((HB.out _ HD.out)) ?_
   rotate_left
   ·(intro w hSw; have z0 := hSw.1.c0; have z1 := hSw.1.c1; have z2 := hSw.1.c2; have z3 := hSw.1.c3; have y0 := hSw.2.c0; have y1 := hSw.2.c1; have y2 := hSw.2.c2; have y3 := hSw.2.c3; simp only [Nat.zero_add] at z1 z2 z3 y1 y2 y3; clear hSw; go_simp; try (with_reducible rfl))
   (try simp only [Act.put, List.setIfInBounds_toArray, List.set_cons_zero, List.set_cons_succ])
   refine wpAnyX_takeS (i := 6) (v := ?_) rfl (by kernel_rfl) (by decide +kernel) (by decide +kernel) (fun _ _ _ h => h) (Or.inl ⟨by rfl, ?_⟩) ((HB.out _ HD.out)) ?_
   rotate_left
   ·(intro w hSw; have z0 := hSw.1.c0; have z1 := hSw.1.c1; have z2 := hSw.1.c2; have z3 := hSw.1.c3; have y0 := hSw.2.c0; have y1 := hSw.2.c1; have y2 := hSw.2.c2; have y3 := hSw.2.c3; simp only [Nat.zero_add] at z1 z2 z3 y1 y2 y3; clear hSw; go_simp; try (with_reducible rfl))
   (try simp only [Act.put, List.setIfInBounds_toArray, List.set_cons_zero, List.set_cons_succ])
   refine wpAnyX_takeS (i := 7) (v := ?_) rfl (by kernel_rfl) (by decide +kernel) (by decide +kernel) (fun _ _ _ h => h) (Or.inl ⟨by rfl, ?_⟩) ((HB.out _ HD.out)) ?_
   rotate_left
   ·(intro w hSw; have z0 := hSw.1.c0; have z1 := hSw.1.c1; have z2 := hSw.1.c2; have z3 := hSw.1.c3; have y0 := hSw.2.c0; have y1 := hSw.2.c1; have y2 := hSw.2.c2; have y3 := hSw.2.c3; simp only [Nat.zero_add] at z1 z2 z3 y1 y2 y3; clear hSw; go_simp; try (with_reducible rfl))
   (try simp only [Act.put, List.setIfInBounds_toArray, List.set_cons_zero, List.set_cons_succ])
   refine wpAnyX_one (j := 8) (by decide +kernel) rfl (fun K' hK => ?_)
   refine step_callX rfl 52 #[T1.val, T2.val] _ (run_sameT2 (v0 := T1.val) (v1 := T2.val) rfl rfl rfl _) (CS.out _ HD.out) ?_
   rintro e w8 ⟨rfl, b8⟩
   refine ⟨_, rfl, ?_⟩
   have B8 : Hid (Below w.heap.size w w8) := HD.out.trans (b8.mono HD.out.size)
   refine hK.out _ _ (HB.out _ B8.out) ?_
   clear hK K' b8 HD
   (try simp only [Act.put, List.setIfInBounds_toArray, List.set_cons_zero, List.set_cons_succ])
   refine wpAnyX_one (j := 9) (by decide +kernel) rfl (fun K' hK => ?_)
   go_simp
   refine hK.out _ _ (HB.out _ B8.out) ?_
   clear hK K'
   (try simp only [Act.put, List.setIfInBounds_toArray, List.set_cons_zero, List.set_cons_succ])
   refine wpAnyX_done (by decide +kernel) ?_
   go_wp2
   go_roundg (gk - 1)
   case measure => have := HW.out.2; omega
   case rel => exact ⟨1, by omega, by go_num, B8.out, by have := HW.out.2; omega⟩
  ·obtain rfl : i = 1 := by omega
   go_wp2
   go_ret
   exact ⟨rfl, HW.out.1⟩
set_option maxRecDepth 100000 in
set_option maxHeartbeats 8000000 in
theorem gintactT (q : Nat) (V : Nat -> Value) (ty : Nat -> TypeId) (E : Nat -> List HE) (w : World) (g1 k1_ g2 k2_ : Nat) (T1 T2 : TV) (hG : HTr w q V ty E g1 k1_ g2 k2_ T1 T2) (hS : StG E) (h1 : (E 1).length <= 5864062014720) (h2 : (E 2).length <= 5864062014720) (h4 : (E 4).length <= 5864062014720) :
  Calls Tryz.prog 11 #[.pointer (some ⟨q, 0, none⟩)] w fun e w' => e = .returned (.bool true) /\ Below w.heap.size w w' := by
 have hemp : ∀ i, i / 2 ≠ 1 -> i / 2 ≠ 2 -> i / 2 ≠ 4 -> True -> ∃ a c, V i = .slice a 0 c := fun i h0 h1 h2 _ => by
  have hr := hG.row i
  have e : Go.Proofs.YtndbdliaidbocaaGreat.hS E i = [] := by unfold Go.Proofs.YtndbdliaidbocaaGreat.hS; rw [hS.no _ h0 h1 h2]; simp
  rw [e] at hr
  exact hr.slice
 have HG : Hid (HTr w q V ty E g1 k1_ g2 k2_ T1 T2) := hG
 obtain ⟨a0, c0, v0⟩ := hemp 0 (by decide) (by decide) (by decide) trivial
 have k0 := hG.cell (i := 0) (by omega)
 rw [v0] at k0
 obtain ⟨a1, c1, v1⟩ := hemp 1 (by decide) (by decide) (by decide) trivial
 have k1 := hG.cell (i := 1) (by omega)
 rw [v1] at k1
 have k2 := hG.cell (i := 2) (by omega)
 have R2 := hG.row 2
 obtain ⟨a2, c2, v2⟩ := R2.slice
 rw [show (Go.Proofs.YtndbdliaidbocaaGreat.hS E 2).length = (E 1).length by show ((E 1).map HE.fst).length = _; simp] at v2
 rw [v2] at k2
 have R4 := hG.row 4
 obtain ⟨a4, c4, v4⟩ := R4.slice
 rw [show (Go.Proofs.YtndbdliaidbocaaGreat.hS E 4).length = (E 2).length by show ((E 2).map HE.fst).length = _; simp] at v4
 clear hG R4 R2
 go_enter Tryz.func11, Tryz.ntmps11
 go_wp2
 go_loop [3] (fun i => i = .int .i64 0) (fun _ => 0)
 case atStart => rfl
 case round =>
  subst hrel
  go_wp2
  go_loopw [4] (fun i wr => ∃ (j : Nat), i = .int .i64 j /\ j <= (E 1).length /\ HTr wr q V ty E g1 k1_ g2 k2_ T1 T2 /\ Below w.heap.size w wr) (fun i _ => (E 1).length - (intOf i).toNat)
  case atStart => exact ⟨0, rfl, Nat.zero_le _, HG.out, Below.refl _ _⟩
  case round =>
   clear HG k0 k1 k2
   obtain ⟨j, rfl, hj, hG, hst⟩ := hrel
   have k2 := hG.cell (i := 2) (by omega)
   rw [v2] at k2
   by_cases hlt : j < (E 1).length
   ·obtain ⟨g, c, hLe, hcl⟩ := (hG.row 2).at j (E 1)[j].fst (by show ((E 1).map HE.fst)[j]? = _; simp [hlt])
    obtain ⟨g2, c2, hWe, hcw⟩ := (hG.row 3).at j (E 1)[j].snd (by show ((E 1).map HE.snd)[j]? = _; simp [hlt])
    rw [show (Go.Proofs.YtndbdliaidbocaaGreat.hS E 3).length = (E 1).length by show ((E 1).map HE.snd).length = _; simp] at hWe
    have k3 := hG.cell (i := 3) (by omega)
    rw [hWe] at k3
    rw [v2] at hLe
    simp only [Value.slice.injEq] at hLe
    obtain ⟨rfl, _, rfl⟩ := hLe
    obtain ⟨zs, hN, HR⟩ := HE.intRows (hG.at_ 1 _ (List.getElem_mem hlt)) (hS.int _ (List.getElem_mem hlt))
    have HL : Hid (zs.length <= 140737488355328) := by have := (hG.at_ 1 _ (List.getElem_mem hlt)).lim; show _ <= _; omega
    generalize (E 1)[j] = x at *
    obtain ⟨xt, xz, xg, xN, xa, xc, xcs⟩ := x
    simp only [HE.fst, HE.snd] at hcl hcw hN HR
    subst hN
    have HR' : Hid (∀ n, InRow (wr.drewN n) (some ⟨xg, 0, none⟩) zs /\ InRow (wr.drewN n) xa zs) := HR
    clear HR
    go_wp2
    go_quiet ((go_at_call 24; (exact Calls.quiet_of (sameints_g (some ⟨xg, 0, none⟩) xa zs.length zs.length zs.length xc zs (wr.drewN _) rfl rfl HL.out (HR'.out _).1 (HR'.out _).2))))
    go_wp2
    go_roundw
    case rel => exact ⟨j + 1, by go_num, by omega, hG.later (below_drewN (Below.refl _ _) _), below_drewN hst _⟩
    case measure => simp [intOf]; omega
   ·have HG : Hid (HTr wr q V ty E g1 k1_ g2 k2_ T1 T2) := hG
    have k4 := hG.cell (i := 4) (by omega)
    rw [v4] at k4
    clear hG
    obtain ⟨wz, rfl⟩ : ∃ wz : World, wz = wr := ⟨_, rfl⟩
    go_wp2
    go_loopw [5] (fun i wr => ∃ (j : Nat), i = .int .i64 j /\ j <= (E 2).length /\ HTr wr q V ty E g1 k1_ g2 k2_ T1 T2 /\ Below w.heap.size w wr) (fun i _ => (E 2).length - (intOf i).toNat)
    case atStart => exact ⟨0, rfl, Nat.zero_le _, HG.out, hst⟩
    case round =>
     clear HG k2 k4 hst hlt hj
     obtain ⟨j, rfl, hj, hG, hst⟩ := hrel
     have k4 := hG.cell (i := 4) (by omega)
     rw [v4] at k4
     by_cases hlt : j < (E 2).length
     ·obtain ⟨g, c, hLe, hcl⟩ := (hG.row 4).at j (E 2)[j].fst (by show ((E 2).map HE.fst)[j]? = _; simp [hlt])
      obtain ⟨g2, c2, hWe, hcw⟩ := (hG.row 5).at j (E 2)[j].snd (by show ((E 2).map HE.snd)[j]? = _; simp [hlt])
      rw [show (Go.Proofs.YtndbdliaidbocaaGreat.hS E 5).length = (E 2).length by show ((E 2).map HE.snd).length = _; simp] at hWe
      have k5 := hG.cell (i := 5) (by omega)
      rw [hWe] at k5
      rw [v4] at hLe
      simp only [Value.slice.injEq] at hLe
      obtain ⟨rfl, _, rfl⟩ := hLe
      obtain ⟨zs, hN, HR⟩ := HE.strRows (hG.at_ 2 _ (List.getElem_mem hlt)) (hS.str _ (List.getElem_mem hlt))
      have HL : Hid (zs.length <= 140737488355328) := by have := (hG.at_ 2 _ (List.getElem_mem hlt)).lim; show _ <= _; omega
      generalize (E 2)[j] = x at *
      obtain ⟨xt, xz, xg, xN, xa, xc, xcs⟩ := x
      simp only [HE.fst, HE.snd] at hcl hcw hN HR
      subst hN
      have HR' : Hid (∀ n, StrRow (wr.drewN n) (some ⟨xg, 0, none⟩) zs /\ StrRow (wr.drewN n) xa zs) := HR
      clear HR
      go_wp2
      go_quiet ((go_at_call 25; (exact Calls.quiet_of (samestrs_h (some ⟨xg, 0, none⟩) xa zs.length zs.length zs.length xc zs (wr.drewN _) rfl rfl HL.out (HR'.out _).1 (HR'.out _).2))))
      go_wp2
      go_roundw
      case rel => exact ⟨j + 1, by go_num, by omega, hG.later (below_drewN (Below.refl _ _) _), below_drewN hst _⟩
      case measure => simp [intOf]; omega
     ·have HG : Hid (HTr wr q V ty E g1 k1_ g2 k2_ T1 T2) := hG
      obtain ⟨a6, c6, v6⟩ := hemp 6 (by decide) (by decide) (by decide) trivial
      have k6 := hG.cell (i := 6) (by omega)
      rw [v6] at k6
      have k8 := hG.cell (i := 8) (by omega)
      obtain ⟨a8, c8, v8⟩ := (hG.row 8).slice
      rw [show (Go.Proofs.YtndbdliaidbocaaGreat.hS E 8).length = (E 4).length by show ((E 4).map HE.fst).length = _; simp] at v8
      rw [v8] at k8
      clear hG
      go_wp2
      go_loop [6] (fun i => i = .int .i64 0) (fun _ => 0)
      case atStart => rfl
      case round =>
       subst hrel
       go_wp2
       obtain ⟨wo, rfl⟩ : ∃ wo : World, wo = wr := ⟨_, rfl⟩
       go_loopw [7] (fun i wr => ∃ (j : Nat), i = .int .i64 j /\ j <= (E 4).length /\ HTr wr q V ty E g1 k1_ g2 k2_ T1 T2 /\ Below w.heap.size w wr) (fun i _ => (E 4).length - (intOf i).toNat)
       case atStart => exact ⟨0, rfl, Nat.zero_le _, HG.out, hst⟩
       case round =>
        clear HG k6 k8 k4 hst hlt hj
        obtain ⟨j, rfl, hj, hG, hst⟩ := hrel
        have k8 := hG.cell (i := 8) (by omega)
        rw [v8] at k8
        by_cases hlt : j < (E 4).length
        ·obtain ⟨g, c, hLe, hcl⟩ := (hG.row 8).at j (E 4)[j].fst (by show ((E 4).map HE.fst)[j]? = _; simp [hlt])
         obtain ⟨g2, c2, hWe, hcw⟩ := (hG.row 9).at j (E 4)[j].snd (by show ((E 4).map HE.snd)[j]? = _; simp [hlt])
         rw [show (Go.Proofs.YtndbdliaidbocaaGreat.hS E 9).length = (E 4).length by show ((E 4).map HE.snd).length = _; simp] at hWe
         have k9 := hG.cell (i := 9) (by omega)
         rw [hWe] at k9
         rw [v8] at hLe
         simp only [Value.slice.injEq] at hLe
         obtain ⟨rfl, _, rfl⟩ := hLe
         obtain ⟨zs, hN, HR⟩ := HE.symRows (hG.at_ 4 _ (List.getElem_mem hlt)) (hS.sym _ (List.getElem_mem hlt))
         have HL : Hid (zs.length <= 140737488355328) := by have := (hG.at_ 4 _ (List.getElem_mem hlt)).lim; show _ <= _; omega
         generalize (E 4)[j] = x at *
         obtain ⟨xt, xz, xg, xN, xa, xc, xcs⟩ := x
         simp only [HE.fst, HE.snd] at hcl hcw hN HR
         subst hN
         have HR' : Hid (∀ n, SymRow (wr.drewN n) (some ⟨xg, 0, none⟩) zs /\ SymRow (wr.drewN n) xa zs) := HR
         clear HR
         go_wp2
         go_quiet ((go_at_call 27; (exact Calls.quiet_of (samesyms_h (some ⟨xg, 0, none⟩) xa zs.length zs.length zs.length xc zs (wr.drewN _) rfl rfl HL.out (HR'.out _).1 (HR'.out _).2))))
         go_wp2
         go_roundw
         case rel => exact ⟨j + 1, by go_num, by omega, hG.later (below_drewN (Below.refl _ _) _), below_drewN hst _⟩
         case measure => simp [intOf]; omega
        ·have hgo := hlt
         obtain ⟨a10, c10, v10⟩ := hemp 10 (by decide) (by decide) (by decide) trivial
         have k10 := hG.cell (i := 10) (by omega)
         rw [v10] at k10
         obtain ⟨a12, c12, v12⟩ := hemp 12 (by decide) (by decide) (by decide) trivial
         have k12 := hG.cell (i := 12) (by omega)
         rw [v12] at k12
         obtain ⟨a14, c14, v14⟩ := hemp 14 (by decide) (by decide) (by decide) trivial
         have k14 := hG.cell (i := 14) (by omega)
         rw [v14] at k14
         obtain ⟨a16, c16, v16⟩ := hemp 16 (by decide) (by decide) (by decide) trivial
         have k16 := hG.cell (i := 16) (by omega)
         rw [v16] at k16
         obtain ⟨a18, c18, v18⟩ := hemp 18 (by decide) (by decide) (by decide) trivial
         have k18 := hG.cell (i := 18) (by omega)
         rw [v18] at k18
         have HGF : Hid (HTr wr q V ty E g1 k1_ g2 k2_ T1 T2) := hG
         clear hG
         go_wp2
         go_loop [8] (fun i => i = .int .i64 0) (fun _ => 0)
         case atStart => rfl
         case round =>
          subst hrel
          go_wp2
          go_loop [9] (fun i => i = .int .i64 0) (fun _ => 0)
          case atStart => rfl
          case round =>
           subst hrel
           go_wp2
           go_loop [10] (fun i => i = .int .i64 0) (fun _ => 0)
           case atStart => rfl
           case round =>
            subst hrel
            go_wp2
            go_loop [11] (fun i => i = .int .i64 0) (fun _ => 0)
            case atStart => rfl
            case round =>
             subst hrel
             go_wp2
             go_loop [12] (fun i => i = .int .i64 0) (fun _ => 0)
             case atStart => rfl
             case round =>
              subst hrel
              go_wp2
              obtain ⟨wd, hwd⟩ : ∃ wd : World, wd = wr.drew := ⟨_, rfl⟩
              have HD : Hid (HTr wd q V ty E g1 k1_ g2 k2_ T1 T2 /\ Below w.heap.size w wd) := by rw [hwd]; exact ⟨HGF.out.later (Below.refl _ _).drew, hst.drew⟩
              refine wp_region_x (S := fun _ => (fun w' => w'.cell? ⟨q, 20, none⟩ = some (.slice (some ⟨g1, 0, none⟩) 1 k1_) /\ w'.cell? ⟨q, 21, none⟩ = some (.slice (some ⟨g2, 0, none⟩) 1 k2_))) (by kernel_rfl) ?_
              rw [<- hwd]
              clear hwd
              refine wpAnyX_takeS (i := 0) (v := ?_) rfl (by kernel_rfl) (by decide +kernel) (by decide +kernel) (fun _ _ _ h => h) (Or.inl ⟨by rfl, ?_⟩) (HD.out.1.c2) ?_
              rotate_left
              ·(intro w hSw; have z0 := hSw.1; have z1 := hSw.2; clear hSw; go_simp; try (with_reducible rfl))
              (try simp only [Act.put, List.setIfInBounds_toArray, List.set_cons_zero, List.set_cons_succ])
              refine wpAnyX_takeS (i := 1) (v := ?_) rfl (by kernel_rfl) (by decide +kernel) (by decide +kernel) (fun _ _ _ h => h) (Or.inl ⟨by rfl, ?_⟩) (HD.out.1.c2) ?_
              rotate_left
              ·(intro w hSw; have z0 := hSw.1; have z1 := hSw.2; clear hSw; go_simp; try (with_reducible rfl))
              (try simp only [Act.put, List.setIfInBounds_toArray, List.set_cons_zero, List.set_cons_succ])
              refine wpAnyX_takeS (i := 2) (v := ?_) rfl (by kernel_rfl) (by decide +kernel) (by decide +kernel) (fun _ _ _ h => h) (Or.inl ⟨by rfl, ?_⟩) (HD.out.1.c2) ?_
              rotate_left
              ·(intro w hSw; have z0 := hSw.1; have z1 := hSw.2; clear hSw; go_simp; try (with_reducible rfl))
              (try simp only [Act.put, List.setIfInBounds_toArray, List.set_cons_zero, List.set_cons_succ])
              refine wpAnyX_takeS (i := 3) (v := ?_) rfl (by kernel_rfl) (by decide +kernel) (by decide +kernel) (fun _ _ _ h => h) (Or.inl ⟨by rfl, ?_⟩) (HD.out.1.c2) ?_
              rotate_left
              ·(intro w hSw; have z0 := hSw.1; have z1 := hSw.2; clear hSw; go_simp; try (with_reducible rfl))
              (try simp only [Act.put, List.setIfInBounds_toArray, List.set_cons_zero, List.set_cons_succ])
              refine wpAnyX_takeS (i := 4) (v := ?_) rfl (by kernel_rfl) (by decide +kernel) (by decide +kernel) (fun _ _ _ h => h) (Or.inl ⟨by rfl, ?_⟩) (HD.out.1.c2) ?_
              rotate_left
              ·(intro w hSw; have z0 := hSw.1; have z1 := hSw.2; clear hSw; go_simp; try (with_reducible rfl))
              (try simp only [Act.put, List.setIfInBounds_toArray, List.set_cons_zero, List.set_cons_succ])
              refine wpAnyX_takeS (i := 5) (v := ?_) rfl (by kernel_rfl) (by decide +kernel) (by decide +kernel) (fun _ _ _ h => h) (Or.inl ⟨by rfl, ?_⟩) (HD.out.1.c2) ?_
              rotate_left
              ·(intro w hSw; have z0 := hSw.1; have z1 := hSw.2; clear hSw; go_simp; try (with_reducible rfl))
              (try simp only [Act.put, List.setIfInBounds_toArray, List.set_cons_zero, List.set_cons_succ])
              refine wpAnyX_takeS (i := 6) (v := ?_) rfl (by kernel_rfl) (by decide +kernel) (by decide +kernel) (fun _ _ _ h => h) (Or.inl ⟨by rfl, ?_⟩) (HD.out.1.c2) ?_
              rotate_left
              ·(intro w hSw; have z0 := hSw.1; have z1 := hSw.2; clear hSw; go_simp; try (with_reducible rfl))
              (try simp only [Act.put, List.setIfInBounds_toArray, List.set_cons_zero, List.set_cons_succ])
              refine wpAnyX_takeS (i := 7) (v := ?_) rfl (by kernel_rfl) (by decide +kernel) (by decide +kernel) (fun _ _ _ h => h) (Or.inl ⟨by rfl, ?_⟩) (HD.out.1.c2) ?_
              rotate_left
              ·(intro w hSw; have z0 := hSw.1; have z1 := hSw.2; clear hSw; go_simp; try (with_reducible rfl))
              (try simp only [Act.put, List.setIfInBounds_toArray, List.set_cons_zero, List.set_cons_succ])
              refine wpAnyX_one (j := 8) (by decide +kernel) rfl (fun K' hK => ?_)
              refine step_callX rfl 33 #[.slice (some ⟨g1, 0, none⟩) 1 k1_, .slice (some ⟨g2, 0, none⟩) 1 k2_] _ (run_sameTs2 (v0 := .slice (some ⟨g1, 0, none⟩) 1 k1_) (v1 := .slice (some ⟨g2, 0, none⟩) 1 k2_) rfl rfl rfl _) (sametrees_1 g1 k1_ g2 k2_ T1 T2 wd HD.out.1.t1 HD.out.1.t2 HD.out.1.a1 HD.out.1.a2 HD.out.1.sm HD.out.1.sz) ?_
              rintro e w8 ⟨rfl, b8⟩
              refine ⟨_, rfl, ?_⟩
              have B8 : Hid (Below w.heap.size w w8) := HD.out.2.trans (b8.mono HD.out.2.size)
              have C8 : Hid (w8.cell? ⟨q, 20, none⟩ = some (.slice (some ⟨g1, 0, none⟩) 1 k1_) /\ w8.cell? ⟨q, 21, none⟩ = some (.slice (some ⟨g2, 0, none⟩) 1 k2_)) := (HD.out.1.later b8).c2
              refine hK.out _ _ (HD.out.1.later b8).c2 ?_
              clear hK K' b8
              (try simp only [Act.put, List.setIfInBounds_toArray, List.set_cons_zero, List.set_cons_succ])
              refine wpAnyX_one (j := 9) (by decide +kernel) rfl (fun K' hK => ?_)
              go_simp
              refine hK.out _ _ C8.out ?_
              clear hK K'
              (try simp only [Act.put, List.setIfInBounds_toArray, List.set_cons_zero, List.set_cons_succ])
              refine wpAnyX_done (by decide +kernel) ?_
              go_wp2
              go_ret
              exact ⟨rfl, B8.out⟩
end Go.Proofs.YtndbdliaidbocaaGreat
