import Derived.Test.YteciabdjkaackaaGreatPTG1
namespace Go.Proofs.YteciabdjkaackaaGreat
set_option linter.unusedVariables false
open Go.RowKit
theorem wpAnyX_takeSM {P : Program} {ops : Array Oper} {Q : Exit -> Act -> World -> Prop} {md : Region.Mode} {i : Nat} {oi : Oper} {v : Value} {S : World -> Prop} {fuel : Nat} {listed : Array Bool} {a : Act} {w : World} (hi' : ops.toList[i]? = some oi)
  (hs : Region.noSelect ops = true) (hf : Region.free md ops listed i = true) (hr : (Region.ready md ops listed).contains i = true)
  (hQ : ∀ c a w, Q (.panic c) (a.put oi.dst v) w -> Q (.panic c) a w) (hy : YieldsIf P ops S oi v a) (hS : S w)
  (h : wpAnyX P md ops Q (fun _ => S) fuel (listed.setIfInBounds i true) (a.put oi.dst v) w) : wpAnyX P md ops Q (fun _ => S) (fuel + 1) listed a w :=
 have hi : ops[i]? = some oi := by rw [<- Array.getElem?_toList]; exact hi'
 wpAnyX_first (Cl := fun _ => True) (T := S) hi (Region.noSelect_spec hs) hQ (fun _ _ _ _ => trivial) (fun _ _ _ _ h => h) (fun _ _ => Iff.rfl) fuel listed a w (Region.free_spec hi hf) (by simpa using hr) trivial hy hS h
theorem run_sameM {o : Oper} {a : Act} {t0 t1 : TypeId} {v0 v1 : Value} {x0 x1 : Operand} (hop : o.op = Op.call { callee := Callee.value (Operand.func 13), args := #[x0, x1], argTypes := #[t0, t1] }) (h0 : a.eval x0 = v0) (h1 : a.eval x1 = v1) (w : World) : (execOp a.eval o).run Tryz.prog w = .ok (.enter 13 #[v0, v1]) w := by
 have hf : a.eval (Operand.func 13) = .func (.func 13) #[] #[] := rfl
 simp [execOp, hop, resolve, invoke, h0, h1, hf, Deferred.ofValue]
theorem run_samesM {o : Oper} {a : Act} {t0 t1 : TypeId} {v0 v1 : Value} {x0 x1 : Operand} (hop : o.op = Op.call { callee := Callee.value (Operand.func 60), args := #[x0, x1], argTypes := #[t0, t1] }) (h0 : a.eval x0 = v0) (h1 : a.eval x1 = v1) (w : World) : (execOp a.eval o).run Tryz.prog w = .ok (.enter 60 #[v0, v1]) w := by
 have hf : a.eval (Operand.func 60) = .func (.func 60) #[] #[] := rfl
 simp [execOp, hop, resolve, invoke, h0, h1, hf, Deferred.ofValue]
theorem ro_tbx {w : World} {g n c i : Nat} {L : List TV} (h : TRo w (.slice (some ⟨g, 0, none⟩) n c) L) (hi : i < L.length) : TBx w g (i * 4) L[i] := by
 obtain ⟨b, c', e, -, hc⟩ := RO.cell (f := trCells) (fun _ => rfl) h hi
 simp only [Value.slice.injEq, Option.some.injEq, Addr.mk.injEq, and_true] at e
 obtain ⟨rfl, -, -⟩ := e
 exact ⟨h.lt g rfl, hc 0 (by omega), hc 1 (by omega), hc 2 (by omega), hc 3 (by omega)⟩
set_option linter.unusedSimpArgs false in
set_option maxRecDepth 100000 in
set_option maxHeartbeats 4000000 in
theorem sametrees_W (g1 c1 g2 c2 n : Nat) (L M : List TV) (w : World) (h1 : TRo w (.slice (some ⟨g1, 0, none⟩) n c1) L) (h2 : TRo w (.slice (some ⟨g2, 0, none⟩) n c2) M) (hn : L.length = n) (hz : n <= 1000000) (a1 : ∀ T ∈ L, TAt w T /\ szT T <= 100000000) (a2 : ∀ T ∈ M, TAt w T) (hs : samL L M) : Calls Tryz.prog 60 #[.slice (some ⟨g1, 0, none⟩) n c1, .slice (some ⟨g2, 0, none⟩) n c2] w fun e w' => e = .returned (.bool true) /\ Below w.heap.size w w' := by
 have eL : ∀ i, i < n -> L.getD i TV.none ∈ L /\ M.getD i TV.none ∈ M /\ TBx w g1 (i * 4) (L.getD i TV.none) /\ TBx w g2 (i * 4) (M.getD i TV.none) /\ samV (L.getD i TV.none) (M.getD i TV.none) := fun i hi => by
  have hi1 : i < L.length := by omega
  have hi2 : i < M.length := by have := hs.1; omega
  have e1 : L.getD i TV.none = L[i] := by simp [List.getD, hi1]
  have e2 : M.getD i TV.none = M[i] := by simp [List.getD, hi2]
  rw [e1, e2]
  exact ⟨List.getElem_mem _, List.getElem_mem _, ro_tbx h1 hi1, ro_tbx h2 hi2, hs.2 i hi1 hi2⟩
 have HB : Hid (∀ w', Below w.heap.size w w' -> ∀ (i : Nat), i < n -> TBx w' g1 (i * 4) (L.getD i TV.none) /\ TBx w' g2 (i * 4) (M.getD i TV.none)) := fun w' hb i hi => ⟨(eL i hi).2.2.1.later hb, (eL i hi).2.2.2.1.later hb⟩
 have CS : Hid (∀ w', Below w.heap.size w w' -> ∀ (i : Nat), i < n -> Calls Tryz.prog 13 #[(L.getD i TV.none).val, (M.getD i TV.none).val] w' fun e w'' => e = .returned (.bool true) /\ Below w'.heap.size w' w'') := fun w' hb i hi => sameTree_W _ _ w' ((a1 _ (eL i hi).1).1.later hb) ((a2 _ (eL i hi).2.1).later hb) (eL i hi).2.2.2.2 (a1 _ (eL i hi).1).2
 have HM : Hid (L.length = n /\ M.length = n) := ⟨hn, by have := hs.1; omega⟩
 clear h1 h2 a1 a2 hs hn eL
 have hb : ((n : Int) != n) = false := by simp
 go_enter Tryz.func60, Tryz.ntmps60
 go_wp2
 go_loopg [5] (n + 1) (fun gk v5 wr => ∃ i : Nat, i <= n /\ v5 = .int .i64 (i : Int) /\ Below w.heap.size w wr /\ n - i < gk)
 case atStart => exact ⟨0, by omega, rfl, Below.refl _ _, by omega⟩
 case round =>
  obtain ⟨i, hi, rfl, hB, hg⟩ := hrel
  have HW : Hid (Below w.heap.size w wr /\ n - i < gk) := ⟨hB, hg⟩
  clear hB hg
  by_cases hlt : i < n
  ·obtain ⟨A, B, HB2, CS2⟩ : ∃ A B : TV, Hid (∀ w', Below w.heap.size w w' -> TBx w' g1 (i * 4) A /\ TBx w' g2 (i * 4) B) /\ Hid (∀ w', Below w.heap.size w w' -> Calls Tryz.prog 13 #[A.val, B.val] w' fun e w'' => e = .returned (.bool true) /\ Below w'.heap.size w' w'') := ⟨_, _, fun w' hb => HB.out w' hb i hlt, fun w' hb => CS.out w' hb i hlt⟩
   clear HB CS HM
   have hlt' : (i : Int) < (n : Int) := by omega
   go_upto_region 6 with fail
   obtain ⟨wd, hwd⟩ : ∃ wd : World, wd = wr.drew := ⟨_, rfl⟩
   have HD : Hid (Below w.heap.size w wd) := by rw [hwd]; exact HW.out.1.drew
   refine wp_region_x (S := fun _ => (fun w' => TBx w' g1 (i * 4) A /\ TBx w' g2 (i * 4) B)) (by kernel_rfl) ?_
   rw [<- hwd]
   clear hwd
   refine wpAnyX_takeSM (i := 0) (v := ?_) rfl (by kernel_rfl) (by decide +kernel) (by decide +kernel) (fun _ _ _ h => h) (Or.inl ⟨by rfl, ?_⟩) ((HB2.out _ HD.out)) ?_
   rotate_left
   ·(intro w hSw; have z0 := hSw.1.c0; have z1 := hSw.1.c1; have z2 := hSw.1.c2; have z3 := hSw.1.c3; have y0 := hSw.2.c0; have y1 := hSw.2.c1; have y2 := hSw.2.c2; have y3 := hSw.2.c3; clear hSw; go_simp; try (with_reducible rfl))
   (try simp only [Act.put, List.setIfInBounds_toArray, List.set_cons_zero, List.set_cons_succ])
   refine wpAnyX_takeSM (i := 1) (v := ?_) rfl (by kernel_rfl) (by decide +kernel) (by decide +kernel) (fun _ _ _ h => h) (Or.inl ⟨by rfl, ?_⟩) ((HB2.out _ HD.out)) ?_
   rotate_left
   ·(intro w hSw; have z0 := hSw.1.c0; have z1 := hSw.1.c1; have z2 := hSw.1.c2; have z3 := hSw.1.c3; have y0 := hSw.2.c0; have y1 := hSw.2.c1; have y2 := hSw.2.c2; have y3 := hSw.2.c3; clear hSw; go_simp; try (with_reducible rfl))
   (try simp only [Act.put, List.setIfInBounds_toArray, List.set_cons_zero, List.set_cons_succ])
   refine wpAnyX_takeSM (i := 2) (v := ?_) rfl (by kernel_rfl) (by decide +kernel) (by decide +kernel) (fun _ _ _ h => h) (Or.inl ⟨by rfl, ?_⟩) ((HB2.out _ HD.out)) ?_
   rotate_left
   ·(intro w hSw; have z0 := hSw.1.c0; have z1 := hSw.1.c1; have z2 := hSw.1.c2; have z3 := hSw.1.c3; have y0 := hSw.2.c0; have y1 := hSw.2.c1; have y2 := hSw.2.c2; have y3 := hSw.2.c3; clear hSw; go_simp; try (with_reducible rfl))
   (try simp only [Act.put, List.setIfInBounds_toArray, List.set_cons_zero, List.set_cons_succ])
   refine wpAnyX_takeSM (i := 3) (v := ?_) rfl (by kernel_rfl) (by decide +kernel) (by decide +kernel) (fun _ _ _ h => h) (Or.inl ⟨by rfl, ?_⟩) ((HB2.out _ HD.out)) ?_
   rotate_left
   ·(intro w hSw; have z0 := hSw.1.c0; have z1 := hSw.1.c1; have z2 := hSw.1.c2; have z3 := hSw.1.c3; have y0 := hSw.2.c0; have y1 := hSw.2.c1; have y2 := hSw.2.c2; have y3 := hSw.2.c3; clear hSw; go_simp; try (with_reducible rfl))
   (try simp only [Act.put, List.setIfInBounds_toArray, List.set_cons_zero, List.set_cons_succ])
   refine wpAnyX_takeSM (i := 4) (v := ?_) rfl (by kernel_rfl) (by decide +kernel) (by decide +kernel) (fun _ _ _ h => h) (Or.inl ⟨by rfl, ?_⟩) ((HB2.out _ HD.out)) ?_
   rotate_left
   ·(intro w hSw; have z0 := hSw.1.c0; have z1 := hSw.1.c1; have z2 := hSw.1.c2; have z3 := hSw.1.c3; have y0 := hSw.2.c0; have y1 := hSw.2.c1; have y2 := hSw.2.c2; have y3 := hSw.2.c3; clear hSw; go_simp; try (with_reducible rfl))
   (try simp only [Act.put, List.setIfInBounds_toArray, List.set_cons_zero, List.set_cons_succ])
   refine wpAnyX_takeSM (i := 5) (v := ?_) rfl (by kernel_rfl) (by decide +kernel) (by decide +kernel) (fun _ _ _ h => h) (Or.inl ⟨by rfl, ?_⟩) ((HB2.out _ HD.out)) ?_
   rotate_left
   ·(intro w hSw; have z0 := hSw.1.c0; have z1 := hSw.1.c1; have z2 := hSw.1.c2; have z3 := hSw.1.c3; have y0 := hSw.2.c0; have y1 := hSw.2.c1; have y2 := hSw.2.c2; have y3 := hSw.2.c3; clear hSw; go_simp; try (with_reducible rfl))
   (try simp only [Act.put, List.setIfInBounds_toArray, List.set_cons_zero, List.set_cons_succ])
   refine wpAnyX_takeSM (i := 6) (v := ?_) rfl (by kernel_rfl) (by decide +kernel) (by decide +kernel) (fun _ _ _ h => h) (Or.inl ⟨by rfl, ?_⟩) ((HB2.out _ HD.out)) ?_
   rotate_left
   ·(intro w hSw; have z0 := hSw.1.c0; have z1 := hSw.1.c1; have z2 := hSw.1.c2; have z3 := hSw.1.c3; have y0 := hSw.2.c0; have y1 := hSw.2.c1; have y2 := hSw.2.c2; have y3 := hSw.2.c3; clear hSw; go_simp; try (with_reducible rfl))
   (try simp only [Act.put, List.setIfInBounds_toArray, List.set_cons_zero, List.set_cons_succ])
   refine wpAnyX_takeSM (i := 7) (v := ?_) rfl (by kernel_rfl) (by decide +kernel) (by decide +kernel) (fun _ _ _ h => h) (Or.inl ⟨by rfl, ?_⟩) ((HB2.out _ HD.out)) ?_
   rotate_left
   ·(intro w hSw; have z0 := hSw.1.c0; have z1 := hSw.1.c1; have z2 := hSw.1.c2; have z3 := hSw.1.c3; have y0 := hSw.2.c0; have y1 := hSw.2.c1; have y2 := hSw.2.c2; have y3 := hSw.2.c3; clear hSw; go_simp; try (with_reducible rfl))
   (try simp only [Act.put, List.setIfInBounds_toArray, List.set_cons_zero, List.set_cons_succ])
   refine wpAnyX_one (j := 8) (by decide +kernel) rfl (fun K' hK => ?_)
   refine step_callX rfl 13 #[A.val, B.val] _ (run_sameM (v0 := A.val) (v1 := B.val) rfl rfl rfl _) (CS2.out _ HD.out) ?_
   rintro e w8 ⟨rfl, b8⟩
   refine ⟨_, rfl, ?_⟩
   have B8 : Hid (Below w.heap.size w w8) := HD.out.trans (b8.mono HD.out.size)
   refine hK.out _ _ (HB2.out _ B8.out) ?_
   clear hK K' b8 HD
   (try simp only [Act.put, List.setIfInBounds_toArray, List.set_cons_zero, List.set_cons_succ])
   refine wpAnyX_one (j := 9) (by decide +kernel) rfl (fun K' hK => ?_)
   go_simp
   refine hK.out _ _ (HB2.out _ B8.out) ?_
   clear hK K'
   (try simp only [Act.put, List.setIfInBounds_toArray, List.set_cons_zero, List.set_cons_succ])
   refine wpAnyX_done (by decide +kernel) ?_
   clear hlt'
   go_wp2
   go_roundg (gk - 1)
   case measure => have := HW.out.2; omega
   case rel => exact ⟨i + 1, by omega, by go_num, B8.out, by have := HW.out.2; omega⟩
  ·go_wp2
   go_ret
   exact ⟨rfl, HW.out.1⟩
structure GvT (q : Nat) (g1 c1 g2 c2 : Nat) (L M : List TV) (w : World) : Prop where
 ex : ∃ V, w.heap[q]? = some (.cells (hArr V) 38 (0, 0)) /\ (∀ i, i < 20 -> V i = .slice none 0 0) /\ V 20 = .slice (some ⟨g1, 0, none⟩) L.length c1 /\ V 21 = .slice (some ⟨g2, 0, none⟩) L.length c2
 t1 : TRo w (.slice (some ⟨g1, 0, none⟩) L.length c1) L
 t2 : TRo w (.slice (some ⟨g2, 0, none⟩) L.length c2) M
 a1 : ∀ T ∈ L, TAt w T /\ szT T <= 100000000
 a2 : ∀ T ∈ M, TAt w T
 sm : samL L M
 ne : g1 ≠ g2 /\ g1 ≠ q /\ g2 ≠ q
 ad : ∀ T, T ∈ L ∨ T ∈ M -> ∀ a ∈ adsL (kidsA T), a.1 ≠ q /\ a.1 ≠ g1 /\ a.1 ≠ g2
theorem GvT.later {q g1 c1 g2 c2 : Nat} {L M : List TV} {w w' : World} (h : GvT q g1 c1 g2 c2 L M w) (hb : Below w.heap.size w w') : GvT q g1 c1 g2 c2 L M w' := by
 obtain ⟨V, h1, h2, h3, h4⟩ := h.ex
 exact ⟨⟨V, (hb.block _ (lt_of_block h1)).trans h1, h2, h3, h4⟩, h.t1.later hb, h.t2.later hb, fun T hT => ⟨(h.a1 T hT).1.later hb, (h.a1 T hT).2⟩, fun T hT => (h.a2 T hT).later hb, h.sm, h.ne, h.ad⟩
theorem GvT.cell {q g1 c1 g2 c2 : Nat} {L M : List TV} {w : World} (h : GvT q g1 c1 g2 c2 L M w) : (∀ i, i < 20 -> w.cell? ⟨q, i, none⟩ = some (.slice none 0 0)) /\ w.cell? ⟨q, 20, none⟩ = some (.slice (some ⟨g1, 0, none⟩) L.length c1) /\ w.cell? ⟨q, 21, none⟩ = some (.slice (some ⟨g2, 0, none⟩) L.length c2) := by
 obtain ⟨V, h1, h2, h3, h4⟩ := h.ex
 refine ⟨fun i hi => ?_, ?_, ?_⟩
 ·rw [cellq_any h1, hArr_get _ (by omega), h2 i hi]
 ·rw [cellq_any h1, hArr_get _ (by omega), h3]
 ·rw [cellq_any h1, hArr_get _ (by omega), h4]
set_option linter.unusedSimpArgs false in
set_option maxRecDepth 100000 in
set_option maxHeartbeats 8000000 in
theorem gintactM (q g1 k1_ g2 k2_ : Nat) (L M : List TV) (w : World) (hG : GvT q g1 k1_ g2 k2_ L M w) (hz : L.length <= 1000000) : Calls Tryz.prog 23 #[.pointer (some ⟨q, 0, none⟩)] w fun e w' => e = .returned (.bool true) /\ Below w.heap.size w w' := by
 have HG : Hid (GvT q g1 k1_ g2 k2_ L M w /\ L.length <= 1000000) := ⟨hG, hz⟩
 have k0 := hG.cell.1 0 (by omega)
 have k2 := hG.cell.1 2 (by omega)
 have k4 := hG.cell.1 4 (by omega)
 have k6 := hG.cell.1 6 (by omega)
 have k8 := hG.cell.1 8 (by omega)
 have k10 := hG.cell.1 10 (by omega)
 have k12 := hG.cell.1 12 (by omega)
 have k14 := hG.cell.1 14 (by omega)
 have k16 := hG.cell.1 16 (by omega)
 have k18 := hG.cell.1 18 (by omega)
 clear hG hz
 go_enter Tryz.func23, Tryz.ntmps23
 go_wp2
 go_loop [3] (fun i => i = .int .i64 0) (fun _ => 0)
 case atStart => rfl
 case round =>
  subst hrel
  go_wp2
  go_loop [4] (fun i => i = .int .i64 0) (fun _ => 0)
  case atStart => rfl
  case round =>
   subst hrel
   go_wp2
   go_loop [5] (fun i => i = .int .i64 0) (fun _ => 0)
   case atStart => rfl
   case round =>
    subst hrel
    go_wp2
    go_loop [6] (fun i => i = .int .i64 0) (fun _ => 0)
    case atStart => rfl
    case round =>
     subst hrel
     go_wp2
     go_loop [7] (fun i => i = .int .i64 0) (fun _ => 0)
     case atStart => rfl
     case round =>
      subst hrel
      go_wp2
      go_loop [8] (fun i => i = .int .i64 0) (fun _ => 0)
      case atStart => rfl
      case round =>
       subst hrel
       go_wp2
       go_loop [9] (fun i => i = .int .i64 0) (fun _ => 0)
       case atStart => rfl
       case round =>
        subst hrel
        go_wp2
        go_loop [10] (fun i => i = .int .i64 0) (fun _ => 0)
        case atStart => rfl
        case round =>
         subst hrel
         go_wp2
         go_loop [11] (fun i => i = .int .i64 0) (fun _ => 0)
         case atStart => rfl
         case round =>
          subst hrel
          go_wp2
          go_loop [12] (fun i => i = .int .i64 0) (fun _ => 0)
          case atStart => rfl
          case round =>
           subst hrel
           go_wp2
           obtain ⟨wd, hwd⟩ : ∃ wd : World, wd = w.drew := ⟨_, rfl⟩
           have HD : Hid (GvT q g1 k1_ g2 k2_ L M wd /\ Below w.heap.size w wd) := by rw [hwd]; exact ⟨HG.out.1.later (Below.refl _ _).drew, (Below.refl _ _).drew⟩
           refine wp_region_x (S := fun _ => (fun w' => w'.cell? ⟨q, 20, none⟩ = some (.slice (some ⟨g1, 0, none⟩) L.length k1_) /\ w'.cell? ⟨q, 21, none⟩ = some (.slice (some ⟨g2, 0, none⟩) L.length k2_))) (by kernel_rfl) ?_
           rw [<- hwd]
           clear hwd
           refine wpAnyX_takeSM (i := 0) (v := ?_) rfl (by kernel_rfl) (by decide +kernel) (by decide +kernel) (fun _ _ _ h => h) (Or.inl ⟨by rfl, ?_⟩) (HD.out.1.cell.2) ?_
           rotate_left
           ·(intro w hSw; have z0 := hSw.1; have z1 := hSw.2; clear hSw; go_simp; try (with_reducible rfl))
           (try simp only [Act.put, List.setIfInBounds_toArray, List.set_cons_zero, List.set_cons_succ])
           refine wpAnyX_takeSM (i := 1) (v := ?_) rfl (by kernel_rfl) (by decide +kernel) (by decide +kernel) (fun _ _ _ h => h) (Or.inl ⟨by rfl, ?_⟩) (HD.out.1.cell.2) ?_
           rotate_left
           ·(intro w hSw; have z0 := hSw.1; have z1 := hSw.2; clear hSw; go_simp; try (with_reducible rfl))
           (try simp only [Act.put, List.setIfInBounds_toArray, List.set_cons_zero, List.set_cons_succ])
           refine wpAnyX_takeSM (i := 2) (v := ?_) rfl (by kernel_rfl) (by decide +kernel) (by decide +kernel) (fun _ _ _ h => h) (Or.inl ⟨by rfl, ?_⟩) (HD.out.1.cell.2) ?_
           rotate_left
           ·(intro w hSw; have z0 := hSw.1; have z1 := hSw.2; clear hSw; go_simp; try (with_reducible rfl))
           (try simp only [Act.put, List.setIfInBounds_toArray, List.set_cons_zero, List.set_cons_succ])
           refine wpAnyX_takeSM (i := 3) (v := ?_) rfl (by kernel_rfl) (by decide +kernel) (by decide +kernel) (fun _ _ _ h => h) (Or.inl ⟨by rfl, ?_⟩) (HD.out.1.cell.2) ?_
           rotate_left
           ·(intro w hSw; have z0 := hSw.1; have z1 := hSw.2; clear hSw; go_simp; try (with_reducible rfl))
           (try simp only [Act.put, List.setIfInBounds_toArray, List.set_cons_zero, List.set_cons_succ])
           refine wpAnyX_takeSM (i := 4) (v := ?_) rfl (by kernel_rfl) (by decide +kernel) (by decide +kernel) (fun _ _ _ h => h) (Or.inl ⟨by rfl, ?_⟩) (HD.out.1.cell.2) ?_
           rotate_left
           ·(intro w hSw; have z0 := hSw.1; have z1 := hSw.2; clear hSw; go_simp; try (with_reducible rfl))
           (try simp only [Act.put, List.setIfInBounds_toArray, List.set_cons_zero, List.set_cons_succ])
           refine wpAnyX_takeSM (i := 5) (v := ?_) rfl (by kernel_rfl) (by decide +kernel) (by decide +kernel) (fun _ _ _ h => h) (Or.inl ⟨by rfl, ?_⟩) (HD.out.1.cell.2) ?_
           rotate_left
           ·(intro w hSw; have z0 := hSw.1; have z1 := hSw.2; clear hSw; go_simp; try (with_reducible rfl))
           (try simp only [Act.put, List.setIfInBounds_toArray, List.set_cons_zero, List.set_cons_succ])
           refine wpAnyX_takeSM (i := 6) (v := ?_) rfl (by kernel_rfl) (by decide +kernel) (by decide +kernel) (fun _ _ _ h => h) (Or.inl ⟨by rfl, ?_⟩) (HD.out.1.cell.2) ?_
           rotate_left
           ·(intro w hSw; have z0 := hSw.1; have z1 := hSw.2; clear hSw; go_simp; try (with_reducible rfl))
           (try simp only [Act.put, List.setIfInBounds_toArray, List.set_cons_zero, List.set_cons_succ])
           refine wpAnyX_takeSM (i := 7) (v := ?_) rfl (by kernel_rfl) (by decide +kernel) (by decide +kernel) (fun _ _ _ h => h) (Or.inl ⟨by rfl, ?_⟩) (HD.out.1.cell.2) ?_
           rotate_left
           ·(intro w hSw; have z0 := hSw.1; have z1 := hSw.2; clear hSw; go_simp; try (with_reducible rfl))
           (try simp only [Act.put, List.setIfInBounds_toArray, List.set_cons_zero, List.set_cons_succ])
           refine wpAnyX_one (j := 8) (by decide +kernel) rfl (fun K' hK => ?_)
           refine step_callX rfl 60 #[.slice (some ⟨g1, 0, none⟩) L.length k1_, .slice (some ⟨g2, 0, none⟩) L.length k2_] _ (run_samesM (v0 := .slice (some ⟨g1, 0, none⟩) L.length k1_) (v1 := .slice (some ⟨g2, 0, none⟩) L.length k2_) rfl rfl rfl _) (sametrees_W g1 k1_ g2 k2_ L.length L M wd HD.out.1.t1 HD.out.1.t2 rfl HG.out.2 HD.out.1.a1 HD.out.1.a2 HD.out.1.sm) ?_
           rintro e w8 ⟨rfl, b8⟩
           refine ⟨_, rfl, ?_⟩
           have B8 : Hid (Below w.heap.size w w8) := HD.out.2.trans (b8.mono HD.out.2.size)
           have C8 : Hid (w8.cell? ⟨q, 20, none⟩ = some (.slice (some ⟨g1, 0, none⟩) L.length k1_) /\ w8.cell? ⟨q, 21, none⟩ = some (.slice (some ⟨g2, 0, none⟩) L.length k2_)) := (HD.out.1.later b8).cell.2
           refine hK.out _ _ C8.out ?_
           clear hK K' b8
           (try simp only [Act.put, List.setIfInBounds_toArray, List.set_cons_zero, List.set_cons_succ])
           refine wpAnyX_one (j := 9) (by decide +kernel) rfl (fun K' hK => ?_)
           go_simp
           refine hK.out _ _ C8.out ?_
           clear hK K'
           (try simp only [Act.put, List.setIfInBounds_toArray, List.set_cons_zero, List.set_cons_succ])
           refine wpAnyX_done (by decide +kernel) ?_
           go_wp2
           go_ret
           exact ⟨rfl, B8.out⟩
end Go.Proofs.YteciabdjkaackaaGreat
