import Derived.Test.YtfgdpmcpjpceoaaPFRoundToFChk6
namespace Go.Proofs.Ytfgdpmcpjpceoaa
set_option linter.unusedVariables false
set_option maxRecDepth 100000
set_option maxHeartbeats 16000000
open Go.RowKit
section
variable {P : Program} {ops : Array Oper} {Q : Exit -> Act -> World -> Prop} {md : Region.Mode} {S : Array Bool -> World -> Prop}
theorem wpAnyX_pick {l : List Nat} {fuel : Nat} {listed : Array Bool} {a : Act} {w : World} (hr : Region.ready md ops listed = l) (hne : l ≠ [])
  (h : ∀ j ∈ l, ∃ o, ops.toList[j]? = some o /\ ∀ K' : Act -> World -> Prop, Shut (∀ a' w', S (listed.setIfInBounds j true) w' -> wpAnyX P md ops Q S fuel (listed.setIfInBounds j true) a' w' -> K' a' w') -> if Region.wanted o (yielded ops a.tmps) = true then Oper.wp P o a w K' Q else K' (a.put o.dst undef) w) :
  wpAnyX P md ops Q S (fuel + 1) listed a w := by
 refine ⟨fun h0 => absurd (hr.symm.trans h0) hne, fun i hi => ?_⟩
 rw [hr] at hi
 obtain ⟨o, ho', h⟩ := h i hi
 have ho : ops[i]? = some o := by rw [<- Array.getElem?_toList]; exact ho'
 exact wpOp_step ho (fun K' hK => h K' (fun a' w' hS hW => hK a' w' ⟨hS, hW⟩))
def Lays (P : Program) (ops : Array Oper) (Q : Exit -> Act -> World -> Prop) (o : Oper) (I : World -> Prop) (At : Act -> Prop) (T : Nat -> World -> Prop) (f : Nat -> Value) : Prop :=
 ∀ (a : Act) (w : World) (K : Act -> World -> Prop), At a -> I w -> (∀ b w', Below w.heap.size w w' -> w.heap.size <= b -> T b w' -> K (a.put o.dst (f b)) w') -> if Region.wanted o (yielded ops a.tmps) = true then Oper.wp P o a w K Q else K (a.put o.dst undef) w
theorem put_comm (a : Act) {d e : Nat} (h : d ≠ e) (u v : Value) : (a.put (some d) u).put (some e) v = (a.put (some e) v).put (some d) u := by
 simp only [Act.put, Act.mk.injEq, and_true]
 exact Array.setIfInBounds_comm _ _ h
theorem set_comm (L : Array Bool) (i j : Nat) : (L.setIfInBounds i true).setIfInBounds j true = (L.setIfInBounds j true).setIfInBounds i true := by
 by_cases h : i = j
 ·rw [h]
 ·exact Array.setIfInBounds_comm _ _ h
def Goes (T : Nat -> World -> Prop) : Prop := ∀ b w, T b w -> b < w.heap.size /\ ∀ w', Below w.heap.size w w' -> T b w'
theorem wpAnyX_three4 {o1 o2 o3 o4 : Oper} {d1 d2 d3 d4 : Nat} {L : Array Bool} {a : Act} {w : World} {fuel : Nat} (j1 j2 j3 j4 : Nat) (h1 : ops.toList[j1]? = some o1) (h2 : ops.toList[j2]? = some o2) (h3 : ops.toList[j3]? = some o3) (h4 : ops.toList[j4]? = some o4)
  (e1 : o1.dst = some d1) (e2 : o2.dst = some d2) (e3 : o3.dst = some d3) (e4 : o4.dst = some d4) (hd : d1 ≠ d2 /\ d1 ≠ d3 /\ d2 ≠ d3 /\ d3 ≠ d4)
  (r : Region.ready md ops L = [j1, j2, j3]) (r1 : Region.ready md ops (L.setIfInBounds j1 true) = [j2, j3]) (r2 : Region.ready md ops (L.setIfInBounds j2 true) = [j1, j3]) (r3 : Region.ready md ops (L.setIfInBounds j3 true) = [j1, j2])
  (r12 : Region.ready md ops ((L.setIfInBounds j1 true).setIfInBounds j2 true) = [j4, j3]) (r13 : Region.ready md ops ((L.setIfInBounds j1 true).setIfInBounds j3 true) = [j2]) (r23 : Region.ready md ops ((L.setIfInBounds j2 true).setIfInBounds j3 true) = [j1])
  (r123 : Region.ready md ops (((L.setIfInBounds j1 true).setIfInBounds j2 true).setIfInBounds j3 true) = [j4]) (r124 : Region.ready md ops (((L.setIfInBounds j1 true).setIfInBounds j2 true).setIfInBounds j4 true) = [j3])
  {I : World -> Prop} (hI : ∀ w' w'', I w' -> Below w'.heap.size w' w'' -> I w'') (hS : ∀ w' L', I w' -> S L' w')
  {T1 T2 T3 : Nat -> World -> Prop} {f1 f2 f3 : Nat -> Value} {f4 : Nat -> Nat -> Value} (t1 : Goes T1) (t2 : Goes T2) (t3 : Goes T3)
  {At : Act -> Prop} (hAt : At a) (a1 : ∀ a v, At a -> At (a.put (some d1) v)) (a2 : ∀ a v, At a -> At (a.put (some d2) v)) (a3 : ∀ a v, At a -> At (a.put (some d3) v)) (a4 : ∀ a v, At a -> At (a.put (some d4) v))
  (s1 : Lays P ops Q o1 I At T1 f1) (s2 : Lays P ops Q o2 I At T2 f2) (s3 : Lays P ops Q o3 I At T3 f3)
  (s4 : ∀ (w : World) (K : Act -> World -> Prop) b1 b2, K (((a.put (some d1) (f1 b1)).put (some d2) (f2 b2)).put (some d4) (f4 b1 b2)) w -> if Region.wanted o4 (yielded ops ((a.put (some d1) (f1 b1)).put (some d2) (f2 b2)).tmps) = true then Oper.wp P o4 ((a.put (some d1) (f1 b1)).put (some d2) (f2 b2)) w K Q else K (((a.put (some d1) (f1 b1)).put (some d2) (f2 b2)).put o4.dst undef) w)
  (s5 : ∀ (w : World) (K : Act -> World -> Prop) b1 b2 b3, K ((((a.put (some d1) (f1 b1)).put (some d2) (f2 b2)).put (some d3) (f3 b3)).put (some d4) (f4 b1 b2)) w -> if Region.wanted o4 (yielded ops (((a.put (some d1) (f1 b1)).put (some d2) (f2 b2)).put (some d3) (f3 b3)).tmps) = true then Oper.wp P o4 (((a.put (some d1) (f1 b1)).put (some d2) (f2 b2)).put (some d3) (f3 b3)) w K Q else K ((((a.put (some d1) (f1 b1)).put (some d2) (f2 b2)).put (some d3) (f3 b3)).put o4.dst undef) w) (hw : I w)
  (h : ∀ b1 b2 b3 w', I w' -> Below w.heap.size w w' -> w.heap.size <= b1 /\ w.heap.size <= b2 /\ w.heap.size <= b3 -> b1 ≠ b2 /\ b1 ≠ b3 /\ b2 ≠ b3 -> T1 b1 w' -> T2 b2 w' -> T3 b3 w' -> wpAnyX P md ops Q S fuel ((((L.setIfInBounds j1 true).setIfInBounds j2 true).setIfInBounds j3 true).setIfInBounds j4 true) ((((a.put (some d1) (f1 b1)).put (some d2) (f2 b2)).put (some d3) (f3 b3)).put (some d4) (f4 b1 b2)) w') :
  wpAnyX P md ops Q S (fuel + 1 + 1 + 1 + 1) L a w := by
 have r31 : Region.ready md ops ((L.setIfInBounds j3 true).setIfInBounds j1 true) = [j2] := by rw [set_comm]; exact r13
 have r32 : Region.ready md ops ((L.setIfInBounds j3 true).setIfInBounds j2 true) = [j1] := by rw [set_comm]; exact r23
 have one : ∀ {j : Nat} {o : Oper} {d : Nat} {T : Nat -> World -> Prop} {f : Nat -> Value} {L' : Array Bool} {a' : Act} {v : World} {n : Nat}, ops.toList[j]? = some o -> o.dst = some d -> Lays P ops Q o I At T f -> At a' -> I v ->
   (∀ b w', I w' -> Below v.heap.size v w' -> v.heap.size <= b -> T b w' -> wpAnyX P md ops Q S n (L'.setIfInBounds j true) (a'.put (some d) (f b)) w') ->
   ∃ o, ops.toList[j]? = some o /\ ∀ K' : Act -> World -> Prop, Shut (∀ a'' w', S (L'.setIfInBounds j true) w' -> wpAnyX P md ops Q S n (L'.setIfInBounds j true) a'' w' -> K' a'' w') -> if Region.wanted o (yielded ops a'.tmps) = true then Oper.wp P o a' v K' Q else K' (a'.put o.dst undef) v :=
  fun {j o d T f L' a' v n} ho hdst hs hat hi hc => ⟨o, ho, fun K' hK => hs a' v K' hat hi fun b w' hb hl ht => hK.out _ _ (hS _ _ (hI _ _ hi hb)) (by rw [hdst]; exact hc b w' (hI _ _ hi hb) hb hl ht)⟩
 have fin : ∀ b1 b2 b3 w', I w' -> wpAnyX P md ops Q S fuel ((((L.setIfInBounds j1 true).setIfInBounds j2 true).setIfInBounds j3 true).setIfInBounds j4 true) ((((a.put (some d1) (f1 b1)).put (some d2) (f2 b2)).put (some d3) (f3 b3)).put (some d4) (f4 b1 b2)) w' -> wpAnyX P md ops Q S (fuel + 1) (((L.setIfInBounds j1 true).setIfInBounds j2 true).setIfInBounds j3 true) (((a.put (some d1) (f1 b1)).put (some d2) (f2 b2)).put (some d3) (f3 b3)) w' :=
  fun b1 b2 b3 w' hi g => wpAnyX_pick r123 (by simp) (fun j hj => by
   simp only [List.mem_cons, List.not_mem_nil, or_false] at hj
   rw [hj]
   exact ⟨o4, h4, fun K' hK => s5 w' K' b1 b2 b3 (hK.out _ _ (hS _ _ hi) g)⟩)
 have mid : ∀ b1 b2 w', I w' -> Below w.heap.size w w' -> w.heap.size <= b1 /\ w.heap.size <= b2 -> b1 ≠ b2 -> T1 b1 w' -> T2 b2 w' -> wpAnyX P md ops Q S (fuel + 1 + 1) ((L.setIfInBounds j1 true).setIfInBounds j2 true) ((a.put (some d1) (f1 b1)).put (some d2) (f2 b2)) w' := by
  intro b1 b2 w2 i2 B2 l2 n2 q1 q2
  have k1 := (t1 _ _ q1).1
  have k2 := (t2 _ _ q2).1
  have z2 := B2.size
  refine wpAnyX_pick r12 (by simp) (fun j hj => ?_)
  simp only [List.mem_cons, List.not_mem_nil, or_false] at hj
  rcases hj with hj | hj <;> rw [hj]
  ·refine ⟨o4, h4, fun K' hK => s4 w2 K' b1 b2 (hK.out _ _ (hS _ _ i2) ?_)⟩
   refine wpAnyX_pick r124 (by simp) (fun j hj => ?_)
   simp only [List.mem_cons, List.not_mem_nil, or_false] at hj
   rw [hj]
   refine one h3 e3 s3 (a4 _ _ (a2 _ _ (a1 _ _ hAt))) i2 (fun b3 w3 i3 B3 l3 q3 => ?_)
   have g := h b1 b2 b3 w3 i3 (B2.trans (B3.mono z2)) (by omega) (by omega) ((t1 _ _ q1).2 _ B3) ((t2 _ _ q2).2 _ B3) q3
   rw [set_comm _ j4 j3, put_comm _ (Ne.symm hd.2.2.2) (f4 b1 b2) (f3 b3)]
   exact g
  ·refine one h3 e3 s3 (a2 _ _ (a1 _ _ hAt)) i2 (fun b3 w3 i3 B3 l3 q3 => ?_)
   exact fin b1 b2 b3 w3 i3 (h b1 b2 b3 w3 i3 (B2.trans (B3.mono z2)) (by omega) (by omega) ((t1 _ _ q1).2 _ B3) ((t2 _ _ q2).2 _ B3) q3)
 refine wpAnyX_pick r (by simp) (fun j hj => ?_)
 simp only [List.mem_cons, List.not_mem_nil, or_false] at hj
 rcases hj with hj | hj | hj <;> rw [hj]
 ·refine one h1 e1 s1 hAt hw (fun b1 w1 i1 B1 l1 q1 => ?_)
  refine wpAnyX_pick r1 (by simp) (fun j hj => ?_)
  simp only [List.mem_cons, List.not_mem_nil, or_false] at hj
  rcases hj with hj | hj <;> rw [hj]
  ·refine one h2 e2 s2 (a1 _ _ hAt) i1 (fun b2 w2 i2 B2 l2 q2 => ?_)
   have k1 := (t1 _ _ q1).1
   have k2 := (t2 _ _ q2).1
   have z1 := B1.size
   have z2 := B2.size
   have g := mid b1 b2 w2 i2 (B1.trans (B2.mono z1)) (by omega) (by omega) ((t1 _ _ q1).2 _ B2) q2
   exact g
  ·refine one h3 e3 s3 (a1 _ _ hAt) i1 (fun b3 w2 i2 B2 l3 q3 => ?_)
   have k1 := (t1 _ _ q1).1
   have k3 := (t3 _ _ q3).1
   have z1 := B1.size
   have z2 := B2.size
   refine wpAnyX_pick r13 (by simp) (fun j hj => ?_)
   simp only [List.mem_cons, List.not_mem_nil, or_false] at hj
   rw [hj]
   refine one h2 e2 s2 (a3 _ _ (a1 _ _ hAt)) i2 (fun b2 w3 i3 B3 l2 q2 => ?_)
   have g := fin b1 b2 b3 w3 i3 (h b1 b2 b3 w3 i3 ((B1.trans (B2.mono z1)).trans (B3.mono (Nat.le_trans z1 z2))) (by omega) (by omega) ((t1 _ _ ((t1 _ _ q1).2 _ B2)).2 _ B3) q2 ((t3 _ _ q3).2 _ B3))
   rw [set_comm _ j3 j2, put_comm _ (Ne.symm hd.2.2.1) (f3 b3) (f2 b2)]
   exact g
 ·refine one h2 e2 s2 hAt hw (fun b2 w1 i1 B1 l2 q2 => ?_)
  refine wpAnyX_pick r2 (by simp) (fun j hj => ?_)
  simp only [List.mem_cons, List.not_mem_nil, or_false] at hj
  rcases hj with hj | hj <;> rw [hj]
  ·refine one h1 e1 s1 (a2 _ _ hAt) i1 (fun b1 w2 i2 B2 l1 q1 => ?_)
   have k2 := (t2 _ _ q2).1
   have k1 := (t1 _ _ q1).1
   have z1 := B1.size
   have z2 := B2.size
   have g := mid b1 b2 w2 i2 (B1.trans (B2.mono z1)) (by omega) (by omega) q1 ((t2 _ _ q2).2 _ B2)
   rw [set_comm _ j2 j1, put_comm _ (Ne.symm hd.1) (f2 b2) (f1 b1)]
   exact g
  ·refine one h3 e3 s3 (a2 _ _ hAt) i1 (fun b3 w2 i2 B2 l3 q3 => ?_)
   have k2 := (t2 _ _ q2).1
   have k3 := (t3 _ _ q3).1
   have z1 := B1.size
   have z2 := B2.size
   refine wpAnyX_pick r23 (by simp) (fun j hj => ?_)
   simp only [List.mem_cons, List.not_mem_nil, or_false] at hj
   rw [hj]
   refine one h1 e1 s1 (a3 _ _ (a2 _ _ hAt)) i2 (fun b1 w3 i3 B3 l1 q1 => ?_)
   have g := fin b1 b2 b3 w3 i3 (h b1 b2 b3 w3 i3 ((B1.trans (B2.mono z1)).trans (B3.mono (Nat.le_trans z1 z2))) (by omega) (by omega) q1 ((t2 _ _ ((t2 _ _ q2).2 _ B2)).2 _ B3) ((t3 _ _ q3).2 _ B3))
   rw [set_comm _ j3 j1, put_comm _ (Ne.symm hd.2.1) (f3 b3) (f1 b1)]
   rw [set_comm _ j2 j1, put_comm _ (Ne.symm hd.1) (f2 b2) (f1 b1)]
   exact g
 ·refine one h3 e3 s3 hAt hw (fun b3 w1 i1 B1 l3 q3 => ?_)
  refine wpAnyX_pick r3 (by simp) (fun j hj => ?_)
  simp only [List.mem_cons, List.not_mem_nil, or_false] at hj
  rcases hj with hj | hj <;> rw [hj]
  ·refine one h1 e1 s1 (a3 _ _ hAt) i1 (fun b1 w2 i2 B2 l1 q1 => ?_)
   have k3 := (t3 _ _ q3).1
   have k1 := (t1 _ _ q1).1
   have z1 := B1.size
   have z2 := B2.size
   refine wpAnyX_pick r31 (by simp) (fun j hj => ?_)
   simp only [List.mem_cons, List.not_mem_nil, or_false] at hj
   rw [hj]
   refine one h2 e2 s2 (a1 _ _ (a3 _ _ hAt)) i2 (fun b2 w3 i3 B3 l2 q2 => ?_)
   have g := fin b1 b2 b3 w3 i3 (h b1 b2 b3 w3 i3 ((B1.trans (B2.mono z1)).trans (B3.mono (Nat.le_trans z1 z2))) (by omega) (by omega) ((t1 _ _ q1).2 _ B3) q2 ((t3 _ _ ((t3 _ _ q3).2 _ B2)).2 _ B3))
   rw [set_comm _ j3 j1, put_comm _ (Ne.symm hd.2.1) (f3 b3) (f1 b1)]
   rw [set_comm _ j3 j2, put_comm _ (Ne.symm hd.2.2.1) (f3 b3) (f2 b2)]
   exact g
  ·refine one h2 e2 s2 (a3 _ _ hAt) i1 (fun b2 w2 i2 B2 l2 q2 => ?_)
   have k3 := (t3 _ _ q3).1
   have k2 := (t2 _ _ q2).1
   have z1 := B1.size
   have z2 := B2.size
   refine wpAnyX_pick r32 (by simp) (fun j hj => ?_)
   simp only [List.mem_cons, List.not_mem_nil, or_false] at hj
   rw [hj]
   refine one h1 e1 s1 (a2 _ _ (a3 _ _ hAt)) i2 (fun b1 w3 i3 B3 l1 q1 => ?_)
   have g := fin b1 b2 b3 w3 i3 (h b1 b2 b3 w3 i3 ((B1.trans (B2.mono z1)).trans (B3.mono (Nat.le_trans z1 z2))) (by omega) (by omega) q1 ((t2 _ _ q2).2 _ B3) ((t3 _ _ ((t3 _ _ q3).2 _ B2)).2 _ B3))
   rw [set_comm _ j3 j2, put_comm _ (Ne.symm hd.2.2.1) (f3 b3) (f2 b2)]
   rw [set_comm _ j3 j1, put_comm _ (Ne.symm hd.2.1) (f3 b3) (f1 b1)]
   rw [set_comm _ j2 j1, put_comm _ (Ne.symm hd.1) (f2 b2) (f1 b1)]
   exact g
end
theorem run_null1 {o : Oper} {a : Act} {t0 : TypeId} {v0 : Value} {x0 : Operand} (hop : o.op = Op.call { callee := Callee.value (Operand.func 20), args := #[x0], argTypes := #[t0] }) (h0 : a.eval x0 = v0) (w : World) : (execOp a.eval o).run Try.prog w = .ok (.enter 20 #[v0]) w := by
 have hf : a.eval (Operand.func 20) = .func (.func 20) #[] #[] := rfl
 simp [execOp, hop, resolve, invoke, h0, hf, Deferred.ofValue]
theorem least_S (g : GV) (w : World) (h : FG w g) :
  Calls Try.prog 22 #[g.val] w fun e w' => ∃ nb fb k, e = .returned (.agg #[.slice (some ⟨nb, 0, none⟩) g.ns.length g.ns.length, .slice (some ⟨fb, 0, none⟩) g.ns.length g.ns.length]) /\ BB w' nb (nullU g.ps g.ns.length) /\ SBk w' fb (iterS (nullU g.ps g.ns.length) g.ps (List.replicate g.ns.length (0, 0)) k) /\ roundS (nullU g.ps g.ns.length) g.ps (iterS (nullU g.ps g.ns.length) g.ps (List.replicate g.ns.length (0, 0)) k) = iterS (nullU g.ps g.ns.length) g.ps (List.replicate g.ns.length (0, 0)) k /\ (∀ i, OkS ((iterS (nullU g.ps g.ns.length) g.ps (List.replicate g.ns.length (0, 0)) k).getD i (0, 0))) /\ (iterS (nullU g.ps g.ns.length) g.ps (List.replicate g.ns.length (0, 0)) k).length = g.ns.length /\ w.heap.size <= nb /\ w.heap.size <= fb /\ Below w.heap.size w w' := by
 have HG : Hid (∀ w', Below w.heap.size w w' -> FG w' g) := fun w' hb => h.later hb
 have HMK : Hid (∀ w : World, (Instr.makeSlice 65 (.int .i64 (g.ns.length : Int)) (.int .i64 (g.ns.length : Int))).run Try.prog w = .ok (.slice (some ⟨w.heap.size, 0, none⟩) g.ns.length g.ns.length) (w.alloc (.cells (madeCells #[.int .u64 0, .int .u64 0] (g.ns.length * 2)) 86))) := make_setF g.ns.length (by have := h.nl; omega)
 have HN : Hid ((nullU g.ps g.ns.length).length = g.ns.length) := nullU_len _ _
 obtain ⟨W0, hW0⟩ : ∃ W0 : World, W0 = ((w.alloc (.cells #[.slice g.ta g.ts.length g.tc, .slice g.na g.ns.length g.nc, .int .i64 g.start, .slice g.pa g.ps.length g.pc, .slice g.la g.ls.length g.lc] 26)).alloc (.cells #[.slice none 0 0, .slice none 0 0] 67)) := ⟨_, rfl⟩
 have X0 : Hid (W0.heap[w.heap.size]? = some (gBox g) /\ W0.heap[w.heap.size + 1]? = some (.cells #[.slice none 0 0, .slice none 0 0] 67) /\ Below w.heap.size w W0 /\ W0.heap.size = w.heap.size + 1 + 1) := by
  rw [hW0]
  exact ⟨(alN (by simp)).trans (heap_alloc_new _ _), alE (alZ _ _).symm, (below_alloc w _).trans ((below_alloc _ _).mono (below_alloc w _).size), by rw [alZ, alZ]⟩
 have hnl := h.nl
 have KS0 : Hid (∀ w' : World, w'.heap[w.heap.size]? = some (gBox g) -> (fun w' : World => w'.cell? ⟨w.heap.size, 0, none⟩ = some (.slice g.ta g.ts.length g.tc) /\ w'.cell? ⟨w.heap.size, 1, none⟩ = some (.slice g.na g.ns.length g.nc) /\ w'.cell? ⟨w.heap.size, 2, none⟩ = some (.int .i64 g.start) /\ w'.cell? ⟨w.heap.size, 3, none⟩ = some (.slice g.pa g.ps.length g.pc) /\ w'.cell? ⟨w.heap.size, 4, none⟩ = some (.slice g.la g.ls.length g.lc)) w') := fun w' h => gb_cells h
 clear h
 go_enter Try.func22, Try.ntmps22
 go_wp2
 rw [<- hW0]
 clear hW0
 have hs : Hid ((fun w' : World => w'.cell? ⟨w.heap.size, 0, none⟩ = some (.slice g.ta g.ts.length g.tc) /\ w'.cell? ⟨w.heap.size, 1, none⟩ = some (.slice g.na g.ns.length g.nc) /\ w'.cell? ⟨w.heap.size, 2, none⟩ = some (.int .i64 g.start) /\ w'.cell? ⟨w.heap.size, 3, none⟩ = some (.slice g.pa g.ps.length g.pc) /\ w'.cell? ⟨w.heap.size, 4, none⟩ = some (.slice g.la g.ls.length g.lc)) W0.drew) := KS0.out _ X0.out.1
 refine wp_region_x (S := SX 8 (fun w' : World => w'.cell? ⟨w.heap.size, 0, none⟩ = some (.slice g.ta g.ts.length g.tc) /\ w'.cell? ⟨w.heap.size, 1, none⟩ = some (.slice g.na g.ns.length g.nc) /\ w'.cell? ⟨w.heap.size, 2, none⟩ = some (.int .i64 g.start) /\ w'.cell? ⟨w.heap.size, 3, none⟩ = some (.slice g.pa g.ps.length g.pc) /\ w'.cell? ⟨w.heap.size, 4, none⟩ = some (.slice g.la g.ls.length g.lc)) (fun _ : World => True)) (by kernel_rfl) ?_
 refine wtT (m := 8) (i := 0) (v := ?_) rfl (Or.inl ⟨by rfl, ?_⟩) (SX.both hs.out trivial) ?_
 rotate_left
 ·(intro w hSw; (try dsimp only at hSw); go_simp; try (with_reducible rfl))
 (try simp only [Act.put, lsA, lsZ, lsN])
 refine wtT (m := 8) (i := 2) (v := ?_) rfl (Or.inl ⟨by rfl, ?_⟩) (SX.both hs.out trivial) ?_
 rotate_left
 ·(intro w hSw; (try dsimp only at hSw); go_simp; try (with_reducible rfl))
 (try simp only [Act.put, lsA, lsZ, lsN])
 refine wtT (m := 8) (i := 3) (v := ?_) rfl (Or.inl ⟨by rfl, ?_⟩) (SX.both hs.out trivial) ?_
 rotate_left
 ·(intro w hSw; (try dsimp only at hSw); go_simp; try (with_reducible rfl))
 (try simp only [Act.put, lsA, lsZ, lsN])
 refine wtT (m := 8) (i := 4) (v := ?_) rfl (Or.inl ⟨by rfl, ?_⟩) (SX.both hs.out trivial) ?_
 rotate_left
 ·(intro w hSw; (try dsimp only at hSw); go_simp; try (with_reducible rfl))
 (try simp only [Act.put, lsA, lsZ, lsN])
 refine wpAnyX_three4 1 5 7 6 rfl rfl rfl rfl rfl rfl rfl rfl (by decide) (by decide +kernel) (by decide +kernel) (by decide +kernel) (by decide +kernel) (by decide +kernel) (by decide +kernel) (by decide +kernel) (by decide +kernel) (by decide +kernel) (I := (fun w' : World => w'.heap[w.heap.size]? = some (gBox g) /\ w'.heap[w.heap.size + 1]? = some (.cells #[.slice none 0 0, .slice none 0 0] 67) /\ Below W0.heap.size W0 w')) ?hI ?hS (T1 := fun b w' => BB w' b (nullU g.ps g.ns.length)) (T2 := fun b w' => SBk w' b (List.replicate g.ns.length (0, 0))) (T3 := fun b w' => w'.heap[b]? = some (.cells #[.slice none 0 0, .slice none 0 0] 67)) (f1 := fun b => .slice (some ⟨b, 0, none⟩) g.ns.length g.ns.length) (f2 := fun b => .slice (some ⟨b, 0, none⟩) g.ns.length g.ns.length) (f3 := fun b => .pointer (some ⟨b, 0, none⟩)) (f4 := fun b c => .agg #[.slice (some ⟨b, 0, none⟩) g.ns.length g.ns.length, .slice (some ⟨c, 0, none⟩) g.ns.length g.ns.length]) ?t1 ?t2 ?t3 (At := (fun a : Act => ∃ v3 v5 v9 v10 : Value, a = { tmps := #[g.val, .pointer (some ⟨w.heap.size, 0, none⟩), .pointer (some ⟨w.heap.size + 1, 0, none⟩), v3, g.val, v5, .pointer (some ⟨w.heap.size, 1, none⟩), .slice g.na g.ns.length g.nc, .int .i64 g.ns.length, v9, v10, undef, undef, undef, undef, undef], defers := [] })) ?at0 ?a1 ?a2 ?a3 ?a4 ?s1 ?s2 ?s3 ?s4 ?s5 ?hw ?go
 case hI => exact fun w' w'' hi hb => ⟨(hb.block _ (lt_of_block hi.1)).trans hi.1, (hb.block _ (lt_of_block hi.2.1)).trans hi.2.1, hi.2.2.trans (hb.mono hi.2.2.size)⟩
 case hS => exact fun w' L' hi => SX.both (KS0.out _ hi.1) trivial
 case t1 => exact fun b w' hb => ⟨hb.lt, fun w'' q => hb.later q⟩
 case t2 => exact fun b w' hb => ⟨hb.lt, fun w'' q => hb.later q⟩
 case t3 => exact fun b w' hb => ⟨lt_of_block hb, fun w'' q => (q.block _ (lt_of_block hb)).trans hb⟩
 case at0 => exact ⟨undef, undef, undef, undef, rfl⟩
 case a1 => rintro a v ⟨v3, v5, v9, v10, rfl⟩; exact ⟨v3, v, v9, v10, rfl⟩
 case a2 => rintro a v ⟨v3, v5, v9, v10, rfl⟩; exact ⟨v3, v5, v, v10, rfl⟩
 case a3 => rintro a v ⟨v3, v5, v9, v10, rfl⟩; exact ⟨v, v5, v9, v10, rfl⟩
 case a4 => rintro a v ⟨v3, v5, v9, v10, rfl⟩; exact ⟨v3, v5, v9, v, rfl⟩
 case s1 =>
  rintro a w1 K ⟨v3, v5, v9, v10, rfl⟩ hi hk
  refine step_callX rfl 20 #[g.val] _ (run_null1 (v0 := g.val) rfl rfl _) (nullables_S g w1 (HG.out _ (X0.out.2.2.1.trans (hi.2.2.mono X0.out.2.2.1.size)))) ?_
  rintro e w' ⟨nb, rfl, q1, q2, q3⟩
  exact ⟨_, rfl, hk nb w' q3 q2 q1⟩
 case s2 =>
  rintro a w1 K ⟨v3, v5, v9, v10, rfl⟩ hi hk
  have hmk := HMK.out
  go_simp
  exact hk w1.heap.size _ (below_alloc _ _) (Nat.le_refl _) (SBk.made w1 _)
 case s3 =>
  rintro a w1 K ⟨v3, v5, v9, v10, rfl⟩ hi hk
  go_simp
  exact hk w1.heap.size _ (below_alloc _ _) (Nat.le_refl _) (heap_alloc_new _ _)
 case s4 =>
  intro w1 K b1 b2 hk
  (try simp only [Act.put, lsA, lsZ, lsN] at hk ⊢)
  go_simp
  exact hk
 case s5 =>
  intro w1 K b1 b2 b3 hk
  (try simp only [Act.put, lsA, lsZ, lsN] at hk ⊢)
  go_simp
  exact hk
 case hw => exact ⟨X0.out.1, X0.out.2.1, (Below.refl _ _).drew⟩
 case go =>
  intro nb fb cb w1 hi hB hl hne q1 q2 q3
  rw [show W0.drew.heap.size = W0.heap.size from rfl] at hl
  have c0 : w1.cell? ⟨cb, 0, none⟩ = some (.slice none 0 0) := (cellq_any q3).trans rfl
  have c1 : w1.cell? ⟨cb, 1, none⟩ = some (.slice none 0 0) := (cellq_any q3).trans rfl
  have f0 := frostS q3 0
  have f1 := frostS q3 1
  have hz := lt_of_block q3
  have off : ∀ j, j ≠ cb -> ((w1.setCell ⟨cb, 0, none⟩ (.slice (some ⟨nb, 0, none⟩) g.ns.length g.ns.length)).setCell ⟨cb, 1, none⟩ (.slice (some ⟨fb, 0, none⟩) g.ns.length g.ns.length)).heap[j]? = w1.heap[j]? := fun j hj => by rw [Below.heap_setCell _ _ _ _ hj, Below.heap_setCell _ _ _ _ hj]
  have hx := X0.out.2.2.2
  have L4 : Hid (LWs g w.heap.size cb nb fb (nullU g.ps g.ns.length) (List.replicate g.ns.length (0, 0)) W0.heap.size W0 ((w1.setCell ⟨cb, 0, none⟩ (.slice (some ⟨nb, 0, none⟩) g.ns.length g.ns.length)).setCell ⟨cb, 1, none⟩ (.slice (some ⟨fb, 0, none⟩) g.ns.length g.ns.length))) := ⟨(off _ (by omega)).trans hi.1, by
    show _ = _
    rw [HN.out, heap_set (heap_set q3 0 _) 1 _]
    rfl, q1.kept (off _ hne.2.1), q2.kept (off _ hne.2.2), fun i => by
    have e : (List.replicate g.ns.length ((0, 0) : BS)).getD i (0, 0) = (0, 0) := by simp [List.getD, List.getElem?_replicate]; split <;> rfl
    rw [e]; exact OkS.zero, by simp [HN.out], (hi.2.2.setCell (p := ⟨cb, 0, none⟩) hl.2.2 _).setCell (p := ⟨cb, 1, none⟩) hl.2.2 _⟩
  have HD : Hid (fb ≠ w.heap.size /\ fb ≠ cb /\ fb ≠ nb /\ W0.heap.size <= fb) := ⟨by omega, hne.2.2, Ne.symm hne.1, hl.2.1⟩
  have HL : Hid (W0.heap.size <= nb /\ W0.heap.size <= fb /\ W0.heap.size <= cb) := hl
  (try simp only [Act.put, lsA, lsZ, lsN])
  refine wpAnyX_one (j := 8) (by decide +kernel) rfl (fun K' hK => ?_)
  clear hi hB q1 q2 q3 hl hne hx
  go_simp
  refine hK.out _ _ (SX.one (KS0.out _ L4.out.gbx) (by decide +kernel)) ?_
  clear hK K' off c0 c1 f0 f1 hz hs
  refine wpAnyX_done (by decide +kernel) ?_
  generalize ((w1.setCell ⟨cb, 0, none⟩ (.slice (some ⟨nb, 0, none⟩) g.ns.length g.ns.length)).setCell ⟨cb, 1, none⟩ (.slice (some ⟨fb, 0, none⟩) g.ns.length g.ns.length)) = w4 at *
  have CB : Hid (∀ w' F, LWs g w.heap.size cb nb fb (nullU g.ps g.ns.length) F W0.heap.size W0 w' -> w'.cell? ⟨cb, 0, none⟩ = some (.slice (some ⟨nb, 0, none⟩) g.ns.length g.ns.length) /\ w'.cell? ⟨cb, 1, none⟩ = some (.slice (some ⟨fb, 0, none⟩) g.ns.length g.ns.length) /\ w'.heap[w.heap.size + 1]? = some (.cells #[.slice none 0 0, .slice none 0 0] 67)) := fun w' F hL => by
   have hx := X0.out.2.2.2
   have e := hL.cbx
   rw [HN.out] at e
   exact ⟨(cellq_any e).trans rfl, (cellq_any e).trans rfl, (hL.bel.block _ (by omega)).trans X0.out.2.1⟩
  have SC : Hid (Calls Try.prog 43 #[.slice (some ⟨fb, 0, none⟩) g.ns.length g.ns.length, .func (.func 44) #[] #[.pointer (some ⟨w.heap.size, 0, none⟩), .pointer (some ⟨cb, 0, none⟩)]] w4 fun e w' => e = .returned (.tuple #[]) /\ ∃ k, LWs g w.heap.size cb nb fb (nullU g.ps g.ns.length) (iterS (nullU g.ps g.ns.length) g.ps (List.replicate g.ns.length (0, 0)) k) W0.heap.size W0 w' /\ roundS (nullU g.ps g.ns.length) g.ps (iterS (nullU g.ps g.ns.length) g.ps (List.replicate g.ns.length (0, 0)) k) = iterS (nullU g.ps g.ns.length) g.ps (List.replicate g.ns.length (0, 0)) k) := by
   have := settle_S g w.heap.size cb nb fb (nullU g.ps g.ns.length) (List.replicate g.ns.length (0, 0)) W0.heap.size W0 w4 (HG.out _ X0.out.2.2.1) rfl L4.out HD.out
   rwa [HN.out] at this
  obtain ⟨c0, c1, _⟩ := CB.out _ _ L4.out
  go_wp2_with (go_at_call 43; refine SC.out.mono ?_; rintro e w5 ⟨rfl, k, l5, r5⟩; have L5 : Hid (LWs g w.heap.size cb nb fb (nullU g.ps g.ns.length) (iterS (nullU g.ps g.ns.length) g.ps (List.replicate g.ns.length (0, 0)) k) W0.heap.size W0 w5 /\ roundS (nullU g.ps g.ns.length) g.ps (iterS (nullU g.ps g.ns.length) g.ps (List.replicate g.ns.length (0, 0)) k) = iterS (nullU g.ps g.ns.length) g.ps (List.replicate g.ns.length (0, 0)) k) := ⟨l5, r5⟩; obtain ⟨y0, y1, y2⟩ := CB.out _ _ l5; have d0 : w5.cell? ⟨w.heap.size + 1, 0, none⟩ = some (.slice none 0 0) := (cellq_any y2).trans rfl; have d1 : w5.cell? ⟨w.heap.size + 1, 1, none⟩ = some (.slice none 0 0) := (cellq_any y2).trans rfl; have f0 := frostS y2 0; have f1 := frostS y2 1; have hz := lt_of_block y2; clear l5 r5 y2)
  refine bodyPost_ret (v := .agg #[.slice (some ⟨nb, 0, none⟩) g.ns.length g.ns.length, .slice (some ⟨fb, 0, none⟩) g.ns.length g.ns.length]) (by simp [results, Try.results22, go_sem, d0, d1]) rfl ?_
  obtain ⟨l5, r5⟩ := L5.out
  have hl := HL.out
  have hx := X0.out.2.2.2
  have off : ∀ j, j ≠ w.heap.size + 1 -> ((w5.setCell ⟨w.heap.size + 1, 0, none⟩ (.slice (some ⟨nb, 0, none⟩) g.ns.length g.ns.length)).setCell ⟨w.heap.size + 1, 1, none⟩ (.slice (some ⟨fb, 0, none⟩) g.ns.length g.ns.length)).heap[j]? = w5.heap[j]? := fun j hj => by rw [Below.heap_setCell _ _ _ _ hj, Below.heap_setCell _ _ _ _ hj]
  exact ⟨nb, fb, k, rfl, l5.n.kept (off _ (by omega)), l5.f.kept (off _ (by omega)), r5, l5.ok, l5.len.1.trans HN.out, by omega, by omega, ((X0.out.2.2.1.trans (l5.bel.mono (by omega))).setCell (p := ⟨w.heap.size + 1, 0, none⟩) (by show w.heap.size <= w.heap.size + 1; omega) _).setCell (p := ⟨w.heap.size + 1, 1, none⟩) (by show w.heap.size <= w.heap.size + 1; omega) _⟩
def LeastF (g : GV) (F : List BS) : Prop := ∃ k, F = iterS (nullU g.ps g.ns.length) g.ps (List.replicate g.ns.length (0, 0)) k /\ roundS (nullU g.ps g.ns.length) g.ps F = F /\ (∀ i, OkS (F.getD i (0, 0))) /\ F.length = g.ns.length
theorem first_no (g : GV) (w : World) (h : GAt 140737488355328 w g) (hpc : g.ps.length <= g.pc) (er at_ : Int) (hE : checkG g (checkF g.ts g.ns) = (er, at_)) (h0 : er ≠ 0) :
  Calls Try.prog 6 #[g.val] w fun e w' => e = .returned (.tuple #[.slice none 0 0, .int .i64 er]) /\ Below w.heap.size w w' := by
 have X0 : Hid ((w.alloc (gBox g)).heap[w.heap.size]? = some (gBox g)) := heap_alloc_new _ _
 have CK : Hid (Calls Try.prog 19 #[g.val] (w.alloc (gBox g)) fun e w' => e = .returned (.tuple #[.int .i64 er, .int .i64 at_]) /\ Below (w.alloc (gBox g)).heap.size (w.alloc (gBox g)) w') := check_G g _ (h.later (below_alloc _ _)) hpc er at_ hE
 obtain ⟨x0, x1, x2, x3, x4⟩ := gb_cells X0.out
 have t1 : (er != 0) = true := by simpa using h0
 clear h hE
 go_enter Try.func6, Try.ntmps6
 go_wp2_with (go_at_call 19; refine CK.out.mono ?_; rintro e w2 ⟨rfl, b2⟩; have B2 : Hid (Below w.heap.size w w2) := (below_alloc w _).trans (b2.mono (below_alloc w _).size); clear b2)
 refine bodyPost_ret (results_tmp2 rfl _ _ _) rfl ?_
 exact ⟨rfl, B2.out⟩
theorem clm_field (a : Option Addr) (b m n c d : Nat) (w : World) : (Instr.field 67 (.agg #[.slice a m c, .slice (some ⟨b, 0, none⟩) n d]) 1).run Try.prog w = .ok (.slice (some ⟨b, 0, none⟩) n d) w := by kernel_rfl
theorem first_ok (g : GV) (w : World) (h : GAt 140737488355328 w g) (hpc : g.ps.length <= g.pc) (at_ : Int) (hE : checkG g (checkF g.ts g.ns) = (0, at_)) :
  Calls Try.prog 6 #[g.val] w fun e w' => ∃ b F, LeastF g F /\ e = .returned (.tuple #[.slice (some ⟨b, 0, none⟩) g.ns.length g.ns.length, .int .i64 0]) /\ LLk w' b (listsU F) g.ns.length /\ w.heap.size <= b /\ Below w.heap.size w w' := by
 have ok : OkC g := OkC.of (by rw [hE])
 have X0 : Hid ((w.alloc (gBox g)).heap[w.heap.size]? = some (gBox g)) := heap_alloc_new _ _
 have CK : Hid (Calls Try.prog 19 #[g.val] (w.alloc (gBox g)) fun e w' => e = .returned (.tuple #[.int .i64 0, .int .i64 at_]) /\ Below (w.alloc (gBox g)).heap.size (w.alloc (gBox g)) w') := check_G g _ (h.later (below_alloc _ _)) hpc 0 at_ hE
 have HFG : Hid (∀ w', Below w.heap.size w w' -> FG w' g) := fun w' hb => ok.fg (h.later hb)
 have HN64 : Hid (g.ns.length <= 64) := ok.nl.2
 have LC : Hid (∀ w', FG w' g -> Calls Try.prog 22 #[g.val] w' fun e w'' => ∃ nb fb F, LeastF g F /\ e = .returned (.agg #[.slice (some ⟨nb, 0, none⟩) g.ns.length g.ns.length, .slice (some ⟨fb, 0, none⟩) g.ns.length g.ns.length]) /\ SBk w'' fb F /\ Below w'.heap.size w' w'') := fun w' hf => by
  refine (least_S g w' hf).mono ?_
  rintro e w'' ⟨nb, fb, k, q1, q2, q3, q4, q5, q6, q7, q8, q9⟩
  exact ⟨nb, fb, _, ⟨k, rfl, q4, q5, q6⟩, q1, q3, q9⟩
 have LS : Hid (∀ w' fb F, LeastF g F -> SBk w' fb F -> Calls Try.prog 21 #[.slice (some ⟨fb, 0, none⟩) g.ns.length g.ns.length] w' fun e w'' => ∃ b, e = .returned (.slice (some ⟨b, 0, none⟩) g.ns.length g.ns.length) /\ LLk w'' b (listsU F) g.ns.length /\ w'.heap.size <= b /\ Below w'.heap.size w' w'') := fun w' fb F ⟨k, e1, e2, e3, e4⟩ hS => by
  have := listsOf_S fb g.ns.length F w' hS (by rw [e4]; have := HN64.out; omega) e3
  rwa [e4] at this
 obtain ⟨x0, x1, x2, x3, x4⟩ := gb_cells X0.out
 have t1 : ((0 : Int) != 0) = false := by decide
 have hfl := fun nb fb w => clm_field (some ⟨nb, 0, none⟩) fb g.ns.length g.ns.length g.ns.length g.ns.length w
 clear h hE ok
 go_enter Try.func6, Try.ntmps6
 go_wp2_with (first
  | (go_at_call 19; refine CK.out.mono ?_; rintro e w2 ⟨rfl, b2⟩; have B2 : Hid (Below w.heap.size w w2 /\ w2.heap[w.heap.size]? = some (gBox g)) := ⟨(below_alloc w _).trans (b2.mono (below_alloc w _).size), (b2.block _ (lt_of_block X0.out)).trans X0.out⟩; clear b2 x0 x1 x2 x3 x4; obtain ⟨x0, x1, x2, x3, x4⟩ := gb_cells B2.out.2)
  | (go_at_call 22; refine (LC.out _ (HFG.out _ B2.out.1)).mono ?_; rintro e w3 ⟨nb, fb, F, hF, rfl, n3, b3⟩; have B3 : Hid (LeastF g F /\ SBk w3 fb F /\ Below w.heap.size w w3) := ⟨hF, n3, B2.out.1.trans (b3.mono B2.out.1.size)⟩; clear n3 b3 hF)
  | (go_at_call 21; refine (LS.out w3 fb F B3.out.1 B3.out.2.1).mono ?_; rintro e w4 ⟨b, rfl, n4, l4, b4⟩; have B4 : Hid (LLk w4 b (listsU F) g.ns.length /\ w.heap.size <= b /\ Below w.heap.size w w4) := ⟨n4, Nat.le_trans B3.out.2.2.size l4, B3.out.2.2.trans (b4.mono B3.out.2.2.size)⟩; clear n4 l4 b4))
 refine bodyPost_ret (results_tmp2 rfl _ _ _) rfl ?_
 exact ⟨b, F, B3.out.1, rfl, B4.out⟩
def askC (g : GV) (n m : Nat) (er : Int) : Int := if askU g n er ≠ 0 then askU g n er else if m ≠ g.ns.length then 3 else 0
theorem askC_S (g : GV) (na fa : Option Addr) (n nc m fc : Nat) (w : World) (h : GAt 140737488355328 w g) (hpc : g.ps.length <= g.pc) (er at_ : Int) (hE : checkG g (checkF g.ts g.ns) = (er, at_)) :
  Calls Try.prog 29 #[g.val, .slice na n nc, .slice fa m fc] w fun e w' => e = .returned (.int .i64 (askC g n m er)) /\ Below w.heap.size w w' := by
 have X0 : Hid ((w.alloc (gBox g)).heap[w.heap.size]? = some (gBox g)) := heap_alloc_new _ _
 have CK : Hid (Calls Try.prog 27 #[g.val, .slice na n nc] (w.alloc (gBox g)) fun e w' => e = .returned (.int .i64 (askU g n er)) /\ Below (w.alloc (gBox g)).heap.size (w.alloc (gBox g)) w') := askNull_S g na n nc _ (h.later (below_alloc _ _)) hpc er at_ hE
 obtain ⟨x0, x1, x2, x3, x4⟩ := gb_cells X0.out
 clear h hE
 have HC : Hid (askC g n m er = if askU g n er ≠ 0 then askU g n er else if m ≠ g.ns.length then 3 else 0) := rfl
 generalize askU g n er = U at *
 generalize askC g n m er = R at *
 by_cases h0 : U = 0
 ·subst h0
  have t1 : ((0 : Int) != 0) = false := by decide
  by_cases h1 : m = g.ns.length
  ·have t2 : ((m : Int) != (g.ns.length : Int)) = false := by simp; omega
   have R2 : Hid (R = 0) := by show _ = _; rw [HC.out]; simp [h1]
   clear h1
   go_enter Try.func29, Try.ntmps29
   go_wp2_with (go_at_call 27; refine CK.out.mono ?_; rintro e w2 ⟨rfl, b2⟩; have B2 : Hid (Below w.heap.size w w2 /\ w2.heap[w.heap.size]? = some (gBox g)) := ⟨(below_alloc w _).trans (b2.mono (below_alloc w _).size), (b2.block _ (lt_of_block X0.out)).trans X0.out⟩; clear b2 x0 x1 x2 x3 x4; obtain ⟨x0, x1, x2, x3, x4⟩ := gb_cells B2.out.2)
   go_ret
   exact ⟨by rw [R2.out]; rfl, B2.out.1⟩
  ·have t2 : ((m : Int) != (g.ns.length : Int)) = true := by simp; omega
   have R2 : Hid (R = 3) := by show _ = _; rw [HC.out]; simp [h1]
   clear h1
   go_enter Try.func29, Try.ntmps29
   go_wp2_with (go_at_call 27; refine CK.out.mono ?_; rintro e w2 ⟨rfl, b2⟩; have B2 : Hid (Below w.heap.size w w2 /\ w2.heap[w.heap.size]? = some (gBox g)) := ⟨(below_alloc w _).trans (b2.mono (below_alloc w _).size), (b2.block _ (lt_of_block X0.out)).trans X0.out⟩; clear b2 x0 x1 x2 x3 x4; obtain ⟨x0, x1, x2, x3, x4⟩ := gb_cells B2.out.2)
   go_ret
   exact ⟨by rw [R2.out]; rfl, B2.out.1⟩
 ·have t1 : (U != 0) = true := by simpa using h0
  have R2 : Hid (R = U) := by show _ = _; rw [HC.out]; simp [h0]
  go_enter Try.func29, Try.ntmps29
  go_wp2_with (go_at_call 27; refine CK.out.mono ?_; rintro e w2 ⟨rfl, b2⟩; have B2 : Hid (Below w.heap.size w w2) := (below_alloc w _).trans (b2.mono (below_alloc w _).size); clear b2)
  go_ret
  exact ⟨by rw [R2.out]; rfl, B2.out⟩
theorem takeF {P : Program} {ops : Array Oper} {Q : Exit -> Act -> World -> Prop} {md : Region.Mode} {i : Nat} {oi : Oper} {v : Value} {S0 : World -> Prop} {fuel : Nat} {listed : Array Bool} {a : Act} {w : World} (hi' : ops.toList[i]? = some oi)
  (hs : Region.noSelect ops = true) (hf : Region.free md ops listed i = true) (hr : (Region.ready md ops listed).contains i = true)
  (hQ : ∀ c a w, Q (.panic c) (a.put oi.dst v) w -> Q (.panic c) a w) (hy : YieldsIf P ops S0 oi v a) (hS : S0 w)
  (h : wpAnyX P md ops Q (fun _ => S0) fuel (listed.setIfInBounds i true) (a.put oi.dst v) w) : wpAnyX P md ops Q (fun _ => S0) (fuel + 1) listed a w :=
 have hi : ops[i]? = some oi := by rw [<- Array.getElem?_toList]; exact hi'
 wpAnyX_first (Cl := fun _ => True) (T := S0) hi (Region.noSelect_spec hs) hQ (fun _ _ _ _ => trivial) (fun _ _ _ _ h => h) (fun _ _ => Iff.rfl) fuel listed a w (Region.free_spec hi hf) (by simpa using hr) trivial hy hS h
def firstO (v : Nat -> Option (Int × Int)) : Nat -> Option (Int × Int)
 | 0 => none
 | n + 1 => match firstO v n with
  | some x => some x
  | none => v n
theorem firstO_none {v : Nat -> Option (Int × Int)} : ∀ {n : Nat}, (∀ j, j < n -> v j = none) -> firstO v n = none
 | 0, _ => rfl
 | n + 1, h => by rw [firstO, firstO_none (fun j hj => h j (by omega))]; exact h n (by omega)
theorem firstO_hit {v : Nat -> Option (Int × Int)} {x : Int × Int} {k : Nat} (hx : v k = some x) (hb : ∀ j, j < k -> v j = none) : ∀ {n : Nat}, k < n -> firstO v n = some x
 | 0, h => absurd h (Nat.not_lt_zero _)
 | n + 1, h => by
  by_cases e : k = n
  ·subst e; rw [firstO, firstO_none hb]; exact hx
  ·rw [firstO, firstO_hit hx hb (show k < n by omega)]
theorem firstO_inv {v : Nat -> Option (Int × Int)} : ∀ {n : Nat}, firstO v n = none -> ∀ j, j < n -> v j = none
 | 0, _, j, hj => absurd hj (Nat.not_lt_zero _)
 | n + 1, h, j, hj => by
  rw [firstO] at h
  cases e : firstO v n with
  | some x => rw [e] at h; cases h
  | none =>
   rw [e] at h
   by_cases q : j = n
   ·subst q; exact h
   ·exact firstO_inv e j (by omega)
def badL (L : List (List Int)) (nt : Nat) (i : Nat) : Option (Int × Int) := if allB (L.getD i []) nt = false then some (4, (i : Int)) else if riseF (L.getD i []) = false then some (7, (i : Int)) else none
def badP (N : List Bool) (F : List BS) (ps : List PV) (i : Nat) : Option (Int × Int) := if decide (withS (ofS N F (ps.getD i .none).right (0, 0)) (F.getD (ps.getD i .none).left.toNat (0, 0)) = F.getD (ps.getD i .none).left.toNat (0, 0)) = false then some (62, (i : Int)) else none
def chkF (N : List Bool) (L : List (List Int)) (ps : List PV) (nt : Nat) : Int × Int := match firstO (badL L nt) L.length with
 | some x => x
 | none => match firstO (badP N (L.map setS) ps) ps.length with
  | some x => x
  | none => (0, 0)
theorem run_ab2 {o : Oper} {a : Act} {t0 t1 : TypeId} {v0 v1 : Value} {x0 x1 : Operand} (hop : o.op = Op.call { callee := Callee.value (Operand.func 30), args := #[x0, x1], argTypes := #[t0, t1] }) (h0 : a.eval x0 = v0) (h1 : a.eval x1 = v1) (w : World) : (execOp a.eval o).run Try.prog w = .ok (.enter 30 #[v0, v1]) w := by
 have hf : a.eval (Operand.func 30) = .func (.func 30) #[] #[] := rfl
 simp [execOp, hop, resolve, invoke, h0, h1, hf, Deferred.ofValue]
theorem run_wi2 {o : Oper} {a : Act} {t0 t1 : TypeId} {v0 v1 : Value} {x0 x1 : Operand} (hop : o.op = Op.call { callee := Callee.value (Operand.func 34), args := #[x0, x1], argTypes := #[t0, t1] }) (h0 : a.eval x0 = v0) (h1 : a.eval x1 = v1) (w : World) : (execOp a.eval o).run Try.prog w = .ok (.enter 34 #[v0, v1]) w := by
 have hf : a.eval (Operand.func 34) = .func (.func 34) #[] #[] := rfl
 simp [execOp, hop, resolve, invoke, h0, h1, hf, Deferred.ofValue]
theorem chkFirst_ok (g : GV) (na : Option Addr) (nc : Nat) (N : List Bool) (fa : Option Addr) (fc : Nat) (L : List (List Int)) (w : World) (h : GAt 140737488355328 w g) (hpc : g.ps.length <= g.pc) (at_ : Int) (hE : checkG g (checkF g.ts g.ns) = (0, at_)) (hN : BRow w na N) (hl : N.length = g.ns.length) (hL : LsRow w fa L) (hl2 : L.length = g.ns.length) (hll : ∀ l ∈ L, l.length <= 140737488355328) :
  Calls Try.prog 12 #[g.val, .slice na N.length nc, .slice fa L.length fc] w fun e w' => e = .returned (.tuple #[.int .i64 (chkF N L g.ps g.ts.length).1, .int .i64 (chkF N L g.ps g.ts.length).2]) /\ Below w.heap.size w w' := by
 have ok : OkC g := OkC.of (by rw [hE])
 have X0 : Hid ((w.alloc (gBox g)).heap[w.heap.size]? = some (gBox g)) := heap_alloc_new _ _
 have CK : Hid (Calls Try.prog 29 #[g.val, .slice na N.length nc, .slice fa L.length fc] (w.alloc (gBox g)) fun e w' => e = .returned (.int .i64 0) /\ Below (w.alloc (gBox g)).heap.size (w.alloc (gBox g)) w') := by
  have := askC_S g na fa N.length nc L.length fc _ (h.later (below_alloc w (gBox g))) hpc 0 at_ hE
  rwa [show askC g N.length L.length 0 = 0 by simp [askC, askU, hl, hl2]] at this
 have HFG : Hid (∀ w', Below w.heap.size w w' -> FG w' g /\ BRow w' na N /\ LsRow w' fa L) := fun w' hb => ⟨ok.fg (h.later hb), hN.later hb, hL.later hb⟩
 have HLL : Hid (∀ l ∈ L, l.length <= 140737488355328) := hll
 have HN64 : Hid (N.length <= 64 /\ 1 <= N.length /\ N.length = g.ns.length /\ L.length = g.ns.length /\ g.ts.length <= 64) := ⟨by rw [hl]; exact ok.nl.2, by rw [hl]; exact ok.nl.1, hl, hl2, ok.tl.2⟩
 have HIL : Hid (∀ k x, k < L.length -> badL L g.ts.length k = some x -> (∀ j, j < k -> badL L g.ts.length j = none) -> chkF N L g.ps g.ts.length = x) := fun k x hk hx hb => by rw [chkF, firstO_hit hx hb hk]
 have HIP : Hid (∀ k x, (∀ j, j < L.length -> badL L g.ts.length j = none) -> k < g.ps.length -> badP N (L.map setS) g.ps k = some x -> (∀ j, j < k -> badP N (L.map setS) g.ps j = none) -> chkF N L g.ps g.ts.length = x) := fun k x hL hk hx hb => by rw [chkF, firstO_none hL, firstO_hit hx hb hk]
 have NON : Hid ((∀ j, j < L.length -> badL L g.ts.length j = none) -> (∀ j, j < g.ps.length -> badP N (L.map setS) g.ps j = none) -> chkF N L g.ps g.ts.length = (0, 0)) := fun h1 h2 => by rw [chkF, firstO_none h1, firstO_none h2]
 obtain ⟨x0, x1, x2, x3, x4⟩ := gb_cells X0.out
 have hpl := ok.pl.2
 have hLlen : L.length <= 64 := by rw [hl2]; exact ok.nl.2
 have t1 : ((0 : Int) != 0) = false := by decide
 generalize hX : chkF N L g.ps g.ts.length = X at *
 obtain ⟨X1, X2⟩ := X
 clear h hE ok hN hX hl hL hl2 hll
 go_enter Try.func12, Try.ntmps12
 go_wp2_with (go_at_call 29; refine CK.out.mono ?_; rintro e w2 ⟨rfl, b2⟩; have B2 : Hid (Below w.heap.size w w2 /\ w2.heap[w.heap.size]? = some (gBox g)) := ⟨(below_alloc w _).trans (b2.mono (below_alloc w _).size), (b2.block _ (lt_of_block X0.out)).trans X0.out⟩; clear b2 x0 x1 x2 x3 x4)
 go_loopw [22] (fun z wr => ∃ k : Nat, k <= L.length /\ z = .int .i64 k /\ (∀ j, j < k -> badL L g.ts.length j = none) /\ Below w.heap.size w wr /\ wr.heap[w.heap.size]? = some (gBox g)) (fun z _ => L.length - (intOf z).toNat)
 case atStart => exact ⟨0, Nat.zero_le _, rfl, fun j hj => absurd hj (Nat.not_lt_zero j), B2.out.1, B2.out.2⟩
 case round =>
  obtain ⟨k, hk, rfl, hf, hb, hg⟩ := hrel
  have HB : Hid (Below w.heap.size w wr /\ wr.heap[w.heap.size]? = some (gBox g)) := ⟨hb, hg⟩
  have HF : Hid (∀ j, j < k -> badL L g.ts.length j = none) := hf
  clear B2
  by_cases hlt : k < L.length
  ·have klt : (k : Int) < (L.length : Int) := by omega
   obtain ⟨lb, lo, rfl, hlb, hlc⟩ := (HFG.out wr hb).2.2 (by intro e; rw [e] at hlt; simp at hlt)
   obtain ⟨la, lc, c0, hrow⟩ := hlc k hlt
   have hrl := HLL.out (L.getD k []) (by simp [List.getD, hlt])
   have V : Hid (badL L g.ts.length k = if allB (L.getD k []) g.ts.length = false then some (4, (k : Int)) else if riseF (L.getD k []) = false then some (7, (k : Int)) else none) := rfl
   generalize L.getD k [] = l at *
   have KS0 : Hid (∀ w', Below wr.heap.size wr w' -> (fun w' : World => w'.cell? ⟨lb, lo + k, none⟩ = some (.slice la l.length lc) /\ w'.cell? ⟨w.heap.size, 0, none⟩ = some (.slice g.ta g.ts.length g.tc)) w') := fun w' hw => ⟨(hw.cell (p := ⟨lb, lo + k, none⟩) hlb).trans c0, (gb_cells ((hw.block _ (lt_of_block hg)).trans hg)).1⟩
   have AC : Hid (∀ w', Below wr.heap.size wr w' -> Calls Try.prog 30 #[.slice la l.length lc, .int .i64 g.ts.length] w' fun en w'' => en = .returned (.bool (allB l g.ts.length)) /\ Below w'.heap.size w' w'') := fun w' hw => allBelow_S la lc _ _ w' (hrow.later hw) hrl
   have RC : Hid (∀ w', Below wr.heap.size wr w' -> Calls Try.prog 31 #[.slice la l.length lc] w' fun en w'' => en = .returned (.bool (riseF l)) /\ Below w'.heap.size w' w'') := fun w' hw => rises_S la lc _ w' (hrow.later hw) hrl
   have HH : Hid (∀ x, badL L g.ts.length k = some x -> (X1, X2) = x) := fun x hx => HIL.out k x hlt hx hf
   have HS : Hid (badL L g.ts.length k = none -> ∀ j, j < k + 1 -> badL L g.ts.length j = none) := fun h j hj => by
    by_cases q : j = k
    ·subst q; exact h
    ·exact hf j (by omega)
   generalize allB l g.ts.length = A at *
   generalize riseF l = R at *
   have hs : Hid ((fun w' : World => w'.cell? ⟨lb, lo + k, none⟩ = some (.slice la l.length lc) /\ w'.cell? ⟨w.heap.size, 0, none⟩ = some (.slice g.ta g.ts.length g.tc)) wr.drew) := KS0.out _ (Below.refl _ _).drew
   have HBD : Hid (Below wr.heap.size wr wr.drew) := (Below.refl _ _).drew
   clear hb hg hf hlc hrow c0
   go_wp2
   refine wp_region_x (S := fun _ => (fun w' : World => w'.cell? ⟨lb, lo + k, none⟩ = some (.slice la l.length lc) /\ w'.cell? ⟨w.heap.size, 0, none⟩ = some (.slice g.ta g.ts.length g.tc))) (by kernel_rfl) ?_
   refine takeF (i := 0) (v := ?_) rfl (by kernel_rfl) (by decide +kernel) (by decide +kernel) (fun _ _ _ h => h) (Or.inl ⟨by rfl, ?_⟩) hs.out ?_
   rotate_left
   ·(intro w hSw; (try dsimp only at hSw); go_simp; try (with_reducible rfl))
   (try simp only [Act.put, lsA, lsZ, lsN])
   refine takeF (i := 1) (v := ?_) rfl (by kernel_rfl) (by decide +kernel) (by decide +kernel) (fun _ _ _ h => h) (Or.inl ⟨by rfl, ?_⟩) hs.out ?_
   rotate_left
   ·(intro w hSw; (try dsimp only at hSw); go_simp; try (with_reducible rfl))
   (try simp only [Act.put, lsA, lsZ, lsN])
   refine takeF (i := 2) (v := ?_) rfl (by kernel_rfl) (by decide +kernel) (by decide +kernel) (fun _ _ _ h => h) (Or.inl ⟨by rfl, ?_⟩) hs.out ?_
   rotate_left
   ·(intro w hSw; (try dsimp only at hSw); go_simp; try (with_reducible rfl))
   (try simp only [Act.put, lsA, lsZ, lsN])
   refine takeF (i := 3) (v := ?_) rfl (by kernel_rfl) (by decide +kernel) (by decide +kernel) (fun _ _ _ h => h) (Or.inl ⟨by rfl, ?_⟩) hs.out ?_
   rotate_left
   ·(intro w hSw; (try dsimp only at hSw); go_simp; try (with_reducible rfl))
   (try simp only [Act.put, lsA, lsZ, lsN])
   refine takeF (i := 4) (v := ?_) rfl (by kernel_rfl) (by decide +kernel) (by decide +kernel) (fun _ _ _ h => h) (Or.inl ⟨by rfl, ?_⟩) hs.out ?_
   rotate_left
   ·(intro w hSw; (try dsimp only at hSw); go_simp; try (with_reducible rfl))
   (try simp only [Act.put, lsA, lsZ, lsN])
   refine takeF (i := 5) (v := ?_) rfl (by kernel_rfl) (by decide +kernel) (by decide +kernel) (fun _ _ _ h => h) (Or.inl ⟨by rfl, ?_⟩) hs.out ?_
   rotate_left
   ·(intro w hSw; (try dsimp only at hSw); go_simp; try (with_reducible rfl))
   (try simp only [Act.put, lsA, lsZ, lsN])
   refine takeF (i := 6) (v := ?_) rfl (by kernel_rfl) (by decide +kernel) (by decide +kernel) (fun _ _ _ h => h) (Or.inl ⟨by rfl, ?_⟩) hs.out ?_
   rotate_left
   ·(intro w hSw; (try dsimp only at hSw); go_simp; try (with_reducible rfl))
   (try simp only [Act.put, lsA, lsZ, lsN])
   refine wpAnyX_one (j := 7) (by decide +kernel) rfl (fun K' hK => ?_)
   refine step_callX rfl 30 #[.slice la l.length lc, .int .i64 g.ts.length] _ (run_ab2 (v0 := .slice la l.length lc) (v1 := .int .i64 g.ts.length) (by rfl) (by rfl) (by rfl) _) (AC.out _ HBD.out) ?_
   rintro e w3 ⟨rfl, b3⟩
   have B3 : Hid (Below wr.heap.size wr w3) := HBD.out.trans b3
   have W3 : Hid (Below w.heap.size w w3 /\ w3.heap[w.heap.size]? = some (gBox g)) := ⟨HB.out.1.trans (B3.out.mono HB.out.1.size), (B3.out.block _ (lt_of_block HB.out.2)).trans HB.out.2⟩
   clear b3 hs HBD
   have hs : Hid ((fun w' : World => w'.cell? ⟨lb, lo + k, none⟩ = some (.slice la l.length lc) /\ w'.cell? ⟨w.heap.size, 0, none⟩ = some (.slice g.ta g.ts.length g.tc)) w3) := KS0.out _ B3.out
   refine ⟨_, rfl, hK.out _ _ hs.out ?_⟩
   clear hK K'
   (try simp only [Act.put, lsA, lsZ, lsN])
   refine takeF (i := 8) (v := ?_) rfl (by kernel_rfl) (by decide +kernel) (by decide +kernel) (fun _ _ _ h => h) (Or.inl ⟨by rfl, ?_⟩) hs.out ?_
   rotate_left
   ·(intro w hSw; (try dsimp only at hSw); go_simp; try (with_reducible rfl))
   (try simp only [Act.put, lsA, lsZ, lsN])
   refine wpAnyX_done (by decide +kernel) ?_
   have c3 := hs.out.1
   clear hs
   cases A
   ·have Q := HH.out (4, (k : Int)) (by rw [V.out]; rfl)
    have R2 : Hid (X1 = 4 /\ X2 = (k : Int)) := by show _ /\ _; simpa using Q
    clear Q
    go_wp2
    refine bodyPost_ret (results_tmp2 rfl _ _ _) rfl ?_
    exact ⟨by rw [R2.out.1, R2.out.2]; rfl, W3.out.1⟩
   ·cases R
    ·have Q := HH.out (7, (k : Int)) (by rw [V.out]; rfl)
     have R2 : Hid (X1 = 7 /\ X2 = (k : Int)) := by show _ /\ _; simpa using Q
     clear Q
     go_wp2_with (go_at_call 31; refine (RC.out _ B3.out).mono ?_; rintro e w4 ⟨rfl, b4⟩; have B4 : Hid (Below w.heap.size w w4) := W3.out.1.trans (b4.mono W3.out.1.size); clear b4)
     refine bodyPost_ret (results_tmp2 rfl _ _ _) rfl ?_
     exact ⟨by rw [R2.out.1, R2.out.2]; rfl, B4.out⟩
    ·have R2 : Hid (∀ j, j < k + 1 -> badL L g.ts.length j = none) := HS.out (by rw [V.out]; rfl)
     go_wp2_with (go_at_call 31; refine (RC.out _ B3.out).mono ?_; rintro e w4 ⟨rfl, b4⟩; have B4 : Hid (Below w.heap.size w w4 /\ w4.heap[w.heap.size]? = some (gBox g)) := ⟨W3.out.1.trans (b4.mono W3.out.1.size), (b4.block _ (lt_of_block W3.out.2)).trans W3.out.2⟩; clear b4)
     go_roundw
     case rel => exact ⟨k + 1, by omega, by go_num, R2.out, B4.out.1, B4.out.2⟩
     case measure => simp [intOf]; omega
  ·obtain rfl : k = L.length := by omega
   clear hf hb hg
   have HLN : Hid (L.length = N.length) := HN64.out.2.2.2.1.trans HN64.out.2.2.1.symm
   have HBD : Hid (∀ l ∈ L, ∀ x ∈ l, 0 <= x /\ x < 64) := fun l hl x hx => by
    obtain ⟨i, hi, rfl⟩ := List.getElem_of_mem hl
    have := HF.out i hi
    unfold badL at this
    have e : L.getD i [] = L[i] := by simp [List.getD, hi]
    rw [e] at this
    by_cases q : allB L[i] g.ts.length = false
    ·rw [if_pos q] at this; cases this
    ·have q2 : allB L[i] g.ts.length = true := by simpa using q
     have := List.all_eq_true.1 q2 x hx
     simp [below1] at this
     have h64 := HN64.out.2.2.2.2
     omega
   have CO : Hid (Calls Try.prog 32 #[.slice na N.length nc, .slice fa L.length fc] wr fun e w' => ∃ fb, e = .returned (.agg #[.slice na N.length nc, .slice (some ⟨fb, 0, none⟩) N.length N.length]) /\ SBk w' fb (L.map setS) /\ wr.heap.size <= fb /\ Below wr.heap.size wr w') := by
    have := claimOf_S na fa N.length nc fc L wr (HFG.out wr HB.out.1).2.2 (by omega) (fun l hl => ⟨fun x hx => by have := HBD.out l hl x hx; omega, HLL.out l hl⟩)
    refine this.mono ?_
    rintro e w' ⟨fb, q1, q2⟩
    exact ⟨fb, by rw [q1, HLN.out], q2⟩
   have HOK : Hid (∀ i, OkS ((L.map setS).getD i (0, 0))) := fun i => by
    by_cases hi : i < L.length
    ·rw [show (L.map setS).getD i (0, 0) = setS L[i] by simp [List.getD, hi]]
     exact setS_ok (fun x hx => by have := HBD.out _ (List.getElem_mem hi) x hx; omega)
    ·rw [show (L.map setS).getD i (0, 0) = (0, 0) by simp [List.getD, show L.length <= i by omega]]
     exact OkS.zero
   have HFL : Hid ((L.map setS).length = N.length) := by show _ = _; rw [List.length_map]; exact HLN.out
   clear HIL CK X0
   go_wp2_with (go_at_call 32; refine CO.out.mono ?_; rintro e w3 ⟨fb, rfl, s3, l3, b3⟩; have B3 : Hid (Below w.heap.size w w3 /\ w3.heap[w.heap.size]? = some (gBox g) /\ SBk w3 fb (L.map setS)) := ⟨HB.out.1.trans (b3.mono HB.out.1.size), (b3.block _ (lt_of_block HB.out.2)).trans HB.out.2, s3⟩; have B4 : Hid (Below w.heap.size w (w3.alloc (.cells #[.slice na N.length nc, .slice (some ⟨fb, 0, none⟩) N.length N.length] 67)) /\ (w3.alloc (.cells #[.slice na N.length nc, .slice (some ⟨fb, 0, none⟩) N.length N.length] 67)).heap[w.heap.size]? = some (gBox g) /\ CellsAt (w3.alloc (.cells #[.slice na N.length nc, .slice (some ⟨fb, 0, none⟩) N.length N.length] 67)) w3.heap.size #[.slice na N.length nc, .slice (some ⟨fb, 0, none⟩) N.length N.length] 67 /\ SBk (w3.alloc (.cells #[.slice na N.length nc, .slice (some ⟨fb, 0, none⟩) N.length N.length] 67)) fb (L.map setS)) := ⟨B3.out.1.trans ((below_alloc w3 _).mono B3.out.1.size), ((below_alloc w3 _).block _ (lt_of_block B3.out.2.1)).trans B3.out.2.1, heap_alloc_new _ _, B3.out.2.2.later (below_alloc w3 _)⟩; clear b3 s3 l3; obtain ⟨x0, x1, x2, x3, x4⟩ := gb_cells B4.out.2.1)
   go_loopw [49] (fun z wr => ∃ k2 : Nat, k2 <= g.ps.length /\ z = .int .i64 k2 /\ (∀ j, j < k2 -> badP N (L.map setS) g.ps j = none) /\ Below w.heap.size w wr /\ wr.heap[w.heap.size]? = some (gBox g) /\ CellsAt wr w3.heap.size #[.slice na N.length nc, .slice (some ⟨fb, 0, none⟩) N.length N.length] 67 /\ SBk wr fb (L.map setS)) (fun z _ => g.ps.length - (intOf z).toNat)
   case atStart => exact ⟨0, Nat.zero_le _, rfl, fun j hj => absurd hj (Nat.not_lt_zero j), B4.out⟩
   case round =>
    clear x0 x1 x2 x3 x4 B4 B3
    obtain ⟨k2, hk2, rfl, hf, hb, hg, hc, hS⟩ := hrel
    have HB2 : Hid (Below w.heap.size w wr) := hb
    have HI2 : Hid (wr.heap[w.heap.size]? = some (gBox g) /\ CellsAt wr w3.heap.size #[.slice na N.length nc, .slice (some ⟨fb, 0, none⟩) N.length N.length] 67 /\ SBk wr fb (L.map setS)) := ⟨hg, hc, hS⟩
    obtain ⟨x0, x1, x2, x3, x4⟩ := gb_cells hg
    by_cases hlt : k2 < g.ps.length
    ·obtain ⟨b, o, hpa, hbl, hcc⟩ := (HFG.out _ hb).1.p.cells (by intro e; rw [e] at hlt; simp at hlt)
     obtain ⟨c0, c1, c2⟩ := hcc k2 hlt
     have klt : (k2 : Int) < (g.ps.length : Int) := by omega
     have hmem : g.ps.getD k2 .none ∈ g.ps := by simp [List.getD, hlt]
     obtain ⟨l0, l1⟩ := (HFG.out _ hb).1.left _ hmem
     have hrow := (HFG.out _ hb).1.p.rows _ hmem
     have hrl := (HFG.out _ hb).1.rl _ hmem
     have hsy := (HFG.out _ hb).1.sym _ hmem
     have HH : Hid (∀ x, badP N (L.map setS) g.ps k2 = some x -> (X1, X2) = x) := fun x hx => HIP.out k2 x HF.out hlt hx hf
     have HS : Hid (badP N (L.map setS) g.ps k2 = none -> ∀ j, j < k2 + 1 -> badP N (L.map setS) g.ps j = none) := fun h j hj => by
      by_cases q : j = k2
      ·subst q; exact h
      ·exact hf j (by omega)
     have V : Hid (badP N (L.map setS) g.ps k2 = if decide (withS (ofS N (L.map setS) (g.ps.getD k2 .none).right (0, 0)) ((L.map setS).getD (g.ps.getD k2 .none).left.toNat (0, 0)) = (L.map setS).getD (g.ps.getD k2 .none).left.toNat (0, 0)) = false then some (62, (k2 : Int)) else none) := rfl
     generalize g.ps.getD k2 .none = p at *
     obtain ⟨pl, pra, prc, pr, pp⟩ := p
     simp only at c0 c1 c2 l0 l1 hrow hrl hsy
     obtain ⟨m, rfl⟩ : ∃ m : Nat, pl = (m : Int) := ⟨pl.toNat, by omega⟩
     have hBA : Below wr.heap.size wr (wr.alloc (.cells #[.int .i64 (m : Int), .slice pra pr.length prc, .int .i64 pp] 46)) := below_alloc _ _
     have hmN : m < N.length := by have := HN64.out; omega
     have HS2 : Hid (∀ s ∈ pr, SymIn N.length s) := fun s hs => by
      have h64 := HN64.out
      rcases hsy s hs with q | q
      ·exact .inl ⟨q.1, q.2.1, by omega⟩
      ·exact .inr ⟨q.1, q.2.1, by omega⟩
     have OF : Hid (∀ w', Below wr.heap.size wr w' -> Calls Try.prog 33 #[.agg #[.slice na N.length nc, .slice (some ⟨fb, 0, none⟩) N.length N.length], .slice pra pr.length prc, .agg #[.int .u64 0, .int .u64 0]] w' fun e w'' => e = .returned (sv (ofS N (L.map setS) pr (0, 0))) /\ Below w'.heap.size w' w'') := fun w' hw =>
      of_S na N nc fb N.length (L.map setS) pra prc pr (0, 0) w' ⟨((HFG.out _ hb).2.1.later hw), hS.later hw, ⟨HFL.out, HN64.out.1⟩, HOK.out⟩ (hrow.later (Nat.le_refl _) hw) (by omega) HS2.out OkS.zero
     have OKO : Hid (OkS (ofS N (L.map setS) pr (0, 0))) := ofS_ok HOK.out pr _ HS2.out OkS.zero
     have OKG : Hid (OkS ((L.map setS).getD m (0, 0))) := HOK.out m
     have KS0 : Hid (∀ w', Below wr.heap.size wr w' -> w'.heap[wr.heap.size]? = some (.cells #[.int .i64 (m : Int), .slice pra pr.length prc, .int .i64 pp] 46) -> w'.cell? ⟨w3.heap.size, 0, none⟩ = some (.slice na N.length nc) /\ w'.cell? ⟨w3.heap.size, 1, none⟩ = some (.slice (some ⟨fb, 0, none⟩) N.length N.length) /\ w'.cell? ⟨wr.heap.size, 0, none⟩ = some (.int .i64 (m : Int)) /\ w'.cell? ⟨wr.heap.size, 1, none⟩ = some (.slice pra pr.length prc) /\ w'.cell? ⟨fb, m * 2, none⟩ = some (.int .u64 (((L.map setS).getD m (0, 0)).1 : Int)) /\ w'.cell? ⟨fb, m * 2 + 1, none⟩ = some (.int .u64 (((L.map setS).getD m (0, 0)).2 : Int))) := fun w' hw hP => by
      obtain ⟨a0, a1⟩ := (hS.later hw).cell (show m < (L.map setS).length by rw [HFL.out]; exact hmN)
      have e : w'.heap[w3.heap.size]? = some (.cells #[.slice na N.length nc, .slice (some ⟨fb, 0, none⟩) N.length N.length] 67 (0, 0)) := (hw.block _ hc.lt).trans hc
      exact ⟨(cellq_any e).trans rfl, (cellq_any e).trans rfl, (cellq_any hP).trans rfl, (cellq_any hP).trans rfl, a0, a1⟩
     have V2 : Hid (badP N (L.map setS) g.ps k2 = if decide (withS (ofS N (L.map setS) pr (0, 0)) ((L.map setS).getD m (0, 0)) = (L.map setS).getD m (0, 0)) = false then some (62, (k2 : Int)) else none) := V.out
     generalize ofS N (L.map setS) pr (0, 0) = O at *
     generalize (L.map setS).getD m (0, 0) = Q at *
     obtain ⟨o1, o2⟩ := O
     obtain ⟨q1, q2⟩ := Q
     obtain ⟨A, hA⟩ : ∃ A, decide (withS (o1, o2) (q1, q2) = (q1, q2)) = A := ⟨_, rfl⟩
     have WC : Hid (∀ w', Calls Try.prog 34 #[sv (o1, o2), sv (q1, q2)] w' fun e w2 => e = .returned (.bool A) /\ Below w'.heap.size w' w2) := fun w' => within_S _ _ w' OKO.out OKG.out A hA
     have V3 : Hid (badP N (L.map setS) g.ps k2 = if A = false then some (62, (k2 : Int)) else none) := by rw [<- hA]; exact V2.out
     have PX : Hid ((wr.alloc (.cells #[.int .i64 (m : Int), .slice pra pr.length prc, .int .i64 pp] 46)).drew.heap[wr.heap.size]? = some (.cells #[.int .i64 (m : Int), .slice pra pr.length prc, .int .i64 pp] 46)) := heap_alloc_new _ _
     have BD : Hid (Below wr.heap.size wr (wr.alloc (.cells #[.int .i64 (m : Int), .slice pra pr.length prc, .int .i64 pp] 46)).drew) := hBA.drew
     have hs : Hid ((fun w' : World => w'.cell? ⟨w3.heap.size, 0, none⟩ = some (.slice na N.length nc) /\ w'.cell? ⟨w3.heap.size, 1, none⟩ = some (.slice (some ⟨fb, 0, none⟩) N.length N.length) /\ w'.cell? ⟨wr.heap.size, 0, none⟩ = some (.int .i64 (m : Int)) /\ w'.cell? ⟨wr.heap.size, 1, none⟩ = some (.slice pra pr.length prc) /\ w'.cell? ⟨fb, m * 2, none⟩ = some (.int .u64 (q1 : Int)) /\ w'.cell? ⟨fb, m * 2 + 1, none⟩ = some (.int .u64 (q2 : Int))) (wr.alloc (.cells #[.int .i64 (m : Int), .slice pra pr.length prc, .int .i64 pp] 46)).drew) := KS0.out _ BD.out PX.out
     rw [hpa]
     clear V V2 hA hb hf hcc hmem hrow hsy hBA hpa hg hc hS x0 x1 x2 x4 HFG HIP NON
     go_wp2
     refine wp_region_x (S := fun _ => (fun w' : World => w'.cell? ⟨w3.heap.size, 0, none⟩ = some (.slice na N.length nc) /\ w'.cell? ⟨w3.heap.size, 1, none⟩ = some (.slice (some ⟨fb, 0, none⟩) N.length N.length) /\ w'.cell? ⟨wr.heap.size, 0, none⟩ = some (.int .i64 (m : Int)) /\ w'.cell? ⟨wr.heap.size, 1, none⟩ = some (.slice pra pr.length prc) /\ w'.cell? ⟨fb, m * 2, none⟩ = some (.int .u64 (q1 : Int)) /\ w'.cell? ⟨fb, m * 2 + 1, none⟩ = some (.int .u64 (q2 : Int)))) (by kernel_rfl) ?_
     refine takeF (i := 0) (v := ?_) rfl (by kernel_rfl) (by decide +kernel) (by decide +kernel) (fun _ _ _ h => h) (Or.inl ⟨by rfl, ?_⟩) hs.out ?_
     rotate_left
     ·(intro w hSw; (try dsimp only at hSw); go_simp; try (with_reducible rfl))
     (try simp only [Act.put, lsA, lsZ, lsN])
     refine takeF (i := 1) (v := ?_) rfl (by kernel_rfl) (by decide +kernel) (by decide +kernel) (fun _ _ _ h => h) (Or.inl ⟨by rfl, ?_⟩) hs.out ?_
     rotate_left
     ·(intro w hSw; (try dsimp only at hSw); go_simp; try (with_reducible rfl))
     (try simp only [Act.put, lsA, lsZ, lsN])
     refine takeF (i := 2) (v := ?_) rfl (by kernel_rfl) (by decide +kernel) (by decide +kernel) (fun _ _ _ h => h) (Or.inl ⟨by rfl, ?_⟩) hs.out ?_
     rotate_left
     ·(intro w hSw; (try dsimp only at hSw); go_simp; try (with_reducible rfl))
     (try simp only [Act.put, lsA, lsZ, lsN])
     refine takeF (i := 3) (v := ?_) rfl (by kernel_rfl) (by decide +kernel) (by decide +kernel) (fun _ _ _ h => h) (Or.inl ⟨by rfl, ?_⟩) hs.out ?_
     rotate_left
     ·(intro w hSw; (try dsimp only at hSw); go_simp; try (with_reducible rfl))
     (try simp only [Act.put, lsA, lsZ, lsN])
     refine takeF (i := 5) (v := ?_) rfl (by kernel_rfl) (by decide +kernel) (by decide +kernel) (fun _ _ _ h => h) (Or.inl ⟨by rfl, ?_⟩) hs.out ?_
     rotate_left
     ·(intro w hSw; (try dsimp only at hSw); go_simp; try (with_reducible rfl))
     (try simp only [Act.put, lsA, lsZ, lsN])
     refine takeF (i := 6) (v := ?_) rfl (by kernel_rfl) (by decide +kernel) (by decide +kernel) (fun _ _ _ h => h) (Or.inl ⟨by rfl, ?_⟩) hs.out ?_
     rotate_left
     ·(intro w hSw; (try dsimp only at hSw); go_simp; try (with_reducible rfl))
     (try simp only [Act.put, lsA, lsZ, lsN])
     refine takeF (i := 7) (v := ?_) rfl (by kernel_rfl) (by decide +kernel) (by decide +kernel) (fun _ _ _ h => h) (Or.inl ⟨by rfl, ?_⟩) hs.out ?_
     rotate_left
     ·(intro w hSw; (try dsimp only at hSw); go_simp; try (with_reducible rfl))
     (try simp only [Act.put, lsA, lsZ, lsN])
     refine takeF (i := 8) (v := ?_) rfl (by kernel_rfl) (by decide +kernel) (by decide +kernel) (fun _ _ _ h => h) (Or.inl ⟨by rfl, ?_⟩) hs.out ?_
     rotate_left
     ·(intro w hSw; (try dsimp only at hSw); go_simp; try (with_reducible rfl))
     (try simp only [Act.put, lsA, lsZ, lsN])
     refine takeF (i := 9) (v := ?_) rfl (by kernel_rfl) (by decide +kernel) (by decide +kernel) (fun _ _ _ h => h) (Or.inl ⟨by rfl, ?_⟩) hs.out ?_
     rotate_left
     ·(intro w hSw; (try dsimp only at hSw); go_simp; try (with_reducible rfl))
     (try simp only [Act.put, lsA, lsZ, lsN])
     refine takeF (i := 10) (v := ?_) rfl (by kernel_rfl) (by decide +kernel) (by decide +kernel) (fun _ _ _ h => h) (Or.inl ⟨by rfl, ?_⟩) hs.out ?_
     rotate_left
     ·(intro w hSw; (try dsimp only at hSw); go_simp; try (with_reducible rfl))
     (try simp only [Act.put, lsA, lsZ, lsN])
     refine wpAnyX_one (j := 4) (by decide +kernel) rfl (fun K' hK => ?_)
     refine step_callX rfl 33 #[.agg #[.slice na N.length nc, .slice (some ⟨fb, 0, none⟩) N.length N.length], .slice pra pr.length prc, .agg #[.int .u64 0, .int .u64 0]] _ (run_of3 (v0 := .agg #[.slice na N.length nc, .slice (some ⟨fb, 0, none⟩) N.length N.length]) (v1 := .slice pra pr.length prc) (v2 := .agg #[.int .u64 0, .int .u64 0]) (by rfl) (by rfl) (by rfl) (by rfl) _) (OF.out _ BD.out) ?_
     rintro e w5 ⟨rfl, b5⟩
     have B5 : Hid (Below wr.heap.size wr w5 /\ w5.heap[wr.heap.size]? = some (.cells #[.int .i64 (m : Int), .slice pra pr.length prc, .int .i64 pp] 46)) := ⟨BD.out.trans (b5.mono BD.out.size), (b5.block _ (lt_of_block PX.out)).trans PX.out⟩
     clear b5 hs
     have hs : Hid ((fun w' : World => w'.cell? ⟨w3.heap.size, 0, none⟩ = some (.slice na N.length nc) /\ w'.cell? ⟨w3.heap.size, 1, none⟩ = some (.slice (some ⟨fb, 0, none⟩) N.length N.length) /\ w'.cell? ⟨wr.heap.size, 0, none⟩ = some (.int .i64 (m : Int)) /\ w'.cell? ⟨wr.heap.size, 1, none⟩ = some (.slice pra pr.length prc) /\ w'.cell? ⟨fb, m * 2, none⟩ = some (.int .u64 (q1 : Int)) /\ w'.cell? ⟨fb, m * 2 + 1, none⟩ = some (.int .u64 (q2 : Int))) w5) := KS0.out _ B5.out.1 B5.out.2
     refine ⟨_, rfl, hK.out _ _ hs.out ?_⟩
     clear hK K'
     (try simp only [Act.put, lsA, lsZ, lsN])
     refine wpAnyX_one (j := 11) (by decide +kernel) rfl (fun K' hK => ?_)
     refine step_callX rfl 34 #[sv (o1, o2), sv (q1, q2)] _ (run_wi2 (v0 := sv (o1, o2)) (v1 := sv (q1, q2)) (by rfl) (by rfl) (by rfl) _) (WC.out _) ?_
     rintro e w6 ⟨rfl, b6⟩
     have B6 : Hid (Below wr.heap.size wr w6 /\ w6.heap[wr.heap.size]? = some (.cells #[.int .i64 (m : Int), .slice pra pr.length prc, .int .i64 pp] 46)) := ⟨B5.out.1.trans (b6.mono B5.out.1.size), (b6.block _ (lt_of_block B5.out.2)).trans B5.out.2⟩
     clear b6 hs
     have hs : Hid ((fun w' : World => w'.cell? ⟨w3.heap.size, 0, none⟩ = some (.slice na N.length nc) /\ w'.cell? ⟨w3.heap.size, 1, none⟩ = some (.slice (some ⟨fb, 0, none⟩) N.length N.length) /\ w'.cell? ⟨wr.heap.size, 0, none⟩ = some (.int .i64 (m : Int)) /\ w'.cell? ⟨wr.heap.size, 1, none⟩ = some (.slice pra pr.length prc) /\ w'.cell? ⟨fb, m * 2, none⟩ = some (.int .u64 (q1 : Int)) /\ w'.cell? ⟨fb, m * 2 + 1, none⟩ = some (.int .u64 (q2 : Int))) w6) := KS0.out _ B6.out.1 B6.out.2
     refine ⟨_, rfl, hK.out _ _ hs.out ?_⟩
     clear hK K'
     (try simp only [Act.put, lsA, lsZ, lsN])
     refine takeF (i := 12) (v := ?_) rfl (by kernel_rfl) (by decide +kernel) (by decide +kernel) (fun _ _ _ h => h) (Or.inl ⟨by rfl, ?_⟩) hs.out ?_
     rotate_left
     ·(intro w hSw; (try dsimp only at hSw); go_simp; try (with_reducible rfl))
     (try simp only [Act.put, lsA, lsZ, lsN])
     refine wpAnyX_done (by decide +kernel) ?_
     have L6 : Hid (Below w.heap.size w w6) := HB2.out.trans (B6.out.1.mono HB2.out.size)
     clear hs
     cases A
     ·have Q := HH.out (62, (k2 : Int)) (by rw [V3.out]; rfl)
      have R2 : Hid (X1 = 62 /\ X2 = (k2 : Int)) := by show _ /\ _; simpa using Q
      clear Q
      go_wp2
      refine bodyPost_ret (results_tmp2 rfl _ _ _) rfl ?_
      exact ⟨by rw [R2.out.1, R2.out.2]; rfl, L6.out⟩
     ·have R2 : Hid (∀ j, j < k2 + 1 -> badP N (L.map setS) g.ps j = none) := HS.out (by rw [V3.out]; rfl)
      go_wp2
      go_roundw
      case rel => exact ⟨k2 + 1, by omega, by go_num, R2.out, L6.out, (B6.out.1.block _ (lt_of_block HI2.out.1)).trans HI2.out.1, (B6.out.1.block _ HI2.out.2.1.lt).trans HI2.out.2.1, HI2.out.2.2.later B6.out.1⟩
      case measure => simp [intOf]; omega
    ·obtain rfl : k2 = g.ps.length := by omega
     have R2 : Hid (X1 = 0 /\ X2 = 0) := by have := NON.out HF.out hf; show _ /\ _; simpa using this
     clear hf hb hg hc hS x0 x1 x2 x4
     go_wp2
     refine bodyPost_ret (results_tmp2 rfl _ _ _) rfl ?_
     exact ⟨by rw [R2.out.1, R2.out.2]; rfl, HB2.out⟩
theorem chkNull_no (g : GV) (na : Option Addr) (n nc : Nat) (w : World) (h : GAt 140737488355328 w g) (hpc : g.ps.length <= g.pc) (er at_ : Int) (hE : checkG g (checkF g.ts g.ns) = (er, at_)) (h0 : askU g n er ≠ 0) :
  Calls Try.prog 11 #[g.val, .slice na n nc] w fun e w' => e = .returned (.tuple #[.int .i64 (askU g n er), .int .i64 0]) /\ Below w.heap.size w w' := by
 have X0 : Hid ((w.alloc (gBox g)).heap[w.heap.size]? = some (gBox g)) := heap_alloc_new _ _
 have CK : Hid (Calls Try.prog 27 #[g.val, .slice na n nc] (w.alloc (gBox g)) fun e w' => e = .returned (.int .i64 (askU g n er)) /\ Below (w.alloc (gBox g)).heap.size (w.alloc (gBox g)) w') := askNull_S g na n nc _ (h.later (below_alloc w (gBox g))) hpc er at_ hE
 obtain ⟨x0, x1, x2, x3, x4⟩ := gb_cells X0.out
 have t1 : (askU g n er != 0) = true := by simpa using h0
 generalize askU g n er = U at *
 clear h hE
 go_enter Try.func11, Try.ntmps11
 go_wp2_with (go_at_call 27; refine CK.out.mono ?_; rintro e w2 ⟨rfl, b2⟩; have B2 : Hid (Below w.heap.size w w2) := (below_alloc w _).trans (b2.mono (below_alloc w _).size); clear b2)
 refine bodyPost_ret (results_tmp2 rfl _ _ _) rfl ?_
 exact ⟨rfl, B2.out⟩
theorem chkFirst_no (g : GV) (na fa : Option Addr) (n nc m fc : Nat) (w : World) (h : GAt 140737488355328 w g) (hpc : g.ps.length <= g.pc) (er at_ : Int) (hE : checkG g (checkF g.ts g.ns) = (er, at_)) (h0 : askC g n m er ≠ 0) :
  Calls Try.prog 12 #[g.val, .slice na n nc, .slice fa m fc] w fun e w' => e = .returned (.tuple #[.int .i64 (askC g n m er), .int .i64 0]) /\ Below w.heap.size w w' := by
 have X0 : Hid ((w.alloc (gBox g)).heap[w.heap.size]? = some (gBox g)) := heap_alloc_new _ _
 have CK : Hid (Calls Try.prog 29 #[g.val, .slice na n nc, .slice fa m fc] (w.alloc (gBox g)) fun e w' => e = .returned (.int .i64 (askC g n m er)) /\ Below (w.alloc (gBox g)).heap.size (w.alloc (gBox g)) w') := askC_S g na fa n nc m fc _ (h.later (below_alloc w (gBox g))) hpc er at_ hE
 obtain ⟨x0, x1, x2, x3, x4⟩ := gb_cells X0.out
 have t1 : (askC g n m er != 0) = true := by simpa using h0
 generalize askC g n m er = U at *
 clear h hE
 go_enter Try.func12, Try.ntmps12
 go_wp2_with (go_at_call 29; refine CK.out.mono ?_; rintro e w2 ⟨rfl, b2⟩; have B2 : Hid (Below w.heap.size w w2) := (below_alloc w _).trans (b2.mono (below_alloc w _).size); clear b2)
 refine bodyPost_ret (results_tmp2 rfl _ _ _) rfl ?_
 exact ⟨rfl, B2.out⟩
def chkNU (g : GV) (N : List Bool) (er : Int) : Int × Int := if askU g N.length er ≠ 0 then (askU g N.length er, 0) else chkN N g.ps
def chkFU (g : GV) (N : List Bool) (L : List (List Int)) (er : Int) : Int × Int := if askC g N.length L.length er ≠ 0 then (askC g N.length L.length er, 0) else chkF N L g.ps g.ts.length
theorem chkNull_S (g : GV) (na : Option Addr) (nc : Nat) (N : List Bool) (w : World) (h : GAt 140737488355328 w g) (hpc : g.ps.length <= g.pc) (er at_ : Int) (hE : checkG g (checkF g.ts g.ns) = (er, at_)) (hN : BRow w na N) :
  Calls Try.prog 11 #[g.val, .slice na N.length nc] w fun e w' => e = .returned (.tuple #[.int .i64 (chkNU g N er).1, .int .i64 (chkNU g N er).2]) /\ Below w.heap.size w w' := by
 by_cases h0 : askU g N.length er ≠ 0
 ·have := chkNull_no g na N.length nc w h hpc er at_ hE h0
  simpa [chkNU, h0] using this
 ·have e0 : er = 0 := by
   by_cases q : er = 0
   ·exact q
   ·exact absurd (by simp [askU, q] : askU g N.length er ≠ 0) h0
  subst e0
  have e1 : N.length = g.ns.length := by
   by_cases q : N.length = g.ns.length
   ·exact q
   ·exact absurd (by simp [askU, q] : askU g N.length 0 ≠ 0) h0
  have := chkNull_ok g na nc N w h hpc at_ hE hN e1
  rwa [show chkNU g N 0 = chkN N g.ps by rw [chkNU, if_neg h0]]
theorem chkFirst_S (g : GV) (na : Option Addr) (nc : Nat) (N : List Bool) (fa : Option Addr) (fc : Nat) (L : List (List Int)) (w : World) (h : GAt 140737488355328 w g) (hpc : g.ps.length <= g.pc) (er at_ : Int) (hE : checkG g (checkF g.ts g.ns) = (er, at_)) (hN : BRow w na N) (hL : LsRow w fa L) (hll : ∀ l ∈ L, l.length <= 140737488355328) :
  Calls Try.prog 12 #[g.val, .slice na N.length nc, .slice fa L.length fc] w fun e w' => e = .returned (.tuple #[.int .i64 (chkFU g N L er).1, .int .i64 (chkFU g N L er).2]) /\ Below w.heap.size w w' := by
 by_cases h0 : askC g N.length L.length er ≠ 0
 ·have := chkFirst_no g na fa N.length nc L.length fc w h hpc er at_ hE h0
  simpa [chkFU, h0] using this
 ·have e0 : er = 0 := by
   by_cases q : er = 0
   ·exact q
   ·exact absurd (by simp [askC, askU, q] : askC g N.length L.length er ≠ 0) h0
  subst e0
  have e1 : N.length = g.ns.length := by
   by_cases q : N.length = g.ns.length
   ·exact q
   ·exact absurd (by simp [askC, askU, q] : askC g N.length L.length 0 ≠ 0) h0
  have e2 : L.length = g.ns.length := by
   by_cases q : L.length = g.ns.length
   ·exact q
   ·exact absurd (by simp [askC, askU, q, e1] : askC g N.length L.length 0 ≠ 0) h0
  have := chkFirst_ok g na nc N fa fc L w h hpc at_ hE hN e1 hL e2 hll
  rwa [show chkFU g N L 0 = chkF N L g.ps g.ts.length by rw [chkFU, if_neg h0]]
end Go.Proofs.Ytfgdpmcpjpceoaa
