import Derived.Test.YtflcnlefcnclkaaFChk6
namespace Go.Proofs.Ytflcnlefcnclkaa
set_option linter.unusedVariables false
open Go.RowKit

section
variable {P : Program} {ops : Array Oper} {Q : Exit → Act → World → Prop} {md : Region.Mode} {S : Array Bool → World → Prop}
/-- Any of these may come up. -/
theorem wpAnyX_pick {l : List Nat} {fuel : Nat} {listed : Array Bool} {a : Act} {w : World} (hr : Region.ready md ops listed = l) (hne : l ≠ [])
    (h : ∀ j ∈ l, ∃ o, ops.toList[j]? = some o ∧ ∀ K' : Act → World → Prop, Shut (∀ a' w', S (listed.setIfInBounds j true) w' → wpAnyX P md ops Q S fuel (listed.setIfInBounds j true) a' w' → K' a' w') → if Region.wanted o (yielded ops a.tmps) = true then Oper.wp P o a w K' Q else K' (a.put o.dst undef) w) :
    wpAnyX P md ops Q S (fuel + 1) listed a w := by
  refine ⟨fun h0 => absurd (hr.symm.trans h0) hne, fun i hi => ?_⟩
  rw [hr] at hi
  obtain ⟨o, ho', h⟩ := h i hi
  have ho : ops[i]? = some o := by rw [← Array.getElem?_toList]; exact ho'
  exact wpOp_step ho (fun K' hK => h K' (fun a' w' hS hW => hK a' w' ⟨hS, hW⟩))
/-- What one operation does that lays a block of its own: block b, its value f b, of which T is told. -/
def Lays (P : Program) (ops : Array Oper) (Q : Exit → Act → World → Prop) (o : Oper) (I : World → Prop) (At : Act → Prop) (T : Nat → World → Prop) (f : Nat → Value) : Prop :=
  ∀ (a : Act) (w : World) (K : Act → World → Prop), At a → I w → (∀ b w', Below w.heap.size w w' → w.heap.size ≤ b → T b w' → K (a.put o.dst (f b)) w') → if Region.wanted o (yielded ops a.tmps) = true then Oper.wp P o a w K Q else K (a.put o.dst undef) w
theorem put_comm (a : Act) {d e : Nat} (h : d ≠ e) (u v : Value) : (a.put (some d) u).put (some e) v = (a.put (some e) v).put (some d) u := by
  simp only [Act.put, Act.mk.injEq, and_true]
  exact Array.setIfInBounds_comm _ _ h
theorem set_comm (L : Array Bool) (i j : Nat) : (L.setIfInBounds i true).setIfInBounds j true = (L.setIfInBounds j true).setIfInBounds i true := by
  by_cases h : i = j
  · rw [h]
  · exact Array.setIfInBounds_comm _ _ h
/-- What holds of a block goes on. -/
def Goes (T : Nat → World → Prop) : Prop := ∀ b w, T b w → b < w.heap.size ∧ ∀ w', Below w.heap.size w w' → T b w'
/-- Three that wait for nothing and lay a block each, in any order: the same comes of it. -/
theorem wpAnyX_three {o1 o2 o3 : Oper} {d1 d2 d3 : Nat} {L : Array Bool} {a : Act} {w : World} {fuel : Nat} (j1 j2 j3 : Nat) (h1 : ops.toList[j1]? = some o1) (h2 : ops.toList[j2]? = some o2) (h3 : ops.toList[j3]? = some o3)
    (e1 : o1.dst = some d1) (e2 : o2.dst = some d2) (e3 : o3.dst = some d3) (hd : d1 ≠ d2 ∧ d1 ≠ d3 ∧ d2 ≠ d3)
    (r : Region.ready md ops L = [j1, j2, j3]) (r1 : Region.ready md ops (L.setIfInBounds j1 true) = [j2, j3]) (r2 : Region.ready md ops (L.setIfInBounds j2 true) = [j1, j3]) (r3 : Region.ready md ops (L.setIfInBounds j3 true) = [j1, j2])
    (r12 : Region.ready md ops ((L.setIfInBounds j1 true).setIfInBounds j2 true) = [j3]) (r13 : Region.ready md ops ((L.setIfInBounds j1 true).setIfInBounds j3 true) = [j2]) (r23 : Region.ready md ops ((L.setIfInBounds j2 true).setIfInBounds j3 true) = [j1])
    {I : World → Prop} (hI : ∀ w' w'', I w' → Below w'.heap.size w' w'' → I w'') (hS : ∀ w' L', I w' → S L' w')
    {T1 T2 T3 : Nat → World → Prop} {f1 f2 f3 : Nat → Value} (t1 : Goes T1) (t2 : Goes T2) (t3 : Goes T3)
    {At : Act → Prop} (hAt : At a) (a1 : ∀ a v, At a → At (a.put (some d1) v)) (a2 : ∀ a v, At a → At (a.put (some d2) v)) (a3 : ∀ a v, At a → At (a.put (some d3) v))
    (s1 : Lays P ops Q o1 I At T1 f1) (s2 : Lays P ops Q o2 I At T2 f2) (s3 : Lays P ops Q o3 I At T3 f3) (hw : I w)
    (h : ∀ b1 b2 b3 w', I w' → Below w.heap.size w w' → w.heap.size ≤ b1 ∧ w.heap.size ≤ b2 ∧ w.heap.size ≤ b3 → b1 ≠ b2 ∧ b1 ≠ b3 ∧ b2 ≠ b3 → T1 b1 w' → T2 b2 w' → T3 b3 w' → wpAnyX P md ops Q S fuel (((L.setIfInBounds j1 true).setIfInBounds j2 true).setIfInBounds j3 true) (((a.put (some d1) (f1 b1)).put (some d2) (f2 b2)).put (some d3) (f3 b3)) w') :
    wpAnyX P md ops Q S (fuel + 1 + 1 + 1) L a w := by
  have r21 : Region.ready md ops ((L.setIfInBounds j2 true).setIfInBounds j1 true) = [j3] := by rw [set_comm]; exact r12
  have r31 : Region.ready md ops ((L.setIfInBounds j3 true).setIfInBounds j1 true) = [j2] := by rw [set_comm]; exact r13
  have r32 : Region.ready md ops ((L.setIfInBounds j3 true).setIfInBounds j2 true) = [j1] := by rw [set_comm]; exact r23
  have one : ∀ {j : Nat} {o : Oper} {d : Nat} {T : Nat → World → Prop} {f : Nat → Value} {L' : Array Bool} {a' : Act} {v : World} {n : Nat}, ops.toList[j]? = some o → o.dst = some d → Lays P ops Q o I At T f → At a' → I v →
      (∀ b w', I w' → Below v.heap.size v w' → v.heap.size ≤ b → T b w' → wpAnyX P md ops Q S n (L'.setIfInBounds j true) (a'.put (some d) (f b)) w') →
      ∃ o, ops.toList[j]? = some o ∧ ∀ K' : Act → World → Prop, Shut (∀ a'' w', S (L'.setIfInBounds j true) w' → wpAnyX P md ops Q S n (L'.setIfInBounds j true) a'' w' → K' a'' w') → if Region.wanted o (yielded ops a'.tmps) = true then Oper.wp P o a' v K' Q else K' (a'.put o.dst undef) v :=
    fun {j o d T f L' a' v n} ho hdst hs hat hi hc => ⟨o, ho, fun K' hK => hs a' v K' hat hi fun b w' hb hl ht => hK.out _ _ (hS _ _ (hI _ _ hi hb)) (by rw [hdst]; exact hc b w' (hI _ _ hi hb) hb hl ht)⟩
  refine wpAnyX_pick r (by simp) (fun j hj => ?_)
  simp only [List.mem_cons, List.not_mem_nil, or_false] at hj
  rcases hj with hj | hj | hj <;> rw [hj]
  · refine one h1 e1 s1 hAt hw (fun b1 w1 i1 B1 l1 q1 => ?_)
    refine wpAnyX_pick r1 (by simp) (fun j hj => ?_)
    simp only [List.mem_cons, List.not_mem_nil, or_false] at hj
    rcases hj with hj | hj <;> rw [hj]
    · refine one h2 e2 s2 (a1 _ _ hAt) i1 (fun b2 w2 i2 B2 l2 q2 => ?_)
      refine wpAnyX_pick r12 (by simp) (fun j hj => ?_)
      simp only [List.mem_cons, List.not_mem_nil, or_false] at hj
      rw [hj]
      refine one h3 e3 s3 (a2 _ _ (a1 _ _ hAt)) i2 (fun b3 w3 i3 B3 l3 q3 => ?_)
      have k1 := (t1 _ _ q1).1
      have k2 := (t2 _ _ q2).1
      have z1 := B1.size
      have z2 := B2.size
      have g := h b1 b2 b3 w3 i3 ((B1.trans (B2.mono z1)).trans (B3.mono (Nat.le_trans z1 z2))) (by omega) (by omega) ((t1 _ _ ((t1 _ _ q1).2 _ B2)).2 _ B3) ((t2 _ _ q2).2 _ B3) q3
      exact g
    · refine one h3 e3 s3 (a1 _ _ hAt) i1 (fun b3 w2 i2 B2 l3 q3 => ?_)
      refine wpAnyX_pick r13 (by simp) (fun j hj => ?_)
      simp only [List.mem_cons, List.not_mem_nil, or_false] at hj
      rw [hj]
      refine one h2 e2 s2 (a3 _ _ (a1 _ _ hAt)) i2 (fun b2 w3 i3 B3 l2 q2 => ?_)
      have k1 := (t1 _ _ q1).1
      have k3 := (t3 _ _ q3).1
      have z1 := B1.size
      have z2 := B2.size
      have g := h b1 b2 b3 w3 i3 ((B1.trans (B2.mono z1)).trans (B3.mono (Nat.le_trans z1 z2))) (by omega) (by omega) ((t1 _ _ ((t1 _ _ q1).2 _ B2)).2 _ B3) q2 ((t3 _ _ q3).2 _ B3)
      rw [set_comm _ j3 j2, put_comm _ (Ne.symm hd.2.2) (f3 b3) (f2 b2)]
      exact g
  · refine one h2 e2 s2 hAt hw (fun b2 w1 i1 B1 l2 q2 => ?_)
    refine wpAnyX_pick r2 (by simp) (fun j hj => ?_)
    simp only [List.mem_cons, List.not_mem_nil, or_false] at hj
    rcases hj with hj | hj <;> rw [hj]
    · refine one h1 e1 s1 (a2 _ _ hAt) i1 (fun b1 w2 i2 B2 l1 q1 => ?_)
      refine wpAnyX_pick r21 (by simp) (fun j hj => ?_)
      simp only [List.mem_cons, List.not_mem_nil, or_false] at hj
      rw [hj]
      refine one h3 e3 s3 (a1 _ _ (a2 _ _ hAt)) i2 (fun b3 w3 i3 B3 l3 q3 => ?_)
      have k2 := (t2 _ _ q2).1
      have k1 := (t1 _ _ q1).1
      have z1 := B1.size
      have z2 := B2.size
      have g := h b1 b2 b3 w3 i3 ((B1.trans (B2.mono z1)).trans (B3.mono (Nat.le_trans z1 z2))) (by omega) (by omega) ((t1 _ _ q1).2 _ B3) ((t2 _ _ ((t2 _ _ q2).2 _ B2)).2 _ B3) q3
      rw [set_comm _ j2 j1, put_comm _ (Ne.symm hd.1) (f2 b2) (f1 b1)]
      exact g
    · refine one h3 e3 s3 (a2 _ _ hAt) i1 (fun b3 w2 i2 B2 l3 q3 => ?_)
      refine wpAnyX_pick r23 (by simp) (fun j hj => ?_)
      simp only [List.mem_cons, List.not_mem_nil, or_false] at hj
      rw [hj]
      refine one h1 e1 s1 (a3 _ _ (a2 _ _ hAt)) i2 (fun b1 w3 i3 B3 l1 q1 => ?_)
      have k2 := (t2 _ _ q2).1
      have k3 := (t3 _ _ q3).1
      have z1 := B1.size
      have z2 := B2.size
      have g := h b1 b2 b3 w3 i3 ((B1.trans (B2.mono z1)).trans (B3.mono (Nat.le_trans z1 z2))) (by omega) (by omega) q1 ((t2 _ _ ((t2 _ _ q2).2 _ B2)).2 _ B3) ((t3 _ _ q3).2 _ B3)
      rw [set_comm _ j3 j1, put_comm _ (Ne.symm hd.2.1) (f3 b3) (f1 b1)]
      rw [set_comm _ j2 j1, put_comm _ (Ne.symm hd.1) (f2 b2) (f1 b1)]
      exact g
  · refine one h3 e3 s3 hAt hw (fun b3 w1 i1 B1 l3 q3 => ?_)
    refine wpAnyX_pick r3 (by simp) (fun j hj => ?_)
    simp only [List.mem_cons, List.not_mem_nil, or_false] at hj
    rcases hj with hj | hj <;> rw [hj]
    · refine one h1 e1 s1 (a3 _ _ hAt) i1 (fun b1 w2 i2 B2 l1 q1 => ?_)
      refine wpAnyX_pick r31 (by simp) (fun j hj => ?_)
      simp only [List.mem_cons, List.not_mem_nil, or_false] at hj
      rw [hj]
      refine one h2 e2 s2 (a1 _ _ (a3 _ _ hAt)) i2 (fun b2 w3 i3 B3 l2 q2 => ?_)
      have k3 := (t3 _ _ q3).1
      have k1 := (t1 _ _ q1).1
      have z1 := B1.size
      have z2 := B2.size
      have g := h b1 b2 b3 w3 i3 ((B1.trans (B2.mono z1)).trans (B3.mono (Nat.le_trans z1 z2))) (by omega) (by omega) ((t1 _ _ q1).2 _ B3) q2 ((t3 _ _ ((t3 _ _ q3).2 _ B2)).2 _ B3)
      rw [set_comm _ j3 j1, put_comm _ (Ne.symm hd.2.1) (f3 b3) (f1 b1)]
      rw [set_comm _ j3 j2, put_comm _ (Ne.symm hd.2.2) (f3 b3) (f2 b2)]
      exact g
    · refine one h2 e2 s2 (a3 _ _ hAt) i1 (fun b2 w2 i2 B2 l2 q2 => ?_)
      refine wpAnyX_pick r32 (by simp) (fun j hj => ?_)
      simp only [List.mem_cons, List.not_mem_nil, or_false] at hj
      rw [hj]
      refine one h1 e1 s1 (a2 _ _ (a3 _ _ hAt)) i2 (fun b1 w3 i3 B3 l1 q1 => ?_)
      have k3 := (t3 _ _ q3).1
      have k2 := (t2 _ _ q2).1
      have z1 := B1.size
      have z2 := B2.size
      have g := h b1 b2 b3 w3 i3 ((B1.trans (B2.mono z1)).trans (B3.mono (Nat.le_trans z1 z2))) (by omega) (by omega) q1 ((t2 _ _ q2).2 _ B3) ((t3 _ _ ((t3 _ _ q3).2 _ B2)).2 _ B3)
      rw [set_comm _ j3 j2, put_comm _ (Ne.symm hd.2.2) (f3 b3) (f2 b2)]
      rw [set_comm _ j3 j1, put_comm _ (Ne.symm hd.2.1) (f3 b3) (f1 b1)]
      rw [set_comm _ j2 j1, put_comm _ (Ne.symm hd.1) (f2 b2) (f1 b1)]
      exact g
/-- As above, and a fourth that waits for the first two and writes nothing. -/
theorem wpAnyX_three4 {o1 o2 o3 o4 : Oper} {d1 d2 d3 d4 : Nat} {L : Array Bool} {a : Act} {w : World} {fuel : Nat} (j1 j2 j3 j4 : Nat) (h1 : ops.toList[j1]? = some o1) (h2 : ops.toList[j2]? = some o2) (h3 : ops.toList[j3]? = some o3) (h4 : ops.toList[j4]? = some o4)
    (e1 : o1.dst = some d1) (e2 : o2.dst = some d2) (e3 : o3.dst = some d3) (e4 : o4.dst = some d4) (hd : d1 ≠ d2 ∧ d1 ≠ d3 ∧ d2 ≠ d3 ∧ d3 ≠ d4)
    (r : Region.ready md ops L = [j1, j2, j3]) (r1 : Region.ready md ops (L.setIfInBounds j1 true) = [j2, j3]) (r2 : Region.ready md ops (L.setIfInBounds j2 true) = [j1, j3]) (r3 : Region.ready md ops (L.setIfInBounds j3 true) = [j1, j2])
    (r12 : Region.ready md ops ((L.setIfInBounds j1 true).setIfInBounds j2 true) = [j4, j3]) (r13 : Region.ready md ops ((L.setIfInBounds j1 true).setIfInBounds j3 true) = [j2]) (r23 : Region.ready md ops ((L.setIfInBounds j2 true).setIfInBounds j3 true) = [j1])
    (r123 : Region.ready md ops (((L.setIfInBounds j1 true).setIfInBounds j2 true).setIfInBounds j3 true) = [j4]) (r124 : Region.ready md ops (((L.setIfInBounds j1 true).setIfInBounds j2 true).setIfInBounds j4 true) = [j3])
    {I : World → Prop} (hI : ∀ w' w'', I w' → Below w'.heap.size w' w'' → I w'') (hS : ∀ w' L', I w' → S L' w')
    {T1 T2 T3 : Nat → World → Prop} {f1 f2 f3 : Nat → Value} {f4 : Nat → Nat → Value} (t1 : Goes T1) (t2 : Goes T2) (t3 : Goes T3)
    {At : Act → Prop} (hAt : At a) (a1 : ∀ a v, At a → At (a.put (some d1) v)) (a2 : ∀ a v, At a → At (a.put (some d2) v)) (a3 : ∀ a v, At a → At (a.put (some d3) v)) (a4 : ∀ a v, At a → At (a.put (some d4) v))
    (s1 : Lays P ops Q o1 I At T1 f1) (s2 : Lays P ops Q o2 I At T2 f2) (s3 : Lays P ops Q o3 I At T3 f3)
    (s4 : ∀ (w : World) (K : Act → World → Prop) b1 b2, K (((a.put (some d1) (f1 b1)).put (some d2) (f2 b2)).put (some d4) (f4 b1 b2)) w → if Region.wanted o4 (yielded ops ((a.put (some d1) (f1 b1)).put (some d2) (f2 b2)).tmps) = true then Oper.wp P o4 ((a.put (some d1) (f1 b1)).put (some d2) (f2 b2)) w K Q else K (((a.put (some d1) (f1 b1)).put (some d2) (f2 b2)).put o4.dst undef) w)
    (s5 : ∀ (w : World) (K : Act → World → Prop) b1 b2 b3, K ((((a.put (some d1) (f1 b1)).put (some d2) (f2 b2)).put (some d3) (f3 b3)).put (some d4) (f4 b1 b2)) w → if Region.wanted o4 (yielded ops (((a.put (some d1) (f1 b1)).put (some d2) (f2 b2)).put (some d3) (f3 b3)).tmps) = true then Oper.wp P o4 (((a.put (some d1) (f1 b1)).put (some d2) (f2 b2)).put (some d3) (f3 b3)) w K Q else K ((((a.put (some d1) (f1 b1)).put (some d2) (f2 b2)).put (some d3) (f3 b3)).put o4.dst undef) w) (hw : I w)
    (h : ∀ b1 b2 b3 w', I w' → Below w.heap.size w w' → w.heap.size ≤ b1 ∧ w.heap.size ≤ b2 ∧ w.heap.size ≤ b3 → b1 ≠ b2 ∧ b1 ≠ b3 ∧ b2 ≠ b3 → T1 b1 w' → T2 b2 w' → T3 b3 w' → wpAnyX P md ops Q S fuel ((((L.setIfInBounds j1 true).setIfInBounds j2 true).setIfInBounds j3 true).setIfInBounds j4 true) ((((a.put (some d1) (f1 b1)).put (some d2) (f2 b2)).put (some d3) (f3 b3)).put (some d4) (f4 b1 b2)) w') :
    wpAnyX P md ops Q S (fuel + 1 + 1 + 1 + 1) L a w := by
  have r31 : Region.ready md ops ((L.setIfInBounds j3 true).setIfInBounds j1 true) = [j2] := by rw [set_comm]; exact r13
  have r32 : Region.ready md ops ((L.setIfInBounds j3 true).setIfInBounds j2 true) = [j1] := by rw [set_comm]; exact r23
  have one : ∀ {j : Nat} {o : Oper} {d : Nat} {T : Nat → World → Prop} {f : Nat → Value} {L' : Array Bool} {a' : Act} {v : World} {n : Nat}, ops.toList[j]? = some o → o.dst = some d → Lays P ops Q o I At T f → At a' → I v →
      (∀ b w', I w' → Below v.heap.size v w' → v.heap.size ≤ b → T b w' → wpAnyX P md ops Q S n (L'.setIfInBounds j true) (a'.put (some d) (f b)) w') →
      ∃ o, ops.toList[j]? = some o ∧ ∀ K' : Act → World → Prop, Shut (∀ a'' w', S (L'.setIfInBounds j true) w' → wpAnyX P md ops Q S n (L'.setIfInBounds j true) a'' w' → K' a'' w') → if Region.wanted o (yielded ops a'.tmps) = true then Oper.wp P o a' v K' Q else K' (a'.put o.dst undef) v :=
    fun {j o d T f L' a' v n} ho hdst hs hat hi hc => ⟨o, ho, fun K' hK => hs a' v K' hat hi fun b w' hb hl ht => hK.out _ _ (hS _ _ (hI _ _ hi hb)) (by rw [hdst]; exact hc b w' (hI _ _ hi hb) hb hl ht)⟩
  have fin : ∀ b1 b2 b3 w', I w' → wpAnyX P md ops Q S fuel ((((L.setIfInBounds j1 true).setIfInBounds j2 true).setIfInBounds j3 true).setIfInBounds j4 true) ((((a.put (some d1) (f1 b1)).put (some d2) (f2 b2)).put (some d3) (f3 b3)).put (some d4) (f4 b1 b2)) w' → wpAnyX P md ops Q S (fuel + 1) (((L.setIfInBounds j1 true).setIfInBounds j2 true).setIfInBounds j3 true) (((a.put (some d1) (f1 b1)).put (some d2) (f2 b2)).put (some d3) (f3 b3)) w' :=
    fun b1 b2 b3 w' hi g => wpAnyX_pick r123 (by simp) (fun j hj => by
      simp only [List.mem_cons, List.not_mem_nil, or_false] at hj
      rw [hj]
      exact ⟨o4, h4, fun K' hK => s5 w' K' b1 b2 b3 (hK.out _ _ (hS _ _ hi) g)⟩)
  have mid : ∀ b1 b2 w', I w' → Below w.heap.size w w' → w.heap.size ≤ b1 ∧ w.heap.size ≤ b2 → b1 ≠ b2 → T1 b1 w' → T2 b2 w' → wpAnyX P md ops Q S (fuel + 1 + 1) ((L.setIfInBounds j1 true).setIfInBounds j2 true) ((a.put (some d1) (f1 b1)).put (some d2) (f2 b2)) w' := by
    intro b1 b2 w2 i2 B2 l2 n2 q1 q2
    have k1 := (t1 _ _ q1).1
    have k2 := (t2 _ _ q2).1
    have z2 := B2.size
    refine wpAnyX_pick r12 (by simp) (fun j hj => ?_)
    simp only [List.mem_cons, List.not_mem_nil, or_false] at hj
    rcases hj with hj | hj <;> rw [hj]
    · refine ⟨o4, h4, fun K' hK => s4 w2 K' b1 b2 (hK.out _ _ (hS _ _ i2) ?_)⟩
      refine wpAnyX_pick r124 (by simp) (fun j hj => ?_)
      simp only [List.mem_cons, List.not_mem_nil, or_false] at hj
      rw [hj]
      refine one h3 e3 s3 (a4 _ _ (a2 _ _ (a1 _ _ hAt))) i2 (fun b3 w3 i3 B3 l3 q3 => ?_)
      have g := h b1 b2 b3 w3 i3 (B2.trans (B3.mono z2)) (by omega) (by omega) ((t1 _ _ q1).2 _ B3) ((t2 _ _ q2).2 _ B3) q3
      rw [set_comm _ j4 j3, put_comm _ (Ne.symm hd.2.2.2) (f4 b1 b2) (f3 b3)]
      exact g
    · refine one h3 e3 s3 (a2 _ _ (a1 _ _ hAt)) i2 (fun b3 w3 i3 B3 l3 q3 => ?_)
      exact fin b1 b2 b3 w3 i3 (h b1 b2 b3 w3 i3 (B2.trans (B3.mono z2)) (by omega) (by omega) ((t1 _ _ q1).2 _ B3) ((t2 _ _ q2).2 _ B3) q3)
  refine wpAnyX_pick r (by simp) (fun j hj => ?_)
  simp only [List.mem_cons, List.not_mem_nil, or_false] at hj
  rcases hj with hj | hj | hj <;> rw [hj]
  · refine one h1 e1 s1 hAt hw (fun b1 w1 i1 B1 l1 q1 => ?_)
    refine wpAnyX_pick r1 (by simp) (fun j hj => ?_)
    simp only [List.mem_cons, List.not_mem_nil, or_false] at hj
    rcases hj with hj | hj <;> rw [hj]
    · refine one h2 e2 s2 (a1 _ _ hAt) i1 (fun b2 w2 i2 B2 l2 q2 => ?_)
      have k1 := (t1 _ _ q1).1
      have k2 := (t2 _ _ q2).1
      have z1 := B1.size
      have z2 := B2.size
      have g := mid b1 b2 w2 i2 (B1.trans (B2.mono z1)) (by omega) (by omega) ((t1 _ _ q1).2 _ B2) q2
      exact g
    · refine one h3 e3 s3 (a1 _ _ hAt) i1 (fun b3 w2 i2 B2 l3 q3 => ?_)
      have k1 := (t1 _ _ q1).1
      have k3 := (t3 _ _ q3).1
      have z1 := B1.size
      have z2 := B2.size
      refine wpAnyX_pick r13 (by simp) (fun j hj => ?_)
      simp only [List.mem_cons, List.not_mem_nil, or_false] at hj
      rw [hj]
      refine one h2 e2 s2 (a3 _ _ (a1 _ _ hAt)) i2 (fun b2 w3 i3 B3 l2 q2 => ?_)
      have g := fin b1 b2 b3 w3 i3 (h b1 b2 b3 w3 i3 ((B1.trans (B2.mono z1)).trans (B3.mono (Nat.le_trans z1 z2))) (by omega) (by omega) ((t1 _ _ ((t1 _ _ q1).2 _ B2)).2 _ B3) q2 ((t3 _ _ q3).2 _ B3))
      rw [set_comm _ j3 j2, put_comm _ (Ne.symm hd.2.2.1) (f3 b3) (f2 b2)]
      exact g
  · refine one h2 e2 s2 hAt hw (fun b2 w1 i1 B1 l2 q2 => ?_)
    refine wpAnyX_pick r2 (by simp) (fun j hj => ?_)
    simp only [List.mem_cons, List.not_mem_nil, or_false] at hj
    rcases hj with hj | hj <;> rw [hj]
    · refine one h1 e1 s1 (a2 _ _ hAt) i1 (fun b1 w2 i2 B2 l1 q1 => ?_)
      have k2 := (t2 _ _ q2).1
      have k1 := (t1 _ _ q1).1
      have z1 := B1.size
      have z2 := B2.size
      have g := mid b1 b2 w2 i2 (B1.trans (B2.mono z1)) (by omega) (by omega) q1 ((t2 _ _ q2).2 _ B2)
      rw [set_comm _ j2 j1, put_comm _ (Ne.symm hd.1) (f2 b2) (f1 b1)]
      exact g
    · refine one h3 e3 s3 (a2 _ _ hAt) i1 (fun b3 w2 i2 B2 l3 q3 => ?_)
      have k2 := (t2 _ _ q2).1
      have k3 := (t3 _ _ q3).1
      have z1 := B1.size
      have z2 := B2.size
      refine wpAnyX_pick r23 (by simp) (fun j hj => ?_)
      simp only [List.mem_cons, List.not_mem_nil, or_false] at hj
      rw [hj]
      refine one h1 e1 s1 (a3 _ _ (a2 _ _ hAt)) i2 (fun b1 w3 i3 B3 l1 q1 => ?_)
      have g := fin b1 b2 b3 w3 i3 (h b1 b2 b3 w3 i3 ((B1.trans (B2.mono z1)).trans (B3.mono (Nat.le_trans z1 z2))) (by omega) (by omega) q1 ((t2 _ _ ((t2 _ _ q2).2 _ B2)).2 _ B3) ((t3 _ _ q3).2 _ B3))
      rw [set_comm _ j3 j1, put_comm _ (Ne.symm hd.2.1) (f3 b3) (f1 b1)]
      rw [set_comm _ j2 j1, put_comm _ (Ne.symm hd.1) (f2 b2) (f1 b1)]
      exact g
  · refine one h3 e3 s3 hAt hw (fun b3 w1 i1 B1 l3 q3 => ?_)
    refine wpAnyX_pick r3 (by simp) (fun j hj => ?_)
    simp only [List.mem_cons, List.not_mem_nil, or_false] at hj
    rcases hj with hj | hj <;> rw [hj]
    · refine one h1 e1 s1 (a3 _ _ hAt) i1 (fun b1 w2 i2 B2 l1 q1 => ?_)
      have k3 := (t3 _ _ q3).1
      have k1 := (t1 _ _ q1).1
      have z1 := B1.size
      have z2 := B2.size
      refine wpAnyX_pick r31 (by simp) (fun j hj => ?_)
      simp only [List.mem_cons, List.not_mem_nil, or_false] at hj
      rw [hj]
      refine one h2 e2 s2 (a1 _ _ (a3 _ _ hAt)) i2 (fun b2 w3 i3 B3 l2 q2 => ?_)
      have g := fin b1 b2 b3 w3 i3 (h b1 b2 b3 w3 i3 ((B1.trans (B2.mono z1)).trans (B3.mono (Nat.le_trans z1 z2))) (by omega) (by omega) ((t1 _ _ q1).2 _ B3) q2 ((t3 _ _ ((t3 _ _ q3).2 _ B2)).2 _ B3))
      rw [set_comm _ j3 j1, put_comm _ (Ne.symm hd.2.1) (f3 b3) (f1 b1)]
      rw [set_comm _ j3 j2, put_comm _ (Ne.symm hd.2.2.1) (f3 b3) (f2 b2)]
      exact g
    · refine one h2 e2 s2 (a3 _ _ hAt) i1 (fun b2 w2 i2 B2 l2 q2 => ?_)
      have k3 := (t3 _ _ q3).1
      have k2 := (t2 _ _ q2).1
      have z1 := B1.size
      have z2 := B2.size
      refine wpAnyX_pick r32 (by simp) (fun j hj => ?_)
      simp only [List.mem_cons, List.not_mem_nil, or_false] at hj
      rw [hj]
      refine one h1 e1 s1 (a2 _ _ (a3 _ _ hAt)) i2 (fun b1 w3 i3 B3 l1 q1 => ?_)
      have g := fin b1 b2 b3 w3 i3 (h b1 b2 b3 w3 i3 ((B1.trans (B2.mono z1)).trans (B3.mono (Nat.le_trans z1 z2))) (by omega) (by omega) q1 ((t2 _ _ q2).2 _ B3) ((t3 _ _ ((t3 _ _ q3).2 _ B2)).2 _ B3))
      rw [set_comm _ j3 j2, put_comm _ (Ne.symm hd.2.2.1) (f3 b3) (f2 b2)]
      rw [set_comm _ j3 j1, put_comm _ (Ne.symm hd.2.1) (f3 b3) (f1 b1)]
      rw [set_comm _ j2 j1, put_comm _ (Ne.symm hd.1) (f2 b2) (f1 b1)]
      exact g
end
end Go.Proofs.Ytflcnlefcnclkaa
