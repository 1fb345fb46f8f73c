import Derived.Test.YtmpdgmigpjfcpaaDoorBZ10
import Derived.ArgAppend
namespace Go.Proofs.YtmpdgmigpjfcpaaDoor
set_option linter.unusedVariables false
open Go.RowKit Go.Shelf

/-- A queue in memory: a part of block b. -/
structure QuB (w : World) (b : Nat) (v : Value) (l : List Nat) : Prop where
  is : ∃ (off c : Nat) (cur : Array Value), v = .slice (some ⟨b, off, none⟩) l.length c ∧ w.heap[b]? = some (.cells cur 3) ∧ l.length ≤ c ∧ off + c ≤ cur.size ∧ ∀ i, i < l.length → cur[off + i]? = some (.int .i64 (l.getD i 0 : Int))
theorem QuB.len {w : World} {b : Nat} {v : Value} {l : List Nat} (h : QuB w b v l) : ∃ a c, v = .slice a l.length c := by
  obtain ⟨off, c, cur, e, _⟩ := h.is
  exact ⟨_, _, e⟩
theorem QuB.lt {w : World} {b : Nat} {v : Value} {l : List Nat} (h : QuB w b v l) : b < w.heap.size := by
  obtain ⟨off, c, cur, _, e, _⟩ := h.is
  exact lt_of_block e
theorem QuB.frB {X : Nat → Prop} {w w' : World} {b : Nat} {v : Value} {l : List Nat} (h : QuB w b v l) (hf : FrB X w w') (hX : ¬ X b) : QuB w' b v l := by
  obtain ⟨off, c, cur, e, e2, r⟩ := h.is
  exact ⟨off, c, cur, e, (hf.block b (lt_of_block e2) hX).trans e2, r⟩
theorem QuB.later {w w' : World} {b : Nat} {v : Value} {l : List Nat} (h : QuB w b v l) (hb : Below w.heap.size w w') : QuB w' b v l := h.frB (X := fun _ => False) (Below.frB hb) (fun q => q)
theorem QuB.one (w : World) (x : Nat) : QuB (w.alloc (.cells #[.int .i64 (x : Int)] 3)) w.heap.size (.slice (some ⟨w.heap.size, 0, none⟩) 1 1) [x] := ⟨0, 1, _, rfl, heap_alloc_new w _, Nat.le_refl _, by simp, fun i hi => by
  have : i = 0 := by simp at hi; omega
  subst this
  rfl⟩
theorem slice_froB (b o lc len : Nat) (hi : 1 ≤ len) (hc : len ≤ lc) : ∃ o' c', (∀ w, (Instr.slice 42 (.slice (some ⟨b, o, none⟩) len lc) (some (.int .i64 1)) none none).run Tryd.prog w = .ok (.slice (some ⟨b, o', none⟩) (len - 1) c') w) ∧ len - 1 ≤ c' ∧ o' + c' ≤ o + lc ∧ (len - 1 ≠ 0 → o' = o + 1) := by
  obtain ⟨i0, hinf, _, hz1, _⟩ := infoInt_parts
  have hu : Tryd.prog.underlying 42 = some (.slice (Tryd.prog.elem 42)) := by kernel_rfl
  have he : Tryd.prog.elem 42 = 3 := by kernel_rfl
  have hrun : ∀ w : World, (Instr.slice 42 (.slice (some ⟨b, o, none⟩) len lc) (some (.int .i64 1)) none none).run Tryd.prog w = .ok (sliced (some ⟨b, o, none⟩) 1 len lc 1) w := by
    intro w
    have := run_slice_l (P := Tryd.prog) (w := w) 42 (some ⟨b, o, none⟩) len lc hu .i64 (1 : Int) (by omega) (by omega)
    rw [this, he]
    simp [sizeOf, typeInfo, hinf, hz1]
  by_cases hcp : lc = 1
  · exact ⟨o, lc - 1, fun w => by rw [hrun w]; simp [sliced, hcp], by omega, by omega, fun q => by omega⟩
  · exact ⟨o + 1, lc - 1, fun w => by rw [hrun w]; simp [sliced, hcp, add_none], by omega, by omega, fun _ => rfl⟩
theorem QuB.head {w : World} {b y : Nat} {v : Value} {r : List Nat} (h : QuB w b v (y :: r)) : ∃ off c v', v = .slice (some ⟨b, off, none⟩) (r.length + 1) c ∧ w.cell? ⟨b, off, none⟩ = some (.int .i64 (y : Int)) ∧ (∀ w' : World, (Instr.slice 42 (.slice (some ⟨b, off, none⟩) (r.length + 1) c) (some (.int .i64 1)) none none).run Tryd.prog w' = .ok v' w') ∧ ∀ w' : World, w'.heap[b]? = w.heap[b]? → QuB w' b v' r := by
  obtain ⟨off, c, cur, e, e2, h3, h4, h5⟩ := h.is
  rw [List.length_cons] at e h3
  obtain ⟨o', c', hr, h6, h7, h8⟩ := slice_froB b off c (r.length + 1) (by omega) h3
  refine ⟨off, c, _, e, ?_, hr, fun w' hw' => ⟨o', c', cur, by simp, hw'.trans e2, by omega, by omega, fun i hi => ?_⟩⟩
  · rw [cellq_any e2]
    have := h5 0 (by simp)
    simpa using this
  · have := h5 (i + 1) (by simp; omega)
    rw [h8 (by omega), Nat.add_assoc, Nat.add_comm 1 i, this]
    simp
theorem run_q_append (w : World) (ty : TypeId) {b : Nat} {v : Value} {l : List Nat} (h : QuB w b v l) (xb c x : Nat) (hy : w.cell? ⟨xb, 0, none⟩ = some (.int .i64 (x : Int))) (hlen : l.length ≤ 1000000) :
    ∃ a' n' c' b' w', (Builtin.append_ #[42, 42] ty #[v, .slice (some ⟨xb, 0, none⟩) 1 c]).run Tryd.prog w = .ok (.slice a' n' c') w' ∧ QuB w' b' (.slice a' n' c') (l ++ [x]) ∧ (b' = b ∨ w.heap.size ≤ b') ∧ FrB (· = b) w w' := by
  obtain ⟨i0, hi, hz0, hz1, hz2⟩ := infoInt_parts
  obtain ⟨off, cp, cur, rfl, e2, h3, h4, h5⟩ := h.is
  have hnews : ∀ j u, [Value.int .i64 (x : Int)][j]? = some u → w.cell? ((⟨xb, 0, none⟩ : Addr).add j) = some u := fun j u hu => by
    match j, hu with
    | 0, hu => simp at hu; subst hu; rw [add_none]; exact hy
  have get : ∀ (cur' : Array Value) (o : Nat), (∀ i, i < l.length → cur'[o + i]? = some (.int .i64 (l.getD i 0 : Int))) → cur'[o + l.length]? = some (.int .i64 (x : Int)) → ∀ i, i < (l ++ [x]).length → cur'[o + i]? = some (.int .i64 ((l ++ [x]).getD i 0 : Int)) := fun cur' o g1 g2 i hi => by
    rw [List.length_append, List.length_singleton] at hi
    rcases Nat.lt_or_ge i l.length with q | q
    · rw [g1 i q, List.getD_eq_getElem?_getD, List.getD_eq_getElem?_getD, List.getElem?_append_left q]
    · have : i = l.length := by omega
      subst this
      rw [g2, List.getD_eq_getElem?_getD, List.getElem?_append_right (Nat.le_refl _), Nat.sub_self]
      rfl
  by_cases hroom : l.length + 1 ≤ cp
  · have hlt : off + l.length < cur.size := by omega
    have hr := run_append_room_cells (P := Tryd.prog) w 42 ty 3 i0 Tryd.underlying42 hi b off l.length cp ⟨xb, 0, none⟩ 1 c [.int .i64 (x : Int)] (by rw [hz1]; rfl) hnews (fun u hu => by rw [List.mem_singleton.1 hu]; rfl) hroom (fun j hj => by
      have hj0 : j = 0 := by simp at hj; omega
      subst hj0
      rw [hz1, Nat.mul_one, Nat.add_zero, cellq_any e2, Array.getElem?_eq_getElem hlt]
      rfl) (fun j hj => by simp [World.frozen?, e2])
    rw [hz1, Nat.mul_one] at hr
    refine ⟨_, _, _, b, _, hr, ⟨off, cp, cur.setIfInBounds (off + l.length) (.int .i64 (x : Int)), by simp, ?_, by simpa using hroom, by simpa using h4, ?_⟩, .inl rfl, frB_setCell w b (off + l.length) _⟩
    · exact heap_set e2 (off + l.length) _
    · refine get _ off (fun i hi => ?_) ?_
      · rw [Array.getElem?_setIfInBounds_ne (by omega)]
        exact h5 i hi
      · rw [Array.getElem?_setIfInBounds_self_of_lt hlt]
  · have hr := run_append_grow (P := Tryd.prog) w 42 ty 3 i0 (.int .i64 0) Tryd.underlying42 hi hz0 ⟨b, off, none⟩ l.length cp ((nI l).map (Value.int .i64 ·)) (by rw [hz1]; simp [nI]) (fun j u hu => by
      rw [add_none, cellq_any e2]
      rw [List.getElem?_map] at hu
      have hj : j < l.length := by
        cases e : (nI l)[j]? with
        | none => rw [e] at hu; cases hu
        | some _ => have := (List.getElem?_eq_some_iff.1 e).1; rwa [nI_len] at this
      rw [h5 j hj, ← hu]
      simp [nI, List.getD_eq_getElem?_getD, List.getElem?_eq_getElem hj]) ⟨xb, 0, none⟩ 1 c [.int .i64 (x : Int)] (by rw [hz1]; rfl) hnews (by omega) (by omega) (growslice_fits (by omega) (by rw [hz2]; omega))
    have hge := grownCap_ge w (l.length + 1) cp 3
    have bel : Below w.heap.size w (w.drew.alloc (.cells (((nI l).map (Value.int .i64 ·)).toArray ++ [Value.int .i64 (x : Int)].toArray ++ Builtin.zeroCells (Value.int .i64 0).cells (grownCap w (l.length + 1) cp 3 - (l.length + 1))) 3)) := ((Below.refl _ _).drew).trans ((below_alloc w.drew _).mono (Nat.le_refl _))
    refine ⟨_, _, _, w.heap.size, _, hr, ⟨0, grownCap w (l.length + 1) cp 3, _, by simp, heap_alloc_new w.drew _, by simpa using hge, ?_, ?_⟩, .inr (Nat.le_refl _), Below.frB bel⟩
    · simp only [Array.size_append, size_zeroCells, Value.cells]
      simp [nI]
      omega
    · have e0 : ∀ i, (((nI l).map (Value.int .i64 ·)).toArray ++ [Value.int .i64 (x : Int)].toArray ++ Builtin.zeroCells (Value.int .i64 0).cells (grownCap w (l.length + 1) cp 3 - (l.length + 1)))[i]? = (((nI l).map (Value.int .i64 ·)) ++ [Value.int .i64 (x : Int)] ++ (Builtin.zeroCells (Value.int .i64 0).cells (grownCap w (l.length + 1) cp 3 - (l.length + 1))).toList)[i]? := fun i => by
        generalize Builtin.zeroCells (Value.int .i64 0).cells (grownCap w (l.length + 1) cp 3 - (l.length + 1)) = zz
        rw [← Array.getElem?_toList, Array.toList_append, Array.toList_append]
      have hl : ((nI l).map (Value.int .i64 ·)).length = l.length := by simp [nI]
      refine get _ 0 (fun i hi => ?_) ?_
      · rw [e0, Nat.zero_add, List.append_assoc, List.getElem?_append_left (by omega)]
        simp [nI, List.getD_eq_getElem?_getD, List.getElem?_eq_getElem hi]
      · rw [e0, Nat.zero_add, List.append_assoc, List.getElem?_append_right (by omega), hl, Nat.sub_self]
        rfl
theorem wpList_q_append {ops : Array Oper} {rest : List Oper} {o : Oper} {a : Act} {Q : Exit → Act → World → Prop} {w : World} (hgd : o.guard = none) (s x : Operand)
    (ho : o.op = .call { callee := .builtin .append, args := #[s, x], argTypes := #[42, 42] })
    {b : Nat} {v : Value} {l : List Nat} (hs : a.eval s = v) (h : QuB w b v l) (xb c k : Nat) (hx : a.eval x = .slice (some ⟨xb, 0, none⟩) 1 c) (hy : w.cell? ⟨xb, 0, none⟩ = some (.int .i64 (k : Int))) (hlen : l.length ≤ 1000000)
    (hK : ∀ a' n' c' b' w', QuB w' b' (.slice a' n' c') (l ++ [k]) → (b' = b ∨ w.heap.size ≤ b') → FrB (· = b) w w' → wpList Tryd.prog ops Q rest (a.put o.dst (.slice a' n' c')) w') : wpList Tryd.prog ops Q (o :: rest) a w := by
  refine wpList_plain hgd fun K hK' => ?_
  obtain ⟨a', n', c', b', w', hrun, r1, r2, r3⟩ := run_q_append w o.type h xb c k hy hlen
  unfold Oper.wp execOp
  simp only [ho, resolve, invoke, builtin, Sem.run_bind, Sem.run_pure, Result.andThen_ok, List.map_toArray, List.map_cons, List.map_nil, hs, hx, hrun]
  exact hK' _ _ (hK a' n' c' b' w' r1 r2 r3)
end Go.Proofs.YtmpdgmigpjfcpaaDoor
