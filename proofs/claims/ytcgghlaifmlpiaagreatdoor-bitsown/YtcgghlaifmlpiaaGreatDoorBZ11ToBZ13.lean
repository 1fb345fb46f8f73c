import Derived.Test.YtcgghlaifmlpiaaGreatDoorBZ9ToBZ10
import Derived.ArgAppend
namespace Go.Proofs.YtcgghlaifmlpiaaGreatDoor
set_option linter.unusedVariables false
open Go.RowKit Go.Shelf

/-- A queue in memory: a part of block b. -/
structure QuB (w : World) (b : Nat) (v : Value) (l : List Nat) : Prop where
  is : ∃ (off c : Nat) (cur : Array Value), v = .slice (some ⟨b, off, none⟩) l.length c ∧ w.heap[b]? = some (.cells cur 3) ∧ l.length ≤ c ∧ off + c ≤ cur.size ∧ ∀ i, i < l.length → cur[off + i]? = some (.int .i64 (l.getD i 0 : Int))
theorem QuB.len {w : World} {b : Nat} {v : Value} {l : List Nat} (h : QuB w b v l) : ∃ a c, v = .slice a l.length c := by
  obtain ⟨off, c, cur, e, _⟩ := h.is
  exact ⟨_, _, e⟩
theorem QuB.lt {w : World} {b : Nat} {v : Value} {l : List Nat} (h : QuB w b v l) : b < w.heap.size := by
  obtain ⟨off, c, cur, _, e, _⟩ := h.is
  exact lt_of_block e
theorem QuB.frB {X : Nat → Prop} {w w' : World} {b : Nat} {v : Value} {l : List Nat} (h : QuB w b v l) (hf : FrB X w w') (hX : ¬ X b) : QuB w' b v l := by
  obtain ⟨off, c, cur, e, e2, r⟩ := h.is
  exact ⟨off, c, cur, e, (hf.block b (lt_of_block e2) hX).trans e2, r⟩
theorem QuB.later {w w' : World} {b : Nat} {v : Value} {l : List Nat} (h : QuB w b v l) (hb : Below w.heap.size w w') : QuB w' b v l := h.frB (X := fun _ => False) (Below.frB hb) (fun q => q)
theorem QuB.one (w : World) (x : Nat) : QuB (w.alloc (.cells #[.int .i64 (x : Int)] 3)) w.heap.size (.slice (some ⟨w.heap.size, 0, none⟩) 1 1) [x] := ⟨0, 1, _, rfl, heap_alloc_new w _, Nat.le_refl _, by simp, fun i hi => by
  have : i = 0 := by simp at hi; omega
  subst this
  rfl⟩
theorem slice_froB (b o lc len : Nat) (hi : 1 ≤ len) (hc : len ≤ lc) : ∃ o' c', (∀ w, (Instr.slice 46 (.slice (some ⟨b, o, none⟩) len lc) (some (.int .i64 1)) none none).run Tryz.prog w = .ok (.slice (some ⟨b, o', none⟩) (len - 1) c') w) ∧ len - 1 ≤ c' ∧ o' + c' ≤ o + lc ∧ (len - 1 ≠ 0 → o' = o + 1) := by
  obtain ⟨i0, hinf, _, hz1, _⟩ := infoInt_parts
  have hu : Tryz.prog.underlying 46 = some (.slice (Tryz.prog.elem 46)) := by kernel_rfl
  have he : Tryz.prog.elem 46 = 3 := by kernel_rfl
  have hrun : ∀ w : World, (Instr.slice 46 (.slice (some ⟨b, o, none⟩) len lc) (some (.int .i64 1)) none none).run Tryz.prog w = .ok (sliced (some ⟨b, o, none⟩) 1 len lc 1) w := by
    intro w
    have := run_slice_l (P := Tryz.prog) (w := w) 46 (some ⟨b, o, none⟩) len lc hu .i64 (1 : Int) (by omega) (by omega)
    rw [this, he]
    simp [sizeOf, typeInfo, hinf, hz1]
  by_cases hcp : lc = 1
  · exact ⟨o, lc - 1, fun w => by rw [hrun w]; simp [sliced, hcp], by omega, by omega, fun q => by omega⟩
  · exact ⟨o + 1, lc - 1, fun w => by rw [hrun w]; simp [sliced, hcp, add_none], by omega, by omega, fun _ => rfl⟩
theorem QuB.head {w : World} {b y : Nat} {v : Value} {r : List Nat} (h : QuB w b v (y :: r)) : ∃ off c v', v = .slice (some ⟨b, off, none⟩) (r.length + 1) c ∧ w.cell? ⟨b, off, none⟩ = some (.int .i64 (y : Int)) ∧ (∀ w' : World, (Instr.slice 46 (.slice (some ⟨b, off, none⟩) (r.length + 1) c) (some (.int .i64 1)) none none).run Tryz.prog w' = .ok v' w') ∧ ∀ w' : World, w'.heap[b]? = w.heap[b]? → QuB w' b v' r := by
  obtain ⟨off, c, cur, e, e2, h3, h4, h5⟩ := h.is
  rw [List.length_cons] at e h3
  obtain ⟨o', c', hr, h6, h7, h8⟩ := slice_froB b off c (r.length + 1) (by omega) h3
  refine ⟨off, c, _, e, ?_, hr, fun w' hw' => ⟨o', c', cur, by simp, hw'.trans e2, by omega, by omega, fun i hi => ?_⟩⟩
  · rw [cellq_any e2]
    have := h5 0 (by simp)
    simpa using this
  · have := h5 (i + 1) (by simp; omega)
    rw [h8 (by omega), Nat.add_assoc, Nat.add_comm 1 i, this]
    simp
theorem run_q_append (w : World) (ty : TypeId) {b : Nat} {v : Value} {l : List Nat} (h : QuB w b v l) (xb c x : Nat) (hy : w.cell? ⟨xb, 0, none⟩ = some (.int .i64 (x : Int))) (hlen : l.length ≤ 1000000) :
    ∃ a' n' c' b' w', (Builtin.append_ #[46, 46] ty #[v, .slice (some ⟨xb, 0, none⟩) 1 c]).run Tryz.prog w = .ok (.slice a' n' c') w' ∧ QuB w' b' (.slice a' n' c') (l ++ [x]) ∧ (b' = b ∨ w.heap.size ≤ b') ∧ FrB (· = b) w w' := by
  obtain ⟨i0, hi, hz0, hz1, hz2⟩ := infoInt_parts
  obtain ⟨off, cp, cur, rfl, e2, h3, h4, h5⟩ := h.is
  have hnews : ∀ j u, [Value.int .i64 (x : Int)][j]? = some u → w.cell? ((⟨xb, 0, none⟩ : Addr).add j) = some u := fun j u hu => by
    match j, hu with
    | 0, hu => simp at hu; subst hu; rw [add_none]; exact hy
  have get : ∀ (cur' : Array Value) (o : Nat), (∀ i, i < l.length → cur'[o + i]? = some (.int .i64 (l.getD i 0 : Int))) → cur'[o + l.length]? = some (.int .i64 (x : Int)) → ∀ i, i < (l ++ [x]).length → cur'[o + i]? = some (.int .i64 ((l ++ [x]).getD i 0 : Int)) := fun cur' o g1 g2 i hi => by
    rw [List.length_append, List.length_singleton] at hi
    rcases Nat.lt_or_ge i l.length with q | q
    · rw [g1 i q, List.getD_eq_getElem?_getD, List.getD_eq_getElem?_getD, List.getElem?_append_left q]
    · have : i = l.length := by omega
      subst this
      rw [g2, List.getD_eq_getElem?_getD, List.getElem?_append_right (Nat.le_refl _), Nat.sub_self]
      rfl
  by_cases hroom : l.length + 1 ≤ cp
  · have hlt : off + l.length < cur.size := by omega
    have hr := run_append_room_cells (P := Tryz.prog) w 46 ty 3 i0 Tryz.underlying46 hi b off l.length cp ⟨xb, 0, none⟩ 1 c [.int .i64 (x : Int)] (by rw [hz1]; rfl) hnews (fun u hu => by rw [List.mem_singleton.1 hu]; rfl) hroom (fun j hj => by
      have hj0 : j = 0 := by simp at hj; omega
      subst hj0
      rw [hz1, Nat.mul_one, Nat.add_zero, cellq_any e2, Array.getElem?_eq_getElem hlt]
      rfl) (fun j hj => by simp [World.frozen?, e2])
    rw [hz1, Nat.mul_one] at hr
    refine ⟨_, _, _, b, _, hr, ⟨off, cp, cur.setIfInBounds (off + l.length) (.int .i64 (x : Int)), by simp, ?_, by simpa using hroom, by simpa using h4, ?_⟩, .inl rfl, frB_setCell w b (off + l.length) _⟩
    · exact heap_set e2 (off + l.length) _
    · refine get _ off (fun i hi => ?_) ?_
      · rw [Array.getElem?_setIfInBounds_ne (by omega)]
        exact h5 i hi
      · rw [Array.getElem?_setIfInBounds_self_of_lt hlt]
  · have hr := run_append_grow (P := Tryz.prog) w 46 ty 3 i0 (.int .i64 0) Tryz.underlying46 hi hz0 ⟨b, off, none⟩ l.length cp ((nI l).map (Value.int .i64 ·)) (by rw [hz1]; simp [nI]) (fun j u hu => by
      rw [add_none, cellq_any e2]
      rw [List.getElem?_map] at hu
      have hj : j < l.length := by
        cases e : (nI l)[j]? with
        | none => rw [e] at hu; cases hu
        | some _ => have := (List.getElem?_eq_some_iff.1 e).1; rwa [nI_len] at this
      rw [h5 j hj, ← hu]
      simp [nI, List.getD_eq_getElem?_getD, List.getElem?_eq_getElem hj]) ⟨xb, 0, none⟩ 1 c [.int .i64 (x : Int)] (by rw [hz1]; rfl) hnews (by omega) (by omega) (growslice_fits (by omega) (by rw [hz2]; omega))
    have hge := grownCap_ge w (l.length + 1) cp 3
    have bel : Below w.heap.size w (w.drew.alloc (.cells (((nI l).map (Value.int .i64 ·)).toArray ++ [Value.int .i64 (x : Int)].toArray ++ Builtin.zeroCells (Value.int .i64 0).cells (grownCap w (l.length + 1) cp 3 - (l.length + 1))) 3)) := ((Below.refl _ _).drew).trans ((below_alloc w.drew _).mono (Nat.le_refl _))
    refine ⟨_, _, _, w.heap.size, _, hr, ⟨0, grownCap w (l.length + 1) cp 3, _, by simp, heap_alloc_new w.drew _, by simpa using hge, ?_, ?_⟩, .inr (Nat.le_refl _), Below.frB bel⟩
    · simp only [Array.size_append, size_zeroCells, Value.cells]
      simp [nI]
      omega
    · have e0 : ∀ i, (((nI l).map (Value.int .i64 ·)).toArray ++ [Value.int .i64 (x : Int)].toArray ++ Builtin.zeroCells (Value.int .i64 0).cells (grownCap w (l.length + 1) cp 3 - (l.length + 1)))[i]? = (((nI l).map (Value.int .i64 ·)) ++ [Value.int .i64 (x : Int)] ++ (Builtin.zeroCells (Value.int .i64 0).cells (grownCap w (l.length + 1) cp 3 - (l.length + 1))).toList)[i]? := fun i => by
        generalize Builtin.zeroCells (Value.int .i64 0).cells (grownCap w (l.length + 1) cp 3 - (l.length + 1)) = zz
        rw [← Array.getElem?_toList, Array.toList_append, Array.toList_append]
      have hl : ((nI l).map (Value.int .i64 ·)).length = l.length := by simp [nI]
      refine get _ 0 (fun i hi => ?_) ?_
      · rw [e0, Nat.zero_add, List.append_assoc, List.getElem?_append_left (by omega)]
        simp [nI, List.getD_eq_getElem?_getD, List.getElem?_eq_getElem hi]
      · rw [e0, Nat.zero_add, List.append_assoc, List.getElem?_append_right (by omega), hl, Nat.sub_self]
        rfl
theorem wpList_q_append {ops : Array Oper} {rest : List Oper} {o : Oper} {a : Act} {Q : Exit → Act → World → Prop} {w : World} (hgd : o.guard = none) (s x : Operand)
    (ho : o.op = .call { callee := .builtin .append, args := #[s, x], argTypes := #[46, 46] })
    {b : Nat} {v : Value} {l : List Nat} (hs : a.eval s = v) (h : QuB w b v l) (xb c k : Nat) (hx : a.eval x = .slice (some ⟨xb, 0, none⟩) 1 c) (hy : w.cell? ⟨xb, 0, none⟩ = some (.int .i64 (k : Int))) (hlen : l.length ≤ 1000000)
    (hK : ∀ a' n' c' b' w', QuB w' b' (.slice a' n' c') (l ++ [k]) → (b' = b ∨ w.heap.size ≤ b') → FrB (· = b) w w' → wpList Tryz.prog ops Q rest (a.put o.dst (.slice a' n' c')) w') : wpList Tryz.prog ops Q (o :: rest) a w := by
  refine wpList_plain hgd fun K hK' => ?_
  obtain ⟨a', n', c', b', w', hrun, r1, r2, r3⟩ := run_q_append w o.type h xb c k hy hlen
  unfold Oper.wp execOp
  simp only [ho, resolve, invoke, builtin, Sem.run_bind, Sem.run_pure, Result.andThen_ok, List.map_toArray, List.map_cons, List.map_nil, hs, hx, hrun]
  exact hK' _ _ (hK a' n' c' b' w' r1 r2 r3)
end Go.Proofs.YtcgghlaifmlpiaaGreatDoor
namespace Go.Proofs.YtcgghlaifmlpiaaGreatDoor
set_option linter.unusedVariables false
open Go.RowKit Go.Shelf

/-- A search by steps in memory. -/
structure BqB (w : World) (n kS : Nat) (q st : List Nat) (seen b : Nat) (v : Value) (wr : World) : Prop where
  kb : KbB wr w.heap.size st
  kl : st.length = n
  qu : QuB wr b v q
  qb : w.heap.size < b
  sb : SB wr kS n seen
  fr : FrB (· = kS) w wr
  kw : kS + 1 < w.heap.size
theorem BqB.any {w wr w' : World} {n kS seen b : Nat} {q st : List Nat} {v : Value} (h : BqB w n kS q st seen b v wr) (hb : Below wr.heap.size wr w') : BqB w n kS q st seen b v w' := ⟨h.kb.later hb, h.kl, h.qu.later hb, h.qb, h.sb.later hb, h.fr.trans (Below.frB hb), h.kw⟩
theorem BqB.see {w wr w' : World} {n kS seen seen' b : Nat} {q st : List Nat} {v : Value} (h : BqB w n kS q st seen b v wr) (hs : SB w' kS n seen') (hf : FrB (· = kS) wr w') : BqB w n kS q st seen' b v w' := by
  have hk := h.kw
  have hq := h.qb
  exact ⟨h.kb.frB hf (by omega), h.kl, h.qu.frB hf (by omega), h.qb, hs, h.fr.trans hf, h.kw⟩
theorem BqB.put {w wr : World} {n kS seen b : Nat} {q st : List Nat} {v : Value} (h : BqB w n kS q st seen b v wr) (z far : Nat) : BqB w n kS q (st.set z far) seen b v (wr.setCell ⟨w.heap.size, z, none⟩ (.int .i64 (far : Int))) := by
  have hk := h.kw
  have hq := h.qb
  have hf := frB_setCell wr w.heap.size z (.int .i64 (far : Int))
  refine ⟨h.kb.set z far, by rw [List.length_set]; exact h.kl, h.qu.frB hf (by omega), h.qb, h.sb.frB hf (by omega) (by omega), ?_, h.kw⟩
  have f1 := h.fr
  exact ⟨hf.os.trans f1.os, hf.tape.trans f1.tape, hf.output.trans f1.output, Nat.le_trans f1.size hf.size, fun j hj hx => (hf.block j (Nat.lt_of_lt_of_le hj f1.size) (by omega)).trans (f1.block j hj hx)⟩
theorem BqB.push {w wr w2 w' : World} {n kS seen b b' z : Nat} {q st : List Nat} {v v' : Value} (h : BqB w n kS q st seen b v wr) (hb : Below wr.heap.size wr w2) (hq : QuB w' b' v' (q ++ [z])) (hbb : b' = b ∨ w2.heap.size ≤ b') (hf : FrB (· = b) w2 w') : BqB w n kS (q ++ [z]) st seen b' v' w' := by
  have h2 := h.any hb
  have hk := h.kw
  have hqb := h.qb
  have hz := h2.fr.size
  have hz2 := h2.kb.lt
  refine ⟨h2.kb.frB hf (by omega), h.kl, hq, ?_, h2.sb.frB hf (by omega) (by omega), ?_, h.kw⟩
  · rcases hbb with e | e
    · omega
    · omega
  · have f1 := h2.fr
    exact ⟨hf.os.trans f1.os, hf.tape.trans f1.tape, hf.output.trans f1.output, Nat.le_trans f1.size hf.size, fun j hj hx => (hf.block j (Nat.lt_of_lt_of_le hj f1.size) (by omega)).trans (f1.block j hj hx)⟩
/-- What lasts while steps are told. -/
structure BqP (n x : Nat) (q st : List Nat) (seen : Nat) : Prop where
  qn : ∀ y ∈ q, y < n ∧ (y = x ∨ seen.testBit y = true)
  bd : ∀ z, st.getD z 0 ≤ popB seen n
theorem BqP.push {n x y z seen : Nat} {r st : List Nat} (h : BqP n x (y :: r) st seen) (hz : z < n) (hs : seen.testBit z = false) : BqP n x (y :: (r ++ [z])) (st.set z (st.getD y 0 + 1)) (addN seen z) := by
  have hp := popB_addN hz hs
  refine ⟨fun u hu => ?_, fun u => ?_⟩
  · simp only [List.mem_cons, List.mem_append, List.not_mem_nil, or_false] at hu
    have old : u ∈ y :: r → u < n ∧ (u = x ∨ (addN seen z).testBit u = true) := fun q => by
      obtain ⟨h1, h2⟩ := h.qn u q
      exact ⟨h1, h2.imp id (fun q => by rw [addN_bit, q]; rfl)⟩
    rcases hu with rfl | hu | rfl
    · exact old List.mem_cons_self
    · exact old (List.mem_cons_of_mem _ hu)
    · exact ⟨hz, .inr (by rw [addN_bit]; simp)⟩
  · rw [getD_setV, hp]
    by_cases e : z = u ∧ u < st.length
    · rw [if_pos e]
      have := h.bd y
      omega
    · rw [if_neg e]
      have := h.bd u
      omega
set_option maxRecDepth 100000 in
set_option maxHeartbeats 16000000 in
theorem stepsTo_SB {w : World} {ib n kS S0 x most : Nat} {ki Ms : List Nat} (hR : RwB w ib n ki Ms) (hn : Ms.length = n) (hm : n ≤ 4096) (hT : TabB w) (hS : SB w kS n S0) (hx : x < n) (hnk : ∀ k ∈ ki, k ≠ kS) (hg : tzRen.g 1 ≠ kS) (hmost : most ≤ 100000) (c : Nat) :
    Calls Tryz.prog 90 #[.int .i64 (x : Int), .int .i64 (most : Int), .slice (some ⟨ib, 0, none⟩) n c, .pointer (some ⟨kS + 1, 0, none⟩)] w fun e w' => e = .returned (.slice (some ⟨w.heap.size, 0, none⟩) n n) ∧ KbB w' w.heap.size (bfU Ms n x most ⟨[x], S0, List.replicate n 0⟩) ∧ FrB (· = kS) w w' := by
  have hbR : ib ≠ kS := fun e => by
    have a := hR.row
    rw [e, hS.wd] at a
    simp only [Option.some.injEq, Obj.cells.injEq] at a
    exact absurd a.2.1 (by decide)
  have HRR : Hid (∀ wr, FrB (· = kS) w wr → RwB wr ib n ki Ms ∧ TabB wr) := fun wr f => ⟨hR.frB f hbR (fun k hk => ⟨hnk k hk, by
    obtain ⟨i, hi⟩ := List.getElem?_of_mem hk
    have hil : i < Ms.length := by rw [← hR.len]; exact (List.getElem?_eq_some_iff.1 hi).1
    obtain ⟨k', hk', hs'⟩ := hR.at hil
    rw [hi] at hk'
    cases hk'
    exact hS.apart hs'⟩), hT.frB f (fun j q => by have q2 : j = kS := q; omega)⟩
  have HNL : Hid (Ms.length = n) := hn
  have hmk := make_iB n (by omega)
  have hsz0 : (w.alloc (.cells (madeCells #[.int .i64 0] n) 3)).heap.size = w.heap.size + 1 := by simp
  have B0 : Hid (BqB w n kS [x] (List.replicate n 0) S0 (w.heap.size + 1) (.slice (some ⟨w.heap.size + 1, 0, none⟩) 1 1) ((w.alloc (.cells (madeCells #[.int .i64 0] n) 3)).alloc (.cells #[.int .i64 (x : Int)] 3))) := by
    have b1 := below_alloc w (.cells (madeCells #[.int .i64 0] n) 3)
    have b2 := below_alloc (w.alloc (.cells (madeCells #[.int .i64 0] n) 3)) (.cells #[.int .i64 (x : Int)] 3)
    have q1 := QuB.one (w.alloc (.cells (madeCells #[.int .i64 0] n) 3)) x
    rw [hsz0] at q1
    exact ⟨(KbB.made w n).later b2, by simp, q1, by omega, (hS.later b1).later b2, (Below.frB b1).trans (Below.frB b2), hS.size⟩
  have P0 : Hid (BqP n x [x] (List.replicate n 0) S0) := ⟨fun y hy => by rw [List.mem_singleton.1 hy]; exact ⟨hx, .inl rfl⟩, fun z => by rw [repl_get]; exact Nat.zero_le _⟩
  obtain ⟨R, hRe⟩ : ∃ R, bfU Ms n x most ⟨[x], S0, List.replicate n 0⟩ = R := ⟨_, rfl⟩
  have HRE : Hid (bfU Ms n x most ⟨[x], S0, List.replicate n 0⟩ = R) := hRe
  rw [hRe]
  clear hR hT hS hn hnk hg hbR hRe
  go_enter Tryz.func90, Tryz.ntmps90
  go_wp2
  clear hmk hsz0
  go_loopg [10] (mesQ n ⟨[x], S0, List.replicate n 0⟩) (fun gk vq wr => ∃ (q st : List Nat) (seen b : Nat), BqB w n kS q st seen b vq wr ∧ BqP n x q st seen ∧ bfU Ms n x most ⟨q, seen, st⟩ = R ∧ mesQ n ⟨q, seen, st⟩ ≤ gk ∧ gk ≤ 10000)
  case atStart => exact ⟨_, _, _, _, B0.out, P0.out, HRE.out, Nat.le_refl _, by unfold mesQ; simp; omega⟩
  case round =>
    clear B0 P0 HRE
    obtain ⟨q, st, seen, b, hB, hP, hU, hM, hgk⟩ := hrel
    cases q with
    | nil =>
      obtain ⟨qa, qc, rfl⟩ := hB.qu.len
      rw [bfU_nil] at hU
      subst hU
      have HB : Hid (KbB wr w.heap.size st ∧ FrB (· = kS) w wr) := ⟨hB.kb, hB.fr⟩
      clear hB hP hM
      simp only [List.length_nil]
      go_wp2
      go_ret
      exact ⟨rfl, HB.out.1, HB.out.2⟩
    | cons y r =>
      obtain ⟨hyn, hyx⟩ := hP.qn y List.mem_cons_self
      obtain ⟨off, qc, v', rfl, ch, hsl, hq'⟩ := hB.qu.head
      have ylt : (y : Int) < (n : Int) := by omega
      have cy := hB.kb.cell (i := y) (by rw [hB.kl]; exact hyn)
      have hsy := hP.bd y
      have hpn := popB_le seen n
      obtain ⟨sy, hsye⟩ : ∃ sy, st.getD y 0 = sy := ⟨_, rfl⟩
      rw [hsye] at cy hsy
      have w1 : IntKind.i64.wrap ((sy : Int) + 1) = (sy : Int) + 1 := by rw [IntKind.wrap_i64]; omega
      have HQ : Hid (BqB w n kS r st seen b v' wr) := ⟨hB.kb, hB.kl, hq' wr rfl, hB.qb, hB.sb, hB.fr, hB.kw⟩
      have hrl : r.length ≤ 10000 := by
        unfold mesQ at hM
        simp only [List.length_cons] at hM
        omega
      have rl0 : (0 : Int) < (r.length : Int) + 1 := by omega
      by_cases hfm : sy + 1 = most
      · rw [bfU_cons, hsye, if_pos hfm] at hU
        subst hU
        have fme : ((sy : Int) + 1 == (most : Int)) = true := by rw [← hfm]; simp
        have HB : Hid (KbB wr w.heap.size st ∧ FrB (· = kS) w wr) := ⟨hB.kb, hB.fr⟩
        clear hB hP hM hyx hsye hq' hfm
        go_wp2
        go_ret
        exact ⟨rfl, HB.out.1, HB.out.2⟩
      · have fme : ((sy : Int) + 1 == (most : Int)) = false := by rw [beq_eq_false_iff_ne]; omega
        obtain ⟨hRw, hTw⟩ := HRR.out wr hB.fr
        obtain ⟨k, hk, hsk⟩ := hRw.at (show y < Ms.length by rw [HNL.out]; exact hyn)
        have ck := hRw.cell hk
        obtain ⟨N, hN⟩ : ∃ N, Ms.getD y 0 = N := ⟨_, rfl⟩
        have LK : Hid (∀ w1, Below wr.heap.size wr w1 → Calls Tryz.prog 88 #[.pointer (some ⟨k + 1, 0, none⟩), .int .i64 0, .pointer (some ⟨kS + 1, 0, none⟩)] w1 fun e w' => e = .returned (.int .i64 (lkB (minusB N seen) n : Int)) ∧ Below w1.heap.size w1 w') := fun w1 b1 => (lacked_SB (hsk.later b1) (hB.sb.later b1) (hTw.later b1) 0 (by omega)).mono fun e w' ⟨r', q1, q2, q3⟩ => by
          rw [hN] at q2
          rw [← LackR.uniq q2 (lkB_is (minusB N seen) n)]
          exact ⟨q1, q3⟩
        have CKK : Hid (∀ wr, FrB (· = kS) w wr → wr.cell? ⟨ib, y, none⟩ = some (.pointer (some ⟨k + 1, 0, none⟩)) ∧ SB wr k n N ∧ TabB wr) := fun wr f => by
          obtain ⟨h1, h2⟩ := HRR.out wr f
          obtain ⟨k', hk', hs'⟩ := h1.at (show y < Ms.length by rw [HNL.out]; exact hyn)
          rw [hk] at hk'
          cases hk'
          rw [hN] at hs'
          exact ⟨h1.cell hk, hs', h2⟩
        have HP : Hid (BqP n x (y :: r) st seen ∧ bfU Ms n x most ⟨y :: r, seen, st⟩ = R ∧ mesQ n ⟨y :: r, seen, st⟩ ≤ gk) := ⟨hP, hU, hM⟩
        have HSY : Hid (st.getD y 0 = sy) := hsye
        have HN : Hid (Ms.getD y 0 = N) := hN
        have HYX : Hid (y = x ∨ seen.testBit y = true) := hyx
        have HFM : Hid (¬ sy + 1 = most) := hfm
        clear hB hP hU hM hyx hsye hq' hRw hTw hk hsk hN hfm
        obtain ⟨wz, rfl⟩ : ∃ wz : World, wz = wr := ⟨_, rfl⟩
        obtain ⟨go, rfl⟩ : ∃ go : Nat, go = gk := ⟨_, rfl⟩
        go_wp2_with (go_at_call 88; refine (LK.out _ (Below.refl _ _)).mono ?_; rintro e w3 ⟨rfl, b3⟩; have W3 : Hid (BqB w n kS r st seen b v' w3) := HQ.out.any b3; clear b3 ck cy ch)
        clear LK HQ hsl
        go_loopg [10, 13] go (fun gk vq z wr => ∃ (r st : List Nat) (seen b : Nat), BqB w n kS r st seen b vq wr ∧ BqP n x (y :: r) st seen ∧ bfU Ms n x most ⟨y :: r, seen, st⟩ = R ∧ mesQ n ⟨y :: r, seen, st⟩ ≤ gk ∧ gk ≤ go ∧ st.getD y 0 = sy ∧ (y = x ∨ seen.testBit y = true) ∧ z = .int .i64 (lkB (minusB N seen) n : Int))
        case atStart => exact ⟨r, st, seen, b, W3.out, HP.out.1, HP.out.2.1, HP.out.2.2, Nat.le_refl _, HSY.out, HYX.out, rfl⟩
        case round =>
          clear W3 HP HSY HYX
          obtain ⟨r2, st2, seen2, b2, hB, hP, hU, hM, hgj, hsy2, hyx2, rfl⟩ := hrel
          have hle := (lkB_is (minusB N seen2) n).le
          have hrl2 : r2.length ≤ 10000 := by
            unfold mesQ at hM
            simp only [List.length_cons] at hM
            omega
          rw [bfU_cons, hsy2, if_neg HFM.out, HN.out] at hU
          by_cases hz : lkB (minusB N seen2) n < n
          · rw [if_pos hz] at hU
            obtain ⟨hz1, hz2⟩ := lk_new hz
            have hall : ∀ j, j < lkB (minusB N seen2) n → N.testBit j = true → seen2.testBit j = true := fun j hj hNj => lk_all (n := n) j hj hNj
            generalize lkB (minusB N seen2) n = z at *
            have zlt : (z : Int) < (n : Int) := by omega
            have AD : Hid (Calls Tryz.prog 50 #[.pointer (some ⟨kS + 1, 0, none⟩), .int .i64 (z : Int)] wr fun e w'' => ∃ bv, e = .returned (.bool bv) ∧ BqB w n kS r2 st2 (addN seen2 z) b2 u10 w'') := (add_SB hB.sb (z : Int)).mono fun e w'' ⟨q1, q2, q3⟩ => by
              have e2 : addX seen2 n (z : Int) = addN seen2 z := by unfold addX; rw [if_pos ⟨by omega, by omega⟩]; rfl
              rw [e2] at q2
              exact ⟨_, q1, hB.see q2 q3⟩
            have CZ : Hid (∀ w'', BqB w n kS r2 st2 (addN seen2 z) b2 u10 w'' → (∃ sz, w''.cell? ⟨w.heap.size, z, none⟩ = some (.int .i64 sz)) ∧ w''.frozen? ⟨w.heap.size, z, none⟩ = false) := fun w'' h'' => ⟨⟨_, h''.kb.cell (i := z) (by rw [h''.kl]; exact hz)⟩, h''.kb.free z⟩
            obtain ⟨qa, qc2, rfl⟩ := hB.qu.len
            by_cases hzx : z = x
            · rw [if_pos hzx] at hU
              have zxe : ((z : Int) == (x : Int)) = true := by rw [hzx]; simp
              have HF : Hid (∀ w'', BqB w n kS r2 st2 (addN seen2 z) b2 (.slice qa r2.length qc2) w'' → KbB (w''.setCell ⟨w.heap.size, z, none⟩ (.int .i64 ((sy : Int) + 1))) w.heap.size R ∧ FrB (· = kS) w (w''.setCell ⟨w.heap.size, z, none⟩ (.int .i64 ((sy : Int) + 1)))) := fun w'' h'' => by
                have := h''.put z (sy + 1)
                rw [← hU, ← hzx]
                exact ⟨this.kb, this.fr⟩
              clear hB hP hU hM hsy2 hyx2 hz1 hz2 hall hzx
              go_wp2_with (go_at_call 50; refine AD.out.mono ?_; rintro e w4 ⟨bv, rfl, h4⟩; have H4 : Hid (BqB w n kS r2 st2 (addN seen2 z) b2 (.slice qa r2.length qc2) w4) := h4; obtain ⟨⟨sz, cz⟩, fz⟩ := CZ.out w4 h4; clear h4)
              go_ret
              exact ⟨rfl, (HF.out w4 H4.out).1, (HF.out w4 H4.out).2⟩
            · rw [if_neg hzx] at hU
              have zxe : ((z : Int) == (x : Int)) = false := by rw [beq_eq_false_iff_ne]; omega
              have hyz : z ≠ y := fun e => by
                subst e
                rcases hyx2 with e | e
                · exact hzx e
                · rw [hz2] at e; cases e
              have hM2 := mesQ_push (y := y) (r := r2) (st := st2) (st' := st2.set z (sy + 1)) hz hz2
              have hP2 := hP.push hz hz2
              rw [hsy2] at hP2
              have HNX : Hid (BqP n x (y :: (r2 ++ [z])) (st2.set z (sy + 1)) (addN seen2 z) ∧ bfU Ms n x most ⟨y :: (r2 ++ [z]), addN seen2 z, st2.set z (sy + 1)⟩ = R ∧ mesQ n ⟨y :: (r2 ++ [z]), addN seen2 z, st2.set z (sy + 1)⟩ + 1 ≤ gk ∧ (st2.set z (sy + 1)).getD y 0 = sy ∧ (y = x ∨ (addN seen2 z).testBit y = true)) := ⟨hP2, hU, by omega, by rw [getD_setV, if_neg (fun q => hyz q.1)]; exact hsy2, hyx2.imp id (fun q => by rw [addN_bit, q]; rfl)⟩
              have LK : Hid (∀ wr (b' : Nat) (v' : Value), BqB w n kS (r2 ++ [z]) (st2.set z (sy + 1)) (addN seen2 z) b' v' wr → wr.cell? ⟨ib, y, none⟩ = some (.pointer (some ⟨k + 1, 0, none⟩)) ∧ Calls Tryz.prog 88 #[.pointer (some ⟨k + 1, 0, none⟩), .int .i64 ((z : Int) + 1), .pointer (some ⟨kS + 1, 0, none⟩)] wr fun e w' => e = .returned (.int .i64 (lkB (minusB N (addN seen2 z)) n : Int)) ∧ Below wr.heap.size wr w') := fun wr b' v' h' => by
                obtain ⟨c1, s1, t1⟩ := CKK.out wr h'.fr
                refine ⟨c1, ?_⟩
                have := lacked_SB s1 h'.sb t1 (z + 1) (by omega)
                refine this.mono fun e w' ⟨r', q1, q2, q3⟩ => ?_
                have e1 := lack_from q2 (fun j hj hNj => by
                  rw [addN_bit]
                  by_cases e : z = j
                  · subst e; simp
                  · rw [hall j (by omega) hNj]; rfl)
                rw [← e1]
                exact ⟨q1, q3⟩
              have HC4 : Hid (∀ w4 : World, ((w4.setCell ⟨w.heap.size, z, none⟩ (.int .i64 ((sy : Int) + 1))).alloc (.cells #[.int .i64 (z : Int)] 3)).cell? ⟨w4.heap.size, 0, none⟩ = some (.int .i64 (z : Int))) := fun w4 => by
                have := cellq_any (i := 0) (heap_alloc_new (w4.setCell ⟨w.heap.size, z, none⟩ (.int .i64 ((sy : Int) + 1))) (.cells #[.int .i64 (z : Int)] 3))
                rw [show (w4.setCell ⟨w.heap.size, z, none⟩ (.int .i64 ((sy : Int) + 1))).heap.size = w4.heap.size by simp] at this
                exact this
              have HPT : Hid (∀ w'', BqB w n kS r2 st2 (addN seen2 z) b2 (.slice qa r2.length qc2) w'' → BqB w n kS r2 (st2.set z (sy + 1)) (addN seen2 z) b2 (.slice qa r2.length qc2) (w''.setCell ⟨w.heap.size, z, none⟩ (.int .i64 ((sy : Int) + 1)))) := fun w'' h'' => h''.put z (sy + 1)
              have HRL : Hid (r2.length ≤ 1000000) := by show _ ≤ _; omega
              have w2 : IntKind.i64.wrap ((z : Int) + 1) = (z : Int) + 1 := by rw [IntKind.wrap_i64]; omega
              clear hB hP hU hM hsy2 hyx2 hz1 hz2 hall hzx hyz hM2 hP2
              go_wp2_with (first
                | (go_at_call 50; refine AD.out.mono ?_; rintro e w4 ⟨bv, rfl, h4⟩; have H4 : Hid (BqB w n kS r2 (st2.set z (sy + 1)) (addN seen2 z) b2 (.slice qa r2.length qc2) (w4.setCell ⟨w.heap.size, z, none⟩ (.int .i64 ((sy : Int) + 1)))) := HPT.out w4 h4; have H5 : Hid (((w4.setCell ⟨w.heap.size, z, none⟩ (.int .i64 ((sy : Int) + 1))).alloc (.cells #[.int .i64 (z : Int)] 3)).cell? ⟨w4.heap.size, 0, none⟩ = some (.int .i64 (z : Int))) := HC4.out w4; obtain ⟨⟨sz, cz⟩, fz⟩ := CZ.out w4 h4; clear h4)
                | (at_builtin; refine wpList_q_append rfl _ _ rfl rfl (H4.out.qu.later (below_alloc _ _)) w4.heap.size 1 z rfl H5.out HRL.out ?_))
              intro a5 n5 c5 b5 w5 hq5 hb5 hf5
              have H6 : Hid (BqB w n kS (r2 ++ [z]) (st2.set z (sy + 1)) (addN seen2 z) b5 (.slice a5 n5 c5) w5) := H4.out.push (below_alloc _ _) hq5 (hb5.imp id (fun q => by simpa using q)) hf5
              obtain ⟨ck5, LK5⟩ := LK.out w5 b5 _ H6.out
              have LK6 : Hid (Calls Tryz.prog 88 #[.pointer (some ⟨k + 1, 0, none⟩), .int .i64 ((z : Int) + 1), .pointer (some ⟨kS + 1, 0, none⟩)] w5 fun e w' => e = .returned (.int .i64 (lkB (minusB N (addN seen2 z)) n : Int)) ∧ Below w5.heap.size w5 w') := LK5
              clear hq5 hb5 hf5 LK LK5
              go_wp2_with (go_at_call 88; refine LK6.out.mono ?_; rintro e w6 ⟨rfl, b6⟩; have H7 : Hid (BqB w n kS (r2 ++ [z]) (st2.set z (sy + 1)) (addN seen2 z) b5 (.slice a5 n5 c5) w6) := H6.out.any b6; clear b6 ck5)
              go_roundg (gk - 1)
              case measure => have := HNX.out.2.2.1; omega
              case rel => exact ⟨_, _, _, b5, H7.out, HNX.out.1, HNX.out.2.1, by have := HNX.out.2.2.1; omega, by omega, HNX.out.2.2.2.1, HNX.out.2.2.2.2, rfl⟩
          · rw [if_neg hz] at hU
            have zlt : ¬ (lkB (minusB N seen2) n : Int) < (n : Int) := by omega
            obtain ⟨qa, qc2, rfl⟩ := hB.qu.len
            have HN2 : Hid (BqB w n kS r2 st2 seen2 b2 (.slice qa r2.length qc2) wr ∧ BqP n x r2 st2 seen2 ∧ bfU Ms n x most ⟨r2, seen2, st2⟩ = R ∧ mesQ n ⟨r2, seen2, st2⟩ + 1 ≤ go) := ⟨hB, ⟨fun u hu => hP.qn u (List.mem_cons_of_mem _ hu), hP.bd⟩, hU, by unfold mesQ at hM ⊢; simp only [List.length_cons] at hM ⊢; omega⟩
            generalize lkB (minusB N seen2) n = z at *
            clear hB hP hU hM hsy2 hyx2 hz
            go_wp2
            go_roundg (go - 1)
            case measure => have := HN2.out.2.2.2; omega
            case rel => exact ⟨r2, st2, seen2, b2, HN2.out.1, HN2.out.2.1, HN2.out.2.2.1, by have := HN2.out.2.2.2; omega, by omega⟩
end Go.Proofs.YtcgghlaifmlpiaaGreatDoor
namespace Go.Proofs.YtcgghlaifmlpiaaGreatDoor
set_option linter.unusedVariables false
open Go.RowKit Go.Shelf

theorem bfU_le {Ms : List Nat} {n x most : Nat} : ∀ (k : Nat) (s : BfS), mesQ n s ≤ k → (∀ z, s.st.getD z 0 ≤ popB s.seen n) → ∀ z, (bfU Ms n x most s).getD z 0 ≤ n + 1
  | k, ⟨[], S, st⟩, _, h, z => by
    rw [bfU_nil]
    have := h z
    have := popB_le S n
    simp only at *
    omega
  | 0, ⟨y :: r, S, st⟩, hk, _, _ => by
    unfold mesQ at hk
    simp only [List.length_cons] at hk
    omega
  | k + 1, ⟨y :: r, S, st⟩, hk, h, z => by
    have hp := popB_le S n
    have hy := h y
    have hz := h z
    simp only at hy hz
    rw [bfU_cons]
    by_cases h1 : st.getD y 0 + 1 = most
    · rw [if_pos h1]
      omega
    · rw [if_neg h1]
      by_cases h2 : lkB (minusB (Ms.getD y 0) S) n < n
      · rw [if_pos h2]
        by_cases h3 : lkB (minusB (Ms.getD y 0) S) n = x
        · rw [if_pos h3, getD_setV]
          by_cases e : x = z ∧ z < st.length
          · rw [if_pos e]; omega
          · rw [if_neg e]; omega
        · rw [if_neg h3]
          have hm := mesQ_push (y := y) (r := r) (st := st) (st' := st.set (lkB (minusB (Ms.getD y 0) S) n) (st.getD y 0 + 1)) h2 (lk_new h2).2
          refine bfU_le k _ (by omega) (fun u => ?_) z
          have hpa := popB_addN h2 (lk_new h2).2
          simp only
          rw [getD_setV, hpa]
          have := h u
          simp only at this
          by_cases e : lkB (minusB (Ms.getD y 0) S) n = u ∧ u < st.length
          · rw [if_pos e]; omega
          · rw [if_neg e]; omega
      · rw [if_neg h2]
        refine bfU_le k ⟨r, S, st⟩ ?_ h z
        unfold mesQ at hk ⊢
        simp only [List.length_cons] at hk ⊢
        omega
theorem find_at {p : Nat → Bool} : ∀ {l : List Nat} {q : Nat}, q < l.length → (∀ y ∈ l.take q, p y = false) → p (l.getD q 0) = true → l.find? p = some (l.getD q 0)
  | [], q, h, _, _ => by simp at h
  | a :: l, 0, _, _, h => by
    have h' : p a = true := h
    rw [List.find?_cons, h']
    rfl
  | a :: l, q + 1, hq, hn, h => by
    have ha : p a = false := hn a (by simp)
    rw [List.find?_cons, ha]
    have := find_at (p := p) (l := l) (q := q) (by simpa using hq) (fun y hy => hn y (by simp [hy])) (by simpa using h)
    simpa using this
/-- Steps in memory. -/
def StM (wr : World) (n : Nat) (v : Value) (st : List Nat) : Prop := (v = .slice none 0 0 ∧ st = []) ∨ ∃ sb, v = .slice (some ⟨sb, 0, none⟩) n n ∧ KbB wr sb st ∧ st.length = n
theorem KbB.ne {w : World} {b k m N : Nat} {K : List Nat} (h : KbB w b K) (hs : SB w k m N) : b ≠ k := fun e => by
  have a := h
  unfold KbB at a
  rw [e, hs.wd] at a
  simp only [Option.some.injEq, Obj.cells.injEq] at a
  exact absurd a.2.1 (by decide)
set_option maxRecDepth 100000 in
set_option maxHeartbeats 8000000 in
theorem around_SB {w : World} {rb sb n start : Nat} {ks Ns St : List Nat} (hR : RwB w rb n ks Ns) (hn : Ns.length = n) (hm : n ≤ 4096) (hT : TabB w) (hK : KbB w sb St) (hKl : St.length = n) (hst : start < n) (h1 : 1 ≤ St.getD start 0) (h2 : St.getD start 0 ≤ 100000) (c1 c2 : Nat) :
    Calls Tryz.prog 91 #[.int .i64 (start : Int), .slice (some ⟨rb, 0, none⟩) n c1, .slice (some ⟨sb, 0, none⟩) n c2] w fun e w' => ∃ v, e = .returned v ∧ LBs w (nI (arU Ns St n start)) v w' := by
  have HR : Hid (RwB w rb n ks Ns) := hR
  have HT : Hid (TabB w) := hT
  have HNL : Hid (Ns.length = n) := hn
  have HK : Hid (KbB w sb St ∧ St.length = n) := ⟨hK, hKl⟩
  have slt : (start : Int) < (n : Int) := by omega
  have cs0 := hK.cell (i := start) (by rw [hKl]; exact hst)
  have CS : Hid (∀ wr, Below w.heap.size w wr → ∀ y, y < n → wr.cell? ⟨sb, y, none⟩ = some (.int .i64 (St.getD y 0 : Int))) := fun wr b y hy => cellL (hK.cell (i := y) (by rw [hKl]; exact hy)) b
  have B1 : Hid (LBs w (nI [start]) (.slice (some ⟨w.heap.size, 0, none⟩) 1 1) (w.alloc (.cells #[.int .i64 (start : Int)] 3))) := ⟨IL.oneB w _, fun j hj => by simp [Value.ownBlock] at hj; omega, below_alloc w _⟩
  have cs1 := cellL cs0 (below_alloc w (.cells #[.int .i64 (start : Int)] 3))
  obtain ⟨f0, hf0⟩ : ∃ f0, St.getD start 0 = f0 + 1 := ⟨St.getD start 0 - 1, by omega⟩
  obtain ⟨R, hRe⟩ : ∃ R, arU Ns St n start = R := ⟨_, rfl⟩
  have HRE : Hid (arF Ns St n f0 [start] = R) := by
    rw [← hRe]
    show _ = arF Ns St n (St.getD start 0 - 1) [start]
    rw [hf0]
    rfl
  rw [hRe]
  rw [hf0] at cs1
  have e1 : (((f0 + 1 : Nat) : Int)) - 1 = (f0 : Int) := by omega
  have hf0l : f0 ≤ 100000 := by omega
  clear hR hT hn hK hKl cs0 hf0 h1 h2 hRe
  go_enter Tryz.func91, Tryz.ntmps91
  go_wp2
  clear cs1
  go_loopw [7, 8] (fun v z wr => ∃ (f : Nat) (l : List Nat), z = .int .i64 (f : Int) ∧ LBs w (nI l) v wr ∧ l ≠ [] ∧ (∀ y ∈ l, y < n) ∧ l.length + f ≤ 200000 ∧ arF Ns St n f l = R) (fun _ z _ => (intOf z).toNat)
  case atStart => exact ⟨f0, [start], rfl, B1.out, by simp, fun y hy => by rw [List.mem_singleton.1 hy]; exact hst, by simp; omega, HRE.out⟩
  case round =>
    clear B1 HRE
    obtain ⟨f, l, rfl, hL, hl0, hln, hlf, hF⟩ := hrel
    obtain ⟨la, lc, rfl⟩ := il_lenB hL.il
    cases f with
    | zero =>
      have hF' : l = R := hF
      subst hF'
      have HL : Hid (LBs w (nI l) (.slice la l.length lc) wr) := hL
      clear hL hF
      go_wp2
      go_ret
      exact ⟨_, rfl, HL.out⟩
    | succ f =>
      have fpos : ((f + 1 : Nat) : Int) > 0 := by omega
      have hlp : 0 < l.length := List.length_pos_iff.2 hl0
      have e3 : ((l.length : Nat) : Int) - 1 = ((l.length - 1 : Nat) : Int) := by omega
      have hfl : f ≤ 200000 := by omega
      have wl : wrap64 ((l.length - 1 : Nat) : Int) = ((l.length - 1 : Nat) : Int) := by unfold wrap64; omega
      obtain ⟨lb, lc', he, cl⟩ := IL.atB hL.il (i := l.length - 1) (by omega)
      simp only [Value.slice.injEq, true_and] at he
      obtain ⟨rfl, rfl⟩ := he
      have hlast := last_get hl0
      have hym := hln _ (getD_memN (show l.length - 1 < l.length by omega))
      obtain ⟨y, hy⟩ : ∃ y, l.getD (l.length - 1) 0 = y := ⟨_, rfl⟩
      rw [hy] at cl hlast hym
      have ylt : (y : Int) < (n : Int) := by omega
      obtain ⟨k, hk, hsk⟩ := (HR.out.later hL.bel).at (show y < Ns.length by rw [HNL.out]; exact hym)
      have ck := (HR.out.later hL.bel).cell hk
      have LI : Hid (Calls Tryz.prog 23 #[.pointer (some ⟨k + 1, 0, none⟩)] wr fun e w' => ∃ v, e = .returned v ∧ LBs wr (bitsL (Ns.getD y 0) n) v w') := list_SB hsk (HT.out.later hL.bel)
      obtain ⟨l2, hl2⟩ : ∃ l2, bitsU (Ns.getD y 0) n = l2 := ⟨_, rfl⟩
      rw [bitsL_nI, hl2] at LI
      have HLM : Hid (∀ z ∈ l2, z < n) := fun z hz => by rw [← hl2] at hz; exact (bitsU_mem.1 hz).1
      have hLL : l2.length ≤ 4096 := by
        rw [← hl2, bitsU_len]
        exact Nat.le_trans (popB_le _ _) hm
      have HF : Hid (arF Ns St n f (arS Ns St n (f + 1) l) = R) := hF
      have HAS : Hid ((∀ z, l2.find? (fun z => decide (St.getD z 0 = f + 1)) = some z → arS Ns St n (f + 1) l = l ++ [z]) ∧ (l2.find? (fun z => decide (St.getD z 0 = f + 1)) = none → arS Ns St n (f + 1) l = l)) := by
        refine ⟨fun z hz => ?_, fun hz => ?_⟩
        · unfold arS
          rw [hlast, hl2, hz]
        · unfold arS
          rw [hlast, hl2, hz]
      have HL : Hid (LBs w (nI l) (.slice (some ⟨lb, 0, none⟩) l.length lc) wr) := hL
      have HLO : Hid (l ≠ [] ∧ (∀ y ∈ l, y < n) ∧ l.length + (f + 1) ≤ 200000) := ⟨hl0, hln, hlf⟩
      have HLB : Hid (lb < wr.heap.size) := (World.ownsRow.lt hL.il lb rfl).2
      clear hL hF hk hsk hl2 hlast hy hl0 hln hlf
      have lpl : ((l.length - 1 : Nat) : Int) < (l.length : Int) := by omega
      obtain ⟨wz, rfl⟩ : ∃ wz : World, wz = wr := ⟨_, rfl⟩
      go_wp2_with (go_at_call 23; refine LI.out.mono ?_; rintro e w3 ⟨v, rfl, l3⟩; obtain ⟨xa, xc, rfl⟩ := il_lenB l3.il; have W3 : Hid (LBs w (nI l) (.slice (some ⟨lb, 0, none⟩) l.length lc) w3 ∧ IL w3 (.slice xa l2.length xc) (nI l2)) := ⟨HL.out.any l3.bel, l3.il⟩; clear l3 ck cl)
      clear LI HL
      go_loopw [7, 33] (fun v z wr => ∃ (q : Nat), q ≤ l2.length ∧ z = .int .i64 (q : Int) ∧ v = .slice (some ⟨lb, 0, none⟩) l.length lc ∧ LBs w (nI l) (.slice (some ⟨lb, 0, none⟩) l.length lc) wr ∧ IL wr (.slice xa l2.length xc) (nI l2) ∧ ∀ u ∈ l2.take q, St.getD u 0 ≠ f + 1) (fun _ z _ => l2.length - (intOf z).toNat)
      case atStart => exact ⟨0, Nat.zero_le _, rfl, rfl, W3.out.1, W3.out.2, fun u hu => by simp at hu⟩
      case round =>
        clear W3
        obtain ⟨q, hq, rfl, rfl, hL, hil, hno⟩ := hrel
        by_cases hql : q < l2.length
        · have qlt : (q : Int) < (l2.length : Int) := by omega
          obtain ⟨xb, xc', he, cq⟩ := IL.atB hil hql
          simp only [Value.slice.injEq, true_and] at he
          obtain ⟨rfl, rfl⟩ := he
          have hzm := HLM.out _ (getD_memN hql)
          have hfa := find_at (p := fun z => decide (St.getD z 0 = f + 1)) hql (fun u hu => decide_eq_false (hno u hu))
          have htk : ∀ u, u ∈ l2.take (q + 1) → u ∈ l2.take q ∨ u = l2.getD q 0 := fun u hu => (take_memB hql).1 hu
          obtain ⟨z, hz⟩ : ∃ z, l2.getD q 0 = z := ⟨_, rfl⟩
          rw [hz] at cq hzm hfa htk
          have zlt : (z : Int) < (n : Int) := by omega
          have cz := CS.out wr hL.bel z hzm
          by_cases hsz : St.getD z 0 = f + 1
          · rw [hsz] at cz
            have hfa2 := hfa (decide_eq_true hsz)
            have hasE := HAS.out.1 z hfa2
            have HN : Hid (arF Ns St n f (l ++ [z]) = R) := by
              have := HF.out
              rw [hasE] at this
              exact this
            have HL : Hid (LBs w (nI l) (.slice (some ⟨lb, 0, none⟩) l.length lc) wr) := hL
            have HLN : Hid ((nI l).length ≤ 100000000) := by show _ ≤ _; rw [nI_len]; have := HLO.out.2.2; omega
            have HL2 : Hid (l ++ [z] ≠ [] ∧ (∀ y ∈ l ++ [z], y < n) ∧ (l ++ [z]).length + f ≤ 200000) := ⟨by simp, fun u hu => by
              rcases List.mem_append.1 hu with u1 | u1
              · exact HLO.out.2.1 u u1
              · rw [List.mem_singleton.1 u1]; exact hzm, by have := HLO.out.2.2; simp; omega⟩
            clear hL hil hno hfa hfa2 hasE htk hsz hz
            go_wp2_with (at_builtin; refine wpList_il_append_w rfl _ _ rfl (.slice (some ⟨lb, 0, none⟩) l.length lc) (nI l) rfl (HL.out.il.later (below_alloc _ _)) wr.heap.size 1 (z : Int) rfl (by simp) HLN.out ?_)
            intro a4 n4 c4 w4 ho4 hg4
            have W4 : Hid (LBs w (nI (l ++ [z])) (.slice a4 n4 c4) w4) := by
              rw [nI_snoc]
              exact HL.out.app (below_alloc _ _) hg4 ho4
            clear ho4 hg4
            go_wp2
            go_roundw
            case rel => exact ⟨f, l ++ [z], by go_num, W4.out, HL2.out.1, HL2.out.2.1, HL2.out.2.2, HN.out⟩
            case measure => simp [intOf]
          · have hne : ((St.getD z 0 : Int) == ((f + 1 : Nat) : Int)) = false := by rw [beq_eq_false_iff_ne]; omega
            have HN : Hid (LBs w (nI l) (.slice (some ⟨lb, 0, none⟩) l.length lc) wr ∧ IL wr (.slice (some ⟨xb, 0, none⟩) l2.length xc) (nI l2) ∧ ∀ u ∈ l2.take (q + 1), St.getD u 0 ≠ f + 1) := ⟨hL, hil, fun u hu => by
              rcases htk u hu with u1 | u1
              · exact hno u u1
              · rw [u1]; exact hsz⟩
            generalize St.getD z 0 = sz at *
            clear hL hil hno hfa htk hz hsz
            go_wp2
            go_roundw
            case rel => exact ⟨q + 1, by omega, by go_num, rfl, HN.out.1, HN.out.2.1, HN.out.2.2⟩
            case measure => simp [intOf]; omega
        · obtain rfl : q = l2.length := by omega
          have qlt : ¬ (l2.length : Int) < (l2.length : Int) := by omega
          rw [List.take_length] at hno
          have HN : Hid (LBs w (nI l) (.slice (some ⟨lb, 0, none⟩) l.length lc) wr ∧ arF Ns St n f l = R) := by
            refine ⟨hL, ?_⟩
            have hnone : l2.find? (fun z => decide (St.getD z 0 = f + 1)) = none := List.find?_eq_none.2 (fun u hu q => hno u hu (of_decide_eq_true q))
            have h1 := HAS.out.2 hnone
            have h2 := HF.out
            rw [h1] at h2
            exact h2
          clear hL hil hno
          go_wp2
          go_roundw
          case rel => exact ⟨f, l, by go_num, HN.out.1, HLO.out.1, HLO.out.2.1, by have := HLO.out.2.2; omega, HN.out.2⟩
          case measure => simp [intOf]
end Go.Proofs.YtcgghlaifmlpiaaGreatDoor
