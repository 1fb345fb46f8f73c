import Derived.Test.YtgaoahifblifoaaDoorRefSeal
namespace Go.Proofs.YtgaoahifblifoaaDoor
set_option linter.unusedVariables false
open Go.RowKit

theorem mark_any (k : Nat) (w : World) (hk : k ≤ 140737488355400) :
    Calls Tryd.prog 38 #[.int .i64 987, .int .i64 k] w fun e w' => ∃ m, e = .returned (.int .u8 m) ∧ 0 ≤ m ∧ m ≤ 255 ∧ w = w' := by
  go_enter Tryd.func38, Tryd.ntmps38
  go_wp2
  go_ret
  exact ⟨_, rfl, by omega, by omega, rfl⟩
set_option maxRecDepth 100000 in
set_option maxHeartbeats 2000000 in
theorem copy_any (ao : Option Addr) (N cap : Nat) (xs : List Int) (w : World) (hN : N = xs.length) (hl : xs.length ≤ 140737488355328) (hr : RowAt w ao xs) (hc : ao = none → cap = 0) :
    Calls Tryd.prog 39 #[.slice ao N cap] w fun e w' => ∃ a N c, e = .returned (.slice a N c) ∧ Own w' (.slice a N c) xs ∧ (∀ k, (Value.slice a N c).ownBlock = some k → w.heap.size ≤ k) ∧ Below w.heap.size w w' := by
  subst hN
  go_enter Tryd.func39, Tryd.ntmps39
  go_wp2_with (at_builtin; refine wpList_own_append rfl (.tmp 4) (.tmp 5) rfl _ [] rfl (Own.nil w) ao cap xs rfl hr hc (by simp; omega) ?_; intro v2 w2 ho2 hg2 hn2)
  change Own w2 v2 xs at ho2
  obtain ⟨hB2, hv2⟩ := grew_new (Below.refl _ _) (nil_own _) hg2
  obtain ⟨a2, N2, c2, rfl⟩ := own_slice ho2
  go_ret
  exact ⟨a2, N2, c2, rfl, ho2, hv2, hB2⟩

/-- A list of slices that is one's own. -/
def GL (w : World) (v : Value) (ss : List Value) : Prop := w.ownsRow 0 22 1 v ss.length ss
theorem infoS : (Tryd.prog.info? 22).map (fun i => (i.zero, i.size, i.bytes)) = some (some (.slice none 0 0), 1, 24) := by kernel_rfl
theorem infoS_parts : ∃ i, Tryd.prog.info? 22 = some i ∧ i.zero = some (.slice none 0 0) ∧ i.size = 1 ∧ i.bytes = 24 := by
  have h := infoS
  cases e : Tryd.prog.info? 22 with
  | none => rw [e] at h; cases h
  | some i => rw [e] at h; simp at h; exact ⟨i, rfl, h⟩
theorem GL.kept {w w' : World} {v : Value} {ss : List Value} (h : GL w v ss) (hb : ∀ k, v.ownBlock = some k → w'.heap[k]? = w.heap[k]?) : GL w' v ss := by
  refine ⟨h.1, ?_⟩
  rcases h.2 with q | ⟨g, cap, cur, rfl, h1, h2, h3⟩
  · exact .inl q
  · exact .inr ⟨g, cap, cur, rfl, h1, (hb g rfl).trans h2, h3⟩
theorem GL.lt {w : World} {v : Value} {ss : List Value} (h : GL w v ss) : ∀ k, v.ownBlock = some k → k < w.heap.size := fun k hk => (World.ownsRow.lt h k hk).2
theorem GL.later {w w' : World} {v : Value} {ss : List Value} (h : GL w v ss) (hb : Below w.heap.size w w') : GL w' v ss := h.kept fun k hk => hb.block k (h.lt k hk)
theorem GL.ne {w : World} {v : Value} {ss : List Value} (h : GL w v ss) {b : Nat} {C : Array Value} {t : TypeId} (hb : w.heap[b]? = some (.cells C t (0, 0))) (ht : t ≠ 22) : some b ≠ v.ownBlock := by
  intro e
  rcases h.2 with ⟨rfl, _⟩ | ⟨g, cap, cur, rfl, _, hg, _⟩
  · simp [Value.ownBlock] at e
  · simp [Value.ownBlock] at e
    subst e
    rw [hb] at hg; simp at hg; exact ht hg.2
theorem GL.nil (w : World) : GL w (.slice none 0 0) [] := World.ownsRow_nil w 0 22 1
/-- One more slice behind it. -/
theorem run_gl_append (w : World) (ty : TypeId) (v : Value) (ss : List Value) (h : GL w v ss) (b c : Nat) (x : Value) (hx : w.cell? ⟨b, 0, none⟩ = some x) (h1 : x.oneCell' = true) (hlen : ss.length ≤ 1000000) :
    ∃ v' w', (Builtin.append_ #[23, 23] ty #[v, .slice (some ⟨b, 0, none⟩) 1 c]).run Tryd.prog w = .ok v' w' ∧ GL w' v' (ss ++ [x]) ∧ Grew w w' v v' := by
  obtain ⟨i0, hi, hz0, hz1, hz2⟩ := infoS_parts
  have hnews : ∀ j u, [x][j]? = some u → w.cell? ((⟨b, 0, none⟩ : Addr).add j) = some u := by
    intro j u hu
    match j with
    | 0 => simp at hu; subst hu; rw [add_none]; exact hx
    | j + 1 => simp at hu
  have h1' : ∀ u ∈ [x], u.oneCell' = true := by intro u hu; simp at hu; subst hu; exact h1
  obtain ⟨v', w', hrun, hown, hgrow, hnil⟩ := run_append_own (P := Tryd.prog) w 0 23 ty 22 i0 (.slice none 0 0) 1 24 Tryd.underlying23 hi hz0 hz1 hz2 rfl (by decide) v ss.length ss h ⟨b, 0, none⟩ 1 c [x] (by simp) hnews h1' (by unfold maxLen; omega) (by omega) (Nat.zero_le _)
  refine ⟨v', w', hrun, by unfold GL; simpa using hown, ⟨hgrow, ?_⟩⟩
  rcases h.2 with ⟨rfl, hn0⟩ | ⟨g, cap, cur, rfl, hbg, hg, hnc, hcm, hcs, htake⟩
  · obtain rfl : ss = [] := List.eq_nil_of_length_eq_zero hn0
    have hr2 := run_append_nil (P := Tryd.prog) w 23 ty 22 i0 (.slice none 0 0) Tryd.underlying23 hi hz0 ⟨b, 0, none⟩ 1 c [x] (by rw [hz1]; simp) hnews (by omega) (by omega) (by rw [hz2]; omega)
    have e := hrun.symm.trans hr2
    right
    simp only [Result.ok.injEq] at e
    rw [e.1]
    exact ⟨w.heap.size, rfl, Nat.le_refl _⟩
  · by_cases hroom : ss.length + 1 ≤ cap
    · have hr2 := run_append_room (P := Tryd.prog) w 23 ty 22 i0 Tryd.underlying23 hi g ss.length cap cur hg ⟨b, 0, none⟩ 1 c [x] (by rw [hz1]; simp) hnews h1' hroom (by rw [hz1]; simp; omega)
      have e := hrun.symm.trans hr2
      simp only [Result.ok.injEq] at e
      left
      rw [e.1]; rfl
    · have hr2 := run_append_grow (P := Tryd.prog) w 23 ty 22 i0 (.slice none 0 0) Tryd.underlying23 hi hz0 ⟨g, 0, none⟩ ss.length cap ss (by rw [hz1]; simp) (World.ownsRow.cells h (g := g) rfl) ⟨b, 0, none⟩ 1 c [x] (by rw [hz1]; simp) hnews (by omega) (by omega) (growslice_fits (by omega) (by rw [hz2]; omega))
      have e := hrun.symm.trans hr2
      simp only [Result.ok.injEq] at e
      right
      rw [e.1]
      exact ⟨w.heap.size, rfl, Nat.le_refl _⟩
theorem wpList_gl_append {ops : Array Oper} {rest : List Oper} {o : Oper} {a : Act} {Q : Exit → Act → World → Prop} {w : World} (hgd : o.guard = none) (s x : Operand)
    (ho : o.op = .call { callee := .builtin .append, args := #[s, x], argTypes := #[23, 23] })
    (v : Value) (ss : List Value) (hs : a.eval s = v) (h : GL w v ss) (b c : Nat) (y : Value) (hx : a.eval x = .slice (some ⟨b, 0, none⟩) 1 c) (hy : w.cell? ⟨b, 0, none⟩ = some y) (h1 : y.oneCell' = true) (hlen : ss.length ≤ 1000000)
    (hK : ∀ v' w', GL w' v' (ss ++ [y]) → Grew w w' v v' → wpList Tryd.prog ops Q rest (a.put o.dst v') w') : wpList Tryd.prog ops Q (o :: rest) a w := by
  refine wpList_plain hgd fun K hK' => ?_
  obtain ⟨v', w', hrun, h2, h3⟩ := run_gl_append w o.type v ss h b c y hy h1 hlen
  unfold Oper.wp execOp
  simp only [ho, resolve, invoke, builtin, Sem.run_bind, Sem.run_pure, Result.andThen_ok, List.map_toArray, List.map_cons, List.map_nil, hs, hx, hrun]
  exact hK' _ _ (hK v' w' h2 h3)
/-- Bytes that fill a block. -/
structure Full (w : World) (g : Nat) (zs : List Int) : Prop where
  hg : w.heap[g]? = some (.cells (vals zs).toArray 5 (0, 0))
  by_ : isBytes zs
theorem Full.cell {w : World} {g : Nat} {zs : List Int} (h : Full w g zs) (j : Nat) (hj : j < zs.length) : w.cell? ⟨g, j, none⟩ = some (.int .u8 (zs.getD j 0)) := by
  simp [World.cell?, h.hg, List.getD, hj]
theorem Full.free {w : World} {g : Nat} {zs : List Int} (h : Full w g zs) (j : Nat) : w.frozen? ⟨g, j, none⟩ = false := by
  simp [World.frozen?, h.hg]
theorem Full.set {w : World} {g : Nat} {zs : List Int} (h : Full w g zs) (j : Nat) (m : Int) (h0 : 0 ≤ m) (h1 : m ≤ 255) : Full (w.setCell ⟨g, j, none⟩ (.int .u8 m)) g (zs.set j m) := by
  refine ⟨?_, fun x hx => ?_⟩
  · rw [heap_set h.hg]
    congr 2
    simp [vals, List.map_set]
  · rcases List.mem_or_eq_of_mem_set hx with q | q
    · exact h.by_ x q
    · subst q; exact ⟨h0, h1⟩
theorem Full.row {w : World} {g : Nat} {zs : List Int} (h : Full w g zs) : RowAt w (some ⟨g, 0, none⟩) zs :=
  ⟨h.by_, fun _ => ⟨g, 0, rfl, fun i hi => by rw [Nat.zero_add]; exact h.cell i hi⟩⟩
theorem Full.rowTake {w : World} {g : Nat} {zs xs : List Int} (h : Full w g zs) (hx : zs.take xs.length = xs) : RowAt w (some ⟨g, 0, none⟩) xs := by
  refine ⟨by rw [← hx]; exact isBytes_take h.by_ _, fun _ => ⟨g, 0, rfl, fun i hi => ?_⟩⟩
  have hz : i < zs.length := by have := congrArg List.length hx; simp at this; omega
  rw [Nat.zero_add, h.cell i hz]
  have : xs.getD i 0 = zs.getD i 0 := by rw [← hx]; simp [List.getD, hi]
  rw [this]
theorem Full.later {w w' : World} {g : Nat} {zs : List Int} (h : Full w g zs) (hb : w'.heap[g]? = w.heap[g]?) : Full w' g zs := ⟨hb.trans h.hg, h.by_⟩
theorem full_of_made {w : World} {g n : Nat} {vs : List Value} (h : w.ownsRow 0 5 1 (.slice (some ⟨g, 0, none⟩) n n) n vs) (hv : vs = (madeCells (Value.int .u8 0).cells (n * 1)).toList) : ∃ zs : List Int, zs.length = n ∧ Full w g zs := by
  rcases h.2 with ⟨e, _⟩ | ⟨g', cap, cur, e, _, hg, _, _, hs, ht⟩
  · cases e
  · cases e
    refine ⟨List.replicate n 0, by simp, ⟨?_, fun x hx => ?_⟩⟩
    · rw [hg]
      have hc : cur.toList = vs := by rw [← ht, List.take_of_length_le (by simp; omega)]
      congr 2
      apply Array.toList_inj.1
      rw [hc, hv]
      apply List.ext_getElem
      · simp [madeCells]
      · intro k h1 h2
        simp [madeCells, Value.cells, Nat.mod_one]
    · have := List.eq_of_mem_replicate hx; omega

/-- What was handed in: where it lies, its copy, the bytes of both. -/
structure GE where
  g : Nat
  N : Nat
  a : Option Addr
  M : Nat
  c : Nat
  zs : List Int
def GE.fst (e : GE) : Value := .slice (some ⟨e.g, 0, none⟩) e.N e.N
def GE.snd (e : GE) : Value := .slice e.a e.M e.c
structure GE.At (w : World) (e : GE) : Prop where
  n : e.N = e.zs.length
  m : e.M = e.zs.length
  lim : e.zs.length ≤ 140737488355320
  full : Full w e.g e.zs
  own : Own w (.slice e.a e.M e.c) e.zs
theorem GE.At.later {w w' : World} {e : GE} (h : e.At w) (hb : Below w.heap.size w w') : e.At w' :=
  ⟨h.n, h.m, h.lim, h.full.later (hb.block _ (lt_of_block h.full.hg)), h.own.later hb⟩
abbrev gNil : Value := .slice none 0 0
/-- The one who hands in: its two lists of byte slices, and what has been handed in. -/
structure GI (w : World) (q : Nat) (L W : Value) (ss tt : List Value) (es : List GE) : Prop where
  hq : w.heap[q]? = some (.cells #[L, W, gNil, gNil, gNil, gNil, gNil, gNil, gNil, gNil, gNil, gNil, gNil, gNil, gNil, gNil, gNil, gNil, gNil, gNil, gNil, gNil] 35 (0, 0))
  l : GL w L ss
  w_ : GL w W tt
  apart : ∀ k, L.ownBlock = some k → W.ownBlock ≠ some k
  at_ : ∀ e ∈ es, e.At w
/-- What a handing in changes. -/
structure GF (w w' : World) (q : Nat) (L W L' W' : Value) : Prop where
  os : w'.os = w.os
  tape : w'.tape = w.tape
  output : w'.output = w.output
  size : w.heap.size ≤ w'.heap.size
  block : ∀ k, k < w.heap.size → k ≠ q → some k ≠ L.ownBlock → some k ≠ W.ownBlock → w'.heap[k]? = w.heap[k]?
  ml : L'.ownBlock = L.ownBlock ∨ ∃ k, L'.ownBlock = some k ∧ w.heap.size ≤ k
  mw : W'.ownBlock = W.ownBlock ∨ ∃ k, W'.ownBlock = some k ∧ w.heap.size ≤ k
theorem GF.trans {w w1 w2 : World} {q : Nat} {L W L1 W1 L2 W2 : Value} (h : GF w w1 q L W L1 W1) (k : GF w1 w2 q L1 W1 L2 W2) : GF w w2 q L W L2 W2 := by
  refine ⟨k.os.trans h.os, k.tape.trans h.tape, k.output.trans h.output, Nat.le_trans h.size k.size, fun z hz hq hl hw => ?_, ?_, ?_⟩
  · refine (k.block z (Nat.lt_of_lt_of_le hz h.size) hq (fun e => ?_) (fun e => ?_)).trans (h.block z hz hq hl hw)
    · rcases h.ml with q | ⟨m, q, hm⟩
      · exact hl (e.trans q)
      · rw [q] at e; have := Option.some.inj e; omega
    · rcases h.mw with q | ⟨m, q, hm⟩
      · exact hw (e.trans q)
      · rw [q] at e; have := Option.some.inj e; omega
  · rcases k.ml with e | ⟨m, e, hm⟩
    · rw [e]; exact h.ml
    · exact .inr ⟨m, e, Nat.le_trans h.size hm⟩
  · rcases k.mw with e | ⟨m, e, hm⟩
    · rw [e]; exact h.mw
    · exact .inr ⟨m, e, Nat.le_trans h.size hm⟩
theorem GF.ofBelow {w w' : World} {q : Nat} {L W : Value} (h : Below w.heap.size w w') : GF w w' q L W L W := ⟨h.os, h.tape, h.output, h.size, fun k hk _ _ _ => h.block k hk, .inl rfl, .inl rfl⟩
theorem GF.below {w w' : World} {q B : Nat} {L W L' W' : Value} (h : GF w w' q L W L' W') (hB : B ≤ w.heap.size) (hq : B ≤ q) (hl : ∀ k, L.ownBlock = some k → B ≤ k) (hw : ∀ k, W.ownBlock = some k → B ≤ k) : Below B w w' :=
  ⟨h.os, h.tape, h.output, h.size, fun k hk => h.block k (by omega) (by omega) (fun e => by have := hl k e.symm; omega) (fun e => by have := hw k e.symm; omega)⟩
theorem own_block {w : World} {v : Value} {xs : List Int} (h : Own w v xs) {k : Nat} (hk : v.ownBlock = some k) : ∃ C, w.heap[k]? = some (.cells C 5 (0, 0)) := by
  rcases h.2.2 with ⟨rfl, _⟩ | ⟨g, cap, cur, rfl, _, hg, _⟩
  · simp [Value.ownBlock] at hk
  · simp [Value.ownBlock] at hk; subst hk; exact ⟨_, hg⟩
section
variable {w w' : World} {q : Nat} {L W L' W' : Value} {ss tt : List Value} {es : List GE}
theorem GI.byteBlock (h : GI w q L W ss tt es) (hf : GF w w' q L W L' W') {b : Nat} {C : Array Value} (hb : w.heap[b]? = some (.cells C 5 (0, 0))) : w'.heap[b]? = w.heap[b]? :=
  hf.block b (lt_of_block hb) (fun e => by have := h.hq; rw [← e, hb] at this; simp at this) (h.l.ne hb (by decide)) (h.w_.ne hb (by decide))
theorem GI.ownKept (h : GI w q L W ss tt es) (hf : GF w w' q L W L' W') {v : Value} {xs : List Int} (ho : Own w v xs) : Own w' v xs :=
  ho.kept fun k hk => by obtain ⟨C, hC⟩ := own_block ho hk; exact h.byteBlock hf hC
theorem GI.atKept (h : GI w q L W ss tt es) (hf : GF w w' q L W L' W') {e : GE} (he : e.At w) : e.At w' :=
  ⟨he.n, he.m, he.lim, he.full.later (h.byteBlock hf he.full.hg), h.ownKept hf he.own⟩
theorem GI.later (h : GI w q L W ss tt es) (hb : Below w.heap.size w w') : GI w' q L W ss tt es :=
  ⟨(hb.block q (lt_of_block h.hq)).trans h.hq, h.l.later hb, h.w_.later hb, h.apart, fun e he => (h.at_ e he).later hb⟩
theorem GI.cell0 (h : GI w q L W ss tt es) : w.cell? ⟨q, 0, none⟩ = some L := by simp [World.cell?, h.hq]
theorem GI.cell1 (h : GI w q L W ss tt es) : w.cell? ⟨q, 1, none⟩ = some W := by simp [World.cell?, h.hq]
theorem GI.neL (h : GI w q L W ss tt es) : some q ≠ L.ownBlock := h.l.ne h.hq (by decide)
theorem GI.neW (h : GI w q L W ss tt es) : some q ≠ W.ownBlock := h.w_.ne h.hq (by decide)
theorem GI.keepL (h : GI w q L W ss tt es) (hg : Grew w w' L L') : w'.heap[q]? = w.heap[q]? := hg.grown.block q (lt_of_block h.hq) h.neL
theorem GI.keepW (h : GI w q L W ss tt es) (hg : Grew w w' W W') : w'.heap[q]? = w.heap[q]? := hg.grown.block q (lt_of_block h.hq) h.neW
theorem GI.storeL {ss' : List Value} (h : GI w q L W ss tt es) (hg : Grew w w' L L') (hl : GL w' L' ss') : GI (w'.setCell ⟨q, 0, none⟩ L') q L' W ss' tt es ∧ GF w (w'.setCell ⟨q, 0, none⟩ L') q L W L' W := by
  have b := (h.keepL hg).trans h.hq
  have hf : GF w (w'.setCell ⟨q, 0, none⟩ L') q L W L' W :=
    ⟨hg.grown.os, hg.grown.tape, hg.grown.output, by have := hg.grown.size; simpa [World.setCell] using this, fun k hk hq hl' hw' => by rw [Below.heap_setCell _ _ _ _ hq]; exact hg.grown.block k hk hl', hg.moved, .inl rfl⟩
  refine ⟨⟨by rw [heap_set b]; rfl, hl.kept fun k hk => Below.heap_setCell _ _ _ _ (fun e => hl.ne b (by decide) (by rw [hk, e])), h.w_.kept fun k hk => ?_, fun k hk hw => ?_, fun e he => h.atKept hf (h.at_ e he)⟩, hf⟩
  · rw [Below.heap_setCell _ _ _ _ (fun e => h.neW (by rw [hk, e]))]
    exact hg.grown.block k (h.w_.lt k hk) (fun e => h.apart k e.symm hk)
  · rcases hg.moved with e | ⟨m, e, hm⟩
    · exact h.apart k (e ▸ hk) hw
    · rw [hk] at e; have := Option.some.inj e; have := h.w_.lt k hw; omega
theorem GI.storeW {tt' : List Value} (h : GI w q L W ss tt es) (hg : Grew w w' W W') (hl : GL w' W' tt') : GI (w'.setCell ⟨q, 1, none⟩ W') q L W' ss tt' es ∧ GF w (w'.setCell ⟨q, 1, none⟩ W') q L W L W' := by
  have b := (h.keepW hg).trans h.hq
  have hf : GF w (w'.setCell ⟨q, 1, none⟩ W') q L W L W' :=
    ⟨hg.grown.os, hg.grown.tape, hg.grown.output, by have := hg.grown.size; simpa [World.setCell] using this, fun k hk hq hl' hw' => by rw [Below.heap_setCell _ _ _ _ hq]; exact hg.grown.block k hk hw', .inl rfl, hg.moved⟩
  refine ⟨⟨by rw [heap_set b]; rfl, h.l.kept fun k hk => ?_, hl.kept fun k hk => Below.heap_setCell _ _ _ _ (fun e => hl.ne b (by decide) (by rw [hk, e])), fun k hk hw => ?_, fun e he => h.atKept hf (h.at_ e he)⟩, hf⟩
  · rw [Below.heap_setCell _ _ _ _ (fun e => h.neL (by rw [hk, e]))]
    exact hg.grown.block k (h.l.lt k hk) (fun e => h.apart k hk e.symm)
  · rcases hg.moved with e | ⟨m, e, hm⟩
    · exact h.apart k hk (e ▸ hw)
    · rw [hw] at e; have := Option.some.inj e; have := h.l.lt k hk; omega
end
abbrev GInv (w : World) (q : Nat) (L W : Value) (es : List GE) : Prop := GI w q L W (es.map GE.fst) (es.map GE.snd) es
theorem cell_new (w : World) (x : Value) (t : TypeId) : (w.alloc (.cells #[x] t)).cell? ⟨w.heap.size, 0, none⟩ = some x := by
  have := heap_alloc_new w (.cells #[x] t)
  simp only [World.cell?, this]; rfl
theorem gl_slice {w : World} {v : Value} {ss : List Value} (h : GL w v ss) : ∃ a N c, v = .slice a N c := by
  rcases h.2 with ⟨rfl, _⟩ | ⟨g, cap, cur, rfl, _⟩
  · exact ⟨_, _, _, rfl⟩
  · exact ⟨_, _, _, rfl⟩
theorem cellq0 {w : World} {q : Nat} {x : Value} {r : List Value} {t : TypeId} (h : w.heap[q]? = some (.cells (x :: r).toArray t (0, 0))) : w.cell? ⟨q, 0, none⟩ = some x := by simp [World.cell?, h]
theorem cellq1 {w : World} {q : Nat} {x y : Value} {r : List Value} {t : TypeId} (h : w.heap[q]? = some (.cells (x :: y :: r).toArray t (0, 0))) : w.cell? ⟨q, 1, none⟩ = some y := by simp [World.cell?, h]
theorem freeq {w : World} {q j : Nat} {C : Array Value} {t : TypeId} (h : w.heap[q]? = some (.cells C t (0, 0))) : w.frozen? ⟨q, j, none⟩ = false := by simp [World.frozen?, h]
theorem step_gl_append {ops : Array Oper} {o : Oper} {a : Act} {w : World} {K : Act → World → Prop} {Q : Exit → Act → World → Prop} {E : Prop}
    (hg : o.guard = none) (s x : Operand) (hop : o.op = Op.call { callee := Callee.builtin Builtin.append, args := #[s, x], argTypes := #[23, 23] })
    (v : Value) (ss : List Value) (hs : a.eval s = v) (h : GL w v ss) (b c : Nat) (y : Value) (hx : a.eval x = .slice (some ⟨b, 0, none⟩) 1 c) (hy : w.cell? ⟨b, 0, none⟩ = some y) (h1 : y.oneCell' = true) (hlen : ss.length ≤ 1000000)
    (hK : ∀ v' w', GL w' v' (ss ++ [y]) → Grew w w' v v' → K (a.put o.dst v') w') :
    if Region.wanted o (yielded ops a.tmps) = true then Oper.wp Tryd.prog o a w K Q else E := by
  have hw : Region.wanted o (yielded ops a.tmps) = true := by simp [Region.wanted, hg]
  rw [if_pos hw]
  obtain ⟨v', w', hrun, r1, r2⟩ := run_gl_append w o.type v ss h b c y hy h1 hlen
  unfold Oper.wp
  simp [execOp, hop, resolve, invoke, builtin, hs, hx, hrun, Result.andThen]
  exact hK v' w' r1 r2
theorem enter_copy (args : Array Value) (w : World) : (callFunc 39 args).run Tryd.prog w = .ok (.enter 39 args) w := by kernel_rfl
theorem step_copy {ops : Array Oper} {o : Oper} {a : Act} {w : World} {K : Act → World → Prop} {Q : Exit → Act → World → Prop} {E : Prop}
    (hg : o.guard = none) (x : Operand) (hop : o.op = Op.call { callee := Callee.value (Operand.func 39), args := #[x], argTypes := #[22] })
    (ao : Option Addr) (N cap : Nat) (xs : List Int) (hx : a.eval x = .slice ao N cap) (hN : N = xs.length) (hl : xs.length ≤ 140737488355328) (hr : RowAt w ao xs) (hc : ao = none → cap = 0)
    (hK : ∀ a' N' c' w', Own w' (.slice a' N' c') xs → Below w.heap.size w w' → K (a.put o.dst (.slice a' N' c')) w') :
    if Region.wanted o (yielded ops a.tmps) = true then Oper.wp Tryd.prog o a w K Q else E := by
  have hw : Region.wanted o (yielded ops a.tmps) = true := by simp [Region.wanted, hg]
  rw [if_pos hw]
  have hf : a.eval (Operand.func 39) = .func (.func 39) #[] #[] := rfl
  have hcf := enter_copy #[.slice ao N cap] w
  have e : (execOp a.eval o).run Tryd.prog w = .ok (.enter 39 #[.slice ao N cap]) w := by
    simp [execOp, hop, resolve, invoke, hx, hf, Deferred.ofValue, hcf]
  show o.upon Tryd.prog a K Q ((execOp a.eval o).run Tryd.prog w)
  rw [e, Oper.upon_enter]
  refine (copy_any ao N cap xs w hN hl hr hc).mono ?_
  rintro e w' ⟨a', N', c', rfl, ho, _, hb⟩
  exact hK a' N' c' w' ho hb
theorem take_set_step {zs xs : List Int} {j : Nat} (h : zs.take j = xs.take j) (hx : j < xs.length) (hz : j < zs.length) : (zs.set j (xs.getD j 0)).take (j + 1) = xs.take (j + 1) := by
  rw [take_snoc xs j hx, ← h, take_snoc _ j (by simpa using hz), List.take_set_of_le (Nat.le_refl _)]
  simp [List.getD, hz]

set_option maxRecDepth 100000 in
set_option maxHeartbeats 2000000 in
theorem gbytes (q : Nat) (L W : Value) (es : List GE) (ao : Option Addr) (N cap : Nat) (xs : List Int) (w : World) (hN : N = xs.length) (hl : xs.length ≤ 140737488355300) (hr : RowAt w ao xs) (hG : GInv w q L W es) (hes : es.length ≤ 1000) :
    Calls Tryd.prog 10 #[.pointer (some ⟨q, 0, none⟩), .slice ao N cap] w fun e w' => e = .returned (.slice (some ⟨w.heap.size, 0, none⟩) xs.length (xs.length + 3)) ∧ ∃ L' W' x, GInv w' q L' W' (es ++ [x]) ∧ RowAt w' (some ⟨w.heap.size, 0, none⟩) xs ∧ GF w w' q L W L' W' := by
  subst hN
  obtain ⟨i0, hi, hz0, hz1, hz2⟩ := info_parts info5
  have HB2 : Hid (i0.bytes * (xs.length + 3) ≤ 281474976710656) := by show _ ≤ _; rw [hz2]; omega
  have HB3 : Hid (xs.length + 3 ≤ maxLen) := by show _ ≤ _; unfold maxLen; omega
  go_enter Tryd.func10, Tryd.ntmps10
  go_wp2_with (at_make; refine wpList_make_full _ rfl _ _ 22 rfl 0 5 i0 (.int .u8 0) 1 Tryd.underlying22 hi hz0 hz1 _ _ _ _ (xs.length + 3) rfl rfl (by omega) (by omega) HB2.out HB3.out (Nat.zero_le _) ?_; intro w0 hown0 hgrow0)
  have hb0 : Below w.heap.size w w0 := (Below.refl _ _).grown hgrow0 (Nat.le_refl _) (fun k h => by cases h)
  obtain ⟨zs0, hzl0, hF0⟩ := full_of_made hown0 rfl
  clear hown0 hgrow0
  go_loopw [6] (fun i wr => ∃ (j : Nat) (zs : List Int), i = .int .i64 j ∧ j ≤ xs.length + 3 ∧ zs.length = xs.length + 3 ∧ Full wr w.heap.size zs ∧ Below w.heap.size w wr) (fun i _ => xs.length + 3 - (intOf i).toNat)
  case atStart => exact ⟨0, zs0, rfl, by omega, hzl0, hF0, hb0⟩
  case round =>
    obtain ⟨j, zs, rfl, hj, hzl, hF, hb⟩ := hrel
    clear hb0 hF0 hzl0
    by_cases hlt : j < xs.length + 3
    · have ck := hF.cell j (by omega)
      have fk := hF.free j
      have FS : Hid _ := hF.set j
      go_wp2_with (go_at_call 38; refine (mark_any j wr (by omega)).mono ?_; rintro e w4 ⟨m, rfl, hm0, hm1, rfl⟩)
      go_roundw
      case rel => exact ⟨j + 1, zs.set j m, by go_num, by omega, by simp; omega, FS.out m hm0 hm1, hb.setCell (Nat.le_refl _) _⟩
      case measure => simp [intOf]; omega
    · go_wp2
      clear hlt hj
      go_loopw [7] (fun i wr => ∃ (j : Nat) (zs : List Int), i = .int .i64 j ∧ j ≤ xs.length ∧ zs.length = xs.length + 3 ∧ zs.take j = xs.take j ∧ Full wr w.heap.size zs ∧ Below w.heap.size w wr) (fun i _ => xs.length - (intOf i).toNat)
      case atStart => exact ⟨0, zs, rfl, by omega, hzl, rfl, hF, hb⟩
      case round =>
        clear hF hzl hb
        obtain ⟨j, zs, rfl, hj, hzl, hzt, hF, hb⟩ := hrel
        by_cases hlt : j < xs.length
        · obtain ⟨b, off, rfl, hc⟩ := hr.2 (fun e => by subst e; simp at hlt)
          have hcj := (hb.cell (p := ⟨b, off + j, none⟩) (World.block_lt_of_cell? w _ (hc j hlt))).trans (hc j hlt)
          have hbj := hr.1.at j
          have ck := hF.cell j (by omega)
          have fk := hF.free j
          have FS : Hid _ := hF.set j
          have HT : Hid ((zs.set j (xs.getD j 0)).take (j + 1) = xs.take (j + 1)) := take_set_step hzt hlt (by omega)
          clear hc hzt
          generalize hx : xs.getD j 0 = x at *
          clear hx
          go_wp2
          go_roundw
          case rel => exact ⟨j + 1, zs.set j x, by go_num, by omega, by simp; omega, HT.out, FS.out x hbj.1 hbj.2, hb.setCell (Nat.le_refl _) _⟩
          case measure => simp [intOf]; omega
        · obtain rfl : j = xs.length := by omega
          rw [List.take_length] at hzt
          have HZT : Hid (zs.take xs.length = xs) := hzt
          clear hzt hj
          have hG2 := hG.later hb
          have c0 := hG2.cell0
          have c1 := hG2.cell1
          have hA := hG2.later (below_alloc wr (.cells #[Value.slice (some ⟨w.heap.size, 0, none⟩) (xs.length + 3) (xs.length + 3)] 22))
          go_wp2_with (at_builtin; refine wpList_gl_append rfl (.tmp 40) (.tmp 42) rfl L (es.map GE.fst) rfl hA.l wr.heap.size 1 (.slice (some ⟨w.heap.size, 0, none⟩) (xs.length + 3) (xs.length + 3)) rfl (cell_new wr _ _) rfl (by simp; omega) ?_; intro L5 w5 hl5 hg5; obtain ⟨a5, N5, c5, rfl⟩ := gl_slice hl5; have d0 := (hA.keepL hg5).trans hA.hq; have d1 := cellq0 d0; have d2 := freeq (j := 0) d0)
          obtain ⟨hG6, hf6⟩ := hA.storeL hg5 hl5
          have hF6 := (hF.later ((below_alloc wr (.cells #[Value.slice (some ⟨w.heap.size, 0, none⟩) (xs.length + 3) (xs.length + 3)] 22)).block _ (lt_of_block hF.hg)))
          have hF7 := hF6.later (hA.byteBlock hf6 hF6.hg)
          clear hF6 d0 d1 d2 hl5 hg5 c0 c1
          generalize w5.setCell ⟨q, 0, none⟩ (.slice a5 N5 c5) = w6 at *
          have hGd := hG6.later (Below.refl _ _).drew
          have e1 := hG6.cell1
          have hR6 := hF7.row
          have HZ : Hid (zs.length ≤ 140737488355328) := by show _ ≤ _; omega
          have AF : Hid (∀ w1 o, Below w6.drew.heap.size w6.drew w1 → w1.cell? ⟨q, 1, none⟩ = some W ∧ (w1.alloc o).cell? ⟨q, 1, none⟩ = some W ∧ GL (w1.alloc o) W (es.map GE.snd)) := fun w1 o hb => ⟨(hGd.later hb).cell1, ((hGd.later hb).later (below_alloc _ _)).cell1, ((hGd.later hb).later (below_alloc _ _)).w_⟩
          have AF2 : Hid (∀ w1 o w2 W2, Below w6.drew.heap.size w6.drew w1 → Grew (w1.alloc o) w2 W W2 → w2.cell? ⟨q, 1, none⟩ = some W ∧ w2.frozen? ⟨q, 1, none⟩ = false) := fun w1 o w2 W2 hb hg => by
            have h1 := (hGd.later hb).later (below_alloc _ o)
            have b := (h1.keepW hg).trans h1.hq
            exact ⟨cellq1 b, freeq b⟩
          have HLN : Hid ((es.map GE.snd).length ≤ 1000000) := by show _ ≤ _; simp; omega
          go_region_law (first
            | (refine step_copy (by rfl) _ (by rfl) (some ⟨w.heap.size, 0, none⟩) (xs.length + 3) (xs.length + 3) zs (by rfl) hzl.symm HZ.out hR6 no_nil ?_; intro a8 N8 c8 w8 ho8 hb8; obtain ⟨f0, f1, f2⟩ := AF.out w8 (.cells #[.slice a8 N8 c8] 22) hb8)
            | (refine step_gl_append (by rfl) _ _ (by rfl) W (es.map GE.snd) (by rfl) f2 w8.heap.size 1 (.slice a8 N8 c8) (by rfl) (cell_new w8 _ _) (by rfl) HLN.out ?_; intro W9 w9 hl9 hg9; obtain ⟨a9, N9, c9, rfl⟩ := gl_slice hl9; obtain ⟨m0, m1⟩ := AF2.out w8 _ w9 _ hb8 hg9))
          all_goals go_wp2
          all_goals go_ret
          all_goals
            obtain ⟨hG9, hf9⟩ := ((hGd.later hb8).later (below_alloc w8 _)).storeW hg9 hl9
            have hfa : GF w6 (w8.alloc (.cells #[.slice a8 N8 c8] 22)) q (.slice a5 N5 c5) W (.slice a5 N5 c5) W := GF.ofBelow ((Below.refl _ _).drew.trans (hb8.trans ((below_alloc w8 _).mono hb8.size)))
            have hfx := hfa.trans hf9
            have hF9 := hF7.later (hG6.byteBlock hfx hF7.hg)
            have ho9 := ((hGd.later hb8).later (below_alloc w8 _)).ownKept hf9 (ho8.alloc _)
            have hend : GF w _ q L W _ _ := (GF.ofBelow hb).trans ((GF.ofBelow (below_alloc wr _)).trans (hf6.trans hfx))
            refine ⟨rfl, _, _, ⟨w.heap.size, xs.length + 3, a8, N8, c8, zs⟩, ⟨hG9.hq, ?_, ?_, hG9.apart, ?_⟩, hF9.rowTake HZT.out, hend⟩
            · have := hG9.l; simpa [GE.fst] using this
            · have := hG9.w_; simpa [GE.snd] using this
            · intro e he
              rcases List.mem_append.1 he with r | r
              · exact hG9.at_ e r
              · simp at r; subst r
                exact ⟨hzl.symm, (own_len ho9).1, by show zs.length ≤ _; omega, hF9, ho9⟩
end Go.Proofs.YtgaoahifblifoaaDoor
