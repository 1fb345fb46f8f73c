import Derived.Test.YtfckmbdcfeljiaaSUndo
namespace Go.Proofs.Ytfckmbdcfeljiaa
set_option linter.unusedVariables false
open Go.RowKit Go.Maps

section
variable {w w' : World} {p g b : Nat} {T N : Value} {D : DataW Unit} {ts ns : List ByteArray}
theorem BInv.cutT {n : Nat} {T' : Value} {D' : DataW Unit} {C : Array Value} (h : BInv w p g b T N D ts ns) (hF : Fine ts ns) (hn : n ≤ ts.length) (hC : C = #[.map (some b), .int .i64 1, .int .i64 64, .int .i64 31, T, .int .i64 2, .int .i64 64, .int .i64 32, N]) (k : PCut w w' g b 1 n T T' ts D' (findS ts ns) C D) :
    BInv w' p g b T' N D' (ts.take n) ns ∧ BFr w w' g b T N T' N := by
  subst hC
  have hpT := h.tn.ne h.hp (by decide)
  have hN' : GS w' N ns := h.nn.kept fun q hq => k.block q (h.nn.lt q hq) (fun e => h.nn.ne h.hg (by decide) (by rw [hq, e])) (fun e => by obtain ⟨es, c, hb⟩ := h.bmap; exact h.nn.neMap hb (by rw [hq, e])) (fun e => h.apart q e.symm hq)
  obtain ⟨m, hm⟩ := k.own
  refine ⟨⟨(k.block p (lt_of_block h.hp) h.pg h.bp.symm hpT).trans h.hp, k.hg, ownsMap_tight hm, ?_, k.names, hN', fun q hq hn => h.apart q (by rw [← k.moved]; exact hq) hn, by have := h.tl; simp; omega, h.nl, ?_⟩, ⟨k.os, k.tape, k.output, k.size, fun q hq h1 h2 h3 _ => k.block q hq h1 h2 h3, fun q hq => .inl (by rw [← k.moved]; exact hq), fun q hq => .inl hq⟩⟩
  · rw [← cut_terms hF.nd n]; exact k.look
  · have := k.sz
    have := h.sz
    simp
    omega
theorem BInv.cutN {n : Nat} {N' : Value} {D' : DataW Unit} {C : Array Value} (h : BInv w p g b T N D ts ns) (hF : Fine ts ns) (hn : n ≤ ns.length) (hC : C = #[.map (some b), .int .i64 1, .int .i64 64, .int .i64 31, T, .int .i64 2, .int .i64 64, .int .i64 32, N]) (k : PCut w w' g b 5 n N N' ns D' (findS ts ns) C D) :
    BInv w' p g b T N' D' ts (ns.take n) ∧ BFr w w' g b T N T N' := by
  subst hC
  have hpT := h.nn.ne h.hp (by decide)
  have hN' : GS w' T ts := h.tn.kept fun q hq => k.block q (h.tn.lt q hq) (fun e => h.tn.ne h.hg (by decide) (by rw [hq, e])) (fun e => by obtain ⟨es, c, hb⟩ := h.bmap; exact h.tn.neMap hb (by rw [hq, e])) (fun e => h.apart q hq e.symm)
  obtain ⟨m, hm⟩ := k.own
  refine ⟨⟨(k.block p (lt_of_block h.hp) h.pg h.bp.symm hpT).trans h.hp, k.hg, ownsMap_tight hm, ?_, hN', k.names, fun q hq hn => h.apart q hq (by rw [← k.moved]; exact hn), h.tl, by have := h.nl; simp; omega, ?_⟩, ⟨k.os, k.tape, k.output, k.size, fun q hq h1 h2 _ h3 => k.block q hq h1 h2 h3, fun q hq => .inl hq, fun q hq => .inl (by rw [← k.moved]; exact hq)⟩⟩
  · rw [← cut_nons hF.nd n]; exact k.look
  · have := k.sz
    have := h.sz
    simp
    omega
theorem BFr.pair {T' N' : Value} {x : Nat} {C : Array Value} (h : BInv w p g b T N D ts ns) (hf : BFr w w' g b T N T' N') (hx : w.heap[x]? = some (.cells C 72 (0, 0))) : w'.heap[x]? = some (.cells C 72 (0, 0)) := by
  have hq : x ≠ g := by intro e; rw [e, h.hg] at hx; simp at hx
  have hb : x ≠ b := by intro e; obtain ⟨es, c, hb⟩ := h.bmap; rw [e, hb] at hx; simp at hx
  exact (hf.block x (lt_of_block hx) hq hb (h.tn.ne hx (by decide)) (h.nn.ne hx (by decide))).trans hx
theorem wordS_len {s : ByteArray} (h : wordS s = true) : s.size ≤ maxLen := by have := wordS_small h; unfold maxLen; omega
theorem termS_len {s : ByteArray} (h : termS s = true) : s.size ≤ maxLen := by have := termS_small h; unfold maxLen; omega
theorem cutT_any {n : Nat} (h : BInv w p g b T N D ts ns) (hF : Fine ts ns) (hn : n ≤ ts.length) :
    Calls Try.prog 47 #[.pointer (some ⟨g, 0, none⟩), .pointer (some ⟨g, 1, none⟩), .int .i64 n] w fun e w' => e = .returned (.tuple #[]) ∧ ∃ T' D', BInv w' p g b T' N D' (ts.take n) ns ∧ BFr w w' g b T N T' N :=
  (cut_any h.termAt hn h.tl (fun s hs => termS_len (hF.ts s hs)) (in_terms hF.nd)).mono fun e w' ⟨he, D', T', k⟩ => ⟨he, T', D', h.cutT hF hn rfl k⟩
theorem cutN_any {n : Nat} (h : BInv w p g b T N D ts ns) (hF : Fine ts ns) (hn : n ≤ ns.length) :
    Calls Try.prog 47 #[.pointer (some ⟨g, 0, none⟩), .pointer (some ⟨g, 5, none⟩), .int .i64 n] w fun e w' => e = .returned (.tuple #[]) ∧ ∃ N' D', BInv w' p g b T N' D' ts (ns.take n) ∧ BFr w w' g b T N T N' :=
  (cut_any h.nonAt hn h.nl (fun s hs => wordS_len (hF.ns s hs)) (in_nons hF.nd)).mono fun e w' ⟨he, D', N', k⟩ => ⟨he, N', D', h.cutN hF hn rfl k⟩
end
set_option maxRecDepth 100000 in
set_option maxHeartbeats 2000000 in
theorem undo_no {w : World} {p g b : Nat} {T N : Value} {D : DataW Unit} {ts ns : List ByteArray} (h : BInv w p g b T N D ts ns) (x y : Int) (hbad : ¬ (0 ≤ x ∧ x ≤ ts.length ∧ 0 ≤ y ∧ y ≤ ns.length)) :
    Calls Try.prog 19 #[.pointer (some ⟨p, 0, none⟩), .agg #[.int .i64 x, .int .i64 y]] w fun e w' => e = .returned (.int .i64 4) ∧ Below w.heap.size w w' := by
  have hA := h.later (below_alloc w (.cells #[.int .i64 x, .int .i64 y] 72))
  have bx : ∀ w1, Below (w.alloc (.cells #[.int .i64 x, .int .i64 y] 72)).heap.size (w.alloc (.cells #[.int .i64 x, .int .i64 y] 72)) w1 → BoxAt w1 w.heap.size x y := fun w1 hb => (boxAt_new w x y 72).later hb
  have fin : ∀ w1 o, Below (w.alloc (.cells #[.int .i64 x, .int .i64 y] 72)).heap.size (w.alloc (.cells #[.int .i64 x, .int .i64 y] 72)) w1 → Below w.heap.size w (w1.alloc o) := fun w1 o hb => ((below_alloc w _).trans (hb.mono (by simp))).alloc (by have := hb.size; simp at this; omega) o
  have hc : x < 0 ∨ (¬ x < 0 ∧ (ts.length : Int) < x) ∨ (¬ x < 0 ∧ ¬ (ts.length : Int) < x ∧ y < 0) ∨ (¬ x < 0 ∧ ¬ (ts.length : Int) < x ∧ ¬ y < 0 ∧ (ns.length : Int) < y) := by omega
  rcases hc with h1 | ⟨h1, h2⟩ | ⟨h1, h2, h3⟩ | ⟨h1, h2, h3, h4⟩
  all_goals
    go_enter Try.func19, Try.ntmps19
    go_wp2_with (first
      | (go_at_call 22; refine (made_any hA).mono ?_; rintro e w' ⟨rfl, rfl⟩)
      | (go_at_call 42; refine (mark_any hA).mono ?_; rintro e w1 ⟨rfl, hb1⟩; have bx1 := bx w1 hb1; have bc0 := bx1.c0; have bc1 := bx1.c1; have bl := bx1.lt))
    go_ret
    exact ⟨rfl, fin w1 _ hb1⟩
set_option maxRecDepth 100000 in
set_option maxHeartbeats 2000000 in
theorem undo_ok {w : World} {p g b : Nat} {T N : Value} {D : DataW Unit} {ts ns : List ByteArray} (h : BInv w p g b T N D ts ns) (hF : Fine ts ns) (x y : Nat) (hx : x ≤ ts.length) (hy : y ≤ ns.length) :
    Calls Try.prog 19 #[.pointer (some ⟨p, 0, none⟩), .agg #[.int .i64 x, .int .i64 y]] w fun e w' => e = .returned (.int .i64 0) ∧ ∃ T' N' D', BInv w' p g b T' N' D' (ts.take x) (ns.take y) ∧ BFr w w' g b T N T' N' := by
  have hA := h.later (below_alloc w (.cells #[.int .i64 x, .int .i64 y] 72))
  have bx : ∀ w1, Below (w.alloc (.cells #[.int .i64 x, .int .i64 y] 72)).heap.size (w.alloc (.cells #[.int .i64 x, .int .i64 y] 72)) w1 → BoxAt w1 w.heap.size x y := fun w1 hb => (boxAt_new w x y 72).later hb
  have tl := h.tl
  have nl := h.nl
  have k1 : ¬ ((x : Int) < 0) := by omega
  have k2 : ¬ ((ts.length : Int) < x) := by omega
  have k3 : ¬ ((y : Int) < 0) := by omega
  have k4 : ¬ ((ns.length : Int) < y) := by omega
  go_enter Try.func19, Try.ntmps19
  go_wp2_with (first
    | (go_at_call 22; refine (made_any hA).mono ?_; rintro e w' ⟨rfl, rfl⟩)
    | (go_at_call 42; refine (mark_any hA).mono ?_; rintro e w1 ⟨rfl, hb1⟩; have bx1 := bx w1 hb1; have bc0 := bx1.c0; have bc1 := bx1.c1; have bl := bx1.lt))
  refine wp_world (fun w5 => BInv w5 p g b T N D ts ns ∧ w5.heap[w.heap.size]? = some (.cells #[.int .i64 x, .int .i64 y] 72 (0, 0)) ∧ Below w.heap.size w w5) ⟨(hA.later hb1).later (below_alloc w1 _), ?_, ((below_alloc w _).trans (hb1.mono (by simp))).alloc (by have := hb1.size; simp at this; omega) _⟩ ?_
  · rw [Below.heap_alloc _ _ _ bl, hb1.block _ (by simp)]
    exact heap_alloc_new w _
  clear hA bx bx1 bc0 bc1 bl hb1
  rintro w5 ⟨h5, b5, B5⟩
  obtain ⟨d0, d1, d2, d3, lp, lg⟩ := h5.cells
  have m0 : w5.cell? ⟨w.heap.size, 0, none⟩ = some (.int .i64 x) := by rw [cellq_any b5]; rfl
  have lm := lt_of_block b5
  have AF : Hid (∀ w6 T6 D6, BInv w6 p g b T6 N D6 (ts.take x) ns → BFr w5.drew w6 g b T N T6 N → w6.cell? ⟨p, 0, none⟩ = some (.pointer (some ⟨g, 0, none⟩)) ∧ w6.cell? ⟨w.heap.size, 0, none⟩ = some (.int .i64 x) ∧ w6.heap[w.heap.size]? = some (.cells #[.int .i64 x, .int .i64 y] 72 (0, 0))) := fun w6 T6 D6 h6 f6 => by
    have q := BFr.pair h5.drew f6 b5
    exact ⟨h6.cells.1, by rw [cellq_any q]; rfl, q⟩
  go_region_held3 (fun w' => w'.cell? ⟨p, 0, none⟩ = some (.pointer (some ⟨g, 0, none⟩)) ∧ w'.cell? ⟨w.heap.size, 0, none⟩ = some (.int .i64 x)) (first | assumption | go_keep)
    (first | (go_at_call 47; refine (cutT_any h5.drew hF hx).mono ?_; rintro e w6 ⟨rfl, T6, D6, h6, f6⟩; obtain ⟨hc6, hm6, b6⟩ := AF.out w6 T6 D6 h6 f6))
  all_goals go_wp2
  all_goals
    refine wp_world (fun w7 => BInv w7 p g b T6 N D6 (ts.take x) ns ∧ w7.heap[w.heap.size]? = some (.cells #[.int .i64 x, .int .i64 y] 72 (0, 0)) ∧ BFr w w7 g b T N T6 N) ⟨h6, b6, (BFr.ofBelow B5.drew g b T N).trans f6⟩ ?_
    clear AF hc6 hm6 b6 f6 h6 d0 d1 d2 d3 lp lg m0 lm h5 b5 B5
    rintro w7 ⟨h7, b7, f7⟩
    have hF7 : Fine (ts.take x) ns := by have := hF.take x ns.length; rwa [List.take_length] at this
    obtain ⟨d0, d1, d2, d3, lp, lg⟩ := h7.cells
    have m1 : w7.cell? ⟨w.heap.size, 1, none⟩ = some (.int .i64 y) := by rw [cellq_any b7]; rfl
    have lm := lt_of_block b7
    have AF : Hid (∀ w8 N8 D8, BInv w8 p g b T6 N8 D8 (ts.take x) (ns.take y) → BFr w7.drew w8 g b T6 N T6 N8 → w8.cell? ⟨p, 0, none⟩ = some (.pointer (some ⟨g, 0, none⟩)) ∧ w8.cell? ⟨w.heap.size, 1, none⟩ = some (.int .i64 y)) := fun w8 N8 D8 h8 f8 => by
      have q := BFr.pair h7.drew f8 b7
      exact ⟨h8.cells.1, by rw [cellq_any q]; rfl⟩
    go_region_held3 (fun w' => w'.cell? ⟨p, 0, none⟩ = some (.pointer (some ⟨g, 0, none⟩)) ∧ w'.cell? ⟨w.heap.size, 1, none⟩ = some (.int .i64 y)) (first | assumption | go_keep)
      (first | (go_at_call 47; refine (cutN_any h7.drew hF7 hy).mono ?_; rintro e w8 ⟨rfl, N8, D8, h8, f8⟩; obtain ⟨hc8, hm8⟩ := AF.out w8 N8 D8 h8 f8))
    all_goals go_wp2
    all_goals go_ret
    all_goals exact ⟨rfl, T6, N8, D8, h8, f7.trans ((BFr.ofBelow (Below.refl _ _).drew g b T6 N).trans f8)⟩
end Go.Proofs.Ytfckmbdcfeljiaa
