import Derived.Test.YtnhfnihdikammabSRef
import Derived.Laws.AppendOwnNone
namespace Go.Proofs.Ytnhfnihdikammab
set_option linter.unusedVariables false
open Go.RowKit Go.Maps

set_option maxHeartbeats 1000000 in
theorem refFind_any {w : World} {q : Nat} {T N : Value} {ts ns : List ByteArray} (h : RB w q T N ts ns) (s : ByteArray) (k i : Int) (ok : Bool) (hF : Hid ((∃ q, findS ts ns s = some q ∧ q = (k, i) ∧ ok = true) ∨ findS ts ns s = none ∧ k = 0 ∧ i = 0 ∧ ok = false)) :
    Calls Try.prog 36 #[.pointer (some ⟨q, 0, none⟩), .string s] w fun e w' => e = .returned (.tuple #[.agg #[.int .i64 k, .int .i64 i], .bool ok]) ∧ Below w.heap.size w w' := by
  have hA := h.later (below_alloc w (.cells #[.int .i64 0, .int .i64 0] 33))
  have c0 : (w.alloc (.cells #[.int .i64 0, .int .i64 0] 33)).cell? ⟨q, 0, none⟩ = some T := by rw [cellq_any hA.hq]; rfl
  have c1 : (w.alloc (.cells #[.int .i64 0, .int .i64 0] 33)).cell? ⟨q, 1, none⟩ = some N := by rw [cellq_any hA.hq]; rfl
  have hmy : ts.length ≤ 140737488355328 := by have := h.tl; omega
  have hot : ns.length ≤ 140737488355328 := by have := h.nl; omega
  have K : Hid ((∃ j : Nat, placeS ts s = some j ∧ k = 1 ∧ i = j ∧ ok = true) ∨ (placeS ts s = none ∧ ∃ j : Nat, placeS ns s = some j ∧ k = 2 ∧ i = j ∧ ok = true) ∨ (placeS ts s = none ∧ placeS ns s = none ∧ k = 0 ∧ i = 0 ∧ ok = false)) := by
    unfold Hid
    have hF := hF.out
    unfold findS at hF
    cases h1 : placeS ts s with
    | some j => rw [h1] at hF; simp at hF; exact .inl ⟨j, rfl, hF.1.1.symm, hF.1.2.symm, hF.2⟩
    | none =>
      rw [h1] at hF
      cases h2 : placeS ns s with
      | some j => rw [h2] at hF; simp at hF; exact .inr (.inl ⟨rfl, j, rfl, hF.1.1.symm, hF.1.2.symm, hF.2⟩)
      | none => rw [h2] at hF; simp at hF; exact .inr (.inr ⟨rfl, rfl, hF.1, hF.2.1, hF.2.2⟩)
  clear hF
  rcases K.out with ⟨j, hm, rfl, rfl, rfl⟩ | ⟨hm, j, ho, rfl, rfl, rfl⟩ | ⟨hm, ho, rfl, rfl, rfl⟩ <;> clear K
  · have ei : inS ts s = j := inS_some hm
    go_enter Try.func36, Try.ntmps36
    go_wp2_with (first | (go_at_call 75; (with_reducible refine (in_own hA.tn s hmy).mono ?_); rintro e w' ⟨rfl, rfl⟩))
    go_returns
    exact ⟨rfl, by go_grown⟩
  · have ei : inS ts s = -1 := inS_none hm
    have ej : inS ns s = j := inS_some ho
    go_enter Try.func36, Try.ntmps36
    go_wp2_with (first | (go_at_call 75; (with_reducible refine (in_own hA.tn s hmy).mono ?_); rintro e w' ⟨rfl, rfl⟩) | (go_at_call 75; (with_reducible refine (in_own hA.nn s hot).mono ?_); rintro e w' ⟨rfl, rfl⟩))
    go_returns
    exact ⟨rfl, by go_grown⟩
  · have ei : inS ts s = -1 := inS_none hm
    have ej : inS ns s = -1 := inS_none ho
    go_enter Try.func36, Try.ntmps36
    go_wp2_with (first | (go_at_call 75; (with_reducible refine (in_own hA.tn s hmy).mono ?_); rintro e w' ⟨rfl, rfl⟩) | (go_at_call 75; (with_reducible refine (in_own hA.nn s hot).mono ?_); rintro e w' ⟨rfl, rfl⟩))
    go_returns
    exact ⟨rfl, by go_grown⟩

/-- append(nil, l..). -/
theorem run_gs_copy (w : World) (ty : TypeId) (ao : Option Addr) (c : Nat) (news : List ByteArray) (hr : StrRow w ao news) (hc : ao = none → c = 0) (hlen : news.length ≤ 1000000) :
    ∃ a' n' c' w', (Builtin.append_ #[27, 27] ty #[.slice none 0 0, .slice ao news.length c]).run Try.prog w = .ok (.slice a' n' c') w' ∧ GS w' (.slice a' n' c') news ∧ Grew w w' (.slice none 0 0) (.slice a' n' c') := by
  obtain ⟨i0, hi, hz0, hz1, hz2⟩ := infoStr_parts
  match ao with
  | none =>
    obtain rfl := hc rfl
    have hn : news = [] := by
      by_cases hn : news = []
      · exact hn
      · obtain ⟨b, off, he, _⟩ := hr hn; cases he
    subst hn
    exact ⟨none, 0, 0, w, run_append_owned_none (P := Try.prog) (w := w) 0 27 ty 9 i0 1 Try.underlying27 hi _ _ _ (GS.nil w), GS.nil w, ⟨⟨rfl, rfl, rfl, Nat.le_refl _, fun _ _ _ => rfl⟩, .inl rfl⟩⟩
  | some ad =>
    have hnews : ∀ j u, (news.map Value.string)[j]? = some u → w.cell? (ad.add j) = some u := by
      intro j u hu
      have hj : j < news.length := by simpa using (List.getElem?_eq_some_iff.1 hu).1
      obtain ⟨b, off, he, _, hcell⟩ := hr (by intro e; subst e; simp at hj)
      obtain rfl := Option.some.inj he
      have := hcell j hj
      simp [List.getD, hj] at this hu
      subst hu
      rw [add_none]
      exact this
    have h1 : ∀ u ∈ news.map Value.string, u.oneCell' = true := by
      intro u hu
      obtain ⟨x, _, rfl⟩ := List.mem_map.1 hu
      rfl
    obtain ⟨v', w', hrun, hown, hgrow, _, hloc⟩ := run_append_own_at (P := Try.prog) w 0 27 ty 9 i0 (.string ⟨#[]⟩) 1 16 Try.underlying27 hi hz0 hz1 hz2 rfl (by decide) (.slice none 0 0) 0 [] (World.ownsRow_nil w 0 9 1) ad news.length c (news.map Value.string) (by simp) hnews h1 (by unfold maxLen; omega) (by omega) (Nat.zero_le _)
    have h6 : GS w' v' news := by unfold GS; simpa using hown
    obtain ⟨a', c', rfl⟩ := gs_len h6
    exact ⟨_, _, _, w', hrun, h6, ⟨hgrow, hloc.imp id fun e => ⟨_, e, Nat.le_refl _⟩⟩⟩
theorem step_gs_copy {ops : Array Oper} {o : Oper} {a : Act} {w : World} {K : Act → World → Prop} {Q : Exit → Act → World → Prop} {E : Prop}
    (hg : o.guard = none) (s x : Operand) (hop : o.op = Op.call { callee := Callee.builtin Builtin.append, args := #[s, x], argTypes := #[27, 27] })
    (hs : a.eval s = .slice none 0 0) (ao : Option Addr) (N c : Nat) (news : List ByteArray) (hN : N = news.length) (hx : a.eval x = .slice ao N c) (hr : StrRow w ao news) (hc : ao = none → c = 0) (hlen : news.length ≤ 1000000)
    (hK : ∀ a' n' c' w', GS w' (.slice a' n' c') news → Grew w w' (.slice none 0 0) (.slice a' n' c') → K (a.put o.dst (.slice a' n' c')) w') :
    if Region.wanted o (yielded ops a.tmps) = true then Oper.wp Try.prog o a w K Q else E := by
  have hw : Region.wanted o (yielded ops a.tmps) = true := by simp [Region.wanted, hg]
  rw [if_pos hw]
  subst hN
  obtain ⟨a', n', c', w', hrun, r1, r2⟩ := run_gs_copy w o.type ao c news hr hc hlen
  unfold Oper.wp
  simp [execOp, hop, resolve, invoke, builtin, hs, hx, hrun, Result.andThen]
  exact hK a' n' c' w' r1 r2
theorem grew_nil {w w' : World} {v' : Value} (h : Grew w w' (.slice none 0 0) v') : Below w.heap.size w w' ∧ ∀ k, v'.ownBlock = some k → w.heap.size ≤ k := by
  refine ⟨⟨h.grown.os, h.grown.tape, h.grown.output, h.grown.size, fun k hk => h.grown.block k hk (by simp [Value.ownBlock])⟩, fun k hk => ?_⟩
  rcases h.moved with e | ⟨k', e, hk'⟩
  · rw [e] at hk; simp [Value.ownBlock] at hk
  · rw [e] at hk; simp at hk; omega
theorem RB.setT {w w2 : World} {q : Nat} {T N T' : Value} {ts ns ts' : List ByteArray} (h : RB w q T N ts ns) (hg : Grew w w2 (.slice none 0 0) T') (ho : GS w2 T' ts') (hl : ts'.length ≤ 64) :
    RB (w2.setCell ⟨q, 0, none⟩ T') q T' N ts' ns ∧ BFr w (w2.setCell ⟨q, 0, none⟩ T') q q T N T' N := by
  obtain ⟨hB, hm⟩ := grew_nil hg
  have h2 := h.later hB
  have hs : (w2.setCell ⟨q, 0, none⟩ T').heap.size = w2.heap.size := by simp [World.setCell]
  refine ⟨⟨heap_set h2.hq _ _, ho.kept fun k hk => Below.heap_setCell _ _ _ _ fun e => ho.ne h2.hq (by decide) (by rw [hk, e]), h2.nn.kept fun k hk => Below.heap_setCell _ _ _ _ fun e => h2.nn.ne h2.hq (by decide) (by rw [hk, e]), fun k hk hn => ?_, hl, h.nl⟩, ⟨hB.os, hB.tape, hB.output, by rw [hs]; exact hB.size, fun k hk hkg _ _ _ => ?_, fun k hk => .inr (hm k hk), fun k hk => .inl hk⟩⟩
  · have := hm k hk
    have := h.nn.lt k hn
    omega
  · rw [Below.heap_setCell _ _ _ _ hkg]; exact hB.block k hk
theorem RB.setN {w w2 : World} {q : Nat} {T N N' : Value} {ts ns ns' : List ByteArray} (h : RB w q T N ts ns) (hg : Grew w w2 (.slice none 0 0) N') (ho : GS w2 N' ns') (hl : ns'.length ≤ 64) :
    RB (w2.setCell ⟨q, 1, none⟩ N') q T N' ts ns' ∧ BFr w (w2.setCell ⟨q, 1, none⟩ N') q q T N T N' := by
  obtain ⟨hB, hm⟩ := grew_nil hg
  have h2 := h.later hB
  have hs : (w2.setCell ⟨q, 1, none⟩ N').heap.size = w2.heap.size := by simp [World.setCell]
  refine ⟨⟨heap_set h2.hq _ _, h2.tn.kept fun k hk => Below.heap_setCell _ _ _ _ fun e => h2.tn.ne h2.hq (by decide) (by rw [hk, e]), ho.kept fun k hk => Below.heap_setCell _ _ _ _ fun e => ho.ne h2.hq (by decide) (by rw [hk, e]), fun k hk hn => ?_, h.tl, hl⟩, ⟨hB.os, hB.tape, hB.output, by rw [hs]; exact hB.size, fun k hk hkg _ _ _ => ?_, fun k hk => .inl hk, fun k hk => .inr (hm k hk)⟩⟩
  · have := hm k hn
    have := h.tn.lt k hk
    omega
  · rw [Below.heap_setCell _ _ _ _ hkg]; exact hB.block k hk
theorem StrRow.take {w : World} {ao : Option Addr} {ss : List ByteArray} (h : StrRow w ao ss) (m : Nat) : StrRow w ao (ss.take m) := fun hn => by
  obtain ⟨b, off, rfl, hl, hc⟩ := h (by intro e; subst e; simp at hn)
  refine ⟨b, off, rfl, hl, fun i hi => ?_⟩
  simp at hi
  rw [hc i (by omega)]
  simp [List.getD]
  rw [List.getElem?_take_of_lt (by omega)]

/-- A pair in a box. -/
theorem BFr.box {w w' : World} {q : Nat} {T N T' N' : Value} {ts ns : List ByteArray} {x : Nat} {C : Array Value} (h : RB w q T N ts ns) (hf : BFr w w' q q T N T' N') (hx : w.heap[x]? = some (.cells C 35 (0, 0))) : w'.heap[x]? = some (.cells C 35 (0, 0)) := by
  have hq : x ≠ q := by intro e; rw [e, h.hq] at hx; simp at hx
  exact (hf.block x (lt_of_block hx) hq hq (h.tn.ne hx (by decide)) (h.nn.ne hx (by decide))).trans hx
def undoF (ts ns : List ByteArray) (a b : Int) : Int × List ByteArray × List ByteArray :=
  if 0 ≤ a ∧ a ≤ ts.length ∧ 0 ≤ b ∧ b ≤ ns.length then (0, ts.take a.toNat, ns.take b.toNat) else (4, ts, ns)
set_option maxRecDepth 100000 in
set_option maxHeartbeats 2000000 in
theorem refUndo_ok {w : World} {q : Nat} {T N : Value} {ts ns : List ByteArray} (h : RB w q T N ts ns) (a b : Nat) (ha : a ≤ ts.length) (hb : b ≤ ns.length) :
    Calls Try.prog 39 #[.pointer (some ⟨q, 0, none⟩), .agg #[.int .i64 a, .int .i64 b]] w fun e w' => e = .returned (.int .i64 0) ∧ ∃ T' N', RB w' q T' N' (ts.take a) (ns.take b) ∧ BFr w w' q q T N T' N' := by
  have hA := h.later (below_alloc w (.cells #[.int .i64 a, .int .i64 b] 35))
  obtain ⟨ta, tc, rfl, hr, hn0, hcap⟩ := hA.tn.row
  obtain ⟨na, nc, rfl, hr', hn0', hcap'⟩ := hA.nn.row
  have c0 : (w.alloc (.cells #[.int .i64 a, .int .i64 b] 35)).cell? ⟨q, 0, none⟩ = some (.slice ta ts.length tc) := by rw [cellq_any hA.hq]; rfl
  have c1 : (w.alloc (.cells #[.int .i64 a, .int .i64 b] 35)).cell? ⟨q, 1, none⟩ = some (.slice na ns.length nc) := by rw [cellq_any hA.hq]; rfl
  have tl := h.tl
  have nl := h.nl
  have k2 : decide ((ts.length : Int) < a) = false := by simp; omega
  have k3 : decide ((b : Int) < 0) = false := by simp
  have k4 : decide ((ns.length : Int) < b) = false := by simp; omega
  have k5 : decide ((a : Int) < 0) = false := by simp
  go_enter Try.func39, Try.ntmps39
  go_wp2
  go_quiet (fail)
  go_wp2
  refine wp_world (fun w5 => RB w5 q (.slice ta ts.length tc) (.slice na ns.length nc) ts ns ∧ w5.heap[w.heap.size]? = some (.cells #[.int .i64 a, .int .i64 b] 35 (0, 0)) ∧ Below w.heap.size w w5) ⟨hA.later (below_drewN (Below.refl _ _) _), ?_, below_drewN (below_alloc w _) _⟩ ?_
  · rw [(drewN_heap _ _).1]; exact heap_alloc_new w _
  clear c0 c1 hA hr hr' k2 k3 k4 k5
  rintro w5 ⟨h5, b5, B5⟩
  obtain ⟨_, _, e1, hr5, _, _⟩ := h5.tn.row
  simp only [Value.slice.injEq] at e1
  obtain ⟨rfl, _, rfl⟩ := e1
  have hrT : StrRow w5.drew ta (ts.take a) := (hr5.later (Below.refl _ _).drew).take a
  have hNa : a = (ts.take a).length := by simp; omega
  have hNb : b = (ns.take b).length := by simp; omega
  have hla : (ts.take a).length ≤ 1000000 := by omega
  have hlb : (ns.take b).length ≤ 1000000 := by omega
  have HNA : Hid (a = (ts.take a).length) := hNa
  have HNB : Hid (b = (ns.take b).length) := hNb
  clear hNa hNb
  have c0 : w5.cell? ⟨q, 0, none⟩ = some (.slice ta ts.length tc) := by rw [cellq_any h5.hq]; rfl
  have m0 : w5.cell? ⟨w.heap.size, 0, none⟩ = some (.int .i64 a) := by rw [cellq_any b5]; rfl
  have ka : (a : Int) ≤ tc := by omega
  have kb : (b : Int) ≤ nc := by omega
  have AF : Hid (∀ w6 v6, Grew w5.drew w6 (.slice none 0 0) v6 → w6.cell? ⟨q, 0, none⟩ = some (.slice ta ts.length tc) ∧ w6.frozen? ⟨q, 0, none⟩ = false) := fun w6 v6 hg => by
    have x := (h5.later (Below.refl _ _).drew).later (grew_nil hg).1
    exact ⟨by rw [cellq_any x.hq]; rfl, by simp [World.frozen?, x.hq]⟩
  go_region_law (first
    | (refine step_gs_copy (by rfl) _ _ (by rfl) (by rfl) ta a tc (ts.take a) HNA.out (by rfl) hrT hn0 hla ?_; intro a6 n6 c6 w6 ho6 hg6; obtain ⟨x0, x1⟩ := AF.out w6 _ hg6))
  all_goals go_wp2
  all_goals
    have hl6 : (ts.take a).length ≤ 64 := by simp; omega
    obtain ⟨r7, f7⟩ := (h5.later (Below.refl _ _).drew).setT hg6 ho6 hl6
    have f7' : BFr w (w6.setCell ⟨q, 0, none⟩ (.slice a6 n6 c6)) q q (.slice ta ts.length tc) (.slice na ns.length nc) (.slice a6 n6 c6) (.slice na ns.length nc) := (BFr.ofBelow (B5.drew) q q _ _).trans f7
    have b7 := BFr.box (h5.later (Below.refl _ _).drew) f7 b5
    refine wp_world (fun w7 => RB w7 q (.slice a6 n6 c6) (.slice na ns.length nc) (ts.take a) ns ∧ w7.heap[w.heap.size]? = some (.cells #[.int .i64 a, .int .i64 b] 35 (0, 0)) ∧ BFr w w7 q q (.slice ta ts.length tc) (.slice na ns.length nc) (.slice a6 n6 c6) (.slice na ns.length nc)) ⟨r7, b7, f7'⟩ ?_
    clear r7 f7 f7' b7 hg6 ho6 x0 x1 AF c0 m0 hrT hr5 h5 b5 B5
    rintro w7 ⟨h7, b7, f7⟩
    obtain ⟨_, _, e1, hr7, _, _⟩ := h7.nn.row
    simp only [Value.slice.injEq] at e1
    obtain ⟨rfl, _, rfl⟩ := e1
    have hrN : StrRow w7.drew na (ns.take b) := (hr7.later (Below.refl _ _).drew).take b
    have c1 : w7.cell? ⟨q, 1, none⟩ = some (.slice na ns.length nc) := by rw [cellq_any h7.hq]; rfl
    have m1 : w7.cell? ⟨w.heap.size, 1, none⟩ = some (.int .i64 b) := by rw [cellq_any b7]; rfl
    have AF : Hid (∀ w8 v8, Grew w7.drew w8 (.slice none 0 0) v8 → w8.cell? ⟨q, 1, none⟩ = some (.slice na ns.length nc) ∧ w8.frozen? ⟨q, 1, none⟩ = false) := fun w8 v8 hg => by
      have x := (h7.later (Below.refl _ _).drew).later (grew_nil hg).1
      exact ⟨by rw [cellq_any x.hq]; rfl, by simp [World.frozen?, x.hq]⟩
    go_region_law (first
      | (refine step_gs_copy (by rfl) _ _ (by rfl) (by rfl) na b nc (ns.take b) HNB.out (by rfl) hrN hn0' hlb ?_; intro a8 n8 c8 w8 ho8 hg8; obtain ⟨x0, x1⟩ := AF.out w8 _ hg8))
    all_goals go_wp2
    all_goals go_ret
    all_goals
      have hl8 : (ns.take b).length ≤ 64 := by simp; omega
      obtain ⟨r9, f9⟩ := (h7.later (Below.refl _ _).drew).setN hg8 ho8 hl8
      exact ⟨rfl, _, _, r9, f7.trans ((BFr.ofBelow (Below.refl _ _).drew q q _ _).trans f9)⟩
theorem refUndo_no {w : World} {q : Nat} {T N : Value} {ts ns : List ByteArray} (h : RB w q T N ts ns) (a b : Int) (hbad : ¬ (0 ≤ a ∧ a ≤ ts.length ∧ 0 ≤ b ∧ b ≤ ns.length)) :
    Calls Try.prog 39 #[.pointer (some ⟨q, 0, none⟩), .agg #[.int .i64 a, .int .i64 b]] w fun e w' => e = .returned (.int .i64 4) ∧ Below w.heap.size w w' := by
  have hA := h.later (below_alloc w (.cells #[.int .i64 a, .int .i64 b] 35))
  obtain ⟨ta, tc, rfl⟩ := gs_len hA.tn
  obtain ⟨na, nc, rfl⟩ := gs_len hA.nn
  have c0 : (w.alloc (.cells #[.int .i64 a, .int .i64 b] 35)).cell? ⟨q, 0, none⟩ = some (.slice ta ts.length tc) := by rw [cellq_any hA.hq]; rfl
  have c1 : (w.alloc (.cells #[.int .i64 a, .int .i64 b] 35)).cell? ⟨q, 1, none⟩ = some (.slice na ns.length nc) := by rw [cellq_any hA.hq]; rfl
  by_cases h1 : a < 0
  · go_enter Try.func39, Try.ntmps39
    go_wp2
    go_quiet (fail)
    go_wp2
    go_ret
    exact ⟨rfl, below_drewN (below_alloc w _) _⟩
  have k1 : decide (a < 0) = false := by simpa using h1
  by_cases h2 : (ts.length : Int) < a
  · go_enter Try.func39, Try.ntmps39
    go_wp2
    go_quiet (fail)
    go_wp2
    go_ret
    exact ⟨rfl, below_drewN (below_alloc w _) _⟩
  have k2 : decide ((ts.length : Int) < a) = false := by simpa using h2
  by_cases h3 : b < 0
  · go_enter Try.func39, Try.ntmps39
    go_wp2
    go_quiet (fail)
    go_wp2
    go_ret
    exact ⟨rfl, below_drewN (below_alloc w _) _⟩
  have k3 : decide (b < 0) = false := by simpa using h3
  have h4 : (ns.length : Int) < b := by omega
  go_enter Try.func39, Try.ntmps39
  go_wp2
  go_quiet (fail)
  go_wp2
  go_ret
  exact ⟨rfl, below_drewN (below_alloc w _) _⟩
end Go.Proofs.Ytnhfnihdikammab
