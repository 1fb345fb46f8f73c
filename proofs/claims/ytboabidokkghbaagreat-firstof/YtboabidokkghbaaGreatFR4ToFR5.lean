import Derived.Test.YtboabidokkghbaaGreatFR0ToFR3
import Derived.Test.YtboabidokkghbaaGreatFThreeToFChk8
namespace Go.Proofs.YtboabidokkghbaaGreat
set_option linter.unusedVariables false
open Go.RowKit

set_option maxRecDepth 100000 in
set_option maxHeartbeats 4000000 in
theorem rchkNull_ok (g : GV) (na : Option Addr) (nc : Nat) (N : List Bool) (w : World) (h : FG w g) (hN : BRow w na N) (hl : N.length = g.ns.length) :
    Calls Tryz.prog 32 #[g.val, .slice na N.length nc] w fun e w' => e = .returned (.tuple #[.int .i64 (chkN N g.ps).1, .int .i64 (chkN N g.ps).2]) ∧ Below w.heap.size w w' := by
  have X0 : Hid ((w.alloc (gBox g)).heap[w.heap.size]? = some (gBox g)) := heap_alloc_new _ _
  have HFG : Hid (∀ w', Below w.heap.size w w' → FG w' g ∧ BRow w' na N) := fun w' hb => ⟨h.later hb, hN.later hb⟩
  have HN64 : Hid (N.length ≤ 64 ∧ 1 ≤ N.length ∧ N.length = g.ns.length) := ⟨by rw [hl]; exact h.nl.2, by rw [hl]; exact h.nl.1, hl⟩
  have HIT : Hid (∀ k, k < g.ps.length → violN N (g.ps.getD k .none) = true → (∀ j, j < k → violN N (g.ps.getD j .none) = false) → chkN N g.ps = (61, (k : Int))) := fun k hk h hb => firstV_hit hk h hb 0 (Nat.zero_le _) rfl
  have NON : Hid ((∀ j, j < g.ps.length → violN N (g.ps.getD j .none) = false) → chkN N g.ps = (0, 0)) := fun h => firstV_none h _ (Nat.le_refl _)
  obtain ⟨x0, x1, x2, x3, x4⟩ := gb_cells X0.out
  have hpl := h.pl
  have t1 : ((N.length : Int) != (g.ns.length : Int)) = false := by rw [hl]; simp
  generalize hX : chkN N g.ps = X at *
  obtain ⟨X1, X2⟩ := X
  clear h hN hX hl
  go_enter Tryz.func32, Tryz.ntmps32
  go_wp2
  go_loopw [6] (fun z wr => ∃ k : Nat, k ≤ g.ps.length ∧ z = .int .i64 k ∧ (∀ j, j < k → violN N (g.ps.getD j .none) = false) ∧ Below w.heap.size w wr ∧ wr.heap[w.heap.size]? = some (gBox g)) (fun z _ => g.ps.length - (intOf z).toNat)
  case atStart => exact ⟨0, Nat.zero_le _, rfl, fun j hj => absurd hj (Nat.not_lt_zero j), below_alloc w _, X0.out⟩
  case round =>
    clear x0 x1 x2 x3 x4
    obtain ⟨k, hk, rfl, hf, hb, hg⟩ := hrel
    obtain ⟨x0, x1, x2, x3, x4⟩ := gb_cells hg
    have HB : Hid (Below w.heap.size w wr ∧ wr.heap[w.heap.size]? = some (gBox g)) := ⟨hb, hg⟩
    by_cases hlt : k < g.ps.length
    · obtain ⟨b, o, hpa, hbl, hc⟩ := (HFG.out _ hb).1.p.cells (by intro e; rw [e] at hlt; simp at hlt)
      obtain ⟨c0, c1, c2⟩ := hc k hlt
      have klt : (k : Int) < (g.ps.length : Int) := by omega
      have hmem : g.ps.getD k .none ∈ g.ps := by simp [List.getD, hlt]
      obtain ⟨l0, l1⟩ := (HFG.out _ hb).1.left _ hmem
      have hrow := (HFG.out _ hb).1.p.rows _ hmem
      have hrl := (HFG.out _ hb).1.rl _ hmem
      have hsy := (HFG.out _ hb).1.sym _ hmem
      have HH : Hid (violN N (g.ps.getD k .none) = true → X1 = 61 ∧ X2 = (k : Int)) := fun h => by
        have := HIT.out k hlt h hf
        simpa using this
      have HS : Hid (violN N (g.ps.getD k .none) = false → ∀ j, j < k + 1 → violN N (g.ps.getD j .none) = false) := fun h j hj => by
        by_cases q : j = k
        · subst q; exact h
        · exact hf j (by omega)
      generalize g.ps.getD k .none = p at *
      obtain ⟨pl, pra, prc, pr, pp⟩ := p
      simp only at c0 c1 c2 l0 l1 hrow hrl hsy
      obtain ⟨m, rfl⟩ : ∃ m : Nat, pl = (m : Int) := ⟨pl.toNat, by omega⟩
      have hmN : m < N.length := by have := HN64.out; omega
      have mlN : (m : Int) < (N.length : Int) := by omega
      obtain ⟨nb, no, hna, hnb, hnc⟩ := (HFG.out _ hb).2 (by intro e; rw [e] at hmN; simp at hmN)
      have n0 := hnc m hmN
      have V : Hid (violN N ⟨(m : Int), pra, prc, pr, pp⟩ = (!N.getD m false && allN N pr)) := by show _ = _; simp [violN]
      have FC : Hid (Calls Tryz.prog 52 #[.slice na N.length nc, .slice pra pr.length prc] wr fun e w' => e = .returned (.bool (allN N pr)) ∧ Below wr.heap.size wr w') :=
        rall_S na nc N pra prc pr _ (HFG.out _ hb).2 hrow (by omega) (by have := HN64.out; omega) (fun s hs e => by
          rcases hsy s hs with q | q
          · omega
          · rw [HN64.out.2.2]; exact q.2)
      rw [hpa] at x3
      rw [hna] at FC ⊢
      generalize N.getD m false = v at *
      generalize allN N pr = z at *
      clear hb hf hc hmem hrow hsy hnc hpa hna hg
      cases v
      · cases z
        · have R : Hid _ := HS.out (by rw [V.out]; rfl)
          go_wp2_with (go_at_call 52; refine FC.out.mono ?_; rintro e w3 ⟨rfl, b3⟩; have B3 : Hid (Below w.heap.size w w3 ∧ w3.heap[w.heap.size]? = some (gBox g)) := ⟨HB.out.1.trans (b3.mono HB.out.1.size), (b3.block _ (lt_of_block HB.out.2)).trans HB.out.2⟩; clear b3)
          go_roundw
          case rel => exact ⟨k + 1, by omega, by go_num, R.out, B3.out⟩
          case measure => simp [intOf]; omega
        · obtain ⟨r1, r2⟩ := HH.out (by rw [V.out]; rfl)
          have R : Hid (X1 = 61 ∧ X2 = (k : Int)) := ⟨r1, r2⟩
          clear r1 r2
          go_wp2_with (go_at_call 52; refine FC.out.mono ?_; rintro e w3 ⟨rfl, b3⟩; have B3 : Hid (Below w.heap.size w w3) := HB.out.1.trans (b3.mono HB.out.1.size); clear b3)
          refine bodyPost_ret (results_tmp2 rfl _ _ _) rfl ?_
          exact ⟨by rw [R.out.1, R.out.2]; rfl, B3.out⟩
      · have R : Hid _ := HS.out (by rw [V.out]; rfl)
        go_wp2
        go_roundw
        case rel => exact ⟨k + 1, by omega, by go_num, R.out, HB.out⟩
        case measure => simp [intOf]; omega
    · obtain rfl : k = g.ps.length := by omega
      have R : Hid (X1 = 0 ∧ X2 = 0) := by have := NON.out hf; show _ ∧ _; simpa using this
      clear hf hb hg
      go_wp2
      refine bodyPost_ret (results_tmp2 rfl _ _ _) rfl ?_
      exact ⟨by rw [R.out.1, R.out.2]; rfl, HB.out.1⟩
set_option maxRecDepth 100000 in
set_option maxHeartbeats 2000000 in
theorem rchkNull_S (g : GV) (na : Option Addr) (nc : Nat) (N : List Bool) (w : World) (h : FG w g) (hN : BRow w na N) (hNl : N.length ≤ 140737488355328) :
    Calls Tryz.prog 32 #[g.val, .slice na N.length nc] w fun e w' => e = .returned (.tuple #[.int .i64 (chkNU g N 0).1, .int .i64 (chkNU g N 0).2]) ∧ Below w.heap.size w w' := by
  by_cases hl : N.length = g.ns.length
  · have := rchkNull_ok g na nc N w h hN hl
    rwa [show chkNU g N 0 = chkN N g.ps by rw [chkNU, if_neg (by simp [askU, hl])]]
  · have e : chkNU g N 0 = (3, 0) := by simp [chkNU, askU, hl]
    rw [e]
    have X0 : Hid ((w.alloc (gBox g)).heap[w.heap.size]? = some (gBox g)) := heap_alloc_new _ _
    obtain ⟨x0, x1, x2, x3, x4⟩ := gb_cells X0.out
    have hnl := h.nl.2
    have t1 : ((N.length : Int) != (g.ns.length : Int)) = true := by simp; omega
    clear h hN e hl
    go_enter Tryz.func32, Tryz.ntmps32
    go_wp2
    refine bodyPost_ret (results_tmp2 rfl _ _ _) rfl ?_
    exact ⟨rfl, below_alloc _ _⟩
end Go.Proofs.YtboabidokkghbaaGreat
namespace Go.Proofs.YtboabidokkghbaaGreat
set_option linter.unusedVariables false
open Go.RowKit

theorem run_rg2 {o : Oper} {a : Act} {t0 t1 : TypeId} {v0 v1 : Value} {x0 x1 : Operand} (hop : o.op = Op.call { callee := Callee.value (Operand.func 71), args := #[x0, x1], argTypes := #[t0, t1] }) (h0 : a.eval x0 = v0) (h1 : a.eval x1 = v1) (w : World) : (execOp a.eval o).run Tryz.prog w = .ok (.enter 71 #[v0, v1]) w := by
  have hf : a.eval (Operand.func 71) = .func (.func 71) #[] #[] := rfl
  simp [execOp, hop, resolve, invoke, h0, h1, hf, Deferred.ofValue]
theorem run_wn2 {o : Oper} {a : Act} {t0 t1 : TypeId} {v0 v1 : Value} {x0 x1 : Operand} (hop : o.op = Op.call { callee := Callee.value (Operand.func 54), args := #[x0, x1], argTypes := #[t0, t1] }) (h0 : a.eval x0 = v0) (h1 : a.eval x1 = v1) (w : World) : (execOp a.eval o).run Tryz.prog w = .ok (.enter 54 #[v0, v1]) w := by
  have hf : a.eval (Operand.func 54) = .func (.func 54) #[] #[] := rfl
  simp [execOp, hop, resolve, invoke, h0, h1, hf, Deferred.ofValue]
theorem run_bg3 {o : Oper} {a : Act} {t0 t1 t2 : TypeId} {v0 v1 v2 : Value} {x0 x1 x2 : Operand} (hop : o.op = Op.call { callee := Callee.value (Operand.func 53), args := #[x0, x1, x2], argTypes := #[t0, t1, t2] }) (h0 : a.eval x0 = v0) (h1 : a.eval x1 = v1) (h2 : a.eval x2 = v2) (w : World) : (execOp a.eval o).run Tryz.prog w = .ok (.enter 53 #[v0, v1, v2]) w := by
  have hf : a.eval (Operand.func 53) = .func (.func 53) #[] #[] := rfl
  simp [execOp, hop, resolve, invoke, h0, h1, h2, hf, Deferred.ofValue]
set_option maxRecDepth 100000 in
set_option maxHeartbeats 8000000 in
theorem rchkFirst_ok (g : GV) (na : Option Addr) (nc : Nat) (N : List Bool) (fa : Option Addr) (fc : Nat) (L : List (List Int)) (w : World) (h : FG w g) (hN : BRow w na N) (hl : N.length = g.ns.length) (hL : LsRow w fa L) (hl2 : L.length = g.ns.length) (hll : ∀ l ∈ L, l.length ≤ 140737488355328) :
    Calls Tryz.prog 33 #[g.val, .slice na N.length nc, .slice fa L.length fc] w fun e w' => e = .returned (.tuple #[.int .i64 (chkF N L g.ps g.ts.length).1, .int .i64 (chkF N L g.ps g.ts.length).2]) ∧ Below w.heap.size w w' := by
  have X0 : Hid ((w.alloc (gBox g)).heap[w.heap.size]? = some (gBox g)) := heap_alloc_new _ _
  have HFG : Hid (∀ w', Below w.heap.size w w' → FG w' g ∧ BRow w' na N ∧ LsRow w' fa L) := fun w' hb => ⟨h.later hb, hN.later hb, hL.later hb⟩
  have HLL : Hid (∀ l ∈ L, l.length ≤ 140737488355328) := hll
  have HN64 : Hid (N.length ≤ 64 ∧ 1 ≤ N.length ∧ N.length = g.ns.length ∧ L.length = g.ns.length ∧ g.ts.length ≤ 64) := ⟨by rw [hl]; exact h.nl.2, by rw [hl]; exact h.nl.1, hl, hl2, h.tl.2⟩
  have HIL : Hid (∀ k x, k < L.length → badL L g.ts.length k = some x → (∀ j, j < k → badL L g.ts.length j = none) → chkF N L g.ps g.ts.length = x) := fun k x hk hx hb => by rw [chkF, firstO_hit hx hb hk]
  have HIP : Hid (∀ k x, (∀ j, j < L.length → badL L g.ts.length j = none) → k < g.ps.length → badP N (L.map setS) g.ps k = some x → (∀ j, j < k → badP N (L.map setS) g.ps j = none) → chkF N L g.ps g.ts.length = x) := fun k x hL hk hx hb => by rw [chkF, firstO_none hL, firstO_hit hx hb hk]
  have NON : Hid ((∀ j, j < L.length → badL L g.ts.length j = none) → (∀ j, j < g.ps.length → badP N (L.map setS) g.ps j = none) → chkF N L g.ps g.ts.length = (0, 0)) := fun h1 h2 => by rw [chkF, firstO_none h1, firstO_none h2]
  obtain ⟨x0, x1, x2, x3, x4⟩ := gb_cells X0.out
  have hpl := h.pl
  have htl := h.tl.2
  have htl1 := h.tl.1
  have hLlen : L.length ≤ 64 := by rw [hl2]; exact h.nl.2
  have t1 : ((N.length : Int) != (g.ns.length : Int)) = false := by rw [hl]; simp
  have t2 : ((L.length : Int) != (g.ns.length : Int)) = false := by rw [hl2]; simp
  generalize hX : chkF N L g.ps g.ts.length = X at *
  obtain ⟨X1, X2⟩ := X
  clear h hN hX hl hL hl2 hll
  go_enter Tryz.func33, Tryz.ntmps33
  go_wp2
  go_loopw [8] (fun z wr => ∃ k : Nat, k ≤ L.length ∧ z = .int .i64 k ∧ (∀ j, j < k → badL L g.ts.length j = none) ∧ Below w.heap.size w wr ∧ wr.heap[w.heap.size]? = some (gBox g)) (fun z _ => L.length - (intOf z).toNat)
  case atStart => exact ⟨0, Nat.zero_le _, rfl, fun j hj => absurd hj (Nat.not_lt_zero j), below_alloc w _, X0.out⟩
  case round =>
    clear x0 x1 x2 x3 x4 t1 t2
    obtain ⟨k, hk, rfl, hf, hb, hg⟩ := hrel
    have HB : Hid (Below w.heap.size w wr ∧ wr.heap[w.heap.size]? = some (gBox g)) := ⟨hb, hg⟩
    have HF : Hid (∀ j, j < k → badL L g.ts.length j = none) := hf
    by_cases hlt : k < L.length
    · have klt : (k : Int) < (L.length : Int) := by omega
      obtain ⟨lb, lo, rfl, hlb, hlc⟩ := (HFG.out wr hb).2.2 (by intro e; rw [e] at hlt; simp at hlt)
      obtain ⟨la, lc, c0, hrow⟩ := hlc k hlt
      have hrl := HLL.out (L.getD k []) (by simp [List.getD, hlt])
      have V : Hid (badL L g.ts.length k = if allB (L.getD k []) g.ts.length = false then some (4, (k : Int)) else if riseF (L.getD k []) = false then some (7, (k : Int)) else none) := rfl
      generalize L.getD k [] = l at *
      have KS0 : Hid (∀ w', Below wr.heap.size wr w' → (fun w' : World => w'.cell? ⟨lb, lo + k, none⟩ = some (.slice la l.length lc) ∧ w'.cell? ⟨w.heap.size, 0, none⟩ = some (.slice g.ta g.ts.length g.tc)) w') := fun w' hw => ⟨(hw.cell (p := ⟨lb, lo + k, none⟩) hlb).trans c0, (gb_cells ((hw.block _ (lt_of_block hg)).trans hg)).1⟩
      have AC : Hid (∀ w', Below wr.heap.size wr w' → Calls Tryz.prog 71 #[.slice la l.length lc, .int .i64 (IntKind.i64.wrap ((g.ts.length : Int) - 1))] w' fun en w'' => en = .returned (.bool (allB l g.ts.length)) ∧ Below w'.heap.size w' w'') := fun w' hw => ranged_S la lc _ _ _ (by rw [IntWalk.i64_in ((g.ts.length : Int) - 1) ⟨by omega, by omega⟩]; omega) w' (hrow.later hw) hrl
      have RC : Hid (∀ w', Below wr.heap.size wr w' → Calls Tryz.prog 76 #[.slice la l.length lc] w' fun en w'' => en = .returned (.bool (riseF l)) ∧ Below w'.heap.size w' w'') := fun w' hw => rrises_S la lc _ w' (hrow.later hw) hrl
      have HH : Hid (∀ x, badL L g.ts.length k = some x → (X1, X2) = x) := fun x hx => HIL.out k x hlt hx hf
      have HS : Hid (badL L g.ts.length k = none → ∀ j, j < k + 1 → badL L g.ts.length j = none) := fun h j hj => by
        by_cases q : j = k
        · subst q; exact h
        · exact hf j (by omega)
      generalize allB l g.ts.length = A at *
      generalize riseF l = R at *
      have hs : Hid ((fun w' : World => w'.cell? ⟨lb, lo + k, none⟩ = some (.slice la l.length lc) ∧ w'.cell? ⟨w.heap.size, 0, none⟩ = some (.slice g.ta g.ts.length g.tc)) wr.drew) := KS0.out _ (Below.refl _ _).drew
      have HBD : Hid (Below wr.heap.size wr wr.drew) := (Below.refl _ _).drew
      clear hb hg hf hlc hrow c0
      go_wp2
      refine wp_region_x (S := fun _ => (fun w' : World => w'.cell? ⟨lb, lo + k, none⟩ = some (.slice la l.length lc) ∧ w'.cell? ⟨w.heap.size, 0, none⟩ = some (.slice g.ta g.ts.length g.tc))) (by kernel_rfl) ?_
      refine takeF (i := 0) (v := ?_) rfl (by kernel_rfl) (by decide +kernel) (by decide +kernel) (fun _ _ _ h => h) (Or.inl ⟨by rfl, ?_⟩) hs.out ?_
      rotate_left
      · (intro w hSw; (try dsimp only at hSw); go_simp; try (with_reducible rfl))
      (try simp only [Act.put, List.setIfInBounds_toArray, List.set_cons_zero, List.set_cons_succ])
      refine takeF (i := 1) (v := ?_) rfl (by kernel_rfl) (by decide +kernel) (by decide +kernel) (fun _ _ _ h => h) (Or.inl ⟨by rfl, ?_⟩) hs.out ?_
      rotate_left
      · (intro w hSw; (try dsimp only at hSw); go_simp; try (with_reducible rfl))
      (try simp only [Act.put, List.setIfInBounds_toArray, List.set_cons_zero, List.set_cons_succ])
      refine takeF (i := 2) (v := ?_) rfl (by kernel_rfl) (by decide +kernel) (by decide +kernel) (fun _ _ _ h => h) (Or.inl ⟨by rfl, ?_⟩) hs.out ?_
      rotate_left
      · (intro w hSw; (try dsimp only at hSw); go_simp; try (with_reducible rfl))
      (try simp only [Act.put, List.setIfInBounds_toArray, List.set_cons_zero, List.set_cons_succ])
      refine takeF (i := 3) (v := ?_) rfl (by kernel_rfl) (by decide +kernel) (by decide +kernel) (fun _ _ _ h => h) (Or.inl ⟨by rfl, ?_⟩) hs.out ?_
      rotate_left
      · (intro w hSw; (try dsimp only at hSw); go_simp; try (with_reducible rfl))
      (try simp only [Act.put, List.setIfInBounds_toArray, List.set_cons_zero, List.set_cons_succ])
      refine takeF (i := 4) (v := ?_) rfl (by kernel_rfl) (by decide +kernel) (by decide +kernel) (fun _ _ _ h => h) (Or.inl ⟨by rfl, ?_⟩) hs.out ?_
      rotate_left
      · (intro w hSw; (try dsimp only at hSw); go_simp; try (with_reducible rfl))
      (try simp only [Act.put, List.setIfInBounds_toArray, List.set_cons_zero, List.set_cons_succ])
      refine takeF (i := 5) (v := ?_) rfl (by kernel_rfl) (by decide +kernel) (by decide +kernel) (fun _ _ _ h => h) (Or.inl ⟨by rfl, ?_⟩) hs.out ?_
      rotate_left
      · (intro w hSw; (try dsimp only at hSw); go_simp; try (with_reducible rfl))
      (try simp only [Act.put, List.setIfInBounds_toArray, List.set_cons_zero, List.set_cons_succ])
      refine takeF (i := 6) (v := ?_) rfl (by kernel_rfl) (by decide +kernel) (by decide +kernel) (fun _ _ _ h => h) (Or.inl ⟨by rfl, ?_⟩) hs.out ?_
      rotate_left
      · (intro w hSw; (try dsimp only at hSw); go_simp; try (with_reducible rfl))
      (try simp only [Act.put, List.setIfInBounds_toArray, List.set_cons_zero, List.set_cons_succ])
      refine takeF (i := 7) (v := ?_) rfl (by kernel_rfl) (by decide +kernel) (by decide +kernel) (fun _ _ _ h => h) (Or.inl ⟨by rfl, ?_⟩) hs.out ?_
      rotate_left
      · (intro w hSw; (try dsimp only at hSw); go_simp; try (with_reducible rfl))
      (try simp only [Act.put, List.setIfInBounds_toArray, List.set_cons_zero, List.set_cons_succ])
      refine wpAnyX_one (j := 8) (by decide +kernel) rfl (fun K' hK => ?_)
      refine step_callX rfl 71 #[.slice la l.length lc, .int .i64 (IntKind.i64.wrap ((g.ts.length : Int) - 1))] _ (run_rg2 (v0 := .slice la l.length lc) (v1 := .int .i64 (IntKind.i64.wrap ((g.ts.length : Int) - 1))) (by rfl) (by rfl) (by rfl) _) (AC.out _ HBD.out) ?_
      rintro e w3 ⟨rfl, b3⟩
      have B3 : Hid (Below wr.heap.size wr w3) := HBD.out.trans b3
      have W3 : Hid (Below w.heap.size w w3 ∧ w3.heap[w.heap.size]? = some (gBox g)) := ⟨HB.out.1.trans (B3.out.mono HB.out.1.size), (B3.out.block _ (lt_of_block HB.out.2)).trans HB.out.2⟩
      clear b3 hs HBD
      have hs : Hid ((fun w' : World => w'.cell? ⟨lb, lo + k, none⟩ = some (.slice la l.length lc) ∧ w'.cell? ⟨w.heap.size, 0, none⟩ = some (.slice g.ta g.ts.length g.tc)) w3) := KS0.out _ B3.out
      refine ⟨_, rfl, hK.out _ _ hs.out ?_⟩
      clear hK K'
      (try simp only [Act.put, List.setIfInBounds_toArray, List.set_cons_zero, List.set_cons_succ])
      refine takeF (i := 9) (v := ?_) rfl (by kernel_rfl) (by decide +kernel) (by decide +kernel) (fun _ _ _ h => h) (Or.inl ⟨by rfl, ?_⟩) hs.out ?_
      rotate_left
      · (intro w hSw; (try dsimp only at hSw); go_simp; try (with_reducible rfl))
      (try simp only [Act.put, List.setIfInBounds_toArray, List.set_cons_zero, List.set_cons_succ])
      refine wpAnyX_done (by decide +kernel) ?_
      have c3 := hs.out.1
      clear hs
      cases A
      · have Q := HH.out (4, (k : Int)) (by rw [V.out]; rfl)
        have R2 : Hid (X1 = 4 ∧ X2 = (k : Int)) := by show _ ∧ _; simpa using Q
        clear Q
        go_wp2
        refine bodyPost_ret (results_tmp2 rfl _ _ _) rfl ?_
        exact ⟨by rw [R2.out.1, R2.out.2]; rfl, W3.out.1⟩
      · cases R
        · have Q := HH.out (7, (k : Int)) (by rw [V.out]; rfl)
          have R2 : Hid (X1 = 7 ∧ X2 = (k : Int)) := by show _ ∧ _; simpa using Q
          clear Q
          go_wp2_with (go_at_call 76; refine (RC.out _ B3.out).mono ?_; rintro e w4 ⟨rfl, b4⟩; have B4 : Hid (Below w.heap.size w w4) := W3.out.1.trans (b4.mono W3.out.1.size); clear b4)
          refine bodyPost_ret (results_tmp2 rfl _ _ _) rfl ?_
          exact ⟨by rw [R2.out.1, R2.out.2]; rfl, B4.out⟩
        · have R2 : Hid (∀ j, j < k + 1 → badL L g.ts.length j = none) := HS.out (by rw [V.out]; rfl)
          go_wp2_with (go_at_call 76; refine (RC.out _ B3.out).mono ?_; rintro e w4 ⟨rfl, b4⟩; have B4 : Hid (Below w.heap.size w w4 ∧ w4.heap[w.heap.size]? = some (gBox g)) := ⟨W3.out.1.trans (b4.mono W3.out.1.size), (b4.block _ (lt_of_block W3.out.2)).trans W3.out.2⟩; clear b4)
          go_roundw
          case rel => exact ⟨k + 1, by omega, by go_num, R2.out, B4.out.1, B4.out.2⟩
          case measure => simp [intOf]; omega
    · obtain rfl : k = L.length := by omega
      clear hf hb hg
      have HLN : Hid (L.length = N.length) := HN64.out.2.2.2.1.trans HN64.out.2.2.1.symm
      have HBD : Hid (∀ l ∈ L, ∀ x ∈ l, 0 ≤ x ∧ x < 128) := fun l hl x hx => by
        obtain ⟨i, hi, rfl⟩ := List.getElem_of_mem hl
        have := HF.out i hi
        unfold badL at this
        have e : L.getD i [] = L[i] := by simp [List.getD, hi]
        rw [e] at this
        by_cases q : allB L[i] g.ts.length = false
        · rw [if_pos q] at this; cases this
        · have q2 : allB L[i] g.ts.length = true := by simpa using q
          have := List.all_eq_true.1 q2 x hx
          simp [below1] at this
          have h64 := HN64.out.2.2.2.2
          omega
      have HOK : Hid (∀ i, OkS ((L.map setS).getD i (0, 0))) := fun i => by
        by_cases hi : i < L.length
        · rw [show (L.map setS).getD i (0, 0) = setS L[i] by simp [List.getD, hi]]
          exact setS_ok (HBD.out _ (List.getElem_mem hi))
        · rw [show (L.map setS).getD i (0, 0) = (0, 0) by simp [List.getD, show L.length ≤ i by omega]]
          exact OkS.zero
      clear HIL X0
      obtain ⟨x0, x1, x2, x3, x4⟩ := gb_cells HB.out.2
      go_wp2
      go_loopw [9] (fun z wr => ∃ k2 : Nat, k2 ≤ g.ps.length ∧ z = .int .i64 k2 ∧ (∀ j, j < k2 → badP N (L.map setS) g.ps j = none) ∧ Below w.heap.size w wr ∧ wr.heap[w.heap.size]? = some (gBox g)) (fun z _ => g.ps.length - (intOf z).toNat)
      case atStart => exact ⟨0, Nat.zero_le _, rfl, fun j hj => absurd hj (Nat.not_lt_zero j), HB.out⟩
      case round =>
        clear x0 x1 x2 x3 x4
        obtain ⟨k2, hk2, rfl, hf, hb, hg⟩ := hrel
        have HB2 : Hid (Below w.heap.size w wr ∧ wr.heap[w.heap.size]? = some (gBox g)) := ⟨hb, hg⟩
        obtain ⟨x0, x1, x2, x3, x4⟩ := gb_cells hg
        by_cases hlt : k2 < g.ps.length
        · obtain ⟨b, o, hpa, hbl, hcc⟩ := (HFG.out _ hb).1.p.cells (by intro e; rw [e] at hlt; simp at hlt)
          obtain ⟨c0, c1, c2⟩ := hcc k2 hlt
          have klt : (k2 : Int) < (g.ps.length : Int) := by omega
          have hmem : g.ps.getD k2 .none ∈ g.ps := by simp [List.getD, hlt]
          obtain ⟨l0, l1⟩ := (HFG.out _ hb).1.left _ hmem
          have hrow := (HFG.out _ hb).1.p.rows _ hmem
          have hrl := (HFG.out _ hb).1.rl _ hmem
          have hsy := (HFG.out _ hb).1.sym _ hmem
          have HH : Hid (∀ x, badP N (L.map setS) g.ps k2 = some x → (X1, X2) = x) := fun x hx => HIP.out k2 x HF.out hlt hx hf
          have HS : Hid (badP N (L.map setS) g.ps k2 = none → ∀ j, j < k2 + 1 → badP N (L.map setS) g.ps j = none) := fun h j hj => by
            by_cases q : j = k2
            · subst q; exact h
            · exact hf j (by omega)
          have V : Hid (badP N (L.map setS) g.ps k2 = if decide (withS (ofS N (L.map setS) (g.ps.getD k2 .none).right (0, 0)) ((L.map setS).getD (g.ps.getD k2 .none).left.toNat (0, 0)) = (L.map setS).getD (g.ps.getD k2 .none).left.toNat (0, 0)) = false then some (62, (k2 : Int)) else none) := rfl
          generalize g.ps.getD k2 .none = p at *
          obtain ⟨pl, pra, prc, pr, pp⟩ := p
          simp only at c0 c1 c2 l0 l1 hrow hrl hsy
          obtain ⟨m, rfl⟩ : ∃ m : Nat, pl = (m : Int) := ⟨pl.toNat, by omega⟩
          have hmN : m < N.length := by have := HN64.out; omega
          have hmL : m < L.length := by have := HLN.out; omega
          have mlL : (m : Int) < (L.length : Int) := by omega
          have HS2 : Hid (∀ s ∈ pr, SymIn N.length s) := fun s hs => by
            have h64 := HN64.out
            rcases hsy s hs with q | q
            · exact .inl ⟨q.1, q.2.1, by omega⟩
            · exact .inr ⟨q.1, q.2.1, by omega⟩
          obtain ⟨lb, lo, rfl, hlb, hlc⟩ := (HFG.out wr hb).2.2 (by intro e; rw [e] at hmL; simp at hmL)
          obtain ⟨za, zc, z0, zrow⟩ := hlc m hmL
          have hzl := HLL.out (L.getD m []) (by simp [List.getD, hmL])
          have hzr := HBD.out (L.getD m []) (by simp [List.getD, hmL])
          have BG : Hid (∀ w', Below wr.heap.size wr w' → Calls Tryz.prog 53 #[.slice na N.length nc, .slice (some ⟨lb, lo, none⟩) L.length fc, .slice pra pr.length prc] w' fun e w'' => ∃ v, e = .returned v ∧ JL w'' v (ofS N (L.map setS) pr (0, 0)) ∧ Below w'.heap.size w' w'') := fun w' hw =>
            rbegins_S na nc N (some ⟨lb, lo, none⟩) fc L pra prc pr w' ((HFG.out _ hb).2.1.later hw) ((HFG.out _ hb).2.2.later hw) (hrow.later (Nat.le_refl _) hw) (by omega) (by have := HN64.out; omega) HLN.out HS2.out (fun z hz => ⟨HBD.out z hz, HLL.out z hz⟩)
          have OKO : Hid (OkS (ofS N (L.map setS) pr (0, 0))) := ofS_ok HOK.out pr _ HS2.out OkS.zero
          have V2 : Hid (badP N (L.map setS) g.ps k2 = if partL (listS (ofS N (L.map setS) pr (0, 0)) 128) (L.getD m []) = false then some (62, (k2 : Int)) else none) := by
            show _ = _
            have e : (L.map setS).getD m (0, 0) = setS (L.getD m []) := by simp [List.getD, hmL]
            rw [part_within OKO.out hzr, V.out]
            simp only [Int.toNat_natCast, e]
          have WC : Hid (∀ w' a n c, Below wr.heap.size wr w' → JL w' (.slice a n c) (ofS N (L.map setS) pr (0, 0)) → Calls Tryz.prog 54 #[.slice a n c, .slice za (L.getD m []).length zc] w' fun e w'' => e = .returned (.bool (partL (listS (ofS N (L.map setS) pr (0, 0)) 128) (L.getD m []))) ∧ Below w'.heap.size w' w'') := fun w' a n c hw hJ => by
            obtain ⟨a', c', e, r, _⟩ := hJ
            simp only [Value.slice.injEq] at e
            obtain ⟨rfl, rfl, rfl⟩ := e
            have := listS_len (ofS N (L.map setS) pr (0, 0)) 128
            exact rwithin_S a za c zc _ _ w' r (zrow.later hw) (by omega) hzl
          generalize L.getD m [] = z at *
          generalize partL (listS (ofS N (L.map setS) pr (0, 0)) 128) z = A at *
          generalize ofS N (L.map setS) pr (0, 0) = O at *
          have KP0 : Hid (∀ w', Below wr.heap.size wr w' → (fun w' : World => w'.cell? ⟨w.heap.size, 3, none⟩ = some (.slice (some ⟨b, o, none⟩) g.ps.length g.pc) ∧ w'.cell? ⟨b, o + k2 * 3, none⟩ = some (.int .i64 (m : Int)) ∧ w'.cell? ⟨b, o + k2 * 3 + 1, none⟩ = some (.slice pra pr.length prc) ∧ w'.cell? ⟨lb, lo + m, none⟩ = some (.slice za z.length zc)) w') := fun w' hw => ⟨by rw [(gb_cells ((hw.block _ (lt_of_block hg)).trans hg)).2.2.2.1, hpa], (hw.cell (p := ⟨b, o + k2 * 3, none⟩) hbl).trans c0, (hw.cell (p := ⟨b, o + k2 * 3 + 1, none⟩) hbl).trans c1, (hw.cell (p := ⟨lb, lo + m, none⟩) hlb).trans z0⟩
          have BD : Hid (Below wr.heap.size wr wr.drew) := (Below.refl _ _).drew
          have hs : Hid ((fun w' : World => w'.cell? ⟨w.heap.size, 3, none⟩ = some (.slice (some ⟨b, o, none⟩) g.ps.length g.pc) ∧ w'.cell? ⟨b, o + k2 * 3, none⟩ = some (.int .i64 (m : Int)) ∧ w'.cell? ⟨b, o + k2 * 3 + 1, none⟩ = some (.slice pra pr.length prc) ∧ w'.cell? ⟨lb, lo + m, none⟩ = some (.slice za z.length zc)) wr.drew) := KP0.out _ BD.out
          rw [hpa] at x3
          clear V hb hf hcc hmem hrow hsy hpa hg x0 x1 x2 x4 HFG HIP NON hlc zrow hzl hzr z0 c0 c1 c2
          go_wp2
          refine wp_region_x (S := fun _ => (fun w' : World => w'.cell? ⟨w.heap.size, 3, none⟩ = some (.slice (some ⟨b, o, none⟩) g.ps.length g.pc) ∧ w'.cell? ⟨b, o + k2 * 3, none⟩ = some (.int .i64 (m : Int)) ∧ w'.cell? ⟨b, o + k2 * 3 + 1, none⟩ = some (.slice pra pr.length prc) ∧ w'.cell? ⟨lb, lo + m, none⟩ = some (.slice za z.length zc))) (by kernel_rfl) ?_
          refine takeF (i := 0) (v := ?_) rfl (by kernel_rfl) (by decide +kernel) (by decide +kernel) (fun _ _ _ h => h) (Or.inl ⟨by rfl, ?_⟩) hs.out ?_
          rotate_left
          · (intro w hSw; (try dsimp only at hSw); go_simp; try (with_reducible rfl))
          (try simp only [Act.put, List.setIfInBounds_toArray, List.set_cons_zero, List.set_cons_succ])
          refine takeF (i := 1) (v := ?_) rfl (by kernel_rfl) (by decide +kernel) (by decide +kernel) (fun _ _ _ h => h) (Or.inl ⟨by rfl, ?_⟩) hs.out ?_
          rotate_left
          · (intro w hSw; (try dsimp only at hSw); go_simp; try (with_reducible rfl))
          (try simp only [Act.put, List.setIfInBounds_toArray, List.set_cons_zero, List.set_cons_succ])
          refine takeF (i := 2) (v := ?_) rfl (by kernel_rfl) (by decide +kernel) (by decide +kernel) (fun _ _ _ h => h) (Or.inl ⟨by rfl, ?_⟩) hs.out ?_
          rotate_left
          · (intro w hSw; (try dsimp only at hSw); go_simp; try (with_reducible rfl))
          (try simp only [Act.put, List.setIfInBounds_toArray, List.set_cons_zero, List.set_cons_succ])
          refine takeF (i := 3) (v := ?_) rfl (by kernel_rfl) (by decide +kernel) (by decide +kernel) (fun _ _ _ h => h) (Or.inl ⟨by rfl, ?_⟩) hs.out ?_
          rotate_left
          · (intro w hSw; (try dsimp only at hSw); go_simp; try (with_reducible rfl))
          (try simp only [Act.put, List.setIfInBounds_toArray, List.set_cons_zero, List.set_cons_succ])
          refine takeF (i := 4) (v := ?_) rfl (by kernel_rfl) (by decide +kernel) (by decide +kernel) (fun _ _ _ h => h) (Or.inl ⟨by rfl, ?_⟩) hs.out ?_
          rotate_left
          · (intro w hSw; (try dsimp only at hSw); go_simp; try (with_reducible rfl))
          (try simp only [Act.put, List.setIfInBounds_toArray, List.set_cons_zero, List.set_cons_succ])
          refine takeF (i := 5) (v := ?_) rfl (by kernel_rfl) (by decide +kernel) (by decide +kernel) (fun _ _ _ h => h) (Or.inl ⟨by rfl, ?_⟩) hs.out ?_
          rotate_left
          · (intro w hSw; (try dsimp only at hSw); go_simp; try (with_reducible rfl))
          (try simp only [Act.put, List.setIfInBounds_toArray, List.set_cons_zero, List.set_cons_succ])
          refine takeF (i := 6) (v := ?_) rfl (by kernel_rfl) (by decide +kernel) (by decide +kernel) (fun _ _ _ h => h) (Or.inl ⟨by rfl, ?_⟩) hs.out ?_
          rotate_left
          · (intro w hSw; (try dsimp only at hSw); go_simp; try (with_reducible rfl))
          (try simp only [Act.put, List.setIfInBounds_toArray, List.set_cons_zero, List.set_cons_succ])
          refine takeF (i := 7) (v := ?_) rfl (by kernel_rfl) (by decide +kernel) (by decide +kernel) (fun _ _ _ h => h) (Or.inl ⟨by rfl, ?_⟩) hs.out ?_
          rotate_left
          · (intro w hSw; (try dsimp only at hSw); go_simp; try (with_reducible rfl))
          (try simp only [Act.put, List.setIfInBounds_toArray, List.set_cons_zero, List.set_cons_succ])
          refine takeF (i := 9) (v := ?_) rfl (by kernel_rfl) (by decide +kernel) (by decide +kernel) (fun _ _ _ h => h) (Or.inl ⟨by rfl, ?_⟩) hs.out ?_
          rotate_left
          · (intro w hSw; (try dsimp only at hSw); go_simp; try (with_reducible rfl))
          (try simp only [Act.put, List.setIfInBounds_toArray, List.set_cons_zero, List.set_cons_succ])
          refine takeF (i := 10) (v := ?_) rfl (by kernel_rfl) (by decide +kernel) (by decide +kernel) (fun _ _ _ h => h) (Or.inl ⟨by rfl, ?_⟩) hs.out ?_
          rotate_left
          · (intro w hSw; (try dsimp only at hSw); go_simp; try (with_reducible rfl))
          (try simp only [Act.put, List.setIfInBounds_toArray, List.set_cons_zero, List.set_cons_succ])
          refine takeF (i := 11) (v := ?_) rfl (by kernel_rfl) (by decide +kernel) (by decide +kernel) (fun _ _ _ h => h) (Or.inl ⟨by rfl, ?_⟩) hs.out ?_
          rotate_left
          · (intro w hSw; (try dsimp only at hSw); go_simp; try (with_reducible rfl))
          (try simp only [Act.put, List.setIfInBounds_toArray, List.set_cons_zero, List.set_cons_succ])
          refine takeF (i := 12) (v := ?_) rfl (by kernel_rfl) (by decide +kernel) (by decide +kernel) (fun _ _ _ h => h) (Or.inl ⟨by rfl, ?_⟩) hs.out ?_
          rotate_left
          · (intro w hSw; (try dsimp only at hSw); go_simp; try (with_reducible rfl))
          (try simp only [Act.put, List.setIfInBounds_toArray, List.set_cons_zero, List.set_cons_succ])
          refine takeF (i := 13) (v := ?_) rfl (by kernel_rfl) (by decide +kernel) (by decide +kernel) (fun _ _ _ h => h) (Or.inl ⟨by rfl, ?_⟩) hs.out ?_
          rotate_left
          · (intro w hSw; (try dsimp only at hSw); go_simp; try (with_reducible rfl))
          (try simp only [Act.put, List.setIfInBounds_toArray, List.set_cons_zero, List.set_cons_succ])
          refine takeF (i := 14) (v := ?_) rfl (by kernel_rfl) (by decide +kernel) (by decide +kernel) (fun _ _ _ h => h) (Or.inl ⟨by rfl, ?_⟩) hs.out ?_
          rotate_left
          · (intro w hSw; (try dsimp only at hSw); go_simp; try (with_reducible rfl))
          (try simp only [Act.put, List.setIfInBounds_toArray, List.set_cons_zero, List.set_cons_succ])
          refine takeF (i := 15) (v := ?_) rfl (by kernel_rfl) (by decide +kernel) (by decide +kernel) (fun _ _ _ h => h) (Or.inl ⟨by rfl, ?_⟩) hs.out ?_
          rotate_left
          · (intro w hSw; (try dsimp only at hSw); go_simp; try (with_reducible rfl))
          (try simp only [Act.put, List.setIfInBounds_toArray, List.set_cons_zero, List.set_cons_succ])
          refine takeF (i := 16) (v := ?_) rfl (by kernel_rfl) (by decide +kernel) (by decide +kernel) (fun _ _ _ h => h) (Or.inl ⟨by rfl, ?_⟩) hs.out ?_
          rotate_left
          · (intro w hSw; (try dsimp only at hSw); go_simp; try (with_reducible rfl))
          (try simp only [Act.put, List.setIfInBounds_toArray, List.set_cons_zero, List.set_cons_succ])
          refine takeF (i := 17) (v := ?_) rfl (by kernel_rfl) (by decide +kernel) (by decide +kernel) (fun _ _ _ h => h) (Or.inl ⟨by rfl, ?_⟩) hs.out ?_
          rotate_left
          · (intro w hSw; (try dsimp only at hSw); go_simp; try (with_reducible rfl))
          (try simp only [Act.put, List.setIfInBounds_toArray, List.set_cons_zero, List.set_cons_succ])
          refine wpAnyX_one (j := 8) (by decide +kernel) rfl (fun K' hK => ?_)
          refine step_callX rfl 53 #[.slice na N.length nc, .slice (some ⟨lb, lo, none⟩) L.length fc, .slice pra pr.length prc] _ (run_bg3 (v0 := .slice na N.length nc) (v1 := .slice (some ⟨lb, lo, none⟩) L.length fc) (v2 := .slice pra pr.length prc) (by rfl) (by rfl) (by rfl) (by rfl) _) (BG.out _ BD.out) ?_
          rintro e w5 ⟨v5, rfl, j5, b5⟩
          obtain ⟨ja, jn, jc, rfl, j5⟩ := j5.val
          have B5 : Hid (Below wr.heap.size wr w5 ∧ JL w5 (.slice ja jn jc) O) := ⟨BD.out.trans (b5.mono BD.out.size), j5⟩
          clear b5 j5 hs
          have hs : Hid ((fun w' : World => w'.cell? ⟨w.heap.size, 3, none⟩ = some (.slice (some ⟨b, o, none⟩) g.ps.length g.pc) ∧ w'.cell? ⟨b, o + k2 * 3, none⟩ = some (.int .i64 (m : Int)) ∧ w'.cell? ⟨b, o + k2 * 3 + 1, none⟩ = some (.slice pra pr.length prc) ∧ w'.cell? ⟨lb, lo + m, none⟩ = some (.slice za z.length zc)) w5) := KP0.out _ B5.out.1
          refine ⟨_, rfl, hK.out _ _ hs.out ?_⟩
          clear hK K'
          (try simp only [Act.put, List.setIfInBounds_toArray, List.set_cons_zero, List.set_cons_succ])
          refine wpAnyX_one (j := 18) (by decide +kernel) rfl (fun K' hK => ?_)
          refine step_callX rfl 54 #[.slice ja jn jc, .slice za z.length zc] _ (run_wn2 (v0 := .slice ja jn jc) (v1 := .slice za z.length zc) (by rfl) (by rfl) (by rfl) _) (WC.out _ ja jn jc B5.out.1 B5.out.2) ?_
          rintro e w6 ⟨rfl, b6⟩
          have B6 : Hid (Below wr.heap.size wr w6) := B5.out.1.trans (b6.mono B5.out.1.size)
          clear b6 hs
          have hs : Hid ((fun w' : World => w'.cell? ⟨w.heap.size, 3, none⟩ = some (.slice (some ⟨b, o, none⟩) g.ps.length g.pc) ∧ w'.cell? ⟨b, o + k2 * 3, none⟩ = some (.int .i64 (m : Int)) ∧ w'.cell? ⟨b, o + k2 * 3 + 1, none⟩ = some (.slice pra pr.length prc) ∧ w'.cell? ⟨lb, lo + m, none⟩ = some (.slice za z.length zc)) w6) := KP0.out _ B6.out
          refine ⟨_, rfl, hK.out _ _ hs.out ?_⟩
          clear hK K'
          (try simp only [Act.put, List.setIfInBounds_toArray, List.set_cons_zero, List.set_cons_succ])
          refine takeF (i := 19) (v := ?_) rfl (by kernel_rfl) (by decide +kernel) (by decide +kernel) (fun _ _ _ h => h) (Or.inl ⟨by rfl, ?_⟩) hs.out ?_
          rotate_left
          · (intro w hSw; (try dsimp only at hSw); go_simp; try (with_reducible rfl))
          (try simp only [Act.put, List.setIfInBounds_toArray, List.set_cons_zero, List.set_cons_succ])
          refine wpAnyX_done (by decide +kernel) ?_
          have L6 : Hid (Below w.heap.size w w6 ∧ w6.heap[w.heap.size]? = some (gBox g)) := ⟨HB2.out.1.trans (B6.out.mono HB2.out.1.size), (B6.out.block _ (lt_of_block HB2.out.2)).trans HB2.out.2⟩
          clear hs
          cases A
          · have Q := HH.out (62, (k2 : Int)) (by rw [V2.out]; rfl)
            have R2 : Hid (X1 = 62 ∧ X2 = (k2 : Int)) := by show _ ∧ _; simpa using Q
            clear Q
            go_wp2
            refine bodyPost_ret (results_tmp2 rfl _ _ _) rfl ?_
            exact ⟨by rw [R2.out.1, R2.out.2]; rfl, L6.out.1⟩
          · have R2 : Hid (∀ j, j < k2 + 1 → badP N (L.map setS) g.ps j = none) := HS.out (by rw [V2.out]; rfl)
            go_wp2
            go_roundw
            case rel => exact ⟨k2 + 1, by omega, by go_num, R2.out, L6.out⟩
            case measure => simp [intOf]; omega
        · obtain rfl : k2 = g.ps.length := by omega
          have R2 : Hid (X1 = 0 ∧ X2 = 0) := by have := NON.out HF.out hf; show _ ∧ _; simpa using this
          clear hf hb hg
          go_wp2
          refine bodyPost_ret (results_tmp2 rfl _ _ _) rfl ?_
          exact ⟨by rw [R2.out.1, R2.out.2]; rfl, HB2.out.1⟩
set_option maxRecDepth 100000 in
set_option maxHeartbeats 2000000 in
theorem rchkFirst_S (g : GV) (na : Option Addr) (nc : Nat) (N : List Bool) (fa : Option Addr) (fc : Nat) (L : List (List Int)) (w : World) (h : FG w g) (hN : BRow w na N) (hL : LsRow w fa L) (hNl : N.length ≤ 140737488355328) (hll : L.length ≤ 140737488355328 ∧ ∀ l ∈ L, l.length ≤ 140737488355328) :
    Calls Tryz.prog 33 #[g.val, .slice na N.length nc, .slice fa L.length fc] w fun e w' => e = .returned (.tuple #[.int .i64 (chkFU g N L 0).1, .int .i64 (chkFU g N L 0).2]) ∧ Below w.heap.size w w' := by
  have X0 : Hid ((w.alloc (gBox g)).heap[w.heap.size]? = some (gBox g)) := heap_alloc_new _ _
  obtain ⟨x0, x1, x2, x3, x4⟩ := gb_cells X0.out
  have hnl := h.nl.2
  have hLl := hll.1
  by_cases hl : N.length = g.ns.length
  · by_cases hl2 : L.length = g.ns.length
    · have := rchkFirst_ok g na nc N fa fc L w h hN hl hL hl2 hll.2
      rwa [show chkFU g N L 0 = chkF N L g.ps g.ts.length by rw [chkFU, if_neg (by simp [askC, askU, hl, hl2])]]
    · have e : chkFU g N L 0 = (3, 0) := by simp [chkFU, askC, askU, hl, hl2]
      rw [e]
      have t1 : ((N.length : Int) != (g.ns.length : Int)) = false := by simp; omega
      have t2 : ((L.length : Int) != (g.ns.length : Int)) = true := by simp; omega
      clear h hN hL e hl hl2 hll
      go_enter Tryz.func33, Tryz.ntmps33
      go_wp2
      refine bodyPost_ret (results_tmp2 rfl _ _ _) rfl ?_
      exact ⟨rfl, below_alloc _ _⟩
  · have e : chkFU g N L 0 = (3, 0) := by simp [chkFU, askC, askU, hl]
    rw [e]
    have t1 : ((N.length : Int) != (g.ns.length : Int)) = true := by simp; omega
    clear h hN hL e hl hll
    go_enter Tryz.func33, Tryz.ntmps33
    go_wp2
    refine bodyPost_ret (results_tmp2 rfl _ _ _) rfl ?_
    exact ⟨rfl, below_alloc _ _⟩
end Go.Proofs.YtboabidokkghbaaGreat
