import Derived.Test.YtboabidokkghbaaGreatFO1ToFO2
import Derived.Test.YtboabidokkghbaaGreatFR4ToFR5
namespace Go.Proofs.YtboabidokkghbaaGreat
set_option linter.unusedVariables false
open Go.RowKit

set_option maxRecDepth 100000 in
set_option maxHeartbeats 8000000 in
theorem rsymbols_S (g : GV) (la : Option Addr) (lc : Nat) (l : List (Int × Int)) (w : World) (h1 : g.ts.length ≤ 140737488355328) (h2 : g.ns.length ≤ 140737488355328) (hl : SymRow w la l) (hll : l.length ≤ 140737488355328) :
    Calls Tryz.prog 72 #[g.val, .slice la l.length lc] w fun e w' => e = .returned (.bool (allI g l)) ∧ Below w.heap.size w w' := by
  have X0 : Hid ((w.alloc (gBox g)).heap[w.heap.size]? = some (gBox g)) := heap_alloc_new _ _
  have HL : Hid (∀ w', Below w.heap.size w w' → SymRow w' la l) := fun w' hb => hl.later (Nat.le_refl _) hb
  have HF : Hid (∀ k, k < l.length → inG g (l.getD k (0, 0)).1 (l.getD k (0, 0)).2 = false → allI g l = false) := fun k hk h => all_no (p := fun s : Int × Int => inG g s.1 s.2) hk h
  have HY : Hid ((∀ k, k < l.length → inG g (l.getD k (0, 0)).1 (l.getD k (0, 0)).2 = true) → allI g l = true) := fun h => all_yes (p := fun s : Int × Int => inG g s.1 s.2) h
  have IV : Hid (∀ k n, inG g k n = if k = 1 then decide (0 ≤ n ∧ n < g.ts.length) else if k = 2 then decide (0 ≤ n ∧ n < g.ns.length) else false) := fun _ _ => rfl
  clear hl
  generalize hX : allI g l = X at *
  clear hX
  go_enter Tryz.func72, Tryz.ntmps72
  go_wp2
  go_loopw [5] (fun z wr => ∃ k : Nat, k ≤ l.length ∧ z = .int .i64 k ∧ (∀ j, j < k → inG g (l.getD j (0, 0)).1 (l.getD j (0, 0)).2 = true) ∧ Below w.heap.size w wr ∧ wr.heap[w.heap.size]? = some (gBox g)) (fun z _ => l.length - (intOf z).toNat)
  case atStart => exact ⟨0, Nat.zero_le _, rfl, fun j hj => absurd hj (Nat.not_lt_zero j), below_alloc w _, X0.out⟩
  case round =>
    obtain ⟨k, hk, rfl, hf, hb, hg⟩ := hrel
    have HB : Hid (Below w.heap.size w wr ∧ wr.heap[w.heap.size]? = some (gBox g)) := ⟨hb, hg⟩
    by_cases hlt : k < l.length
    · obtain ⟨b, o, hla, hbl, hc⟩ := (HL.out wr hb) (by intro e; rw [e] at hlt; simp at hlt)
      obtain ⟨c0, c1⟩ := hc k hlt
      have klt : (k : Int) < (l.length : Int) := by omega
      have HN : Hid (inG g (l.getD k (0, 0)).1 (l.getD k (0, 0)).2 = false → X = false) := HF.out k hlt
      have HS : Hid (inG g (l.getD k (0, 0)).1 (l.getD k (0, 0)).2 = true → ∀ j, j < k + 1 → inG g (l.getD j (0, 0)).1 (l.getD j (0, 0)).2 = true) := fun h j hj => by
        by_cases e : j = k
        · subst e; exact h
        · exact hf j (by omega)
      generalize l.getD k (0, 0) = x at *
      obtain ⟨x1, x2⟩ := x
      simp only at c0 c1 HN HS
      have HA : Hid (Below wr.heap.size wr (wr.alloc (.cells #[.int .i64 x1, .int .i64 x2] 116))) := below_alloc _ _
      obtain ⟨y0, y1, y2, y3, y4⟩ := gb_cells ((HA.out.block _ (lt_of_block hg)).trans hg)
      have A3 : Hid (Below w.heap.size w (wr.alloc (.cells #[.int .i64 x1, .int .i64 x2] 116)) ∧ (wr.alloc (.cells #[.int .i64 x1, .int .i64 x2] 116)).heap[w.heap.size]? = some (gBox g)) := ⟨HB.out.1.trans (HA.out.mono HB.out.1.size), (HA.out.block _ (lt_of_block HB.out.2)).trans HB.out.2⟩
      have IX := IV.out x1 x2
      rw [hla]
      clear hc hf hb hg hla
      by_cases h1v : x1 = 1
      · have t1 : (x1 == 1) = true := by simpa using h1v
        have t2 : (x1 == 2) = false := by rw [h1v]; decide
        by_cases q1 : 0 ≤ x2
        · by_cases q2 : x2 < (g.ts.length : Int)
          · have Q : inG g x1 x2 = true := by rw [IX, h1v]; simp; omega
            have R : Hid (∀ j, j < k + 1 → inG g (l.getD j (0, 0)).1 (l.getD j (0, 0)).2 = true) := HS.out Q
            clear IX Q h1v
            go_wp2
            go_roundw
            case rel => exact ⟨k + 1, by omega, by go_num, R.out, A3.out⟩
            case measure => simp [intOf]; omega
          · have Q : inG g x1 x2 = false := by rw [IX, h1v]; simp; omega
            have R : Hid (X = false) := HN.out Q
            clear IX Q h1v
            go_wp2
            go_ret
            exact ⟨by rw [R.out]; rfl, A3.out.1⟩
        · have Q : inG g x1 x2 = false := by rw [IX, h1v]; simp; omega
          have R : Hid (X = false) := HN.out Q
          clear IX Q h1v
          go_wp2
          go_ret
          exact ⟨by rw [R.out]; rfl, A3.out.1⟩
      · by_cases h2v : x1 = 2
        · have t1 : (x1 == 1) = false := by simpa using h1v
          have t2 : (x1 == 2) = true := by simpa using h2v
          by_cases q1 : 0 ≤ x2
          · by_cases q2 : x2 < (g.ns.length : Int)
            · have Q : inG g x1 x2 = true := by rw [IX, h2v]; simp; omega
              have R : Hid (∀ j, j < k + 1 → inG g (l.getD j (0, 0)).1 (l.getD j (0, 0)).2 = true) := HS.out Q
              clear IX Q h1v h2v
              go_wp2
              go_roundw
              case rel => exact ⟨k + 1, by omega, by go_num, R.out, A3.out⟩
              case measure => simp [intOf]; omega
            · have Q : inG g x1 x2 = false := by rw [IX, h2v]; simp; omega
              have R : Hid (X = false) := HN.out Q
              clear IX Q h1v h2v
              go_wp2
              go_ret
              exact ⟨by rw [R.out]; rfl, A3.out.1⟩
          · have Q : inG g x1 x2 = false := by rw [IX, h2v]; simp; omega
            have R : Hid (X = false) := HN.out Q
            clear IX Q h1v h2v
            go_wp2
            go_ret
            exact ⟨by rw [R.out]; rfl, A3.out.1⟩
        · have t1 : (x1 == 1) = false := by simpa using h1v
          have t2 : (x1 == 2) = false := by simpa using h2v
          have Q : inG g x1 x2 = false := by rw [IX, if_neg h1v, if_neg h2v]
          have R : Hid (X = false) := HN.out Q
          clear IX Q h1v h2v
          go_wp2
          go_ret
          exact ⟨by rw [R.out]; rfl, A3.out.1⟩
    · have R : Hid (X = true) := HY.out (fun j hj => hf j (by omega))
      have klt : ¬ (k : Int) < (l.length : Int) := by omega
      clear hf hb hg
      go_wp2
      go_ret
      exact ⟨by rw [R.out]; rfl, HB.out.1⟩
set_option maxRecDepth 100000 in
set_option maxHeartbeats 4000000 in
theorem risNull_S (g : GV) (na : Option Addr) (nc : Nat) (N : List Bool) (la : Option Addr) (lc : Nat) (l : List (Int × Int)) (w : World) (hfg : FG w g) (hN : BRow w na N) (hNl : N.length ≤ 140737488355328) (hl : SymRow w la l) (hll : l.length ≤ 1048576) :
    Calls Tryz.prog 29 #[g.val, .slice na N.length nc, .slice la l.length lc] w fun e w' => e = .returned (.tuple #[.bool (isNV g N l 0), .int .i64 (isNE g N.length l 0)]) ∧ Below w.heap.size w w' := by
  have X0 : Hid ((w.alloc (gBox g)).heap[w.heap.size]? = some (gBox g)) := heap_alloc_new _ _
  have hnl := hfg.nl.2
  have htl := hfg.tl.2
  have AI : Hid (∀ w', Below w.heap.size w w' → Calls Tryz.prog 72 #[g.val, .slice la l.length lc] w' fun e w'' => e = .returned (.bool (allI g l)) ∧ Below w'.heap.size w' w'') := fun w' hb => rsymbols_S g la lc l w' (by omega) (by omega) (hl.later (Nat.le_refl _) hb) (by omega)
  obtain ⟨x0, x1, x2, x3, x4⟩ := gb_cells X0.out
  by_cases e1 : N.length = g.ns.length
  · have NS : Hid (allI g l = true → ∀ w', Below w.heap.size w w' → Calls Tryz.prog 52 #[.slice na N.length nc, .slice la l.length lc] w' fun e w'' => e = .returned (.bool (allN N l)) ∧ Below w'.heap.size w' w'') := fun hi w' hb => rall_S na nc N la lc l w' (hN.later hb) (hl.later (Nat.le_refl _) hb) hll (by omega) (fun s hs e => by
      rcases allI_in hi s hs with q | q
      · omega
      · rw [e1]; exact q.2)
    have V1 : Hid (isNE g N.length l 0 = if allI g l = false then 35 else 0) := by show _ = _; rw [isNE, if_neg (by simp [askU, e1])]
    have V2 : Hid (isNV g N l 0 = if isNE g N.length l 0 = 0 then allN N l else false) := rfl
    have t1 : ((N.length : Int) != (g.ns.length : Int)) = false := by rw [e1]; simp
    clear hfg hN hl e1
    generalize isNV g N l 0 = R2 at *
    generalize isNE g N.length l 0 = R1 at *
    generalize allI g l = v at *
    generalize allN N l = u at *
    cases v
    · have R : Hid (R1 = 35 ∧ R2 = false) := by
        have e : R1 = 35 := V1.out
        refine ⟨e, ?_⟩
        rw [V2.out, e]; rfl
      clear NS V1 V2
      go_enter Tryz.func29, Tryz.ntmps29
      go_wp2_with (go_at_call 72; refine (AI.out _ (below_alloc w _)).mono ?_; rintro e w3 ⟨rfl, b3⟩; have B3 : Hid (Below w.heap.size w w3) := (below_alloc w _).trans (b3.mono (below_alloc w _).size); clear b3 x0 x1 x2 x3 x4)
      refine bodyPost_ret (results_tmp2 rfl _ _ _) rfl ?_
      exact ⟨by rw [R.out.1, R.out.2]; rfl, B3.out⟩
    · have R : Hid (R1 = 0 ∧ R2 = u) := by
        have e : R1 = 0 := V1.out
        refine ⟨e, ?_⟩
        rw [V2.out, e]; rfl
      have NT : Hid (∀ w', Below w.heap.size w w' → Calls Tryz.prog 52 #[.slice na N.length nc, .slice la l.length lc] w' fun e w'' => e = .returned (.bool u) ∧ Below w'.heap.size w' w'') := NS.out rfl
      clear NS V1 V2
      go_enter Tryz.func29, Tryz.ntmps29
      go_wp2_with (first
        | (go_at_call 72; refine (AI.out _ (below_alloc w _)).mono ?_; rintro e w3 ⟨rfl, b3⟩; have B3 : Hid (Below w.heap.size w w3) := (below_alloc w _).trans (b3.mono (below_alloc w _).size); clear b3 x0 x1 x2 x3 x4)
        | (go_at_call 52; refine (NT.out _ B3.out).mono ?_; rintro e w4 ⟨rfl, b4⟩; have B4 : Hid (Below w.heap.size w w4) := B3.out.trans (b4.mono B3.out.size); clear b4))
      refine bodyPost_ret (results_tmp2 rfl _ _ _) rfl ?_
      exact ⟨by rw [R.out.1, R.out.2]; rfl, B4.out⟩
  · have e : isNE g N.length l 0 = 3 := by simp [isNE, askU, e1]
    have R : Hid (isNE g N.length l 0 = 3 ∧ isNV g N l 0 = false) := ⟨e, by rw [isNV, e]; rfl⟩
    rw [R.out.1, R.out.2]
    have t1 : ((N.length : Int) != (g.ns.length : Int)) = true := by simp; omega
    clear hfg hN hl e1 e R
    go_enter Tryz.func29, Tryz.ntmps29
    go_wp2
    refine bodyPost_ret (results_tmp2 rfl _ _ _) rfl ?_
    exact ⟨rfl, below_alloc _ _⟩
/-- What stands behind counts where all are nullable. -/
theorem of_look {N : List Bool} {F : List BS} (k : BS) : ∀ l : List (Int × Int), (∀ s ∈ l, s.1 = 1 ∨ s.1 = 2) → ofS N F l k = if allN N l = true then withS (ofS N F l (0, 0)) k else ofS N F l (0, 0)
  | [], _ => by simp [ofS, allN, zero_with]
  | s :: r, hk => by
    have ih := of_look (N := N) (F := F) k r (fun x hx => hk x (by simp [hx]))
    have h12 := hk s (by simp)
    have e : allN N (s :: r) = (null1 N s && allN N r) := rfl
    rw [of_cons, of_cons, e]
    by_cases h1 : s.1 = 1
    · have : null1 N s = false := by simp [null1, h1]
      rw [this, aheadS, aheadS, if_pos h1, if_pos h1]
      simp
    · by_cases h2 : N.getD s.2.toNat false = true
      · rw [aheadS, aheadS, if_neg h1, if_neg h1, if_pos h2, if_pos h2, ih]
        have h3 : s.1 = 2 := by omega
        have : null1 N s = true := by
          unfold null1
          rw [h2, h3]; rfl
        rw [this, Bool.true_and]
        split
        · rw [with_assoc, with_comm k, ← with_assoc]
        · rfl
      · rw [aheadS, aheadS, if_neg h1, if_neg h1, if_neg h2, if_neg h2]
        have : null1 N s = false := by
          unfold null1
          rw [show N.getD s.2.toNat false = false by simpa using h2]
          simp
        rw [this]
        simp
set_option maxRecDepth 100000 in
set_option maxHeartbeats 4000000 in
theorem rsees_S (na : Option Addr) (nc : Nat) (N : List Bool) (fa : Option Addr) (fc : Nat) (L : List (List Int)) (la : Option Addr) (lc : Nat) (l : List (Int × Int)) (ka : Option Addr) (kc : Nat) (look : List Int) (w : World) (hN : BRow w na N) (hL : LsRow w fa L) (hl : SymRow w la l) (hk : InRow w ka look) (hll : l.length ≤ 1048576) (hnl : N.length ≤ 1048576) (hLN : L.length = N.length) (hs : ∀ s ∈ l, SymIn N.length s) (hr : ∀ z ∈ L, (∀ x ∈ z, 0 ≤ x ∧ x < 128) ∧ z.length ≤ 140737488355328) (hkr : ∀ x ∈ look, 0 ≤ x ∧ x < 128) (hkl : look.length ≤ 140737488355328) :
    Calls Tryz.prog 73 #[.slice na N.length nc, .slice fa L.length fc, .slice la l.length lc, .slice ka look.length kc] w fun e w' => ∃ v, e = .returned v ∧ JL w' v (ofS N (L.map setS) l (setS look)) ∧ Below w.heap.size w w' := by
  have OKF : ∀ i, OkS ((L.map setS).getD i (0, 0)) := fun i => by
    by_cases hi : i < L.length
    · rw [show (L.map setS).getD i (0, 0) = setS L[i] by simp [List.getD, hi]]
      exact setS_ok (hr _ (List.getElem_mem hi)).1
    · rw [show (L.map setS).getD i (0, 0) = (0, 0) by simp [List.getD, show L.length ≤ i by omega]]
      exact OkS.zero
  have BC : Hid (Calls Tryz.prog 53 #[.slice na N.length nc, .slice fa L.length fc, .slice la l.length lc] w fun e w' => ∃ v, e = .returned v ∧ JL w' v (ofS N (L.map setS) l (0, 0)) ∧ Below w.heap.size w w') := rbegins_S na nc N fa fc L la lc l w hN hL hl (by omega) hnl hLN hs hr
  have AC : Hid (∀ w', Below w.heap.size w w' → Calls Tryz.prog 52 #[.slice na N.length nc, .slice la l.length lc] w' fun e w'' => e = .returned (.bool (allN N l)) ∧ Below w'.heap.size w' w'') := fun w' hb => rall_S na nc N la lc l w' (hN.later hb) (hl.later (Nat.le_refl _) hb) hll hnl (fun s hs' e => by
    rcases hs s hs' with q | q
    · omega
    · exact q.2)
  have JC : Hid (∀ w' a n c, Below w.heap.size w w' → JL w' (.slice a n c) (ofS N (L.map setS) l (0, 0)) → Calls Tryz.prog 55 #[.slice a n c, .slice ka look.length kc] w' fun e w'' => ∃ v, e = .returned v ∧ JL w'' v (withS (ofS N (L.map setS) l (0, 0)) (setS look)) ∧ Below w'.heap.size w' w'') := fun w' a n c hb hJ => rjoin_S _ _ ka kc look w' hJ (ofS_ok OKF l _ hs OkS.zero) (hk.later hb) hkr hkl
  have LK : Hid (ofS N (L.map setS) l (setS look) = if allN N l = true then withS (ofS N (L.map setS) l (0, 0)) (setS look) else ofS N (L.map setS) l (0, 0)) := of_look (setS look) l (fun s hs' => by
    rcases hs s hs' with q | q
    · exact .inl q.1
    · exact .inr q.1)
  clear hN hL hl hk hLN hs hr hkr OKF
  generalize ofS N (L.map setS) l (setS look) = R at *
  generalize withS (ofS N (L.map setS) l (0, 0)) (setS look) = R1 at *
  generalize ofS N (L.map setS) l (0, 0) = R0 at *
  generalize allN N l = v at *
  cases v
  · have E : Hid (R = R0) := LK.out
    clear LK
    go_enter Tryz.func73, Tryz.ntmps73
    go_wp2_with (first
      | (go_at_call 53; refine BC.out.mono ?_; rintro e w1 ⟨v1, rfl, j1, b1⟩; obtain ⟨ja, jn, jc, rfl, j1⟩ := j1.val; have B1 : Hid (JL w1 (.slice ja jn jc) R0 ∧ Below w.heap.size w w1) := ⟨j1, b1⟩; clear j1 b1)
      | (go_at_call 52; refine (AC.out _ B1.out.2).mono ?_; rintro e w2 ⟨rfl, b2⟩; have B2 : Hid (JL w2 (.slice ja jn jc) R0 ∧ Below w.heap.size w w2) := ⟨B1.out.1.later b2, B1.out.2.trans (b2.mono B1.out.2.size)⟩; clear b2))
    go_ret
    exact ⟨_, rfl, by rw [E.out]; exact B2.out.1, B2.out.2⟩
  · have E : Hid (R = R1) := LK.out
    clear LK
    go_enter Tryz.func73, Tryz.ntmps73
    go_wp2_with (first
      | (go_at_call 53; refine BC.out.mono ?_; rintro e w1 ⟨v1, rfl, j1, b1⟩; obtain ⟨ja, jn, jc, rfl, j1⟩ := j1.val; have B1 : Hid (JL w1 (.slice ja jn jc) R0 ∧ Below w.heap.size w w1) := ⟨j1, b1⟩; clear j1 b1)
      | (go_at_call 52; refine (AC.out _ B1.out.2).mono ?_; rintro e w2 ⟨rfl, b2⟩; have B2 : Hid (JL w2 (.slice ja jn jc) R0 ∧ Below w.heap.size w w2) := ⟨B1.out.1.later b2, B1.out.2.trans (b2.mono B1.out.2.size)⟩; clear b2)
      | (go_at_call 55; refine (JC.out _ ja jn jc B2.out.2 B2.out.1).mono ?_; rintro e w3 ⟨v3, rfl, j3, b3⟩; obtain ⟨qa, qn, qc, rfl, j3⟩ := j3.val; have B3 : Hid (JL w3 (.slice qa qn qc) R1 ∧ Below w.heap.size w w3) := ⟨j3, B2.out.2.trans (b3.mono B2.out.2.size)⟩; clear j3 b3))
    go_ret
    exact ⟨_, rfl, by rw [E.out]; exact B3.out.1, B3.out.2⟩
end Go.Proofs.YtboabidokkghbaaGreat
namespace Go.Proofs.YtboabidokkghbaaGreat
set_option linter.unusedVariables false
open Go.RowKit

set_option maxRecDepth 100000 in
set_option maxHeartbeats 2000000 in
theorem rof_no (g : GV) (na fa la ka : Option Addr) (n nc m fc l lc k kc : Nat) (w : World) (hn : n ≤ 1048576) (hm : m ≤ 1048576) (hg : g.ns.length ≤ 64) (h : n ≠ g.ns.length ∨ m ≠ g.ns.length) :
    Calls Tryz.prog 28 #[g.val, .slice na n nc, .slice fa m fc, .slice la l lc, .slice ka k kc] w fun e w' => e = .returned (.tuple #[.slice none 0 0, .int .i64 3]) ∧ Below w.heap.size w w' := by
  have X0 : Hid ((w.alloc (gBox g)).heap[w.heap.size]? = some (gBox g)) := heap_alloc_new _ _
  obtain ⟨x0, x1, x2, x3, x4⟩ := gb_cells X0.out
  by_cases h1 : n = g.ns.length
  · have t1 : ((n : Int) != (g.ns.length : Int)) = false := by simp; omega
    have t2 : ((m : Int) != (g.ns.length : Int)) = true := by simp; omega
    clear h h1
    go_enter Tryz.func28, Tryz.ntmps28
    go_wp2
    refine bodyPost_ret (results_tmp2 rfl _ _ _) rfl ?_
    exact ⟨rfl, below_alloc _ _⟩
  · have t1 : ((n : Int) != (g.ns.length : Int)) = true := by simp; omega
    clear h h1
    go_enter Tryz.func28, Tryz.ntmps28
    go_wp2
    refine bodyPost_ret (results_tmp2 rfl _ _ _) rfl ?_
    exact ⟨rfl, below_alloc _ _⟩
set_option maxRecDepth 100000 in
set_option maxHeartbeats 8000000 in
theorem rof_S (g : GV) (na : Option Addr) (nc : Nat) (N : List Bool) (fa : Option Addr) (fc : Nat) (L : List (List Int)) (la : Option Addr) (lc : Nat) (l : List (Int × Int)) (ka : Option Addr) (kc : Nat) (look : List Int) (w : World) (hfg : FG w g) (hN : BRow w na N) (hL : LsRow w fa L) (hl : SymRow w la l) (hk : InRow w ka look) (hNl : N.length ≤ 1048576) (hLl : L.length ≤ 1048576 ∧ ∀ z ∈ L, z.length ≤ 1048576) (hll : l.length ≤ 1048576) (hkl : look.length ≤ 1048576) :
    Calls Tryz.prog 28 #[g.val, .slice na N.length nc, .slice fa L.length fc, .slice la l.length lc, .slice ka look.length kc] w fun e w' => OfO w (ofL g N L l look 0) (ofE g N.length L l look 0) e w' := by
  by_cases h0 : N.length = g.ns.length ∧ L.length = g.ns.length
  case neg =>
    have e : ofE g N.length L l look 0 = 3 := by
      by_cases q : N.length = g.ns.length
      · have : L.length ≠ g.ns.length := fun r => h0 ⟨q, r⟩
        simp [ofE, askC, askU, q, this]
      · simp [ofE, askC, askU, q]
    have e2 : ofL g N L l look 0 = [] := by rw [ofL, e]; rfl
    rw [e, e2]
    refine (rof_no g na fa la ka N.length nc L.length fc l.length lc look.length kc w hNl hLl.1 hfg.nl.2 (by omega)).mono ?_
    rintro e w' ⟨rfl, hb⟩
    exact OfO.void hb
  obtain ⟨e1, e2⟩ := h0
  have X0 : Hid ((w.alloc (gBox g)).heap[w.heap.size]? = some (gBox g)) := heap_alloc_new _ _
  obtain ⟨x0, x1, x2, x3, x4⟩ := gb_cells X0.out
  have htl := hfg.tl.2
  have htl1 := hfg.tl.1
  have HN64 : Hid (N.length ≤ 64 ∧ L.length = N.length) := ⟨by rw [e1]; exact hfg.nl.2, by rw [e1, e2]⟩
  have hLlen : L.length ≤ 64 := by rw [e2]; exact hfg.nl.2
  have HR : Hid (∀ w', Below w.heap.size w w' → BRow w' na N ∧ LsRow w' fa L ∧ SymRow w' la l ∧ InRow w' ka look) := fun w' hb => ⟨hN.later hb, hL.later hb, hl.later (Nat.le_refl _) hb, hk.later hb⟩
  have HLL : Hid (∀ z ∈ L, z.length ≤ 1048576) := hLl.2
  have AI : Hid (∀ w', Below w.heap.size w w' → Calls Tryz.prog 72 #[g.val, .slice la l.length lc] w' fun e w'' => e = .returned (.bool (allI g l)) ∧ Below w'.heap.size w' w'') := fun w' hb => rsymbols_S g la lc l w' (by omega) (by have := hfg.nl.2; omega) (hl.later (Nat.le_refl _) hb) (by omega)
  have AB : Hid (∀ w', Below w.heap.size w w' → Calls Tryz.prog 71 #[.slice ka look.length kc, .int .i64 g.ts.length] w' fun en w'' => en = .returned (.bool (allB look (g.ts.length + 1))) ∧ Below w'.heap.size w' w'') := fun w' hb => ranged_S ka kc look (g.ts.length + 1) _ (by omega) w' (hk.later hb) (by omega)
  have HAL : Hid (∀ k, k < L.length → allB (L.getD k []) g.ts.length = false → (L.all fun z => allB z g.ts.length) = false) := fun k hk h => all_no (p := fun z => allB z g.ts.length) hk h
  have HAY : Hid ((∀ k, k < L.length → allB (L.getD k []) g.ts.length = true) → (L.all fun z => allB z g.ts.length) = true) := fun h => all_yes (p := fun z => allB z g.ts.length) h
  have V1 : Hid (ofE g N.length L l look 0 = if (L.all fun z => allB z g.ts.length) = false then 4 else if allB look (g.ts.length + 1) = false then 4 else if allI g l = false then 35 else 0) := by show _ = _; rw [ofE, if_neg (by simp [askC, askU, e1, e2])]
  have V2 : Hid (ofL g N L l look 0 = if ofE g N.length L l look 0 = 0 then listS (ofS N (L.map setS) l (setS look)) 128 else []) := rfl
  have SE : Hid ((L.all fun z => allB z g.ts.length) = true → allB look (g.ts.length + 1) = true → allI g l = true → ∀ w', Below w.heap.size w w' → Calls Tryz.prog 73 #[.slice na N.length nc, .slice fa L.length fc, .slice la l.length lc, .slice ka look.length kc] w' fun e w'' => ∃ a c, e = .returned (.slice a (listS (ofS N (L.map setS) l (setS look)) 128).length c) ∧ InRow w'' a (listS (ofS N (L.map setS) l (setS look)) 128) ∧ Below w'.heap.size w' w'') := fun h1 h2 h3 w' hb => by
    refine (rsees_S na nc N fa fc L la lc l ka kc look w' (HR.out w' hb).1 (HR.out w' hb).2.1 (HR.out w' hb).2.2.1 (HR.out w' hb).2.2.2 hll (by omega) HN64.out.2 (fun s hs => ?_) (fun z hz => ⟨fun x hx => ?_, Nat.le_trans (HLL.out z hz) (by omega)⟩) (fun x hx => ?_) (by omega)).mono ?_
    · rcases allI_in h3 s hs with q | q
      · exact .inl ⟨q.1, q.2.1, by omega⟩
      · exact .inr ⟨q.1, q.2.1, by rw [e1]; exact q.2.2⟩
    · have := allB_in (List.all_eq_true.1 h1 z hz) x hx
      omega
    · have := allB_in h2 x hx
      omega
    · rintro e w'' ⟨v, rfl, ⟨a, c, rfl, r, _, _⟩, b⟩
      exact ⟨a, c, rfl, r, b⟩
  have t1 : ((N.length : Int) != (g.ns.length : Int)) = false := by rw [e1]; simp
  have t2 : ((L.length : Int) != (g.ns.length : Int)) = false := by rw [e2]; simp
  clear hfg hN hL hl hk e1 e2 hLl
  generalize ofL g N L l look 0 = R2 at *
  generalize ofE g N.length L l look 0 = R1 at *
  generalize (L.all fun z => allB z g.ts.length) = A at *
  generalize allB look (g.ts.length + 1) = K at *
  generalize allI g l = I at *
  generalize listS (ofS N (L.map setS) l (setS look)) 128 = T at *
  go_enter Tryz.func28, Tryz.ntmps28
  go_wp2
  go_loopw [12] (fun z wr => ∃ k : Nat, k ≤ L.length ∧ z = .int .i64 k ∧ (∀ j, j < k → allB (L.getD j []) g.ts.length = true) ∧ Below w.heap.size w wr ∧ wr.heap[w.heap.size]? = some (gBox g)) (fun z _ => L.length - (intOf z).toNat)
  case atStart => exact ⟨0, Nat.zero_le _, rfl, fun j hj => absurd hj (Nat.not_lt_zero j), below_alloc w _, X0.out⟩
  case round =>
    clear x0 x1 x2 x3 x4 t1 t2
    obtain ⟨k, hk, rfl, hf, hb, hg⟩ := hrel
    have HB : Hid (Below w.heap.size w wr ∧ wr.heap[w.heap.size]? = some (gBox g)) := ⟨hb, hg⟩
    by_cases hlt : k < L.length
    · have klt : (k : Int) < (L.length : Int) := by omega
      obtain ⟨lb, lo, hfa, hlb, hlc⟩ := (HR.out wr hb).2.1 (by intro e; rw [e] at hlt; simp at hlt)
      obtain ⟨za, zc, c0, hrow⟩ := hlc k hlt
      have hzl := HLL.out (L.getD k []) (by simp [List.getD, hlt])
      have HH : Hid (allB (L.getD k []) g.ts.length = false → A = false) := HAL.out k hlt
      have HS : Hid (allB (L.getD k []) g.ts.length = true → ∀ j, j < k + 1 → allB (L.getD j []) g.ts.length = true) := fun h j hj => by
        by_cases q : j = k
        · subst q; exact h
        · exact hf j (by omega)
      generalize L.getD k [] = z at *
      have KS0 : Hid (∀ w', Below wr.heap.size wr w' → (fun w' : World => w'.cell? ⟨lb, lo + k, none⟩ = some (.slice za z.length zc) ∧ w'.cell? ⟨w.heap.size, 0, none⟩ = some (.slice g.ta g.ts.length g.tc)) w') := fun w' hw => ⟨(hw.cell (p := ⟨lb, lo + k, none⟩) hlb).trans c0, (gb_cells ((hw.block _ (lt_of_block hg)).trans hg)).1⟩
      have AC : Hid (∀ w', Below wr.heap.size wr w' → Calls Tryz.prog 71 #[.slice za z.length zc, .int .i64 (IntKind.i64.wrap ((g.ts.length : Int) - 1))] w' fun en w'' => en = .returned (.bool (allB z g.ts.length)) ∧ Below w'.heap.size w' w'') := fun w' hw => ranged_S za zc _ _ _ (by rw [IntWalk.i64_in ((g.ts.length : Int) - 1) ⟨by omega, by omega⟩]; omega) w' (hrow.later hw) (by omega)
      generalize allB z g.ts.length = v at *
      have hs : Hid ((fun w' : World => w'.cell? ⟨lb, lo + k, none⟩ = some (.slice za z.length zc) ∧ w'.cell? ⟨w.heap.size, 0, none⟩ = some (.slice g.ta g.ts.length g.tc)) wr.drew) := KS0.out _ (Below.refl _ _).drew
      have HBD : Hid (Below wr.heap.size wr wr.drew) := (Below.refl _ _).drew
      rw [hfa]
      clear hb hg hf hlc hrow c0 hfa
      go_wp2
      refine wp_region_x (S := fun _ => (fun w' : World => w'.cell? ⟨lb, lo + k, none⟩ = some (.slice za z.length zc) ∧ w'.cell? ⟨w.heap.size, 0, none⟩ = some (.slice g.ta g.ts.length g.tc))) (by kernel_rfl) ?_
      refine takeF (i := 0) (v := ?_) rfl (by kernel_rfl) (by decide +kernel) (by decide +kernel) (fun _ _ _ h => h) (Or.inl ⟨by rfl, ?_⟩) hs.out ?_
      rotate_left
      · (intro w hSw; (try dsimp only at hSw); go_simp; try (with_reducible rfl))
      (try simp only [Act.put, List.setIfInBounds_toArray, List.set_cons_zero, List.set_cons_succ])
      refine takeF (i := 1) (v := ?_) rfl (by kernel_rfl) (by decide +kernel) (by decide +kernel) (fun _ _ _ h => h) (Or.inl ⟨by rfl, ?_⟩) hs.out ?_
      rotate_left
      · (intro w hSw; (try dsimp only at hSw); go_simp; try (with_reducible rfl))
      (try simp only [Act.put, List.setIfInBounds_toArray, List.set_cons_zero, List.set_cons_succ])
      refine takeF (i := 2) (v := ?_) rfl (by kernel_rfl) (by decide +kernel) (by decide +kernel) (fun _ _ _ h => h) (Or.inl ⟨by rfl, ?_⟩) hs.out ?_
      rotate_left
      · (intro w hSw; (try dsimp only at hSw); go_simp; try (with_reducible rfl))
      (try simp only [Act.put, List.setIfInBounds_toArray, List.set_cons_zero, List.set_cons_succ])
      refine takeF (i := 3) (v := ?_) rfl (by kernel_rfl) (by decide +kernel) (by decide +kernel) (fun _ _ _ h => h) (Or.inl ⟨by rfl, ?_⟩) hs.out ?_
      rotate_left
      · (intro w hSw; (try dsimp only at hSw); go_simp; try (with_reducible rfl))
      (try simp only [Act.put, List.setIfInBounds_toArray, List.set_cons_zero, List.set_cons_succ])
      refine takeF (i := 4) (v := ?_) rfl (by kernel_rfl) (by decide +kernel) (by decide +kernel) (fun _ _ _ h => h) (Or.inl ⟨by rfl, ?_⟩) hs.out ?_
      rotate_left
      · (intro w hSw; (try dsimp only at hSw); go_simp; try (with_reducible rfl))
      (try simp only [Act.put, List.setIfInBounds_toArray, List.set_cons_zero, List.set_cons_succ])
      refine takeF (i := 5) (v := ?_) rfl (by kernel_rfl) (by decide +kernel) (by decide +kernel) (fun _ _ _ h => h) (Or.inl ⟨by rfl, ?_⟩) hs.out ?_
      rotate_left
      · (intro w hSw; (try dsimp only at hSw); go_simp; try (with_reducible rfl))
      (try simp only [Act.put, List.setIfInBounds_toArray, List.set_cons_zero, List.set_cons_succ])
      refine takeF (i := 6) (v := ?_) rfl (by kernel_rfl) (by decide +kernel) (by decide +kernel) (fun _ _ _ h => h) (Or.inl ⟨by rfl, ?_⟩) hs.out ?_
      rotate_left
      · (intro w hSw; (try dsimp only at hSw); go_simp; try (with_reducible rfl))
      (try simp only [Act.put, List.setIfInBounds_toArray, List.set_cons_zero, List.set_cons_succ])
      refine takeF (i := 7) (v := ?_) rfl (by kernel_rfl) (by decide +kernel) (by decide +kernel) (fun _ _ _ h => h) (Or.inl ⟨by rfl, ?_⟩) hs.out ?_
      rotate_left
      · (intro w hSw; (try dsimp only at hSw); go_simp; try (with_reducible rfl))
      (try simp only [Act.put, List.setIfInBounds_toArray, List.set_cons_zero, List.set_cons_succ])
      refine wpAnyX_one (j := 8) (by decide +kernel) rfl (fun K' hK => ?_)
      refine step_callX rfl 71 #[.slice za z.length zc, .int .i64 (IntKind.i64.wrap ((g.ts.length : Int) - 1))] _ (run_rg2 (v0 := .slice za z.length zc) (v1 := .int .i64 (IntKind.i64.wrap ((g.ts.length : Int) - 1))) (by rfl) (by rfl) (by rfl) _) (AC.out _ HBD.out) ?_
      rintro e w3 ⟨rfl, b3⟩
      have B3 : Hid (Below wr.heap.size wr w3) := HBD.out.trans b3
      have W3 : Hid (Below w.heap.size w w3 ∧ w3.heap[w.heap.size]? = some (gBox g)) := ⟨HB.out.1.trans (B3.out.mono HB.out.1.size), (B3.out.block _ (lt_of_block HB.out.2)).trans HB.out.2⟩
      clear b3 hs HBD
      have hs : Hid ((fun w' : World => w'.cell? ⟨lb, lo + k, none⟩ = some (.slice za z.length zc) ∧ w'.cell? ⟨w.heap.size, 0, none⟩ = some (.slice g.ta g.ts.length g.tc)) w3) := KS0.out _ B3.out
      refine ⟨_, rfl, hK.out _ _ hs.out ?_⟩
      clear hK K'
      (try simp only [Act.put, List.setIfInBounds_toArray, List.set_cons_zero, List.set_cons_succ])
      refine takeF (i := 9) (v := ?_) rfl (by kernel_rfl) (by decide +kernel) (by decide +kernel) (fun _ _ _ h => h) (Or.inl ⟨by rfl, ?_⟩) hs.out ?_
      rotate_left
      · (intro w hSw; (try dsimp only at hSw); go_simp; try (with_reducible rfl))
      (try simp only [Act.put, List.setIfInBounds_toArray, List.set_cons_zero, List.set_cons_succ])
      refine wpAnyX_done (by decide +kernel) ?_
      clear hs
      cases v
      · have R : Hid (R1 = 4 ∧ R2 = []) := by
          have e : R1 = 4 := by rw [V1.out, HH.out rfl]; rfl
          exact ⟨e, by rw [V2.out, e]; rfl⟩
        go_wp2
        refine bodyPost_ret (results_tmp2 rfl _ _ _) rfl ?_
        rw [R.out.1, R.out.2]
        exact OfO.void W3.out.1
      · have R : Hid (∀ j, j < k + 1 → allB (L.getD j []) g.ts.length = true) := HS.out rfl
        go_wp2
        go_roundw
        case rel => exact ⟨k + 1, by omega, by go_num, R.out, W3.out⟩
        case measure => simp [intOf]; omega
    · obtain rfl : A = true := HAY.out (fun j hj => hf j (by omega))
      have VT : Hid (R1 = if K = false then 4 else if I = false then 35 else 0) := V1.out
      clear HAL HAY V1
      have klt : ¬ (k : Int) < (L.length : Int) := by omega
      obtain ⟨x0, x1, x2, x3, x4⟩ := gb_cells hg
      clear hf hb hg
      cases K
      · have R : Hid (R1 = 4 ∧ R2 = []) := by
          have e : R1 = 4 := by rw [VT.out]; rfl
          exact ⟨e, by rw [V2.out, e]; rfl⟩
        clear SE VT V2
        go_wp2_with (go_at_call 71; refine (AB.out _ HB.out.1).mono ?_; rintro e w3 ⟨rfl, b3⟩; have B3 : Hid (Below w.heap.size w w3) := HB.out.1.trans (b3.mono HB.out.1.size); clear b3)
        refine bodyPost_ret (results_tmp2 rfl _ _ _) rfl ?_
        rw [R.out.1, R.out.2]
        exact OfO.void B3.out
      · cases I
        · have R : Hid (R1 = 35 ∧ R2 = []) := by
            have e : R1 = 35 := by rw [VT.out]; rfl
            exact ⟨e, by rw [V2.out, e]; rfl⟩
          clear SE VT V2
          go_wp2_with (first
            | (go_at_call 71; refine (AB.out _ HB.out.1).mono ?_; rintro e w3 ⟨rfl, b3⟩; have B3 : Hid (Below w.heap.size w w3 ∧ w3.heap[w.heap.size]? = some (gBox g)) := ⟨HB.out.1.trans (b3.mono HB.out.1.size), (b3.block _ (lt_of_block HB.out.2)).trans HB.out.2⟩; clear b3 x0 x1 x2 x3 x4; obtain ⟨x0, x1, x2, x3, x4⟩ := gb_cells B3.out.2)
            | (go_at_call 72; refine (AI.out _ B3.out.1).mono ?_; rintro e w4 ⟨rfl, b4⟩; have B4 : Hid (Below w.heap.size w w4) := B3.out.1.trans (b4.mono B3.out.1.size); clear b4 x0 x1 x2 x3 x4))
          refine bodyPost_ret (results_tmp2 rfl _ _ _) rfl ?_
          rw [R.out.1, R.out.2]
          exact OfO.void B4.out
        · have R : Hid (R1 = 0 ∧ R2 = T) := by
            have e : R1 = 0 := by rw [VT.out]; rfl
            exact ⟨e, by rw [V2.out, e]; rfl⟩
          have ST : Hid (∀ w', Below w.heap.size w w' → Calls Tryz.prog 73 #[.slice na N.length nc, .slice fa L.length fc, .slice la l.length lc, .slice ka look.length kc] w' fun e w'' => ∃ a c, e = .returned (.slice a T.length c) ∧ InRow w'' a T ∧ Below w'.heap.size w' w'') := SE.out rfl rfl rfl
          clear SE VT V2
          go_wp2_with (first
            | (go_at_call 71; refine (AB.out _ HB.out.1).mono ?_; rintro e w3 ⟨rfl, b3⟩; have B3 : Hid (Below w.heap.size w w3 ∧ w3.heap[w.heap.size]? = some (gBox g)) := ⟨HB.out.1.trans (b3.mono HB.out.1.size), (b3.block _ (lt_of_block HB.out.2)).trans HB.out.2⟩; clear b3 x0 x1 x2 x3 x4; obtain ⟨x0, x1, x2, x3, x4⟩ := gb_cells B3.out.2)
            | (go_at_call 72; refine (AI.out _ B3.out.1).mono ?_; rintro e w4 ⟨rfl, b4⟩; have B4 : Hid (Below w.heap.size w w4) := B3.out.1.trans (b4.mono B3.out.1.size); clear b4 x0 x1 x2 x3 x4)
            | (go_at_call 73; refine (ST.out _ B4.out).mono ?_; rintro e w5 ⟨ta, tc, rfl, r5, b5⟩; have B5 : Hid (InRow w5 ta T ∧ Below w.heap.size w w5) := ⟨r5, B4.out.trans (b5.mono B4.out.size)⟩; clear r5 b5))
          refine bodyPost_ret (results_tmp2 rfl _ _ _) rfl ?_
          rw [R.out.1, R.out.2]
          exact ⟨ta, tc, rfl, B5.out⟩
end Go.Proofs.YtboabidokkghbaaGreat
