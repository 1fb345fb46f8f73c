import Derived.Test.YtflcnlefcnclkaaFFst
namespace Go.Proofs.Ytflcnlefcnclkaa
set_option linter.unusedVariables false
open Go.RowKit

theorem takeF {P : Program} {ops : Array Oper} {Q : Exit → Act → World → Prop} {md : Region.Mode} {i : Nat} {oi : Oper} {v : Value} {S0 : World → Prop} {fuel : Nat} {listed : Array Bool} {a : Act} {w : World} (hi' : ops.toList[i]? = some oi)
    (hs : Region.noSelect ops = true) (hf : Region.free md ops listed i = true) (hr : (Region.ready md ops listed).contains i = true)
    (hQ : ∀ c a w, Q (.panic c) (a.put oi.dst v) w → Q (.panic c) a w) (hy : YieldsIf P ops S0 oi v a) (hS : S0 w)
    (h : wpAnyX P md ops Q (fun _ => S0) fuel (listed.setIfInBounds i true) (a.put oi.dst v) w) : wpAnyX P md ops Q (fun _ => S0) (fuel + 1) listed a w :=
  have hi : ops[i]? = some oi := by rw [← Array.getElem?_toList]; exact hi'
  wpAnyX_first (Cl := fun _ => True) (T := S0) hi (Region.noSelect_spec hs) hQ (fun _ _ _ _ => trivial) (fun _ _ _ _ h => h) (fun _ _ => Iff.rfl) fuel listed a w (Region.free_spec hi hf) (by simpa using hr) trivial hy hS h
/-- The first that says something. -/
def firstO (v : Nat → Option (Int × Int)) : Nat → Option (Int × Int)
  | 0 => none
  | n + 1 => match firstO v n with
    | some x => some x
    | none => v n
theorem firstO_none {v : Nat → Option (Int × Int)} : ∀ {n : Nat}, (∀ j, j < n → v j = none) → firstO v n = none
  | 0, _ => rfl
  | n + 1, h => by rw [firstO, firstO_none (fun j hj => h j (by omega))]; exact h n (by omega)
theorem firstO_hit {v : Nat → Option (Int × Int)} {x : Int × Int} {k : Nat} (hx : v k = some x) (hb : ∀ j, j < k → v j = none) : ∀ {n : Nat}, k < n → firstO v n = some x
  | 0, h => absurd h (Nat.not_lt_zero _)
  | n + 1, h => by
    by_cases e : k = n
    · subst e; rw [firstO, firstO_none hb]; exact hx
    · rw [firstO, firstO_hit hx hb (show k < n by omega)]
theorem firstO_inv {v : Nat → Option (Int × Int)} : ∀ {n : Nat}, firstO v n = none → ∀ j, j < n → v j = none
  | 0, _, j, hj => absurd hj (Nat.not_lt_zero _)
  | n + 1, h, j, hj => by
    rw [firstO] at h
    cases e : firstO v n with
    | some x => rw [e] at h; cases h
    | none =>
      rw [e] at h
      by_cases q : j = n
      · subst q; exact h
      · exact firstO_inv e j (by omega)
/-- What is wrong with a list; with a production. -/
def badL (L : List (List Int)) (nt : Nat) (i : Nat) : Option (Int × Int) := if allB (L.getD i []) nt = false then some (4, (i : Int)) else if riseF (L.getD i []) = false then some (7, (i : Int)) else none
def badP (N : List Bool) (F : List BS) (ps : List PV) (i : Nat) : Option (Int × Int) := if decide (withS (ofS N F (ps.getD i .none).right (0, 0)) (F.getD (ps.getD i .none).left.toNat (0, 0)) = F.getD (ps.getD i .none).left.toNat (0, 0)) = false then some (62, (i : Int)) else none
def chkF (N : List Bool) (L : List (List Int)) (ps : List PV) (nt : Nat) : Int × Int := match firstO (badL L nt) L.length with
  | some x => x
  | none => match firstO (badP N (L.map setS) ps) ps.length with
    | some x => x
    | none => (0, 0)
theorem run_ab2 {o : Oper} {a : Act} {t0 t1 : TypeId} {v0 v1 : Value} {x0 x1 : Operand} (hop : o.op = Op.call { callee := Callee.value (Operand.func 21), args := #[x0, x1], argTypes := #[t0, t1] }) (h0 : a.eval x0 = v0) (h1 : a.eval x1 = v1) (w : World) : (execOp a.eval o).run Try.prog w = .ok (.enter 21 #[v0, v1]) w := by
  have hf : a.eval (Operand.func 21) = .func (.func 21) #[] #[] := rfl
  simp [execOp, hop, resolve, invoke, h0, h1, hf, Deferred.ofValue]
theorem run_wi2 {o : Oper} {a : Act} {t0 t1 : TypeId} {v0 v1 : Value} {x0 x1 : Operand} (hop : o.op = Op.call { callee := Callee.value (Operand.func 25), args := #[x0, x1], argTypes := #[t0, t1] }) (h0 : a.eval x0 = v0) (h1 : a.eval x1 = v1) (w : World) : (execOp a.eval o).run Try.prog w = .ok (.enter 25 #[v0, v1]) w := by
  have hf : a.eval (Operand.func 25) = .func (.func 25) #[] #[] := rfl
  simp [execOp, hop, resolve, invoke, h0, h1, hf, Deferred.ofValue]
set_option maxRecDepth 100000 in
set_option maxHeartbeats 4000000 in
theorem chkFirst_ok (g : GV) (na : Option Addr) (nc : Nat) (N : List Bool) (fa : Option Addr) (fc : Nat) (L : List (List Int)) (w : World) (h : GAt 140737488355328 w g) (hpc : g.ps.length ≤ g.pc) (at_ : Int) (hE : checkG g (checkF g.ts g.ns) = (0, at_)) (hN : BRow w na N) (hl : N.length = g.ns.length) (hL : LsRow w fa L) (hl2 : L.length = g.ns.length) (hll : ∀ l ∈ L, l.length ≤ 140737488355328) :
    Calls Try.prog 8 #[g.val, .slice na N.length nc, .slice fa L.length fc] w fun e w' => e = .returned (.tuple #[.int .i64 (chkF N L g.ps g.ts.length).1, .int .i64 (chkF N L g.ps g.ts.length).2]) ∧ Below w.heap.size w w' := by
  have ok : OkC g := OkC.of (by rw [hE])
  have X0 : Hid ((w.alloc (gBox g)).heap[w.heap.size]? = some (gBox g)) := heap_alloc_new _ _
  have CK : Hid (Calls Try.prog 20 #[g.val, .slice na N.length nc, .slice fa L.length fc] (w.alloc (gBox g)) fun e w' => e = .returned (.int .i64 0) ∧ Below (w.alloc (gBox g)).heap.size (w.alloc (gBox g)) w') := by
    have := askC_S g na fa N.length nc L.length fc _ (h.later (below_alloc w (gBox g))) hpc 0 at_ hE
    rwa [show askC g N.length L.length 0 = 0 by simp [askC, askU, hl, hl2]] at this
  have HFG : Hid (∀ w', Below w.heap.size w w' → FG w' g ∧ BRow w' na N ∧ LsRow w' fa L) := fun w' hb => ⟨ok.fg (h.later hb), hN.later hb, hL.later hb⟩
  have HLL : Hid (∀ l ∈ L, l.length ≤ 140737488355328) := hll
  have HN64 : Hid (N.length ≤ 64 ∧ 1 ≤ N.length ∧ N.length = g.ns.length ∧ L.length = g.ns.length ∧ g.ts.length ≤ 64) := ⟨by rw [hl]; exact ok.nl.2, by rw [hl]; exact ok.nl.1, hl, hl2, ok.tl.2⟩
  have HIL : Hid (∀ k x, k < L.length → badL L g.ts.length k = some x → (∀ j, j < k → badL L g.ts.length j = none) → chkF N L g.ps g.ts.length = x) := fun k x hk hx hb => by rw [chkF, firstO_hit hx hb hk]
  have HIP : Hid (∀ k x, (∀ j, j < L.length → badL L g.ts.length j = none) → k < g.ps.length → badP N (L.map setS) g.ps k = some x → (∀ j, j < k → badP N (L.map setS) g.ps j = none) → chkF N L g.ps g.ts.length = x) := fun k x hL hk hx hb => by rw [chkF, firstO_none hL, firstO_hit hx hb hk]
  have NON : Hid ((∀ j, j < L.length → badL L g.ts.length j = none) → (∀ j, j < g.ps.length → badP N (L.map setS) g.ps j = none) → chkF N L g.ps g.ts.length = (0, 0)) := fun h1 h2 => by rw [chkF, firstO_none h1, firstO_none h2]
  obtain ⟨x0, x1, x2, x3, x4⟩ := gb_cells X0.out
  have hpl := ok.pl.2
  have hLlen : L.length ≤ 64 := by rw [hl2]; exact ok.nl.2
  have t1 : ((0 : Int) != 0) = false := by decide
  generalize hX : chkF N L g.ps g.ts.length = X at *
  obtain ⟨X1, X2⟩ := X
  clear h hE ok hN hX hl hL hl2 hll
  go_enter Try.func8, Try.ntmps8
  go_wp2_with (go_at_call 20; refine CK.out.mono ?_; rintro e w2 ⟨rfl, b2⟩; have B2 : Hid (Below w.heap.size w w2 ∧ w2.heap[w.heap.size]? = some (gBox g)) := ⟨(below_alloc w _).trans (b2.mono (below_alloc w _).size), (b2.block _ (lt_of_block X0.out)).trans X0.out⟩; clear b2 x0 x1 x2 x3 x4)
  go_loopw [22] (fun z wr => ∃ k : Nat, k ≤ L.length ∧ z = .int .i64 k ∧ (∀ j, j < k → badL L g.ts.length j = none) ∧ Below w.heap.size w wr ∧ wr.heap[w.heap.size]? = some (gBox g)) (fun z _ => L.length - (intOf z).toNat)
  case atStart => exact ⟨0, Nat.zero_le _, rfl, fun j hj => absurd hj (Nat.not_lt_zero j), B2.out.1, B2.out.2⟩
  case round =>
    obtain ⟨k, hk, rfl, hf, hb, hg⟩ := hrel
    have HB : Hid (Below w.heap.size w wr ∧ wr.heap[w.heap.size]? = some (gBox g)) := ⟨hb, hg⟩
    have HF : Hid (∀ j, j < k → badL L g.ts.length j = none) := hf
    clear B2
    by_cases hlt : k < L.length
    · have klt : (k : Int) < (L.length : Int) := by omega
      obtain ⟨lb, lo, rfl, hlb, hlc⟩ := (HFG.out wr hb).2.2 (by intro e; rw [e] at hlt; simp at hlt)
      obtain ⟨la, lc, c0, hrow⟩ := hlc k hlt
      have hrl := HLL.out (L.getD k []) (by simp [List.getD, hlt])
      have V : Hid (badL L g.ts.length k = if allB (L.getD k []) g.ts.length = false then some (4, (k : Int)) else if riseF (L.getD k []) = false then some (7, (k : Int)) else none) := rfl
      generalize L.getD k [] = l at *
      have KS0 : Hid (∀ w', Below wr.heap.size wr w' → (fun w' : World => w'.cell? ⟨lb, lo + k, none⟩ = some (.slice la l.length lc) ∧ w'.cell? ⟨w.heap.size, 0, none⟩ = some (.slice g.ta g.ts.length g.tc)) w') := fun w' hw => ⟨(hw.cell (p := ⟨lb, lo + k, none⟩) hlb).trans c0, (gb_cells ((hw.block _ (lt_of_block hg)).trans hg)).1⟩
      have AC : Hid (∀ w', Below wr.heap.size wr w' → Calls Try.prog 21 #[.slice la l.length lc, .int .i64 g.ts.length] w' fun en w'' => en = .returned (.bool (allB l g.ts.length)) ∧ Below w'.heap.size w' w'') := fun w' hw => allBelow_S la lc _ _ w' (hrow.later hw) hrl
      have RC : Hid (∀ w', Below wr.heap.size wr w' → Calls Try.prog 22 #[.slice la l.length lc] w' fun en w'' => en = .returned (.bool (riseF l)) ∧ Below w'.heap.size w' w'') := fun w' hw => rises_S la lc _ w' (hrow.later hw) hrl
      have HH : Hid (∀ x, badL L g.ts.length k = some x → (X1, X2) = x) := fun x hx => HIL.out k x hlt hx hf
      have HS : Hid (badL L g.ts.length k = none → ∀ j, j < k + 1 → badL L g.ts.length j = none) := fun h j hj => by
        by_cases q : j = k
        · subst q; exact h
        · exact hf j (by omega)
      generalize allB l g.ts.length = A at *
      generalize riseF l = R at *
      have hs : Hid ((fun w' : World => w'.cell? ⟨lb, lo + k, none⟩ = some (.slice la l.length lc) ∧ w'.cell? ⟨w.heap.size, 0, none⟩ = some (.slice g.ta g.ts.length g.tc)) wr.drew) := KS0.out _ (Below.refl _ _).drew
      have HBD : Hid (Below wr.heap.size wr wr.drew) := (Below.refl _ _).drew
      clear hb hg hf hlc hrow c0
      go_wp2
      refine wp_region_x (S := fun _ => (fun w' : World => w'.cell? ⟨lb, lo + k, none⟩ = some (.slice la l.length lc) ∧ w'.cell? ⟨w.heap.size, 0, none⟩ = some (.slice g.ta g.ts.length g.tc))) (by kernel_rfl) ?_
      refine takeF (i := 0) (v := ?_) rfl (by kernel_rfl) (by decide +kernel) (by decide +kernel) (fun _ _ _ h => h) (Or.inl ⟨by rfl, ?_⟩) hs.out ?_
      rotate_left
      · (intro w hSw; (try dsimp only at hSw); go_simp; try (with_reducible rfl))
      (try simp only [Act.put, List.setIfInBounds_toArray, List.set_cons_zero, List.set_cons_succ])
      refine takeF (i := 1) (v := ?_) rfl (by kernel_rfl) (by decide +kernel) (by decide +kernel) (fun _ _ _ h => h) (Or.inl ⟨by rfl, ?_⟩) hs.out ?_
      rotate_left
      · (intro w hSw; (try dsimp only at hSw); go_simp; try (with_reducible rfl))
      (try simp only [Act.put, List.setIfInBounds_toArray, List.set_cons_zero, List.set_cons_succ])
      refine takeF (i := 2) (v := ?_) rfl (by kernel_rfl) (by decide +kernel) (by decide +kernel) (fun _ _ _ h => h) (Or.inl ⟨by rfl, ?_⟩) hs.out ?_
      rotate_left
      · (intro w hSw; (try dsimp only at hSw); go_simp; try (with_reducible rfl))
      (try simp only [Act.put, List.setIfInBounds_toArray, List.set_cons_zero, List.set_cons_succ])
      refine takeF (i := 3) (v := ?_) rfl (by kernel_rfl) (by decide +kernel) (by decide +kernel) (fun _ _ _ h => h) (Or.inl ⟨by rfl, ?_⟩) hs.out ?_
      rotate_left
      · (intro w hSw; (try dsimp only at hSw); go_simp; try (with_reducible rfl))
      (try simp only [Act.put, List.setIfInBounds_toArray, List.set_cons_zero, List.set_cons_succ])
      refine takeF (i := 4) (v := ?_) rfl (by kernel_rfl) (by decide +kernel) (by decide +kernel) (fun _ _ _ h => h) (Or.inl ⟨by rfl, ?_⟩) hs.out ?_
      rotate_left
      · (intro w hSw; (try dsimp only at hSw); go_simp; try (with_reducible rfl))
      (try simp only [Act.put, List.setIfInBounds_toArray, List.set_cons_zero, List.set_cons_succ])
      refine takeF (i := 5) (v := ?_) rfl (by kernel_rfl) (by decide +kernel) (by decide +kernel) (fun _ _ _ h => h) (Or.inl ⟨by rfl, ?_⟩) hs.out ?_
      rotate_left
      · (intro w hSw; (try dsimp only at hSw); go_simp; try (with_reducible rfl))
      (try simp only [Act.put, List.setIfInBounds_toArray, List.set_cons_zero, List.set_cons_succ])
      refine takeF (i := 6) (v := ?_) rfl (by kernel_rfl) (by decide +kernel) (by decide +kernel) (fun _ _ _ h => h) (Or.inl ⟨by rfl, ?_⟩) hs.out ?_
      rotate_left
      · (intro w hSw; (try dsimp only at hSw); go_simp; try (with_reducible rfl))
      (try simp only [Act.put, List.setIfInBounds_toArray, List.set_cons_zero, List.set_cons_succ])
      refine wpAnyX_one (j := 7) (by decide +kernel) rfl (fun K' hK => ?_)
      refine step_callX rfl 21 #[.slice la l.length lc, .int .i64 g.ts.length] _ (run_ab2 (v0 := .slice la l.length lc) (v1 := .int .i64 g.ts.length) (by rfl) (by rfl) (by rfl) _) (AC.out _ HBD.out) ?_
      rintro e w3 ⟨rfl, b3⟩
      have B3 : Hid (Below wr.heap.size wr w3) := HBD.out.trans b3
      have W3 : Hid (Below w.heap.size w w3 ∧ w3.heap[w.heap.size]? = some (gBox g)) := ⟨HB.out.1.trans (B3.out.mono HB.out.1.size), (B3.out.block _ (lt_of_block HB.out.2)).trans HB.out.2⟩
      clear b3 hs HBD
      have hs : Hid ((fun w' : World => w'.cell? ⟨lb, lo + k, none⟩ = some (.slice la l.length lc) ∧ w'.cell? ⟨w.heap.size, 0, none⟩ = some (.slice g.ta g.ts.length g.tc)) w3) := KS0.out _ B3.out
      refine ⟨_, rfl, hK.out _ _ hs.out ?_⟩
      clear hK K'
      (try simp only [Act.put, List.setIfInBounds_toArray, List.set_cons_zero, List.set_cons_succ])
      refine takeF (i := 8) (v := ?_) rfl (by kernel_rfl) (by decide +kernel) (by decide +kernel) (fun _ _ _ h => h) (Or.inl ⟨by rfl, ?_⟩) hs.out ?_
      rotate_left
      · (intro w hSw; (try dsimp only at hSw); go_simp; try (with_reducible rfl))
      (try simp only [Act.put, List.setIfInBounds_toArray, List.set_cons_zero, List.set_cons_succ])
      refine wpAnyX_done (by decide +kernel) ?_
      have c3 := hs.out.1
      clear hs
      cases A
      · have Q := HH.out (4, (k : Int)) (by rw [V.out]; rfl)
        have R2 : Hid (X1 = 4 ∧ X2 = (k : Int)) := by show _ ∧ _; simpa using Q
        clear Q
        go_wp2
        refine bodyPost_ret (results_tmp2 rfl _ _ _) rfl ?_
        exact ⟨by rw [R2.out.1, R2.out.2]; rfl, W3.out.1⟩
      · cases R
        · have Q := HH.out (7, (k : Int)) (by rw [V.out]; rfl)
          have R2 : Hid (X1 = 7 ∧ X2 = (k : Int)) := by show _ ∧ _; simpa using Q
          clear Q
          go_wp2_with (go_at_call 22; refine (RC.out _ B3.out).mono ?_; rintro e w4 ⟨rfl, b4⟩; have B4 : Hid (Below w.heap.size w w4) := W3.out.1.trans (b4.mono W3.out.1.size); clear b4)
          refine bodyPost_ret (results_tmp2 rfl _ _ _) rfl ?_
          exact ⟨by rw [R2.out.1, R2.out.2]; rfl, B4.out⟩
        · have R2 : Hid (∀ j, j < k + 1 → badL L g.ts.length j = none) := HS.out (by rw [V.out]; rfl)
          go_wp2_with (go_at_call 22; refine (RC.out _ B3.out).mono ?_; rintro e w4 ⟨rfl, b4⟩; have B4 : Hid (Below w.heap.size w w4 ∧ w4.heap[w.heap.size]? = some (gBox g)) := ⟨W3.out.1.trans (b4.mono W3.out.1.size), (b4.block _ (lt_of_block W3.out.2)).trans W3.out.2⟩; clear b4)
          go_roundw
          case rel => exact ⟨k + 1, by omega, by go_num, R2.out, B4.out.1, B4.out.2⟩
          case measure => simp [intOf]; omega
    · obtain rfl : k = L.length := by omega
      clear hf hb hg
      have HLN : Hid (L.length = N.length) := HN64.out.2.2.2.1.trans HN64.out.2.2.1.symm
      have HBD : Hid (∀ l ∈ L, ∀ x ∈ l, 0 ≤ x ∧ x < 64) := fun l hl x hx => by
        obtain ⟨i, hi, rfl⟩ := List.getElem_of_mem hl
        have := HF.out i hi
        unfold badL at this
        have e : L.getD i [] = L[i] := by simp [List.getD, hi]
        rw [e] at this
        by_cases q : allB L[i] g.ts.length = false
        · rw [if_pos q] at this; cases this
        · have q2 : allB L[i] g.ts.length = true := by simpa using q
          have := List.all_eq_true.1 q2 x hx
          simp [below1] at this
          have h64 := HN64.out.2.2.2.2
          omega
      have CO : Hid (Calls Try.prog 23 #[.slice na N.length nc, .slice fa L.length fc] wr fun e w' => ∃ fb, e = .returned (.agg #[.slice na N.length nc, .slice (some ⟨fb, 0, none⟩) N.length N.length]) ∧ SBk w' fb (L.map setS) ∧ wr.heap.size ≤ fb ∧ Below wr.heap.size wr w') := by
        have := claimOf_S na fa N.length nc fc L wr (HFG.out wr HB.out.1).2.2 (by omega) (fun l hl => ⟨fun x hx => by have := HBD.out l hl x hx; omega, HLL.out l hl⟩)
        refine this.mono ?_
        rintro e w' ⟨fb, q1, q2⟩
        exact ⟨fb, by rw [q1, HLN.out], q2⟩
      have HOK : Hid (∀ i, OkS ((L.map setS).getD i (0, 0))) := fun i => by
        by_cases hi : i < L.length
        · rw [show (L.map setS).getD i (0, 0) = setS L[i] by simp [List.getD, hi]]
          exact setS_ok (fun x hx => by have := HBD.out _ (List.getElem_mem hi) x hx; omega)
        · rw [show (L.map setS).getD i (0, 0) = (0, 0) by simp [List.getD, show L.length ≤ i by omega]]
          exact OkS.zero
      have HFL : Hid ((L.map setS).length = N.length) := by show _ = _; rw [List.length_map]; exact HLN.out
      clear HIL CK X0
      go_wp2_with (go_at_call 23; refine CO.out.mono ?_; rintro e w3 ⟨fb, rfl, s3, l3, b3⟩; have B3 : Hid (Below w.heap.size w w3 ∧ w3.heap[w.heap.size]? = some (gBox g) ∧ SBk w3 fb (L.map setS)) := ⟨HB.out.1.trans (b3.mono HB.out.1.size), (b3.block _ (lt_of_block HB.out.2)).trans HB.out.2, s3⟩; have B4 : Hid (Below w.heap.size w (w3.alloc (.cells #[.slice na N.length nc, .slice (some ⟨fb, 0, none⟩) N.length N.length] 50)) ∧ (w3.alloc (.cells #[.slice na N.length nc, .slice (some ⟨fb, 0, none⟩) N.length N.length] 50)).heap[w.heap.size]? = some (gBox g) ∧ CellsAt (w3.alloc (.cells #[.slice na N.length nc, .slice (some ⟨fb, 0, none⟩) N.length N.length] 50)) w3.heap.size #[.slice na N.length nc, .slice (some ⟨fb, 0, none⟩) N.length N.length] 50 ∧ SBk (w3.alloc (.cells #[.slice na N.length nc, .slice (some ⟨fb, 0, none⟩) N.length N.length] 50)) fb (L.map setS)) := ⟨B3.out.1.trans ((below_alloc w3 _).mono B3.out.1.size), ((below_alloc w3 _).block _ (lt_of_block B3.out.2.1)).trans B3.out.2.1, heap_alloc_new _ _, B3.out.2.2.later (below_alloc w3 _)⟩; clear b3 s3 l3; obtain ⟨x0, x1, x2, x3, x4⟩ := gb_cells B4.out.2.1)
      go_loopw [49] (fun z wr => ∃ k2 : Nat, k2 ≤ g.ps.length ∧ z = .int .i64 k2 ∧ (∀ j, j < k2 → badP N (L.map setS) g.ps j = none) ∧ Below w.heap.size w wr ∧ wr.heap[w.heap.size]? = some (gBox g) ∧ CellsAt wr w3.heap.size #[.slice na N.length nc, .slice (some ⟨fb, 0, none⟩) N.length N.length] 50 ∧ SBk wr fb (L.map setS)) (fun z _ => g.ps.length - (intOf z).toNat)
      case atStart => exact ⟨0, Nat.zero_le _, rfl, fun j hj => absurd hj (Nat.not_lt_zero j), B4.out⟩
      case round =>
        clear x0 x1 x2 x3 x4 B4 B3
        obtain ⟨k2, hk2, rfl, hf, hb, hg, hc, hS⟩ := hrel
        have HB2 : Hid (Below w.heap.size w wr) := hb
        have HI2 : Hid (wr.heap[w.heap.size]? = some (gBox g) ∧ CellsAt wr w3.heap.size #[.slice na N.length nc, .slice (some ⟨fb, 0, none⟩) N.length N.length] 50 ∧ SBk wr fb (L.map setS)) := ⟨hg, hc, hS⟩
        obtain ⟨x0, x1, x2, x3, x4⟩ := gb_cells hg
        by_cases hlt : k2 < g.ps.length
        · obtain ⟨b, o, hpa, hbl, hcc⟩ := (HFG.out _ hb).1.p.cells (by intro e; rw [e] at hlt; simp at hlt)
          obtain ⟨c0, c1, c2⟩ := hcc k2 hlt
          have klt : (k2 : Int) < (g.ps.length : Int) := by omega
          have hmem : g.ps.getD k2 .none ∈ g.ps := by simp [List.getD, hlt]
          obtain ⟨l0, l1⟩ := (HFG.out _ hb).1.left _ hmem
          have hrow := (HFG.out _ hb).1.p.rows _ hmem
          have hrl := (HFG.out _ hb).1.rl _ hmem
          have hsy := (HFG.out _ hb).1.sym _ hmem
          have HH : Hid (∀ x, badP N (L.map setS) g.ps k2 = some x → (X1, X2) = x) := fun x hx => HIP.out k2 x HF.out hlt hx hf
          have HS : Hid (badP N (L.map setS) g.ps k2 = none → ∀ j, j < k2 + 1 → badP N (L.map setS) g.ps j = none) := fun h j hj => by
            by_cases q : j = k2
            · subst q; exact h
            · exact hf j (by omega)
          have V : Hid (badP N (L.map setS) g.ps k2 = if decide (withS (ofS N (L.map setS) (g.ps.getD k2 .none).right (0, 0)) ((L.map setS).getD (g.ps.getD k2 .none).left.toNat (0, 0)) = (L.map setS).getD (g.ps.getD k2 .none).left.toNat (0, 0)) = false then some (62, (k2 : Int)) else none) := rfl
          generalize g.ps.getD k2 .none = p at *
          obtain ⟨pl, pra, prc, pr, pp⟩ := p
          simp only at c0 c1 c2 l0 l1 hrow hrl hsy
          obtain ⟨m, rfl⟩ : ∃ m : Nat, pl = (m : Int) := ⟨pl.toNat, by omega⟩
          have hBA : Below wr.heap.size wr (wr.alloc (.cells #[.int .i64 (m : Int), .slice pra pr.length prc, .int .i64 pp] 55)) := below_alloc _ _
          have hmN : m < N.length := by have := HN64.out; omega
          have HS2 : Hid (∀ s ∈ pr, SymIn N.length s) := fun s hs => by
            have h64 := HN64.out
            rcases hsy s hs with q | q
            · exact .inl ⟨q.1, q.2.1, by omega⟩
            · exact .inr ⟨q.1, q.2.1, by omega⟩
          have OF : Hid (∀ w', Below wr.heap.size wr w' → Calls Try.prog 24 #[.agg #[.slice na N.length nc, .slice (some ⟨fb, 0, none⟩) N.length N.length], .slice pra pr.length prc, .agg #[.int .u64 0, .int .u64 0]] w' fun e w'' => e = .returned (sv (ofS N (L.map setS) pr (0, 0))) ∧ Below w'.heap.size w' w'') := fun w' hw =>
            of_S na N nc fb N.length (L.map setS) pra prc pr (0, 0) w' ⟨((HFG.out _ hb).2.1.later hw), hS.later hw, ⟨HFL.out, HN64.out.1⟩, HOK.out⟩ (hrow.later (Nat.le_refl _) hw) (by omega) HS2.out OkS.zero
          have OKO : Hid (OkS (ofS N (L.map setS) pr (0, 0))) := ofS_ok HOK.out pr _ HS2.out OkS.zero
          have OKG : Hid (OkS ((L.map setS).getD m (0, 0))) := HOK.out m
          have KS0 : Hid (∀ w', Below wr.heap.size wr w' → w'.heap[wr.heap.size]? = some (.cells #[.int .i64 (m : Int), .slice pra pr.length prc, .int .i64 pp] 55) → w'.cell? ⟨w3.heap.size, 0, none⟩ = some (.slice na N.length nc) ∧ w'.cell? ⟨w3.heap.size, 1, none⟩ = some (.slice (some ⟨fb, 0, none⟩) N.length N.length) ∧ w'.cell? ⟨wr.heap.size, 0, none⟩ = some (.int .i64 (m : Int)) ∧ w'.cell? ⟨wr.heap.size, 1, none⟩ = some (.slice pra pr.length prc) ∧ w'.cell? ⟨fb, m * 2, none⟩ = some (.int .u64 (((L.map setS).getD m (0, 0)).1 : Int)) ∧ w'.cell? ⟨fb, m * 2 + 1, none⟩ = some (.int .u64 (((L.map setS).getD m (0, 0)).2 : Int))) := fun w' hw hP => by
            obtain ⟨a0, a1⟩ := (hS.later hw).cell (show m < (L.map setS).length by rw [HFL.out]; exact hmN)
            have e : w'.heap[w3.heap.size]? = some (.cells #[.slice na N.length nc, .slice (some ⟨fb, 0, none⟩) N.length N.length] 50 (0, 0)) := (hw.block _ hc.lt).trans hc
            exact ⟨(cellq_any e).trans rfl, (cellq_any e).trans rfl, (cellq_any hP).trans rfl, (cellq_any hP).trans rfl, a0, a1⟩
          have V2 : Hid (badP N (L.map setS) g.ps k2 = if decide (withS (ofS N (L.map setS) pr (0, 0)) ((L.map setS).getD m (0, 0)) = (L.map setS).getD m (0, 0)) = false then some (62, (k2 : Int)) else none) := V.out
          generalize ofS N (L.map setS) pr (0, 0) = O at *
          generalize (L.map setS).getD m (0, 0) = Q at *
          obtain ⟨o1, o2⟩ := O
          obtain ⟨q1, q2⟩ := Q
          obtain ⟨A, hA⟩ : ∃ A, decide (withS (o1, o2) (q1, q2) = (q1, q2)) = A := ⟨_, rfl⟩
          have WC : Hid (∀ w', Calls Try.prog 25 #[sv (o1, o2), sv (q1, q2)] w' fun e w2 => e = .returned (.bool A) ∧ Below w'.heap.size w' w2) := fun w' => within_S _ _ w' OKO.out OKG.out A hA
          have V3 : Hid (badP N (L.map setS) g.ps k2 = if A = false then some (62, (k2 : Int)) else none) := by rw [← hA]; exact V2.out
          have PX : Hid ((wr.alloc (.cells #[.int .i64 (m : Int), .slice pra pr.length prc, .int .i64 pp] 55)).drew.heap[wr.heap.size]? = some (.cells #[.int .i64 (m : Int), .slice pra pr.length prc, .int .i64 pp] 55)) := heap_alloc_new _ _
          have BD : Hid (Below wr.heap.size wr (wr.alloc (.cells #[.int .i64 (m : Int), .slice pra pr.length prc, .int .i64 pp] 55)).drew) := hBA.drew
          have hs : Hid ((fun w' : World => w'.cell? ⟨w3.heap.size, 0, none⟩ = some (.slice na N.length nc) ∧ w'.cell? ⟨w3.heap.size, 1, none⟩ = some (.slice (some ⟨fb, 0, none⟩) N.length N.length) ∧ w'.cell? ⟨wr.heap.size, 0, none⟩ = some (.int .i64 (m : Int)) ∧ w'.cell? ⟨wr.heap.size, 1, none⟩ = some (.slice pra pr.length prc) ∧ w'.cell? ⟨fb, m * 2, none⟩ = some (.int .u64 (q1 : Int)) ∧ w'.cell? ⟨fb, m * 2 + 1, none⟩ = some (.int .u64 (q2 : Int))) (wr.alloc (.cells #[.int .i64 (m : Int), .slice pra pr.length prc, .int .i64 pp] 55)).drew) := KS0.out _ BD.out PX.out
          rw [hpa]
          clear V V2 hA hb hf hcc hmem hrow hsy hBA hpa hg hc hS x0 x1 x2 x4 HFG HIP NON
          go_wp2
          refine wp_region_x (S := fun _ => (fun w' : World => w'.cell? ⟨w3.heap.size, 0, none⟩ = some (.slice na N.length nc) ∧ w'.cell? ⟨w3.heap.size, 1, none⟩ = some (.slice (some ⟨fb, 0, none⟩) N.length N.length) ∧ w'.cell? ⟨wr.heap.size, 0, none⟩ = some (.int .i64 (m : Int)) ∧ w'.cell? ⟨wr.heap.size, 1, none⟩ = some (.slice pra pr.length prc) ∧ w'.cell? ⟨fb, m * 2, none⟩ = some (.int .u64 (q1 : Int)) ∧ w'.cell? ⟨fb, m * 2 + 1, none⟩ = some (.int .u64 (q2 : Int)))) (by kernel_rfl) ?_
          refine takeF (i := 0) (v := ?_) rfl (by kernel_rfl) (by decide +kernel) (by decide +kernel) (fun _ _ _ h => h) (Or.inl ⟨by rfl, ?_⟩) hs.out ?_
          rotate_left
          · (intro w hSw; (try dsimp only at hSw); go_simp; try (with_reducible rfl))
          (try simp only [Act.put, List.setIfInBounds_toArray, List.set_cons_zero, List.set_cons_succ])
          refine takeF (i := 1) (v := ?_) rfl (by kernel_rfl) (by decide +kernel) (by decide +kernel) (fun _ _ _ h => h) (Or.inl ⟨by rfl, ?_⟩) hs.out ?_
          rotate_left
          · (intro w hSw; (try dsimp only at hSw); go_simp; try (with_reducible rfl))
          (try simp only [Act.put, List.setIfInBounds_toArray, List.set_cons_zero, List.set_cons_succ])
          refine takeF (i := 2) (v := ?_) rfl (by kernel_rfl) (by decide +kernel) (by decide +kernel) (fun _ _ _ h => h) (Or.inl ⟨by rfl, ?_⟩) hs.out ?_
          rotate_left
          · (intro w hSw; (try dsimp only at hSw); go_simp; try (with_reducible rfl))
          (try simp only [Act.put, List.setIfInBounds_toArray, List.set_cons_zero, List.set_cons_succ])
          refine takeF (i := 3) (v := ?_) rfl (by kernel_rfl) (by decide +kernel) (by decide +kernel) (fun _ _ _ h => h) (Or.inl ⟨by rfl, ?_⟩) hs.out ?_
          rotate_left
          · (intro w hSw; (try dsimp only at hSw); go_simp; try (with_reducible rfl))
          (try simp only [Act.put, List.setIfInBounds_toArray, List.set_cons_zero, List.set_cons_succ])
          refine takeF (i := 5) (v := ?_) rfl (by kernel_rfl) (by decide +kernel) (by decide +kernel) (fun _ _ _ h => h) (Or.inl ⟨by rfl, ?_⟩) hs.out ?_
          rotate_left
          · (intro w hSw; (try dsimp only at hSw); go_simp; try (with_reducible rfl))
          (try simp only [Act.put, List.setIfInBounds_toArray, List.set_cons_zero, List.set_cons_succ])
          refine takeF (i := 6) (v := ?_) rfl (by kernel_rfl) (by decide +kernel) (by decide +kernel) (fun _ _ _ h => h) (Or.inl ⟨by rfl, ?_⟩) hs.out ?_
          rotate_left
          · (intro w hSw; (try dsimp only at hSw); go_simp; try (with_reducible rfl))
          (try simp only [Act.put, List.setIfInBounds_toArray, List.set_cons_zero, List.set_cons_succ])
          refine takeF (i := 7) (v := ?_) rfl (by kernel_rfl) (by decide +kernel) (by decide +kernel) (fun _ _ _ h => h) (Or.inl ⟨by rfl, ?_⟩) hs.out ?_
          rotate_left
          · (intro w hSw; (try dsimp only at hSw); go_simp; try (with_reducible rfl))
          (try simp only [Act.put, List.setIfInBounds_toArray, List.set_cons_zero, List.set_cons_succ])
          refine takeF (i := 8) (v := ?_) rfl (by kernel_rfl) (by decide +kernel) (by decide +kernel) (fun _ _ _ h => h) (Or.inl ⟨by rfl, ?_⟩) hs.out ?_
          rotate_left
          · (intro w hSw; (try dsimp only at hSw); go_simp; try (with_reducible rfl))
          (try simp only [Act.put, List.setIfInBounds_toArray, List.set_cons_zero, List.set_cons_succ])
          refine takeF (i := 9) (v := ?_) rfl (by kernel_rfl) (by decide +kernel) (by decide +kernel) (fun _ _ _ h => h) (Or.inl ⟨by rfl, ?_⟩) hs.out ?_
          rotate_left
          · (intro w hSw; (try dsimp only at hSw); go_simp; try (with_reducible rfl))
          (try simp only [Act.put, List.setIfInBounds_toArray, List.set_cons_zero, List.set_cons_succ])
          refine takeF (i := 10) (v := ?_) rfl (by kernel_rfl) (by decide +kernel) (by decide +kernel) (fun _ _ _ h => h) (Or.inl ⟨by rfl, ?_⟩) hs.out ?_
          rotate_left
          · (intro w hSw; (try dsimp only at hSw); go_simp; try (with_reducible rfl))
          (try simp only [Act.put, List.setIfInBounds_toArray, List.set_cons_zero, List.set_cons_succ])
          refine wpAnyX_one (j := 4) (by decide +kernel) rfl (fun K' hK => ?_)
          refine step_callX rfl 24 #[.agg #[.slice na N.length nc, .slice (some ⟨fb, 0, none⟩) N.length N.length], .slice pra pr.length prc, .agg #[.int .u64 0, .int .u64 0]] _ (run_of3 (v0 := .agg #[.slice na N.length nc, .slice (some ⟨fb, 0, none⟩) N.length N.length]) (v1 := .slice pra pr.length prc) (v2 := .agg #[.int .u64 0, .int .u64 0]) (by rfl) (by rfl) (by rfl) (by rfl) _) (OF.out _ BD.out) ?_
          rintro e w5 ⟨rfl, b5⟩
          have B5 : Hid (Below wr.heap.size wr w5 ∧ w5.heap[wr.heap.size]? = some (.cells #[.int .i64 (m : Int), .slice pra pr.length prc, .int .i64 pp] 55)) := ⟨BD.out.trans (b5.mono BD.out.size), (b5.block _ (lt_of_block PX.out)).trans PX.out⟩
          clear b5 hs
          have hs : Hid ((fun w' : World => w'.cell? ⟨w3.heap.size, 0, none⟩ = some (.slice na N.length nc) ∧ w'.cell? ⟨w3.heap.size, 1, none⟩ = some (.slice (some ⟨fb, 0, none⟩) N.length N.length) ∧ w'.cell? ⟨wr.heap.size, 0, none⟩ = some (.int .i64 (m : Int)) ∧ w'.cell? ⟨wr.heap.size, 1, none⟩ = some (.slice pra pr.length prc) ∧ w'.cell? ⟨fb, m * 2, none⟩ = some (.int .u64 (q1 : Int)) ∧ w'.cell? ⟨fb, m * 2 + 1, none⟩ = some (.int .u64 (q2 : Int))) w5) := KS0.out _ B5.out.1 B5.out.2
          refine ⟨_, rfl, hK.out _ _ hs.out ?_⟩
          clear hK K'
          (try simp only [Act.put, List.setIfInBounds_toArray, List.set_cons_zero, List.set_cons_succ])
          refine wpAnyX_one (j := 11) (by decide +kernel) rfl (fun K' hK => ?_)
          refine step_callX rfl 25 #[sv (o1, o2), sv (q1, q2)] _ (run_wi2 (v0 := sv (o1, o2)) (v1 := sv (q1, q2)) (by rfl) (by rfl) (by rfl) _) (WC.out _) ?_
          rintro e w6 ⟨rfl, b6⟩
          have B6 : Hid (Below wr.heap.size wr w6 ∧ w6.heap[wr.heap.size]? = some (.cells #[.int .i64 (m : Int), .slice pra pr.length prc, .int .i64 pp] 55)) := ⟨B5.out.1.trans (b6.mono B5.out.1.size), (b6.block _ (lt_of_block B5.out.2)).trans B5.out.2⟩
          clear b6 hs
          have hs : Hid ((fun w' : World => w'.cell? ⟨w3.heap.size, 0, none⟩ = some (.slice na N.length nc) ∧ w'.cell? ⟨w3.heap.size, 1, none⟩ = some (.slice (some ⟨fb, 0, none⟩) N.length N.length) ∧ w'.cell? ⟨wr.heap.size, 0, none⟩ = some (.int .i64 (m : Int)) ∧ w'.cell? ⟨wr.heap.size, 1, none⟩ = some (.slice pra pr.length prc) ∧ w'.cell? ⟨fb, m * 2, none⟩ = some (.int .u64 (q1 : Int)) ∧ w'.cell? ⟨fb, m * 2 + 1, none⟩ = some (.int .u64 (q2 : Int))) w6) := KS0.out _ B6.out.1 B6.out.2
          refine ⟨_, rfl, hK.out _ _ hs.out ?_⟩
          clear hK K'
          (try simp only [Act.put, List.setIfInBounds_toArray, List.set_cons_zero, List.set_cons_succ])
          refine takeF (i := 12) (v := ?_) rfl (by kernel_rfl) (by decide +kernel) (by decide +kernel) (fun _ _ _ h => h) (Or.inl ⟨by rfl, ?_⟩) hs.out ?_
          rotate_left
          · (intro w hSw; (try dsimp only at hSw); go_simp; try (with_reducible rfl))
          (try simp only [Act.put, List.setIfInBounds_toArray, List.set_cons_zero, List.set_cons_succ])
          refine wpAnyX_done (by decide +kernel) ?_
          have L6 : Hid (Below w.heap.size w w6) := HB2.out.trans (B6.out.1.mono HB2.out.size)
          clear hs
          cases A
          · have Q := HH.out (62, (k2 : Int)) (by rw [V3.out]; rfl)
            have R2 : Hid (X1 = 62 ∧ X2 = (k2 : Int)) := by show _ ∧ _; simpa using Q
            clear Q
            go_wp2
            refine bodyPost_ret (results_tmp2 rfl _ _ _) rfl ?_
            exact ⟨by rw [R2.out.1, R2.out.2]; rfl, L6.out⟩
          · have R2 : Hid (∀ j, j < k2 + 1 → badP N (L.map setS) g.ps j = none) := HS.out (by rw [V3.out]; rfl)
            go_wp2
            go_roundw
            case rel => exact ⟨k2 + 1, by omega, by go_num, R2.out, L6.out, (B6.out.1.block _ (lt_of_block HI2.out.1)).trans HI2.out.1, (B6.out.1.block _ HI2.out.2.1.lt).trans HI2.out.2.1, HI2.out.2.2.later B6.out.1⟩
            case measure => simp [intOf]; omega
        · obtain rfl : k2 = g.ps.length := by omega
          have R2 : Hid (X1 = 0 ∧ X2 = 0) := by have := NON.out HF.out hf; show _ ∧ _; simpa using this
          clear hf hb hg hc hS x0 x1 x2 x4
          go_wp2
          refine bodyPost_ret (results_tmp2 rfl _ _ _) rfl ?_
          exact ⟨by rw [R2.out.1, R2.out.2]; rfl, HB2.out⟩
end Go.Proofs.Ytflcnlefcnclkaa
