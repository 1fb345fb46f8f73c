import Derived.Test.YtboabidokkghbaaGreatFThreeToFChk8
import Derived.Test.YtboabidokkghbaaGreatGRulesToGIn2
namespace Go.Proofs.YtboabidokkghbaaGreat
set_option linter.unusedVariables false
open Go.RowKit

/-- Are all symbols in the grammar? -/
def allI (g : GV) (l : List (Int × Int)) : Bool := l.all fun s => inG g s.1 s.2
set_option maxRecDepth 100000 in
set_option maxHeartbeats 4000000 in
theorem allIn_S (g : GV) (la : Option Addr) (lc : Nat) (l : List (Int × Int)) (w : World) (h1 : g.ts.length ≤ 140737488355328) (h2 : g.ns.length ≤ 140737488355328) (hl : SymRow w la l) (hll : l.length ≤ 140737488355328) :
    Calls Tryz.prog 64 #[g.val, .slice la l.length lc] w fun e w' => e = .returned (.bool (allI g l)) ∧ Below w.heap.size w w' := by
  have X0 : Hid ((w.alloc (gBox g)).heap[w.heap.size]? = some (gBox g)) := heap_alloc_new _ _
  have HL : Hid (∀ w', Below w.heap.size w w' → SymRow w' la l) := fun w' hb => hl.later (Nat.le_refl _) hb
  have IC : Hid (∀ k n w', Calls Tryz.prog 98 #[g.val, .agg #[.int .i64 k, .int .i64 n]] w' fun e w'' => e = .returned (.bool (inG g k n)) ∧ Below w'.heap.size w' w'') := fun k n w' => in_g g k n w' h1 h2
  have HF : Hid (∀ k, k < l.length → inG g (l.getD k (0, 0)).1 (l.getD k (0, 0)).2 = false → allI g l = false) := fun k hk h => all_no (p := fun s : Int × Int => inG g s.1 s.2) hk h
  have HY : Hid ((∀ k, k < l.length → inG g (l.getD k (0, 0)).1 (l.getD k (0, 0)).2 = true) → allI g l = true) := fun h => all_yes (p := fun s : Int × Int => inG g s.1 s.2) h
  clear hl
  generalize hX : allI g l = X at *
  clear hX
  go_enter Tryz.func64, Tryz.ntmps64
  go_wp2
  go_loopw [9] (fun z wr => ∃ k : Nat, k ≤ l.length ∧ z = .int .i64 k ∧ (∀ j, j < k → inG g (l.getD j (0, 0)).1 (l.getD j (0, 0)).2 = true) ∧ Below w.heap.size w wr ∧ wr.heap[w.heap.size]? = some (gBox g)) (fun z _ => l.length - (intOf z).toNat)
  case atStart => exact ⟨0, Nat.zero_le _, rfl, fun j hj => absurd hj (Nat.not_lt_zero j), below_alloc w _, X0.out⟩
  case round =>
    obtain ⟨k, hk, rfl, hf, hb, hg⟩ := hrel
    have HB : Hid (Below w.heap.size w wr ∧ wr.heap[w.heap.size]? = some (gBox g)) := ⟨hb, hg⟩
    by_cases hlt : k < l.length
    · obtain ⟨b, o, hla, hbl, hc⟩ := (HL.out wr hb) (by intro e; rw [e] at hlt; simp at hlt)
      obtain ⟨c0, c1⟩ := hc k hlt
      have klt : (k : Int) < (l.length : Int) := by omega
      have HN : Hid (inG g (l.getD k (0, 0)).1 (l.getD k (0, 0)).2 = false → X = false) := HF.out k hlt
      have HS : Hid (inG g (l.getD k (0, 0)).1 (l.getD k (0, 0)).2 = true → ∀ j, j < k + 1 → inG g (l.getD j (0, 0)).1 (l.getD j (0, 0)).2 = true) := fun h j hj => by
        by_cases e : j = k
        · subst e; exact h
        · exact hf j (by omega)
      generalize l.getD k (0, 0) = x at *
      obtain ⟨x1, x2⟩ := x
      simp only at c0 c1 HN HS
      have HA : Hid (Below wr.heap.size wr (wr.alloc (.cells #[.int .i64 x1, .int .i64 x2] 116))) := below_alloc _ _
      obtain ⟨y0, y1, y2, y3, y4⟩ := gb_cells ((HA.out.block _ (lt_of_block hg)).trans hg)
      have AC : Hid (Calls Tryz.prog 98 #[g.val, .agg #[.int .i64 x1, .int .i64 x2]] (wr.alloc (.cells #[.int .i64 x1, .int .i64 x2] 116)) fun e w'' => e = .returned (.bool (inG g x1 x2)) ∧ Below (wr.alloc (.cells #[.int .i64 x1, .int .i64 x2] 116)).heap.size (wr.alloc (.cells #[.int .i64 x1, .int .i64 x2] 116)) w'') := IC.out x1 x2 _
      rw [hla]
      generalize inG g x1 x2 = v at *
      clear hc hf hb hg hla
      cases v
      · have R : Hid (X = false) := HN.out rfl
        go_wp2_with (go_at_call 98; refine AC.out.mono ?_; rintro e w3 ⟨rfl, b3⟩; have B3 : Hid (Below w.heap.size w w3) := HB.out.1.trans ((HA.out.trans (b3.mono HA.out.size)).mono HB.out.1.size); clear b3)
        go_ret
        exact ⟨by rw [R.out]; rfl, B3.out⟩
      · have R : Hid (∀ j, j < k + 1 → inG g (l.getD j (0, 0)).1 (l.getD j (0, 0)).2 = true) := HS.out rfl
        go_wp2_with (go_at_call 98; refine AC.out.mono ?_; rintro e w3 ⟨rfl, b3⟩; have B3 : Hid (Below w.heap.size w w3 ∧ w3.heap[w.heap.size]? = some (gBox g)) := ⟨HB.out.1.trans ((HA.out.trans (b3.mono HA.out.size)).mono HB.out.1.size), ((HA.out.trans (b3.mono HA.out.size)).block _ (lt_of_block HB.out.2)).trans HB.out.2⟩; clear b3)
        go_roundw
        case rel => exact ⟨k + 1, by omega, by go_num, R.out, B3.out⟩
        case measure => simp [intOf]; omega
    · have R : Hid (X = true) := HY.out (fun j hj => hf j (by omega))
      have klt : ¬ (k : Int) < (l.length : Int) := by omega
      clear hf hb hg
      go_wp2
      go_ret
      exact ⟨by rw [R.out]; rfl, HB.out.1⟩
/-- What IsNullable tells. -/
def isNE (g : GV) (n : Nat) (l : List (Int × Int)) (er : Int) : Int := if askU g n er ≠ 0 then askU g n er else if allI g l = false then 35 else 0
def isNV (g : GV) (N : List Bool) (l : List (Int × Int)) (er : Int) : Bool := if isNE g N.length l er = 0 then allN N l else false
theorem allI_in {g : GV} {l : List (Int × Int)} (h : allI g l = true) : ∀ s ∈ l, (s.1 = 1 ∧ 0 ≤ s.2 ∧ s.2 < g.ts.length) ∨ (s.1 = 2 ∧ 0 ≤ s.2 ∧ s.2 < g.ns.length) := fun s hs => by
  have := List.all_eq_true.1 h s hs
  unfold inG at this
  by_cases h1 : s.1 = 1
  · rw [if_pos h1] at this
    have := of_decide_eq_true this
    exact .inl ⟨h1, this⟩
  · rw [if_neg h1] at this
    by_cases h2 : s.1 = 2
    · rw [if_pos h2] at this
      have := of_decide_eq_true this
      exact .inr ⟨h2, this⟩
    · rw [if_neg h2] at this; cases this
theorem ask_zero {g : GV} {n : Nat} {er : Int} (h : askU g n er = 0) : er = 0 ∧ n = g.ns.length := by
  unfold askU at h
  by_cases e : er ≠ 0
  · rw [if_pos e] at h; exact absurd h e
  · rw [if_neg e] at h
    by_cases q : n ≠ g.ns.length
    · rw [if_pos q] at h; cases h
    · exact ⟨by omega, by omega⟩
theorem askC_zero {g : GV} {n m : Nat} {er : Int} (h : askC g n m er = 0) : er = 0 ∧ n = g.ns.length ∧ m = g.ns.length := by
  unfold askC at h
  by_cases e : askU g n er ≠ 0
  · rw [if_pos e] at h; exact absurd h e
  · rw [if_neg e] at h
    obtain ⟨a, b⟩ := ask_zero (by omega : askU g n er = 0)
    by_cases q : m ≠ g.ns.length
    · rw [if_pos q] at h; cases h
    · exact ⟨a, b, by omega⟩
set_option maxRecDepth 100000 in
set_option maxHeartbeats 4000000 in
theorem isNull_S (g : GV) (na : Option Addr) (nc : Nat) (N : List Bool) (la : Option Addr) (lc : Nat) (l : List (Int × Int)) (w : World) (h : GAt 140737488355328 w g) (hpc : g.ps.length ≤ g.pc) (er at_ : Int) (hE : checkG g (checkF g.ts g.ns) = (er, at_)) (hN : BRow w na N) (hl : SymRow w la l) (hll : l.length ≤ 1048576) :
    Calls Tryz.prog 27 #[g.val, .slice na N.length nc, .slice la l.length lc] w fun e w' => e = .returned (.tuple #[.bool (isNV g N l er), .int .i64 (isNE g N.length l er)]) ∧ Below w.heap.size w w' := by
  have X0 : Hid ((w.alloc (gBox g)).heap[w.heap.size]? = some (gBox g)) := heap_alloc_new _ _
  have CK : Hid (Calls Tryz.prog 69 #[g.val, .slice na N.length nc] (w.alloc (gBox g)) fun e w' => e = .returned (.int .i64 (askU g N.length er)) ∧ Below (w.alloc (gBox g)).heap.size (w.alloc (gBox g)) w') := askNull_S g na N.length nc _ (h.later (below_alloc w (gBox g))) hpc er at_ hE
  have AI : Hid (∀ w', Below w.heap.size w w' → Calls Tryz.prog 64 #[g.val, .slice la l.length lc] w' fun e w'' => e = .returned (.bool (allI g l)) ∧ Below w'.heap.size w' w'') := fun w' hb => allIn_S g la lc l w' h.tl h.nl (hl.later (Nat.le_refl _) hb) (by omega)
  obtain ⟨x0, x1, x2, x3, x4⟩ := gb_cells X0.out
  by_cases h0 : askU g N.length er = 0
  · obtain ⟨e0, e1⟩ := ask_zero h0
    subst e0
    have ok : OkC g := OkC.of (by rw [hE])
    have hN64 : N.length ≤ 64 := by rw [e1]; exact ok.nl.2
    have NS : Hid (allI g l = true → ∀ w', Below w.heap.size w w' → Calls Tryz.prog 70 #[.slice na N.length nc, .slice la l.length lc] w' fun e w'' => e = .returned (.bool (allN N l)) ∧ Below w'.heap.size w' w'') := fun hi w' hb => areNull_S na nc N la lc l w' (hN.later hb) (hl.later (Nat.le_refl _) hb) hll (by omega) (fun s hs e => by
      rcases allI_in hi s hs with q | q
      · omega
      · rw [e1]; exact q.2)
    rw [h0] at CK
    have V1 : Hid (isNE g N.length l 0 = if allI g l = false then 35 else 0) := by show _ = _; rw [isNE, if_neg (by omega)]
    have V2 : Hid (isNV g N l 0 = if isNE g N.length l 0 = 0 then allN N l else false) := rfl
    have t1 : ((0 : Int) != 0) = false := by decide
    clear h hE hN hl ok h0 e1
    generalize isNV g N l 0 = R2 at *
    generalize isNE g N.length l 0 = R1 at *
    generalize allI g l = v at *
    generalize allN N l = u at *
    cases v
    · have R : Hid (R1 = 35 ∧ R2 = false) := by
        have e : R1 = 35 := V1.out
        refine ⟨e, ?_⟩
        rw [V2.out, e]; rfl
      clear NS V1 V2
      go_enter Tryz.func27, Tryz.ntmps27
      go_wp2_with (first
        | (go_at_call 69; refine CK.out.mono ?_; rintro e w2 ⟨rfl, b2⟩; have B2 : Hid (Below w.heap.size w w2 ∧ w2.heap[w.heap.size]? = some (gBox g)) := ⟨(below_alloc w _).trans (b2.mono (below_alloc w _).size), (b2.block _ (lt_of_block X0.out)).trans X0.out⟩; clear b2 x0 x1 x2 x3 x4; obtain ⟨x0, x1, x2, x3, x4⟩ := gb_cells B2.out.2)
        | (go_at_call 64; refine (AI.out _ B2.out.1).mono ?_; rintro e w3 ⟨rfl, b3⟩; have B3 : Hid (Below w.heap.size w w3) := B2.out.1.trans (b3.mono B2.out.1.size); clear b3 x0 x1 x2 x3 x4))
      refine bodyPost_ret (results_tmp2 rfl _ _ _) rfl ?_
      exact ⟨by rw [R.out.1, R.out.2]; rfl, B3.out⟩
    · have R : Hid (R1 = 0 ∧ R2 = u) := by
        have e : R1 = 0 := V1.out
        refine ⟨e, ?_⟩
        rw [V2.out, e]; rfl
      have NT : Hid (∀ w', Below w.heap.size w w' → Calls Tryz.prog 70 #[.slice na N.length nc, .slice la l.length lc] w' fun e w'' => e = .returned (.bool u) ∧ Below w'.heap.size w' w'') := NS.out rfl
      clear NS V1 V2
      go_enter Tryz.func27, Tryz.ntmps27
      go_wp2_with (first
        | (go_at_call 69; refine CK.out.mono ?_; rintro e w2 ⟨rfl, b2⟩; have B2 : Hid (Below w.heap.size w w2 ∧ w2.heap[w.heap.size]? = some (gBox g)) := ⟨(below_alloc w _).trans (b2.mono (below_alloc w _).size), (b2.block _ (lt_of_block X0.out)).trans X0.out⟩; clear b2 x0 x1 x2 x3 x4; obtain ⟨x0, x1, x2, x3, x4⟩ := gb_cells B2.out.2)
        | (go_at_call 64; refine (AI.out _ B2.out.1).mono ?_; rintro e w3 ⟨rfl, b3⟩; have B3 : Hid (Below w.heap.size w w3) := B2.out.1.trans (b3.mono B2.out.1.size); clear b3 x0 x1 x2 x3 x4)
        | (go_at_call 70; refine (NT.out _ B3.out).mono ?_; rintro e w4 ⟨rfl, b4⟩; have B4 : Hid (Below w.heap.size w w4) := B3.out.trans (b4.mono B3.out.size); clear b4))
      refine bodyPost_ret (results_tmp2 rfl _ _ _) rfl ?_
      exact ⟨by rw [R.out.1, R.out.2]; rfl, B4.out⟩
  · have t1 : (askU g N.length er != 0) = true := by simpa using h0
    have R : Hid (isNE g N.length l er = askU g N.length er ∧ isNV g N l er = false) := by
      have e : isNE g N.length l er = askU g N.length er := by rw [isNE, if_pos h0]
      exact ⟨e, by rw [isNV, e, if_neg h0]⟩
    rw [R.out.1, R.out.2]
    clear h hE hN hl R h0
    generalize askU g N.length er = U at *
    go_enter Tryz.func27, Tryz.ntmps27
    go_wp2_with (go_at_call 69; refine CK.out.mono ?_; rintro e w2 ⟨rfl, b2⟩; have B2 : Hid (Below w.heap.size w w2) := (below_alloc w _).trans (b2.mono (below_alloc w _).size); clear b2)
    refine bodyPost_ret (results_tmp2 rfl _ _ _) rfl ?_
    exact ⟨rfl, B2.out⟩
end Go.Proofs.YtboabidokkghbaaGreat
namespace Go.Proofs.YtboabidokkghbaaGreat
set_option linter.unusedVariables false
open Go.RowKit

/-- What Of tells. -/
def ofE (g : GV) (n : Nat) (L : List (List Int)) (l : List (Int × Int)) (look : List Int) (er : Int) : Int := if askC g n L.length er ≠ 0 then askC g n L.length er else if (L.all fun z => allB z g.ts.length) = false then 4 else if allB look (g.ts.length + 1) = false then 4 else if allI g l = false then 35 else 0
def ofL (g : GV) (N : List Bool) (L : List (List Int)) (l : List (Int × Int)) (look : List Int) (er : Int) : List Int := if ofE g N.length L l look er = 0 then listS (ofS N (L.map setS) l (setS look)) 128 else []
def OfO (w : World) (R : List Int) (E : Int) (e : Ending) (w' : World) : Prop := ∃ a c, e = .returned (.tuple #[.slice a R.length c, .int .i64 E]) ∧ InRow w' a R ∧ Below w.heap.size w w'
theorem OfO.void {w w' : World} {E : Int} (hb : Below w.heap.size w w') : OfO w [] E (.returned (.tuple #[.slice none 0 0, .int .i64 E])) w' := ⟨none, 0, rfl, fun h => absurd rfl h, hb⟩
theorem allB_in {l : List Int} {e : Nat} (h : allB l e = true) : ∀ x ∈ l, 0 ≤ x ∧ x < e := fun x hx => by
  have := List.all_eq_true.1 h x hx
  simpa [below1] using this
set_option maxRecDepth 100000 in
set_option maxHeartbeats 8000000 in
theorem firstOf_S (g : GV) (na : Option Addr) (nc : Nat) (N : List Bool) (fa : Option Addr) (fc : Nat) (L : List (List Int)) (la : Option Addr) (lc : Nat) (l : List (Int × Int)) (ka : Option Addr) (kc : Nat) (look : List Int) (w : World) (h : GAt 140737488355328 w g) (hpc : g.ps.length ≤ g.pc) (er at_ : Int) (hE : checkG g (checkF g.ts g.ns) = (er, at_)) (hN : BRow w na N) (hL : LsRow w fa L) (hl : SymRow w la l) (hk : InRow w ka look) (hLl : L.length ≤ 1048576 ∧ ∀ z ∈ L, z.length ≤ 1048576) (hll : l.length ≤ 1048576) (hkl : look.length ≤ 1048576) :
    Calls Tryz.prog 26 #[g.val, .slice na N.length nc, .slice fa L.length fc, .slice la l.length lc, .slice ka look.length kc] w fun e w' => OfO w (ofL g N L l look er) (ofE g N.length L l look er) e w' := by
  have X0 : Hid ((w.alloc (gBox g)).heap[w.heap.size]? = some (gBox g)) := heap_alloc_new _ _
  have CK : Hid (Calls Tryz.prog 62 #[g.val, .slice na N.length nc, .slice fa L.length fc] (w.alloc (gBox g)) fun e w' => e = .returned (.int .i64 (askC g N.length L.length er)) ∧ Below (w.alloc (gBox g)).heap.size (w.alloc (gBox g)) w') := askC_S g na fa N.length nc L.length fc _ (h.later (below_alloc w (gBox g))) hpc er at_ hE
  obtain ⟨x0, x1, x2, x3, x4⟩ := gb_cells X0.out
  by_cases h0 : askC g N.length L.length er = 0
  case neg =>
    have t1 : (askC g N.length L.length er != 0) = true := by simpa using h0
    have e1 : ofE g N.length L l look er = askC g N.length L.length er := by rw [ofE, if_pos h0]
    have R : Hid (ofE g N.length L l look er = askC g N.length L.length er ∧ ofL g N L l look er = []) := ⟨e1, by rw [ofL, e1, if_neg h0]⟩
    rw [R.out.1, R.out.2]
    clear h hE hN hL hl hk R h0 e1
    generalize askC g N.length L.length er = U at *
    go_enter Tryz.func26, Tryz.ntmps26
    go_wp2_with (go_at_call 62; refine CK.out.mono ?_; rintro e w2 ⟨rfl, b2⟩; have B2 : Hid (Below w.heap.size w w2) := (below_alloc w _).trans (b2.mono (below_alloc w _).size); clear b2)
    refine bodyPost_ret (results_tmp2 rfl _ _ _) rfl ?_
    exact OfO.void B2.out
  obtain ⟨e0, e1, e2⟩ := askC_zero h0
  subst e0
  have ok : OkC g := OkC.of (by rw [hE])
  have HN64 : Hid (N.length ≤ 64 ∧ L.length = N.length ∧ N.length = g.ns.length) := ⟨by rw [e1]; exact ok.nl.2, by rw [e1, e2], e1⟩
  have htl := ok.tl.2
  have hLlen : L.length ≤ 64 := by rw [e2]; exact ok.nl.2
  have HR : Hid (∀ w', Below w.heap.size w w' → BRow w' na N ∧ LsRow w' fa L ∧ SymRow w' la l ∧ InRow w' ka look) := fun w' hb => ⟨hN.later hb, hL.later hb, hl.later (Nat.le_refl _) hb, hk.later hb⟩
  have HLL : Hid (∀ z ∈ L, z.length ≤ 1048576) := hLl.2
  have AI : Hid (∀ w', Below w.heap.size w w' → Calls Tryz.prog 64 #[g.val, .slice la l.length lc] w' fun e w'' => e = .returned (.bool (allI g l)) ∧ Below w'.heap.size w' w'') := fun w' hb => allIn_S g la lc l w' h.tl h.nl (hl.later (Nat.le_refl _) hb) (by omega)
  have AB : Hid (∀ w', Below w.heap.size w w' → Calls Tryz.prog 63 #[.slice ka look.length kc, .int .i64 ((g.ts.length : Int) + 1)] w' fun en w'' => en = .returned (.bool (allB look (g.ts.length + 1))) ∧ Below w'.heap.size w' w'') := fun w' hb => by
    have := allBelow_S ka kc look (g.ts.length + 1) w' (hk.later hb) (by omega)
    rwa [show ((g.ts.length + 1 : Nat) : Int) = (g.ts.length : Int) + 1 by omega] at this
  have HAL : Hid (∀ k, k < L.length → allB (L.getD k []) g.ts.length = false → (L.all fun z => allB z g.ts.length) = false) := fun k hk h => all_no (p := fun z => allB z g.ts.length) hk h
  have HAY : Hid ((∀ k, k < L.length → allB (L.getD k []) g.ts.length = true) → (L.all fun z => allB z g.ts.length) = true) := fun h => all_yes (p := fun z => allB z g.ts.length) h
  have V1 : Hid (ofE g N.length L l look 0 = if (L.all fun z => allB z g.ts.length) = false then 4 else if allB look (g.ts.length + 1) = false then 4 else if allI g l = false then 35 else 0) := by show _ = _; rw [ofE, if_neg (by omega)]
  have V2 : Hid (ofL g N L l look 0 = if ofE g N.length L l look 0 = 0 then listS (ofS N (L.map setS) l (setS look)) 128 else []) := rfl
  have BDL : Hid ((L.all fun z => allB z g.ts.length) = true → ∀ z ∈ L, ∀ x ∈ z, 0 ≤ x ∧ x < 128) := fun h z hz x hx => by
    have := allB_in (List.all_eq_true.1 h z hz) x hx
    omega
  have BDK : Hid (allB look (g.ts.length + 1) = true → ∀ x ∈ look, 0 ≤ x ∧ x < 128) := fun h x hx => by
    have := allB_in h x hx
    omega
  have BDS : Hid (allI g l = true → ∀ s ∈ l, SymIn N.length s) := fun h s hs => by
    rcases allI_in h s hs with q | q
    · exact .inl ⟨q.1, q.2.1, by omega⟩
    · exact .inr ⟨q.1, q.2.1, by rw [e1]; exact q.2.2⟩
  rw [h0] at CK
  have t1 : ((0 : Int) != 0) = false := by decide
  have CO : Hid ((L.all fun z => allB z g.ts.length) = true → ∀ w', Below w.heap.size w w' → Calls Tryz.prog 65 #[.slice na N.length nc, .slice fa L.length fc] w' fun e w'' => ∃ fb, e = .returned (.agg #[.slice na N.length nc, .slice (some ⟨fb, 0, none⟩) N.length N.length]) ∧ SBk w'' fb (L.map setS) ∧ Below w'.heap.size w' w'') := fun ha w' hb => by
    refine (claimOf_S na fa N.length nc fc L w' (HR.out w' hb).2.1 (by omega) (fun z hz => ⟨BDL.out ha z hz, Nat.le_trans (HLL.out z hz) (by omega)⟩)).mono ?_
    rintro e w'' ⟨fb, q1, q2, _, q4⟩
    exact ⟨fb, by rw [q1, HN64.out.2.1], q2, q4⟩
  have SO : Hid (allB look (g.ts.length + 1) = true → ∀ w', Below w.heap.size w w' → Calls Tryz.prog 67 #[.slice ka look.length kc] w' fun e w'' => e = .returned (sv (setS look)) ∧ Below w'.heap.size w' w'') := fun ha w' hb => setOf_S ka kc look w' (HR.out w' hb).2.2.2 (by omega) (BDK.out ha)
  have OKF : Hid ((L.all fun z => allB z g.ts.length) = true → ∀ i, OkS ((L.map setS).getD i (0, 0))) := fun ha i => by
    by_cases hi : i < L.length
    · rw [show (L.map setS).getD i (0, 0) = setS L[i] by simp [List.getD, hi]]
      exact setS_ok (BDL.out ha _ (List.getElem_mem hi))
    · rw [show (L.map setS).getD i (0, 0) = (0, 0) by simp [List.getD, show L.length ≤ i by omega]]
      exact OkS.zero
  have OO : Hid ((L.all fun z => allB z g.ts.length) = true → allB look (g.ts.length + 1) = true → allI g l = true → ∀ w' fb, Below w.heap.size w w' → SBk w' fb (L.map setS) → Calls Tryz.prog 66 #[.agg #[.slice na N.length nc, .slice (some ⟨fb, 0, none⟩) N.length N.length], .slice la l.length lc, sv (setS look)] w' fun e w'' => e = .returned (sv (ofS N (L.map setS) l (setS look))) ∧ Below w'.heap.size w' w'') := fun h1 h2 h3 w' fb hb hS =>
    of_S na N nc fb N.length (L.map setS) la lc l (setS look) w' ⟨(HR.out w' hb).1, hS, ⟨by rw [List.length_map]; exact HN64.out.2.1, HN64.out.1⟩, OKF.out h1⟩ (HR.out w' hb).2.2.1 hll (BDS.out h3) (setS_ok (BDK.out h2))
  have LS : Hid ((L.all fun z => allB z g.ts.length) = true → allB look (g.ts.length + 1) = true → allI g l = true → ∀ w', Calls Tryz.prog 68 #[sv (ofS N (L.map setS) l (setS look))] w' fun e w'' => ∃ a c, e = .returned (.slice a (listS (ofS N (L.map setS) l (setS look)) 128).length c) ∧ InRow w'' a (listS (ofS N (L.map setS) l (setS look)) 128) ∧ Below w'.heap.size w' w'') := fun h1 h2 h3 w' => by
    refine (list_S _ (ofS_ok (OKF.out h1) l _ (BDS.out h3) (setS_ok (BDK.out h2))) w').mono ?_
    rintro e w'' ⟨a, c, q1, q2, _, q4⟩
    exact ⟨a, c, q1, q2.inrow, q4⟩
  clear h hE hN hL hl hk ok h0 e1 e2 BDL BDK BDS OKF hLl
  generalize ofL g N L l look 0 = R2 at *
  generalize ofE g N.length L l look 0 = R1 at *
  generalize (L.all fun z => allB z g.ts.length) = A at *
  generalize allB look (g.ts.length + 1) = K at *
  generalize allI g l = I at *
  generalize listS (ofS N (L.map setS) l (setS look)) 128 = T at *
  generalize ofS N (L.map setS) l (setS look) = O at *
  generalize setS look = SL0 at *
  generalize L.map setS = F at *
  obtain ⟨o1, o2⟩ := O
  obtain ⟨s1, s2⟩ := SL0
  go_enter Tryz.func26, Tryz.ntmps26
  go_wp2_with (go_at_call 62; refine CK.out.mono ?_; rintro e w2 ⟨rfl, b2⟩; have B2 : Hid (Below w.heap.size w w2 ∧ w2.heap[w.heap.size]? = some (gBox g)) := ⟨(below_alloc w _).trans (b2.mono (below_alloc w _).size), (b2.block _ (lt_of_block X0.out)).trans X0.out⟩; clear b2 x0 x1 x2 x3 x4; obtain ⟨x0, x1, x2, x3, x4⟩ := gb_cells B2.out.2)
  go_loopw [27] (fun z wr => ∃ k : Nat, k ≤ L.length ∧ z = .int .i64 k ∧ (∀ j, j < k → allB (L.getD j []) g.ts.length = true) ∧ Below w.heap.size w wr ∧ wr.heap[w.heap.size]? = some (gBox g)) (fun z _ => L.length - (intOf z).toNat)
  case atStart => exact ⟨0, Nat.zero_le _, rfl, fun j hj => absurd hj (Nat.not_lt_zero j), B2.out.1, B2.out.2⟩
  case round =>
    clear x0 x1 x2 x3 x4
    obtain ⟨k, hk, rfl, hf, hb, hg⟩ := hrel
    have HB : Hid (Below w.heap.size w wr ∧ wr.heap[w.heap.size]? = some (gBox g)) := ⟨hb, hg⟩
    by_cases hlt : k < L.length
    · have klt : (k : Int) < (L.length : Int) := by omega
      obtain ⟨lb, lo, hfa, hlb, hlc⟩ := (HR.out wr hb).2.1 (by intro e; rw [e] at hlt; simp at hlt)
      obtain ⟨za, zc, c0, hrow⟩ := hlc k hlt
      have AC : Hid (Calls Tryz.prog 63 #[.slice za (L.getD k []).length zc, .int .i64 g.ts.length] wr fun en w'' => en = .returned (.bool (allB (L.getD k []) g.ts.length)) ∧ Below wr.heap.size wr w'') := allBelow_S za zc _ _ wr hrow (Nat.le_trans (HLL.out _ (by simp [List.getD, hlt])) (by omega))
      have HH : Hid (allB (L.getD k []) g.ts.length = false → A = false) := HAL.out k hlt
      have HS : Hid (allB (L.getD k []) g.ts.length = true → ∀ j, j < k + 1 → allB (L.getD j []) g.ts.length = true) := fun h j hj => by
        by_cases q : j = k
        · subst q; exact h
        · exact hf j (by omega)
      generalize allB (L.getD k []) g.ts.length = v at *
      generalize L.getD k [] = z at *
      rw [hfa]
      clear hb hg hf hlc hrow hfa
      cases v
      · have R : Hid (R1 = 4 ∧ R2 = []) := by
          have e : R1 = 4 := by rw [V1.out, HH.out rfl]; rfl
          exact ⟨e, by rw [V2.out, e]; rfl⟩
        go_wp2_with (go_at_call 63; refine AC.out.mono ?_; rintro e w3 ⟨rfl, b3⟩; have B3 : Hid (Below w.heap.size w w3) := HB.out.1.trans (b3.mono HB.out.1.size); clear b3)
        refine bodyPost_ret (results_tmp2 rfl _ _ _) rfl ?_
        rw [R.out.1, R.out.2]
        exact OfO.void B3.out
      · have R : Hid (∀ j, j < k + 1 → allB (L.getD j []) g.ts.length = true) := HS.out rfl
        go_wp2_with (go_at_call 63; refine AC.out.mono ?_; rintro e w3 ⟨rfl, b3⟩; have B3 : Hid (Below w.heap.size w w3 ∧ w3.heap[w.heap.size]? = some (gBox g)) := ⟨HB.out.1.trans (b3.mono HB.out.1.size), (b3.block _ (lt_of_block HB.out.2)).trans HB.out.2⟩; clear b3)
        go_roundw
        case rel => exact ⟨k + 1, by omega, by go_num, R.out, B3.out⟩
        case measure => simp [intOf]; omega
    · obtain rfl : A = true := HAY.out (fun j hj => hf j (by omega))
      have VT : Hid (R1 = if K = false then 4 else if I = false then 35 else 0) := V1.out
      have CT : Hid (∀ w', Below w.heap.size w w' → Calls Tryz.prog 65 #[.slice na N.length nc, .slice fa L.length fc] w' fun e w'' => ∃ fb, e = .returned (.agg #[.slice na N.length nc, .slice (some ⟨fb, 0, none⟩) N.length N.length]) ∧ SBk w'' fb F ∧ Below w'.heap.size w' w'') := CO.out rfl
      clear HAL HAY V1 CO
      have klt : ¬ (k : Int) < (L.length : Int) := by omega
      clear hf hb hg
      cases K
      · have R : Hid (R1 = 4 ∧ R2 = []) := by
          have e : R1 = 4 := by rw [VT.out]; rfl
          exact ⟨e, by rw [V2.out, e]; rfl⟩
        clear SO OO LS VT V2
        go_wp2_with (go_at_call 63; refine (AB.out _ HB.out.1).mono ?_; rintro e w3 ⟨rfl, b3⟩; have B3 : Hid (Below w.heap.size w w3) := HB.out.1.trans (b3.mono HB.out.1.size); clear b3)
        refine bodyPost_ret (results_tmp2 rfl _ _ _) rfl ?_
        rw [R.out.1, R.out.2]
        exact OfO.void B3.out
      · cases I
        · have R : Hid (R1 = 35 ∧ R2 = []) := by
            have e : R1 = 35 := by rw [VT.out]; rfl
            exact ⟨e, by rw [V2.out, e]; rfl⟩
          clear SO OO LS VT V2
          go_wp2_with (first
            | (go_at_call 63; refine (AB.out _ HB.out.1).mono ?_; rintro e w3 ⟨rfl, b3⟩; have B3 : Hid (Below w.heap.size w w3 ∧ w3.heap[w.heap.size]? = some (gBox g)) := ⟨HB.out.1.trans (b3.mono HB.out.1.size), (b3.block _ (lt_of_block HB.out.2)).trans HB.out.2⟩; clear b3; obtain ⟨x0, x1, x2, x3, x4⟩ := gb_cells B3.out.2)
            | (go_at_call 64; refine (AI.out _ B3.out.1).mono ?_; rintro e w4 ⟨rfl, b4⟩; have B4 : Hid (Below w.heap.size w w4) := B3.out.1.trans (b4.mono B3.out.1.size); clear b4 x0 x1 x2 x3 x4))
          refine bodyPost_ret (results_tmp2 rfl _ _ _) rfl ?_
          rw [R.out.1, R.out.2]
          exact OfO.void B4.out
        · have R : Hid (R1 = 0 ∧ R2 = T) := by
            have e : R1 = 0 := by rw [VT.out]; rfl
            exact ⟨e, by rw [V2.out, e]; rfl⟩
          have ST : Hid (∀ w', Below w.heap.size w w' → Calls Tryz.prog 67 #[.slice ka look.length kc] w' fun e w'' => e = .returned (sv (s1, s2)) ∧ Below w'.heap.size w' w'') := SO.out rfl
          have OT : Hid (∀ w' fb, Below w.heap.size w w' → SBk w' fb F → Calls Tryz.prog 66 #[.agg #[.slice na N.length nc, .slice (some ⟨fb, 0, none⟩) N.length N.length], .slice la l.length lc, sv (s1, s2)] w' fun e w'' => e = .returned (sv (o1, o2)) ∧ Below w'.heap.size w' w'') := OO.out rfl rfl rfl
          have LT : Hid (∀ w', Calls Tryz.prog 68 #[sv (o1, o2)] w' fun e w'' => ∃ a c, e = .returned (.slice a T.length c) ∧ InRow w'' a T ∧ Below w'.heap.size w' w'') := LS.out rfl rfl rfl
          clear SO OO LS VT V2
          go_wp2_with (first
            | (go_at_call 63; refine (AB.out _ HB.out.1).mono ?_; rintro e w3 ⟨rfl, b3⟩; have B3 : Hid (Below w.heap.size w w3 ∧ w3.heap[w.heap.size]? = some (gBox g)) := ⟨HB.out.1.trans (b3.mono HB.out.1.size), (b3.block _ (lt_of_block HB.out.2)).trans HB.out.2⟩; clear b3; obtain ⟨x0, x1, x2, x3, x4⟩ := gb_cells B3.out.2)
            | (go_at_call 64; refine (AI.out _ B3.out.1).mono ?_; rintro e w4 ⟨rfl, b4⟩; have B4 : Hid (Below w.heap.size w w4) := B3.out.1.trans (b4.mono B3.out.1.size); clear b4 x0 x1 x2 x3 x4)
            | (go_at_call 65; refine (CT.out _ B4.out).mono ?_; rintro e w5 ⟨fb, rfl, s5, b5⟩; have B5 : Hid (SBk w5 fb F ∧ Below w.heap.size w w5) := ⟨s5, B4.out.trans (b5.mono B4.out.size)⟩; clear s5 b5)
            | (go_at_call 67; refine (ST.out _ B5.out.2).mono ?_; rintro e w6 ⟨rfl, b6⟩; have B6 : Hid (SBk w6 fb F ∧ Below w.heap.size w w6) := ⟨B5.out.1.later b6, B5.out.2.trans (b6.mono B5.out.2.size)⟩; clear b6)
            | (go_at_call 66; refine (OT.out _ fb B6.out.2 B6.out.1).mono ?_; rintro e w7 ⟨rfl, b7⟩; have B7 : Hid (Below w.heap.size w w7) := B6.out.2.trans (b7.mono B6.out.2.size); clear b7)
            | (go_at_call 68; refine (LT.out w7).mono ?_; rintro e w8 ⟨ta, tc, rfl, r8, b8⟩; have B8 : Hid (InRow w8 ta T ∧ Below w.heap.size w w8) := ⟨r8, B7.out.trans (b8.mono B7.out.size)⟩; clear r8 b8))
          refine bodyPost_ret (results_tmp2 rfl _ _ _) rfl ?_
          rw [R.out.1, R.out.2]
          exact ⟨ta, tc, rfl, B8.out⟩
end Go.Proofs.YtboabidokkghbaaGreat
