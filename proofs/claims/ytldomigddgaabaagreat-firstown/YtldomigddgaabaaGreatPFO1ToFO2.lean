import Derived.Test.YtldomigddgaabaaGreatPFThreeToFChk8
import Derived.Test.YtldomigddgaabaaGreatPGRulesToGIn2
namespace Go.Proofs.YtldomigddgaabaaGreat
set_option linter.unusedVariables false
set_option maxRecDepth 100000
set_option maxHeartbeats 16000000
open Go.RowKit
def allI (g : GV) (l : List (Int × Int)) : Bool := l.all fun s => inG g s.1 s.2
theorem allIn_S (g : GV) (la : Option Addr) (lc : Nat) (l : List (Int × Int)) (w : World) (h1 : g.ts.length <= 140737488355328) (h2 : g.ns.length <= 140737488355328) (hl : SymRow w la l) (hll : l.length <= 140737488355328) :
  Calls Tryz.prog 27 #[g.val, .slice la l.length lc] w fun e w' => e = .returned (.bool (allI g l)) /\ Below w.heap.size w w' := by
 have X0 : Hid ((w.alloc (gBox g)).heap[w.heap.size]? = some (gBox g)) := heap_alloc_new _ _
 have HL : Hid (∀ w', Below w.heap.size w w' -> SymRow w' la l) := fun w' hb => hl.later (Nat.le_refl _) hb
 have IC : Hid (∀ k n w', Calls Tryz.prog 64 #[g.val, .agg #[.int .i64 k, .int .i64 n]] w' fun e w'' => e = .returned (.bool (inG g k n)) /\ Below w'.heap.size w' w'') := fun k n w' => in_g g k n w' h1 h2
 have HF : Hid (∀ k, k < l.length -> inG g (l.getD k (0, 0)).1 (l.getD k (0, 0)).2 = false -> allI g l = false) := fun k hk h => all_no (p := fun s : Int × Int => inG g s.1 s.2) hk h
 have HY : Hid ((∀ k, k < l.length -> inG g (l.getD k (0, 0)).1 (l.getD k (0, 0)).2 = true) -> allI g l = true) := fun h => all_yes (p := fun s : Int × Int => inG g s.1 s.2) h
 clear hl
 generalize hX : allI g l = X at *
 clear hX
 go_enter Tryz.func27, Tryz.ntmps27
 go_wp2
 go_loopw [9] (fun z wr => ∃ k : Nat, k <= l.length /\ z = .int .i64 k /\ (∀ j, j < k -> inG g (l.getD j (0, 0)).1 (l.getD j (0, 0)).2 = true) /\ Below w.heap.size w wr /\ wr.heap[w.heap.size]? = some (gBox g)) (fun z _ => l.length - (intOf z).toNat)
 case atStart => exact ⟨0, Nat.zero_le _, rfl, fun j hj => absurd hj (Nat.not_lt_zero j), below_alloc w _, X0.out⟩
 case round =>
  obtain ⟨k, hk, rfl, hf, hb, hg⟩ := hrel
  have HB : Hid (Below w.heap.size w wr /\ wr.heap[w.heap.size]? = some (gBox g)) := ⟨hb, hg⟩
  by_cases hlt : k < l.length
  ·obtain ⟨b, o, hla, hbl, hc⟩ := (HL.out wr hb) (by intro e; rw [e] at hlt; simp at hlt)
   obtain ⟨c0, c1⟩ := hc k hlt
   have klt : (k : Int) < (l.length : Int) := by omega
   have HN : Hid (inG g (l.getD k (0, 0)).1 (l.getD k (0, 0)).2 = false -> X = false) := HF.out k hlt
   have HS : Hid (inG g (l.getD k (0, 0)).1 (l.getD k (0, 0)).2 = true -> ∀ j, j < k + 1 -> inG g (l.getD j (0, 0)).1 (l.getD j (0, 0)).2 = true) := fun h j hj => by
    by_cases e : j = k
    ·subst e; exact h
    ·exact hf j (by omega)
   generalize l.getD k (0, 0) = x at *
   obtain ⟨x1, x2⟩ := x
   simp only at c0 c1 HN HS
   have HA : Hid (Below wr.heap.size wr (wr.alloc (.cells #[.int .i64 x1, .int .i64 x2] 88))) := below_alloc _ _
   obtain ⟨y0, y1, y2, y3, y4⟩ := gb_cells ((HA.out.block _ (lt_of_block hg)).trans hg)
   have AC : Hid (Calls Tryz.prog 64 #[g.val, .agg #[.int .i64 x1, .int .i64 x2]] (wr.alloc (.cells #[.int .i64 x1, .int .i64 x2] 88)) fun e w'' => e = .returned (.bool (inG g x1 x2)) /\ Below (wr.alloc (.cells #[.int .i64 x1, .int .i64 x2] 88)).heap.size (wr.alloc (.cells #[.int .i64 x1, .int .i64 x2] 88)) w'') := IC.out x1 x2 _
   rw [hla]
   generalize inG g x1 x2 = v at *
   clear hc hf hb hg hla
   cases v
   ·have R : Hid (X = false) := HN.out rfl
    go_wp2_with (go_at_call 64; refine AC.out.mono ?_; rintro e w3 ⟨rfl, b3⟩; have B3 : Hid (Below w.heap.size w w3) := HB.out.1.trans ((HA.out.trans (b3.mono HA.out.size)).mono HB.out.1.size); clear b3)
    go_ret
    exact ⟨by rw [R.out]; rfl, B3.out⟩
   ·have R : Hid (∀ j, j < k + 1 -> inG g (l.getD j (0, 0)).1 (l.getD j (0, 0)).2 = true) := HS.out rfl
    go_wp2_with (go_at_call 64; refine AC.out.mono ?_; rintro e w3 ⟨rfl, b3⟩; have B3 : Hid (Below w.heap.size w w3 /\ w3.heap[w.heap.size]? = some (gBox g)) := ⟨HB.out.1.trans ((HA.out.trans (b3.mono HA.out.size)).mono HB.out.1.size), ((HA.out.trans (b3.mono HA.out.size)).block _ (lt_of_block HB.out.2)).trans HB.out.2⟩; clear b3)
    go_roundw
    case rel => exact ⟨k + 1, by omega, by go_num, R.out, B3.out⟩
    case measure => simp [intOf]; omega
  ·have R : Hid (X = true) := HY.out (fun j hj => hf j (by omega))
   have klt : ¬ (k : Int) < (l.length : Int) := by omega
   clear hf hb hg
   go_wp2
   go_ret
   exact ⟨by rw [R.out]; rfl, HB.out.1⟩
theorem allI_in {g : GV} {l : List (Int × Int)} (h : allI g l = true) : ∀ s ∈ l, (s.1 = 1 /\ 0 <= s.2 /\ s.2 < g.ts.length) ∨ (s.1 = 2 /\ 0 <= s.2 /\ s.2 < g.ns.length) := fun s hs => by
 have := List.all_eq_true.1 h s hs
 unfold inG at this
 by_cases h1 : s.1 = 1
 ·rw [if_pos h1] at this
  have := of_decide_eq_true this
  exact .inl ⟨h1, this⟩
 ·rw [if_neg h1] at this
  by_cases h2 : s.1 = 2
  ·rw [if_pos h2] at this
   have := of_decide_eq_true this
   exact .inr ⟨h2, this⟩
  ·rw [if_neg h2] at this; cases this
theorem ask_zero {g : GV} {n : Nat} {er : Int} (h : askU g n er = 0) : er = 0 /\ n = g.ns.length := by
 unfold askU at h
 by_cases e : er ≠ 0
 ·rw [if_pos e] at h; exact absurd h e
 ·rw [if_neg e] at h
  by_cases q : n ≠ g.ns.length
  ·rw [if_pos q] at h; cases h
  ·exact ⟨by omega, by omega⟩
theorem askC_zero {g : GV} {n m : Nat} {er : Int} (h : askC g n m er = 0) : er = 0 /\ n = g.ns.length /\ m = g.ns.length := by
 unfold askC at h
 by_cases e : askU g n er ≠ 0
 ·rw [if_pos e] at h; exact absurd h e
 ·rw [if_neg e] at h
  obtain ⟨a, b⟩ := ask_zero (by omega : askU g n er = 0)
  by_cases q : m ≠ g.ns.length
  ·rw [if_pos q] at h; cases h
  ·exact ⟨a, b, by omega⟩
def ofE (g : GV) (n : Nat) (L : List (List Int)) (l : List (Int × Int)) (look : List Int) (er : Int) : Int := if askC g n L.length er ≠ 0 then askC g n L.length er else if (L.all fun z => allB z g.ts.length) = false then 4 else if allB look (g.ts.length + 1) = false then 4 else if allI g l = false then 35 else 0
def ofL (g : GV) (N : List Bool) (L : List (List Int)) (l : List (Int × Int)) (look : List Int) (er : Int) : List Int := if ofE g N.length L l look er = 0 then listS (ofS N (L.map setS) l (setS look)) 128 else []
def OfO (w : World) (R : List Int) (E : Int) (e : Ending) (w' : World) : Prop := ∃ a c, e = .returned (.tuple #[.slice a R.length c, .int .i64 E]) /\ InRow w' a R /\ Below w.heap.size w w'
theorem OfO.void {w w' : World} {E : Int} (hb : Below w.heap.size w w') : OfO w [] E (.returned (.tuple #[.slice none 0 0, .int .i64 E])) w' := ⟨none, 0, rfl, fun h => absurd rfl h, hb⟩
theorem allB_in {l : List Int} {e : Nat} (h : allB l e = true) : ∀ x ∈ l, 0 <= x /\ x < e := fun x hx => by
 have := List.all_eq_true.1 h x hx
 simpa [below1] using this
end Go.Proofs.YtldomigddgaabaaGreat
