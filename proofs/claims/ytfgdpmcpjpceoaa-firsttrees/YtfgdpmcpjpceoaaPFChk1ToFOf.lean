import Derived.Test.YtfgdpmcpjpceoaaPFBaseToFMem7
import Derived.Deep.QuietTactic
import Derived.BigQuiet
import Derived.RangeFuncNested
import Derived.RangeFuncLeaves
import Derived.Shelf.Abstract
import Derived.WalkKit
import Derived.OwnWalkIn
import Derived.TacticsInMore
import Derived.LoopNIn
import Derived.LoopIn
import Derived.RangeFuncCalls
namespace Go.Proofs.Ytfgdpmcpjpceoaa
set_option linter.unusedVariables false
set_option maxRecDepth 100000
set_option maxHeartbeats 16000000
open Go.RowKit
def null1 (N : List Bool) (s : Int × Int) : Bool := decide (s.1 = 2) && N.getD s.2.toNat false
def allN (N : List Bool) (l : List (Int × Int)) : Bool := l.all (null1 N)
theorem all_no {α : Type} {p : α -> Bool} {l : List α} {k : Nat} {d : α} (hk : k < l.length) (h : p (l.getD k d) = false) : l.all p = false := by
 rw [List.all_eq_false]
 exact ⟨l.getD k d, by simp [List.getD, hk], by rw [h]; simp⟩
theorem all_yes {α : Type} {p : α -> Bool} {l : List α} {d : α} (h : ∀ k, k < l.length -> p (l.getD k d) = true) : l.all p = true := by
 rw [List.all_eq_true]
 intro s hs
 obtain ⟨k, hk, rfl⟩ := List.getElem_of_mem hs
 have := h k hk
 simpa [List.getD, hk] using this
theorem areNull_S (na : Option Addr) (nc : Nat) (N : List Bool) (la : Option Addr) (lc : Nat) (l : List (Int × Int)) (w : World) (hN : BRow w na N) (hl : SymRow w la l) (hll : l.length <= 1048576) (hnl : N.length <= 1048576) (hr : ∀ s ∈ l, s.1 = 2 -> 0 <= s.2 /\ s.2 < N.length) :
  Calls Try.prog 28 #[.slice na N.length nc, .slice la l.length lc] w fun e w' => e = .returned (.bool (allN N l)) /\ Below w.heap.size w w' := by
 have HK : Hid (∀ w', Below w.heap.size w w' -> BRow w' na N) := fun w' hb => hN.later hb
 have HL : Hid (∀ w', Below w.heap.size w w' -> SymRow w' la l) := fun w' hb => hl.later (Nat.le_refl _) hb
 have HR : Hid (∀ s ∈ l, s.1 = 2 -> 0 <= s.2 /\ s.2 < N.length) := hr
 have HF : Hid (∀ k, k < l.length -> null1 N (l.getD k (0, 0)) = false -> allN N l = false) := fun k hk h => all_no hk h
 have HY : Hid ((∀ k, k < l.length -> null1 N (l.getD k (0, 0)) = true) -> allN N l = true) := all_yes
 clear hN hl hr
 generalize hX : allN N l = X at *
 clear hX
 go_enter Try.func28, Try.ntmps28
 go_wp2
 go_loopw [9] (fun z wr => ∃ k : Nat, k <= l.length /\ z = .int .i64 k /\ (∀ j, j < k -> null1 N (l.getD j (0, 0)) = true) /\ Below w.heap.size w wr) (fun z _ => l.length - (intOf z).toNat)
 case atStart => exact ⟨0, Nat.zero_le _, rfl, fun j hj => absurd hj (Nat.not_lt_zero j), Below.refl _ _⟩
 case round =>
  obtain ⟨k, hk, rfl, hf, hb⟩ := hrel
  by_cases hlt : k < l.length
  ·obtain ⟨b, o, rfl, hbl, hc⟩ := (HL.out wr hb) (by intro e; rw [e] at hlt; simp at hlt)
   obtain ⟨c0, c1⟩ := hc k hlt
   have hm : l.getD k (0, 0) ∈ l := by simp [List.getD, hlt]
   have hin := HR.out _ hm
   have HN : Hid (null1 N (l.getD k (0, 0)) = false -> X = false) := HF.out k hlt
   have HB : Hid (Below w.heap.size w wr) := hb
   have klt : (k : Int) < (l.length : Int) := by omega
   have HS : Hid (∀ x, l.getD k (0, 0) = x -> null1 N x = true -> ∀ j, j < k + 1 -> null1 N (l.getD j (0, 0)) = true) := fun x hx h j hj => by
    by_cases e : j = k
    ·subst e; rw [hx]; exact h
    ·exact hf j (by omega)
   generalize hx : l.getD k (0, 0) = x at *
   obtain ⟨x1, x2⟩ := x
   simp only at c0 c1 hin
   by_cases h2 : x1 = 2
   ·obtain ⟨i0, i1⟩ := hin h2
    subst h2
    obtain ⟨m, rfl⟩ : ∃ m : Nat, x2 = (m : Int) := ⟨x2.toNat, by omega⟩
    have hm2 : m < N.length := by omega
    obtain ⟨nb, no, rfl, hnb, hnc⟩ := ((HK.out wr hb).later (below_alloc wr (.cells #[.int .i64 2, .int .i64 (m : Int)] 72))) (by intro e; rw [e] at hm2; simp at hm2)
    have kc := hnc m hm2
    have e2 : ((2 : Int) != 2) = false := by decide
    have V : Hid (null1 N (2, (m : Int)) = N.getD m false) := by show _ = _; simp [null1]
    generalize hv : N.getD m false = v at *
    cases v
    ·have R : Hid (X = false) := HN.out V.out
     clear hc hb hf hm hx hv hnc
     go_wp2
     go_ret
     exact ⟨by rw [R.out]; rfl, HB.out.trans ((below_alloc _ _).mono HB.out.size)⟩
    ·have R : Hid (∀ j, j < k + 1 -> null1 N (l.getD j (0, 0)) = true) := HS.out _ rfl V.out
     clear hc hb hf hm hx hv hnc
     go_wp2
     go_roundw
     case rel => exact ⟨k + 1, by omega, by go_num, R.out, HB.out.trans ((below_alloc _ _).mono HB.out.size)⟩
     case measure => simp [intOf]; omega
   ·have e2 : (x1 != 2) = true := by simp [h2]
    have R : Hid (X = false) := HN.out (by simp [null1, h2])
    clear hc hb hf hm hx
    go_wp2
    go_ret
    exact ⟨by rw [R.out]; rfl, HB.out.trans ((below_alloc _ _).mono HB.out.size)⟩
  ·obtain rfl : k = l.length := by omega
   have R : Hid (X = true) := HY.out hf
   have HB : Hid (Below w.heap.size w wr) := hb
   clear hb hf
   go_wp2
   go_ret
   exact ⟨by rw [R.out]; rfl, HB.out⟩
def below1 (e : Nat) (x : Int) : Bool := decide (0 <= x) && decide (x < (e : Int))
def allB (l : List Int) (e : Nat) : Bool := l.all (below1 e)
theorem allBelow_S (la : Option Addr) (lc : Nat) (l : List Int) (e : Nat) (w : World) (hl : InRow w la l) (hll : l.length <= 140737488355328) :
  Calls Try.prog 30 #[.slice la l.length lc, .int .i64 e] w fun en w' => en = .returned (.bool (allB l e)) /\ Below w.heap.size w w' := by
 have HL : Hid (InRow w la l) := hl
 have HF : Hid (∀ k, k < l.length -> below1 e (l.getD k 0) = false -> allB l e = false) := fun k hk h => all_no hk h
 have HY : Hid ((∀ k, k < l.length -> below1 e (l.getD k 0) = true) -> allB l e = true) := all_yes
 clear hl
 generalize hX : allB l e = X at *
 clear hX
 go_enter Try.func30, Try.ntmps30
 go_wp2
 go_loopw [9] (fun z wr => ∃ k : Nat, k <= l.length /\ z = .int .i64 k /\ wr = w /\ (∀ j, j < k -> below1 e (l.getD j 0) = true)) (fun z _ => l.length - (intOf z).toNat)
 case atStart => exact ⟨0, Nat.zero_le _, rfl, rfl, fun j hj => absurd hj (Nat.not_lt_zero j)⟩
 case round =>
  obtain ⟨k, hk, rfl, rfl, hf⟩ := hrel
  by_cases hlt : k < l.length
  ·obtain ⟨b, o, rfl, hbl, hc⟩ := HL.out (by intro e; rw [e] at hlt; simp at hlt)
   have c0 := hc k hlt
   have klt : (k : Int) < (l.length : Int) := by omega
   have HN : Hid (below1 e (l.getD k 0) = false -> X = false) := HF.out k hlt
   have HS : Hid (∀ x, l.getD k 0 = x -> below1 e x = true -> ∀ j, j < k + 1 -> below1 e (l.getD j 0) = true) := fun x hx h j hj => by
    by_cases q : j = k
    ·subst q; rw [hx]; exact h
    ·exact hf j (by omega)
   generalize hx : l.getD k 0 = x at *
   by_cases h1 : x < 0
   ·have R : Hid (X = false) := HN.out (by simp [below1]; omega)
    clear hc hf hx
    go_wp2
    go_ret
    exact ⟨by rw [R.out]; rfl, Below.refl _ _⟩
   ·by_cases h2 : x ≥ (e : Int)
    ·have R : Hid (X = false) := HN.out (by simp [below1]; omega)
     clear hc hf hx
     go_wp2
     go_ret
     exact ⟨by rw [R.out]; rfl, Below.refl _ _⟩
    ·have R : Hid (∀ j, j < k + 1 -> below1 e (l.getD j 0) = true) := HS.out x rfl (by simp [below1]; omega)
     clear hc hf hx
     go_wp2
     go_roundw
     case rel => exact ⟨k + 1, by omega, by go_num, by first | rfl | trivial, R.out⟩
     case measure => simp [intOf]; omega
  ·obtain rfl : k = l.length := by omega
   have R : Hid (X = true) := HY.out hf
   clear hf
   go_wp2
   go_ret
   exact ⟨by rw [R.out]; rfl, Below.refl _ _⟩
theorem sym_of {g : GV} (h : OkC g) (i : Nat) (hi : i < g.ps.length) : ∀ s ∈ (g.ps.getD i .none).right, (s.1 = 1 /\ 0 <= s.2 /\ s.2 < g.ts.length) ∨ (s.1 = 2 /\ 0 <= s.2 /\ s.2 < g.ns.length) := fun s hs => by
 have := h.inG i hi s hs
 unfold inG at this
 by_cases e1 : s.1 = 1
 ·simp [e1, inT] at this
  exact .inl ⟨e1, this⟩
 ·by_cases e2 : s.1 = 2
  ·simp [e2, inN] at this
   exact .inr ⟨e2, this⟩
  ·simp [e1, e2] at this
theorem OkC.fg {g : GV} (ok : OkC g) {n : Nat} {w : World} (h : GAt n w g) : FG w g := by
 have each : ∀ p ∈ g.ps, ∃ i, i < g.ps.length /\ g.ps.getD i .none = p := fun p hp => by
  obtain ⟨i, hi, rfl⟩ := List.getElem_of_mem hp
  exact ⟨i, hi, by simp [List.getD, hi]⟩
 refine ⟨h.p, ok.nl, ok.pl.2, fun p hp => ?_, fun p hp => ?_, fun p hp => ?_, ok.tl⟩
 ·obtain ⟨i, hi, rfl⟩ := each p hp
  exact ok.left i hi
 ·obtain ⟨i, hi, rfl⟩ := each p hp
  exact ok.right i hi
 ·obtain ⟨i, hi, rfl⟩ := each p hp
  exact sym_of ok i hi
theorem nullable_no (g : GV) (w : World) (h : GAt 140737488355328 w g) (hpc : g.ps.length <= g.pc) (er at_ : Int) (hE : checkG g (checkF g.ts g.ns) = (er, at_)) (h0 : er ≠ 0) :
  Calls Try.prog 5 #[g.val] w fun e w' => e = .returned (.tuple #[.slice none 0 0, .int .i64 er]) /\ Below w.heap.size w w' := by
 have X0 : Hid ((w.alloc (gBox g)).heap[w.heap.size]? = some (gBox g)) := heap_alloc_new _ _
 have CK : Hid (Calls Try.prog 19 #[g.val] (w.alloc (gBox g)) fun e w' => e = .returned (.tuple #[.int .i64 er, .int .i64 at_]) /\ Below (w.alloc (gBox g)).heap.size (w.alloc (gBox g)) w') := check_G g _ (h.later (below_alloc _ _)) hpc er at_ hE
 obtain ⟨x0, x1, x2, x3, x4⟩ := gb_cells X0.out
 have t1 : (er != 0) = true := by simpa using h0
 clear h hE
 go_enter Try.func5, Try.ntmps5
 go_wp2_with (go_at_call 19; refine CK.out.mono ?_; rintro e w2 ⟨rfl, b2⟩; have B2 : Hid (Below w.heap.size w w2) := (below_alloc w _).trans (b2.mono (below_alloc w _).size); clear b2)
 refine bodyPost_ret (results_tmp2 rfl _ _ _) rfl ?_
 exact ⟨rfl, B2.out⟩
theorem nullable_ok (g : GV) (w : World) (h : GAt 140737488355328 w g) (hpc : g.ps.length <= g.pc) (at_ : Int) (hE : checkG g (checkF g.ts g.ns) = (0, at_)) :
  Calls Try.prog 5 #[g.val] w fun e w' => ∃ nb, e = .returned (.tuple #[.slice (some ⟨nb, 0, none⟩) g.ns.length g.ns.length, .int .i64 0]) /\ BB w' nb (nullU g.ps g.ns.length) /\ w.heap.size <= nb /\ Below w.heap.size w w' := by
 have ok : OkC g := OkC.of (by rw [hE])
 have X0 : Hid ((w.alloc (gBox g)).heap[w.heap.size]? = some (gBox g)) := heap_alloc_new _ _
 have CK : Hid (Calls Try.prog 19 #[g.val] (w.alloc (gBox g)) fun e w' => e = .returned (.tuple #[.int .i64 0, .int .i64 at_]) /\ Below (w.alloc (gBox g)).heap.size (w.alloc (gBox g)) w') := check_G g _ (h.later (below_alloc _ _)) hpc 0 at_ hE
 have HFG : Hid (∀ w', Below w.heap.size w w' -> FG w' g) := fun w' hb => ok.fg (h.later hb)
 obtain ⟨x0, x1, x2, x3, x4⟩ := gb_cells X0.out
 have t1 : ((0 : Int) != 0) = false := by decide
 clear h hE ok
 go_enter Try.func5, Try.ntmps5
 go_wp2_with (first
  | (go_at_call 19; refine CK.out.mono ?_; rintro e w2 ⟨rfl, b2⟩; have B2 : Hid (Below w.heap.size w w2 /\ w2.heap[w.heap.size]? = some (gBox g)) := ⟨(below_alloc w _).trans (b2.mono (below_alloc w _).size), (b2.block _ (lt_of_block X0.out)).trans X0.out⟩; clear b2 x0 x1 x2 x3 x4; obtain ⟨x0, x1, x2, x3, x4⟩ := gb_cells B2.out.2)
  | (go_at_call 20; refine (nullables_S g _ (HFG.out _ B2.out.1)).mono ?_; rintro e w3 ⟨nb, rfl, n3, l3, b3⟩; have B3 : Hid (BB w3 nb (nullU g.ps g.ns.length) /\ w.heap.size <= nb /\ Below w.heap.size w w3) := ⟨n3, Nat.le_trans B2.out.1.size l3, B2.out.1.trans (b3.mono B2.out.1.size)⟩; clear n3 l3 b3))
 refine bodyPost_ret (results_tmp2 rfl _ _ _) rfl ?_
 exact ⟨nb, rfl, B3.out⟩
def askU (g : GV) (n : Nat) (er : Int) : Int := if er ≠ 0 then er else if n ≠ g.ns.length then 3 else 0
theorem askNull_S (g : GV) (na : Option Addr) (n nc : Nat) (w : World) (h : GAt 140737488355328 w g) (hpc : g.ps.length <= g.pc) (er at_ : Int) (hE : checkG g (checkF g.ts g.ns) = (er, at_)) :
  Calls Try.prog 27 #[g.val, .slice na n nc] w fun e w' => e = .returned (.int .i64 (askU g n er)) /\ Below w.heap.size w w' := by
 have X0 : Hid ((w.alloc (gBox g)).heap[w.heap.size]? = some (gBox g)) := heap_alloc_new _ _
 have CK : Hid (Calls Try.prog 19 #[g.val] (w.alloc (gBox g)) fun e w' => e = .returned (.tuple #[.int .i64 er, .int .i64 at_]) /\ Below (w.alloc (gBox g)).heap.size (w.alloc (gBox g)) w') := check_G g _ (h.later (below_alloc _ _)) hpc er at_ hE
 obtain ⟨x0, x1, x2, x3, x4⟩ := gb_cells X0.out
 clear h hE
 by_cases h0 : er = 0
 ·subst h0
  have t1 : ((0 : Int) != 0) = false := by decide
  by_cases h1 : n = g.ns.length
  ·have t2 : ((n : Int) != (g.ns.length : Int)) = false := by simp; omega
   have R : Hid (askU g n 0 = 0) := by show _ = _; simp [askU, h1]
   go_enter Try.func27, Try.ntmps27
   go_wp2_with (go_at_call 19; refine CK.out.mono ?_; rintro e w2 ⟨rfl, b2⟩; have B2 : Hid (Below w.heap.size w w2 /\ w2.heap[w.heap.size]? = some (gBox g)) := ⟨(below_alloc w _).trans (b2.mono (below_alloc w _).size), (b2.block _ (lt_of_block X0.out)).trans X0.out⟩; clear b2 x0 x1 x2 x3 x4; obtain ⟨x0, x1, x2, x3, x4⟩ := gb_cells B2.out.2)
   go_ret
   exact ⟨by rw [R.out]; rfl, B2.out.1⟩
  ·have t2 : ((n : Int) != (g.ns.length : Int)) = true := by simp; omega
   have R : Hid (askU g n 0 = 3) := by show _ = _; simp [askU, h1]
   go_enter Try.func27, Try.ntmps27
   go_wp2_with (go_at_call 19; refine CK.out.mono ?_; rintro e w2 ⟨rfl, b2⟩; have B2 : Hid (Below w.heap.size w w2 /\ w2.heap[w.heap.size]? = some (gBox g)) := ⟨(below_alloc w _).trans (b2.mono (below_alloc w _).size), (b2.block _ (lt_of_block X0.out)).trans X0.out⟩; clear b2 x0 x1 x2 x3 x4; obtain ⟨x0, x1, x2, x3, x4⟩ := gb_cells B2.out.2)
   go_ret
   exact ⟨by rw [R.out]; rfl, B2.out.1⟩
 ·have t1 : (er != 0) = true := by simpa using h0
  have R : Hid (askU g n er = er) := by show _ = _; simp [askU, h0]
  go_enter Try.func27, Try.ntmps27
  go_wp2_with (go_at_call 19; refine CK.out.mono ?_; rintro e w2 ⟨rfl, b2⟩; have B2 : Hid (Below w.heap.size w w2) := (below_alloc w _).trans (b2.mono (below_alloc w _).size); clear b2)
  go_ret
  exact ⟨by rw [R.out]; rfl, B2.out⟩
def riseF (l : List Int) : Bool := decide (∀ i, i < l.length - 1 -> l.getD i 0 < l.getD (i + 1) 0)
theorem rises_S (la : Option Addr) (lc : Nat) (l : List Int) (w : World) (hl : InRow w la l) (hll : l.length <= 140737488355328) :
  Calls Try.prog 31 #[.slice la l.length lc] w fun en w' => en = .returned (.bool (riseF l)) /\ Below w.heap.size w w' := by
 have HL : Hid (∀ w', Below w.heap.size w w' -> InRow w' la l) := fun w' hb => hl.later hb
 have HF : Hid (∀ k, k < l.length - 1 -> ¬ l.getD k 0 < l.getD (k + 1) 0 -> riseF l = false) := fun k hk h => decide_eq_false (fun q => h (q k hk))
 have HY : Hid ((∀ k, k < l.length - 1 -> l.getD k 0 < l.getD (k + 1) 0) -> riseF l = true) := fun h => decide_eq_true h
 clear hl
 generalize hX : riseF l = X at *
 clear hX
 go_enter Try.func31, Try.ntmps31
 go_wp2
 go_loopw [3] (fun z wr => ∃ k : Nat, (k + 1 <= l.length ∨ k = 0) /\ z = .int .i64 ((k : Int) + 1) /\ (∀ j, j < k -> l.getD j 0 < l.getD (j + 1) 0) /\ Below w.heap.size w wr) (fun z _ => l.length - (intOf z).toNat)
 case atStart => exact ⟨0, .inr rfl, rfl, fun j hj => absurd hj (Nat.not_lt_zero j), Below.refl _ _⟩
 case round =>
  obtain ⟨k, hk, rfl, hf, hb⟩ := hrel
  have HB : Hid (Below w.heap.size w wr) := hb
  by_cases hlt : k + 1 < l.length
  ·obtain ⟨b, o, rfl, hbl, hc⟩ := HL.out wr hb (by intro e; rw [e] at hlt; simp at hlt)
   have c0 := hc k (by omega)
   have c1 := hc (k + 1) hlt
   have klt : (k : Int) + 1 < (l.length : Int) := by omega
   have HN : Hid (¬ l.getD k 0 < l.getD (k + 1) 0 -> X = false) := fun h => HF.out k (by omega) (by omega)
   have HS : Hid (l.getD k 0 < l.getD (k + 1) 0 -> ∀ j, j < k + 1 -> l.getD j 0 < l.getD (j + 1) 0) := fun h j hj => by
    by_cases q : j = k
    ·subst q; exact h
    ·exact hf j (by omega)
   generalize l.getD k 0 = x at *
   generalize l.getD (k + 1) 0 = y at *
   clear hc hf hb
   by_cases h1 : x ≥ y
   ·have R : Hid (X = false) := HN.out (by omega)
    go_wp2
    go_quiet (fail)
    go_wp2
    go_ret
    exact ⟨by rw [R.out]; rfl, by first | exact HB.out.drew | exact below_drewN HB.out _⟩
   ·have R : Hid (∀ j, j < k + 1 -> l.getD j 0 < l.getD (j + 1) 0) := HS.out (by omega)
    go_wp2
    go_quiet (fail)
    go_wp2
    go_roundw
    case rel => exact ⟨k + 1, .inl (by omega), by go_num, R.out, by first | exact HB.out.drew | exact below_drewN HB.out _⟩
    case measure => simp [intOf]; omega
  ·have R : Hid (X = true) := HY.out (fun j hj => hf j (by omega))
   have klt : ¬ (k : Int) + 1 < (l.length : Int) := by omega
   clear hf hb
   go_wp2
   go_ret
   exact ⟨by rw [R.out]; rfl, HB.out⟩
end Go.Proofs.Ytfgdpmcpjpceoaa
namespace Go.Proofs.Ytfgdpmcpjpceoaa
set_option linter.unusedVariables false
set_option maxRecDepth 100000
set_option maxHeartbeats 16000000
open Go.RowKit Go.Shelf
def SymIn (n : Nat) (s : Int × Int) : Prop := (s.1 = 1 /\ 0 <= s.2 /\ s.2 < 64) ∨ (s.1 = 2 /\ 0 <= s.2 /\ s.2 < n)
abbrev BkA (n : Nat) := { x : Int × (Int × Int) // SymIn n x.2 }
theorem sub_list {β : Type} (p : β -> Prop) : ∀ L : List β, (∀ x ∈ L, p x) -> ∃ zs : List { x // p x }, zs.map Subtype.val = L
 | [], _ => ⟨[], rfl⟩
 | x :: L, h => by
  obtain ⟨zs, e⟩ := sub_list p L (fun y hy => h y (by simp [hy]))
  exact ⟨⟨x, h x (by simp)⟩ :: zs, by simp [e]⟩
def bkL (ls : List (Int × Int)) : List (Int × (Int × Int)) := (List.range ls.length).map fun j => (((ls.length - 1 - j : Nat) : Int), ls.getD (ls.length - 1 - j) (0, 0))
def KpB (n₀ Bs : Nat) (W W' : World) : Prop := Below n₀ W W' /\ W'.heap[Bs]? = W.heap[Bs]?
theorem back_run (F : Fence) (n : Nat) (h7 : F.fn 66) (hro : F.round = none) (hn : 1 <= n) (l Bs n₀ : Nat) (ao : Option Addr) (cap m : Nat) (ls : List (Int × Int)) (hl : ls.length <= 140737488355328) (zs : List (BkA m)) (hzs : zs.map Subtype.val = bkL ls) (J Jx : List (BkA m) -> World -> Prop)
  (hY : ∀ pre x W, J pre W -> pre.length < ls.length -> YieldAt F (n - 1) Try.prog l #[.int .i64 x.1.1, .agg #[.int .i64 x.1.2.1, .int .i64 x.1.2.2]] W fun e W' =>
   (e = .returned (.bool true) /\ J (pre ++ [x]) W' /\ KpB n₀ Bs W W') ∨ (e = .returned (.bool false) /\ Jx (pre ++ [x]) W'))
  (W : World) (hBs : W.heap[Bs]? = some (.cells #[.slice ao ls.length cap] 44 (0, 0))) (hr : ∀ W', Below n₀ W W' -> SymRow W' ao ls) (h0 : J [] W) :
  CallsIn F n Try.prog 66 #[.func (.yield l) #[] #[], .pointer (some ⟨Bs, 0, none⟩)] W fun e W' => (∃ v, e = .returned v) /\
   ((∃ ys, ys = zs /\ J ys W') ∨ (∃ pre, True /\ Jx pre W')) := by
 have hzl : zs.length = ls.length := by simpa [bkL] using congrArg List.length hzs
 have hBc : W.cell? ⟨Bs, 0, none⟩ = some (.slice ao ls.length cap) := (cellq_any hBs).trans rfl
 refine callsIn_of_wp Try.func66 rfl h7 ?_ hro
 simp only [Try.ntmps66, List.size_toArray, List.length_cons, List.length_nil, Nat.reduceAdd, Nat.reduceSub, Array.replicate_succ, Array.replicate_zero, List.push_toArray, List.append_toArray, List.nil_append, List.cons_append]
 gi_wp2
 gi_loopw [3] (fun i wr => ∃ k : Nat, k <= ls.length /\ i = .int .i64 ((ls.length : Int) - 1 - k) /\ J (zs.take k) wr /\ KpB n₀ Bs W wr)
  (fun i _ => (intOf i + 1).toNat)
 case atStart => exact ⟨0, Nat.zero_le _, by simp, h0, Below.refl _ _, rfl⟩
 case round =>
  obtain ⟨k, hk, rfl, hJs, hnx⟩ := hrel
  have hBr : wr.heap[Bs]? = some (.cells #[.slice ao ls.length cap] 44 (0, 0)) := hnx.2.trans hBs
  have hBc2 : wr.cell? ⟨Bs, 0, none⟩ = some (.slice ao ls.length cap) := (cellq_any hBr).trans rfl
  by_cases hlt : k < ls.length
  ·obtain ⟨x, hx⟩ : ∃ x, zs[k]'(by omega) = x := ⟨_, rfl⟩
   have hxv : x.1 = (((ls.length - 1 - k : Nat) : Int), ls.getD (ls.length - 1 - k) (0, 0)) := by
    have e1 : (zs.map Subtype.val)[k]? = (bkL ls)[k]? := by rw [hzs]
    rw [List.getElem?_map, List.getElem?_eq_getElem (by omega), hx] at e1
    simpa [bkL, hlt] using e1
   obtain ⟨fn, tmps, assign, body, hy, hR⟩ := hY _ x wr hJs (by rw [List.length_take]; omega)
   obtain ⟨b, off, rfl, _, hc⟩ := hr wr hnx.1 (by intro e; rw [e] at hlt; simp at hlt)
   obtain ⟨c0, c1⟩ := hc (ls.length - 1 - k) (by omega)
   have HS : Hid (zs.take (k + 1) = zs.take k ++ [x]) := by show _ = _; rw [List.take_succ_eq_append_getElem (by omega), hx]
   rw [hxv] at hy
   simp only at hy
   have hi : ((ls.length : Int) - 1 - k) = ((ls.length - 1 - k : Nat) : Int) := by omega
   have hik : ls.length - 1 - k < ls.length := by omega
   rw [hi]
   generalize hI : ls.length - 1 - k = i at *
   generalize ls.getD i (0, 0) = s at *
   obtain ⟨s1, s2⟩ := s
   simp only at c0 c1 hy
   clear hc hBs hBc hzs
   gi_wp2
   refine hR.mono ?_
   rintro e W3 (⟨rfl, hJ3, hk3⟩ | ⟨rfl, hJx3⟩)
   ·gi_wp2
    go_roundw
    case rel => exact ⟨k + 1, by omega, by go_num, by rw [HS.out]; exact hJ3, hnx.1.trans hk3.1, hk3.2.trans hnx.2⟩
    case measure => simp [intOf]
   ·gi_wp2
    refine bodyPost_ret (results_none rfl _ _ _) rfl ?_
    exact ⟨⟨_, rfl⟩, .inr ⟨_, trivial, hJx3⟩⟩
  ·obtain rfl : k = ls.length := by omega
   have hneg : ((ls.length : Int) - 1 - (ls.length : Nat)) = -1 := by omega
   rw [hneg]
   gi_wp2
   go_end0
   exact ⟨⟨_, rfl⟩, .inl ⟨_, by rw [<- hzl, List.take_length], hJs⟩⟩
abbrev bkE (m : Nat) (x : BkA m) : Array Value := #[.int .i64 x.1.1, .agg #[.int .i64 x.1.2.1, .int .i64 x.1.2.2]]
theorem back_seq (F : Fence) (n : Nat) (h7 : F.fn 66) (hro : F.round = none) (hn : 1 <= n) (Bs n₀ : Nat) (ao : Option Addr) (cap m : Nat) (ls : List (Int × Int)) (hl : ls.length <= 140737488355328) (zs : List (BkA m)) (hzs : zs.map Subtype.val = bkL ls) (w : World) (hB : Bs < w.heap.size) (hBs : w.heap[Bs]? = some (.cells #[.slice ao ls.length cap] 44 (0, 0))) (w0 : World) (hw0 : w0.heap.size = n₀) (hw : Below n₀ w0 w) (hr : SymRow w0 ao ls) :
  SeqStopsK F n Try.prog 66 #[.pointer (some ⟨Bs, 0, none⟩)] (bkE m) (KpB n₀ Bs) (fun ys => ys = zs) (fun _ => True) ls.length w := fun l J Jx W hW _ _ hY h0 =>
 back_run F n h7 hro hn l Bs n₀ ao cap m ls hl zs hzs J Jx hY W ((hW.block _ hB).trans hBs) (fun _ hb => hr.later (by omega) ((hw.trans (hW.mono (by rw [<- hw0]; exact hw.size))).trans hb)) h0
def CellsAt (W : World) (B : Nat) (C : Array Value) (t : TypeId) : Prop := W.heap[B]? = some (.cells C t (0, 0))
theorem CellsAt.lt {W : World} {B : Nat} {C : Array Value} {t : TypeId} (h : CellsAt W B C t) : B < W.heap.size := lt_of_block h
theorem CellsAt.kept {W W' : World} {row : Option Nat} {B : Nat} {C : Array Value} {t : TypeId} (h : CellsAt W B C t) (hg : W.grownBy W' row) (hne : some B ≠ row) : CellsAt W' B C t := (hg.block B h.lt hne).trans h
theorem CellsAt.alloc {W : World} {B : Nat} {C : Array Value} {t : TypeId} (h : CellsAt W B C t) (o : Obj) : CellsAt (W.alloc o) B C t := ((below_alloc W o).block _ h.lt).trans h
theorem cellsAt_own {β : Type} (B : Nat) (t : TypeId) (f : β -> Array Value) : Own (fun s W => CellsAt W B (f s) t) := fun s X Y row hs hg hrow =>
 hs.kept hg (fun e' => by obtain ⟨o, ho, hc⟩ := hrow B e'.symm; rw [show X.heap[B]? = _ from hs] at ho; cases ho; cases hc)
theorem KpB.t {n₀ Bs : Nat} {A B C : World} (h : KpB n₀ Bs A B) (k : KpB n₀ Bs B C) : KpB n₀ Bs A C := ⟨h.1.trans k.1, k.2.trans h.2⟩
theorem KpB.b {n₀ Bs : Nat} {w : World} (hn : n₀ <= w.heap.size) (hB : Bs < w.heap.size) (W : World) (l : Nat) (o o' : Obj) (hl : w.heap.size <= l) (h : W.heap[l]? = some o) (hc : o.isCells = false) (hk : o.isWalk = false) : KpB n₀ Bs W (W.putObj l o') :=
 ⟨belowK_b hn W l o o' hl h hc hk, World.putObj_heap_other (by omega)⟩
def ofS (N : List Bool) (F : List BS) (l : List (Int × Int)) (look : BS) : BS := l.foldr (aheadS N F) look
def accS (N : List Bool) (F : List BS) (look : BS) {m : Nat} (pre : List (BkA m)) : BS := pre.foldl (fun a x => aheadS N F x.1.2 a) look
theorem accS_succ (N : List Bool) (F : List BS) (look : BS) {m : Nat} (pre : List (BkA m)) (x : BkA m) : accS N F look (pre ++ [x]) = aheadS N F x.1.2 (accS N F look pre) := by simp [accS]
theorem bkL_rev (ls : List (Int × Int)) : (bkL ls).map (·.2) = ls.reverse := by
 apply List.ext_getElem
 ·simp [bkL]
 ·intro i h1 h2
  simp only [bkL, List.length_map, List.length_range, List.length_reverse] at h1 h2
  simp [bkL, List.getElem_reverse, List.getD, show ls.length - 1 - i < ls.length by omega]
theorem accS_all (N : List Bool) (F : List BS) (look : BS) {m : Nat} (ls : List (Int × Int)) (zs : List (BkA m)) (h : zs.map Subtype.val = bkL ls) : accS N F look zs = ofS N F ls look := by
 have e : zs.map (fun x => x.1.2) = ls.reverse := by
  rw [<- bkL_rev, <- h, List.map_map]
  rfl
 unfold accS ofS
 rw [<- List.foldl_reverse, <- e, List.foldl_map]
theorem ahead_ok {N : List Bool} {F : List BS} {s : Int × Int} {look : BS} (hF : ∀ i, OkS (F.getD i (0, 0))) (hs : SymIn N.length s) (hk : OkS look) : OkS (aheadS N F s look) := by
 unfold aheadS
 split
 ·rename_i h1
  refine setS_ok fun x hx => ?_
  obtain rfl := List.mem_singleton.1 hx
  rcases hs with q | q <;> omega
 ·split
  ·exact hk.with (hF _)
  ·exact hF _
theorem ofS_ok {N : List Bool} {F : List BS} (hF : ∀ i, OkS (F.getD i (0, 0))) : ∀ (l : List (Int × Int)) (look : BS), (∀ s ∈ l, SymIn N.length s) -> OkS look -> OkS (ofS N F l look)
 | [], _, _, hk => hk
 | s :: l, look, hs, hk => ahead_ok hF (hs s (by simp)) (ofS_ok hF l look (fun x hx => hs x (by simp [hx])) hk)
end Go.Proofs.Ytfgdpmcpjpceoaa
namespace Go.Proofs.Ytfgdpmcpjpceoaa
set_option linter.unusedVariables false
set_option maxRecDepth 100000
set_option maxHeartbeats 16000000
open Go.RowKit Go.Shelf
theorem backward_S (ao : Option Addr) (len cap : Nat) (w : World) : Calls Try.prog 50 #[.slice ao len cap] w fun e w' => e = .returned (.func (.func 66) #[] #[.pointer (some ⟨w.heap.size, 0, none⟩)]) /\ w' = w.alloc (.cells #[.slice ao len cap] 44) := by
 go_enter Try.func50, Try.ntmps50
 go_wp2
 go_ret
 exact ⟨rfl, rfl⟩
theorem accS_ok {N : List Bool} {F : List BS} {look : BS} (hF : ∀ i, OkS (F.getD i (0, 0))) (hk : OkS look) : ∀ pre : List (BkA N.length), OkS (accS N F look pre) := by
 intro pre
 unfold accS
 induction pre generalizing look with
 | nil => exact hk
 | cons x r ih => exact ih (ahead_ok hF x.2 hk)
theorem keeps_below {W W' : World} (h : Below W.heap.size W W') : KeepsOthers W W' := ⟨h.size, fun k _ hk _ => (h.block k (lt_of_block hk)).trans hk⟩
theorem of_SW (na : Option Addr) (N : List Bool) (nc fb fc : Nat) (F : List BS) (la : Option Addr) (lc : Nat) (l : List (Int × Int)) (look : BS) (w : World) (h : CLM w na N fb F) (hl : SymRow w la l) (hll : l.length <= 140737488355328) (hs : ∀ s ∈ l, SymIn N.length s) (hk : OkS look) :
  Calls Try.prog 33 #[cv na N nc fb fc, .slice la l.length lc, sv look] w fun e w' => e = .returned (sv (ofS N F l look)) /\ Below w.heap.size w w' := by
 obtain ⟨zs, hzs⟩ := sub_list (fun x : Int × (Int × Int) => SymIn N.length x.2) (bkL l) (fun x hx => by
  have : x.2 ∈ (bkL l).map (·.2) := List.mem_map_of_mem hx
  rw [bkL_rev] at this
  exact hs _ (List.mem_reverse.1 this))
 obtain ⟨k1, k2⟩ := look
 obtain ⟨t0, t1, t2, t3, t4⟩ := four_box w (.cells #[.slice na N.length nc, .slice (some ⟨fb, 0, none⟩) N.length fc] 67) (.cells #[.int .u64 (k1 : Int), .int .u64 (k2 : Int)] 86) (.cells #[.int .u64 0, .int .u64 0] 86) (.cells #[.slice la l.length lc] 44)
 refine (callsIn_wide (n := 6)).1 ?_
 refine callsIn_of_wp_marks Try.func33 rfl trivial ?_ rfl
 simp only [Try.ntmps33, List.size_toArray, List.length_cons, List.length_nil, Nat.reduceAdd, Nat.reduceSub, Array.replicate_succ, Array.replicate_zero, List.push_toArray, List.append_toArray, List.nil_append, List.cons_append]
 gi_wp2_with (refine ⟨trivial, ?_⟩; gi_at_call 50; refine (callsIn_wide.2 (backward_S la l.length lc _)).mono ?_; rintro e w' ⟨rfl, rfl⟩)
 have hsz : ((((w.alloc (.cells #[.slice na N.length nc, .slice (some ⟨fb, 0, none⟩) N.length fc] 67)).alloc (.cells #[.int .u64 (k1 : Int), .int .u64 (k2 : Int)] 86)).alloc (.cells #[.int .u64 0, .int .u64 0] 86)).alloc (.cells #[.slice la l.length lc] 44)).heap.size = w.heap.size + 1 + 1 + 1 + 1 := by rw [alZ, alZ, alZ, alZ]
 obtain ⟨W0, hW0⟩ : ∃ W0, ((((w.alloc (.cells #[.slice na N.length nc, .slice (some ⟨fb, 0, none⟩) N.length fc] 67)).alloc (.cells #[.int .u64 (k1 : Int), .int .u64 (k2 : Int)] 86)).alloc (.cells #[.int .u64 0, .int .u64 0] 86)).alloc (.cells #[.slice la l.length lc] 44)) = W0 := ⟨_, rfl⟩
 rw [hW0] at t0 t1 t2 t3 t4 hsz ⊢
 clear hW0
 refine wpIn_rangeFunc_ownH rfl (by omega) (gf := 66) (lb := #[.pointer (some ⟨w.heap.size + 1 + 1 + 1, 0, none⟩)]) rfl trivial (enters_of Try.func66 (by kernel_rfl) rfl)
  (back_seq Fence.wide _ trivial rfl (by omega) (w.heap.size + 1 + 1 + 1) w.heap.size la lc N.length l hll zs hzs W0 (by omega) t4 w rfl t0 hl) KpB.t (KpB.b (by omega) (by omega)) (Below.refl _ _) (fun _ => rfl)
  (fun pre W => ((CellsAt W w.heap.size #[.slice na N.length nc, .slice (some ⟨fb, 0, none⟩) N.length fc] 67 /\ CellsAt W (w.heap.size + 1) #[.int .u64 ((accS N F (k1, k2) pre).1 : Int), .int .u64 ((accS N F (k1, k2) pre).2 : Int)] 86) /\ (CellsAt W (w.heap.size + 1 + 1) #[.int .u64 0, .int .u64 0] 86 /\ CellsAt W (w.heap.size + 1 + 1 + 1) #[.slice la l.length lc] 44)) /\ Below w.heap.size w W)
  (fun _ _ _ => False)
  (OwnFrom.and (OwnFrom.and (OwnFrom.and (Own.from (cellsAt_own _ _ _) _) (Own.from (cellsAt_own _ _ _) _)) (OwnFrom.and (Own.from (cellsAt_own _ _ _) _) (Own.from (cellsAt_own _ _ _) _))) (ownFrom_below (Nat.le_refl _) (by omega)))
  (fun _ _ _ _ _ hs _ _ => hs)
  ⟨⟨⟨t1, t2⟩, ⟨t3, t4⟩⟩, t0⟩
  (fun x a' W => ∃ Bx, w.heap.size + 1 + 1 + 1 < Bx /\ CellsAt W Bx #[.int .i64 x.1.2.1, .int .i64 x.1.2.2] 72 /\ a' = { tmps := #[cv na N nc fb fc, .slice la l.length lc, sv (k1, k2), .pointer (some ⟨w.heap.size, 0, none⟩), undef, .pointer (some ⟨w.heap.size + 1, 0, none⟩), .pointer (some ⟨w.heap.size + 1 + 1, 0, none⟩), undef, .pointer (some ⟨Bx, 0, none⟩), .slice la l.length lc, .func (.func 66) #[] #[.pointer (some ⟨w.heap.size + 1 + 1 + 1, 0, none⟩)], .int .i64 x.1.1, .agg #[.int .i64 x.1.2.1, .int .i64 x.1.2.2], undef, undef, undef, undef, undef], defers := [] })
  (fun x a' _ X Y row hs hg hr => by obtain ⟨Bx, h1, h2, h3⟩ := hs; exact ⟨Bx, h1, cellsAt_own Bx 72 (fun (_ : Unit) => #[.int .i64 x.1.2.1, .int .i64 x.1.2.2]) () X Y row h2 hg (fun r e => (hr r e).2), h3⟩)
  ?assign ?body ?done ?stop
 case assign =>
  rintro l' pre x W K ⟨⟨⟨c1, c2⟩, c3, c4⟩, hB1⟩ hK
  have hsa := @Oper.semAt_some
  gi_wp2
  exact hK _ _ ((KeepsOthers.alloc _ _).from _) ⟨(Below.refl _ W).alloc hB1.size _, (below_alloc _ _).block _ c4.lt⟩ ⟨⟨⟨c1.alloc _, c2.alloc _⟩, c3.alloc _, c4.alloc _⟩, hB1.alloc hB1.size _⟩ ⟨W.heap.size, c4.lt, heap_alloc_new _ _, rfl⟩
 case body =>
  rintro l' pre x a' W hl' ⟨r, hr⟩ ⟨⟨⟨c1, c2⟩, c3, c4⟩, hB1⟩ ⟨Bx, hBx, bX, rfl⟩ hlt
  have hsa := @Oper.semAt_some
  have hok := accS_ok h.ok hk pre
  have hsucc := accS_succ N F (k1, k2) pre x
  generalize hp : accS N F (k1, k2) pre = p at *
  obtain ⟨p1, p2⟩ := p
  have x0 : W.cell? ⟨w.heap.size, 0, none⟩ = some (.slice na N.length nc) := (cellq_any c1).trans rfl
  have x1 : W.cell? ⟨w.heap.size, 1, none⟩ = some (.slice (some ⟨fb, 0, none⟩) N.length fc) := (cellq_any c1).trans rfl
  have y0 : W.cell? ⟨w.heap.size + 1, 0, none⟩ = some (.int .u64 (p1 : Int)) := (cellq_any c2).trans rfl
  have y1 : W.cell? ⟨w.heap.size + 1, 1, none⟩ = some (.int .u64 (p2 : Int)) := (cellq_any c2).trans rfl
  have z0 : W.cell? ⟨Bx, 0, none⟩ = some (.int .i64 x.1.2.1) := (cellq_any bX).trans rfl
  have z1 : W.cell? ⟨Bx, 1, none⟩ = some (.int .i64 x.1.2.2) := (cellq_any bX).trans rfl
  have hC := ahead_S na N nc fb fc F x.1.2 (p1, p2) W (h.later hB1) x.2 hok
  generalize hq : aheadS N F x.1.2 (p1, p2) = q at *
  obtain ⟨q1, q2⟩ := q
  gi_wp2_with (refine ⟨trivial, ?_⟩; gi_at_call 51; refine (CallsIn.inRound l' (callsIn_wide.2 hC)).mono ?_; rintro e w2 ⟨rfl, b2⟩; have d2 : CellsAt w2 (w.heap.size + 1) #[.int .u64 (p1 : Int), .int .u64 (p2 : Int)] 86 := (b2.block _ c2.lt).trans c2; have e0 : w2.cell? ⟨w.heap.size + 1, 0, none⟩ = some (.int .u64 (p1 : Int)) := (cellq_any d2).trans rfl; have e1 : w2.cell? ⟨w.heap.size + 1, 1, none⟩ = some (.int .u64 (p2 : Int)) := (cellq_any d2).trans rfl; have g0 := frostS d2 0; have g1 := frostS d2 1; have hz2 := d2.lt)
  have off : ∀ j, j ≠ w.heap.size + 1 -> ((w2.setCell ⟨w.heap.size + 1, 0, none⟩ (.int .u64 (q1 : Int))).setCell ⟨w.heap.size + 1, 1, none⟩ (.int .u64 (q2 : Int))).heap[j]? = w2.heap[j]? := fun j hj => by rw [Below.heap_setCell _ _ _ _ hj, Below.heap_setCell _ _ _ _ hj]
  have hBW : Below w.heap.size W ((w2.setCell ⟨w.heap.size + 1, 0, none⟩ (.int .u64 (q1 : Int))).setCell ⟨w.heap.size + 1, 1, none⟩ (.int .u64 (q2 : Int))) := ((b2.mono hB1.size).setCell (p := ⟨w.heap.size + 1, 0, none⟩) (by show w.heap.size <= w.heap.size + 1; omega) _).setCell (p := ⟨w.heap.size + 1, 1, none⟩) (by show w.heap.size <= w.heap.size + 1; omega) _
  refine ⟨(((keeps_below b2).trans (KeepsOthers.setCell _ _ _)).trans (KeepsOthers.setCell _ _ _)).from _, ⟨hBW, (off _ (by omega)).trans (b2.block _ c4.lt)⟩, ⟨⟨(off _ (by omega)).trans ((b2.block _ c1.lt).trans c1), ?_⟩, (off _ (by omega)).trans ((b2.block _ c3.lt).trans c3), (off _ (by omega)).trans ((b2.block _ c4.lt).trans c4)⟩, hB1.trans hBW⟩
  rw [hsucc]
  exact (heap_set (heap_set d2 0 _) 1 _).trans rfl
 case done =>
  rintro D ys W hD rfl ⟨⟨⟨c1, c2⟩, c3, c4⟩, hB1⟩ hK
  rw [accS_all N F (k1, k2) l _ hzs] at c2
  generalize hq : ofS N F l (k1, k2) = q at *
  obtain ⟨q1, q2⟩ := q
  have y0 : W.cell? ⟨w.heap.size + 1, 0, none⟩ = some (.int .u64 (q1 : Int)) := (cellq_any c2).trans rfl
  have y1 : W.cell? ⟨w.heap.size + 1, 1, none⟩ = some (.int .u64 (q2 : Int)) := (cellq_any c2).trans rfl
  have e0 : W.cell? ⟨w.heap.size + 1 + 1, 0, none⟩ = some (.int .u64 0) := (cellq_any c3).trans rfl
  have e1 : W.cell? ⟨w.heap.size + 1 + 1, 1, none⟩ = some (.int .u64 0) := (cellq_any c3).trans rfl
  have g0 := frostS c3 0
  have g1 := frostS c3 1
  have hz3 := c3.lt
  gi_wp2
  have hK2 : ((W.setCell ⟨w.heap.size + 1 + 1, 0, none⟩ (.int .u64 (q1 : Int))).setCell ⟨w.heap.size + 1 + 1, 1, none⟩ (.int .u64 (q2 : Int))).heap[D]? = some (.deferred (some [])) := by
   rw [Below.heap_setCell _ _ _ _ (show D ≠ w.heap.size + 1 + 1 by omega), Below.heap_setCell _ _ _ _ (show D ≠ w.heap.size + 1 + 1 by omega)]
   exact hK
  refine ⟨by simp, .inl ⟨_, _, rfl, run_takeDeferred hK2, ?_⟩⟩
  have hc : CellsAt ((W.setCell ⟨w.heap.size + 1 + 1, 0, none⟩ (.int .u64 (q1 : Int))).setCell ⟨w.heap.size + 1 + 1, 1, none⟩ (.int .u64 (q2 : Int))) (w.heap.size + 1 + 1) #[.int .u64 (q1 : Int), .int .u64 (q2 : Int)] 86 := (heap_set (heap_set c3 0 _) 1 _).trans rfl
  have hBW : Below w.heap.size w ((W.setCell ⟨w.heap.size + 1 + 1, 0, none⟩ (.int .u64 (q1 : Int))).setCell ⟨w.heap.size + 1 + 1, 1, none⟩ (.int .u64 (q2 : Int))) := (hB1.setCell (p := ⟨w.heap.size + 1 + 1, 0, none⟩) (by show w.heap.size <= w.heap.size + 1 + 1; omega) _).setCell (p := ⟨w.heap.size + 1 + 1, 1, none⟩) (by show w.heap.size <= w.heap.size + 1 + 1; omega) _
  have hBZ := hBW.trans (belowK_b (w := w) (Nat.le_refl _) _ D _ (.deferred none) (by omega) hK2 rfl rfl)
  have hcZ : CellsAt (((W.setCell ⟨w.heap.size + 1 + 1, 0, none⟩ (.int .u64 (q1 : Int))).setCell ⟨w.heap.size + 1 + 1, 1, none⟩ (.int .u64 (q2 : Int))).putObj D (.deferred none)) (w.heap.size + 1 + 1) #[.int .u64 (q1 : Int), .int .u64 (q2 : Int)] 86 := (World.putObj_heap_other (by omega)).trans hc
  generalize ((W.setCell ⟨w.heap.size + 1 + 1, 0, none⟩ (.int .u64 (q1 : Int))).setCell ⟨w.heap.size + 1 + 1, 1, none⟩ (.int .u64 (q2 : Int))).putObj D (.deferred none) = Z at *
  have r0 : Z.cell? ⟨w.heap.size + 1 + 1, 0, none⟩ = some (.int .u64 (q1 : Int)) := (cellq_any hcZ).trans rfl
  have r1 : Z.cell? ⟨w.heap.size + 1 + 1, 1, none⟩ = some (.int .u64 (q2 : Int)) := (cellq_any hcZ).trans rfl
  exact ⟨sv (q1, q2), by simp [results, Try.results33, go_sem, r0, r1], rfl, hBZ⟩
 case stop =>
  rintro D c pre W _ _ h _
  exact h.elim
theorem of_S (na : Option Addr) (N : List Bool) (nc fb fc : Nat) (F : List BS) (la : Option Addr) (lc : Nat) (l : List (Int × Int)) (look : BS) (w : World) (h : CLM w na N fb F) (hl : SymRow w la l) (hll : l.length <= 1048576) (hs : ∀ s ∈ l, SymIn N.length s) (hk : OkS look) :
  Calls Try.prog 33 #[cv na N nc fb fc, .slice la l.length lc, sv look] w fun e w' => e = .returned (sv (ofS N F l look)) /\ Below w.heap.size w w' :=
 of_SW na N nc fb fc F la lc l look w h hl (Nat.le_trans hll (by omega)) hs hk
end Go.Proofs.Ytfgdpmcpjpceoaa
