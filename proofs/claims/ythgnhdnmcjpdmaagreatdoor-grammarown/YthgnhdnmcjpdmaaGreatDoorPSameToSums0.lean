import Derived.Test.YthgnhdnmcjpdmaaGreatDoorPOwnToAppStr
import Derived.Deep.QuietTactic
import Derived.BigQuiet
import Derived.Test.YthgnhdnmcjpdmaaGreatDoorPCheckHeadToOpen
import Derived.Lib.SlBytesConst
namespace Go.Proofs.YthgnhdnmcjpdmaaGreatDoor.C
set_option linter.unusedVariables false
set_option maxRecDepth 100000
set_option maxHeartbeats 16000000
open Go.RowKit
def Still (w w' : World) : Prop := ∀ B, Below B w w'
theorem Still.refl (w : World) : Still w w := fun B => Below.refl B w
theorem Still.drew {w w' : World} (h : Still w w') : Still w w'.drew := fun B => (h B).drew
theorem Still.trans {w w1 w2 : World} (h : Still w w1) (k : Still w1 w2) : Still w w2 := fun B => (h B).trans (k B)
theorem Still.cell {w w' : World} (h : Still w w') (b o : Nat) : w'.cell? ⟨b, o, none⟩ = w.cell? ⟨b, o, none⟩ := (h (b + 1)).cell (p := ⟨b, o, none⟩) (Nat.lt_succ_self b)
theorem Still.row {w w' : World} (h : Still w w') {ao : Option Addr} {xs : List Int} (hr : RowAt w ao xs) : RowAt w' ao xs := hr.later (h _)
theorem Still.own {w w' : World} (h : Still w w') {v : Value} {xs : List Int} (hr : Own w v xs) : Own w' v xs := hr.kept fun k _ => (h (k + 1)).block k (Nat.lt_succ_self k)
theorem Own.later {w w' : World} {v : Value} {xs : List Int} (h : Own w v xs) (hb : Below w.heap.size w w') : Own w' v xs := h.kept fun k hk => hb.block k (h.lt k hk)
theorem open_any (k : Int) (ao : Option Addr) (N cap : Nat) (xs : List Int) (w : World) (hN : N = xs.length) (hk0 : 0 <= k) (hk1 : k <= 255) (hl : xs.length <= 140737488355328) (hcap : xs.length <= cap) (hm : Magic w) (hr : RowAt w ao xs) :
  Calls Tryz.prog 36 #[.int .u8 k, .slice ao N cap] w (OpenEnds k xs w) := by
 subst hN
 by_cases h : (checkHead k xs).1 = 0
 ·have hne : xs ≠ [] := by intro e; subst e; simp [checkHead, headBytes, chk] at h
  obtain ⟨b, off, rfl, _⟩ := hr.2 hne
  by_cases hc : 4 < cap
  ·exact open_rest k b off cap xs w hk0 hk1 hl hcap hc hm hr h
  ·obtain ⟨rest, hx, _⟩ := chk_none k xs h
   have h4 : 4 <= xs.length := by rw [hx]; simp [headBytes]
   have e4 : xs.length = 4 := by omega
   have ec : cap = 4 := by omega
   subst ec
   have := open_four k b off xs w hk0 hk1 e4 hm hr h
   rw [e4]
   exact this
 ·exact open_head k ao cap xs w hk0 hk1 hl hm hr h
theorem seal_at (k : Int) (ao : Option Addr) (N cap : Nat) (xs : List Int) (w : World) (hN : N = xs.length) (hk0 : 0 <= k) (hk1 : k <= 255) (hl : xs.length <= 16777216) (hm : Magic w) (hr : RowAt w ao xs) (hn : ao = none -> cap = 0) :
  Calls Tryz.prog 35 #[.int .u8 k, .slice ao N cap] w fun e w' => ∃ g N c, e = .returned (.tuple #[.slice (some ⟨g, 0, none⟩) N c, .int .i64 0]) /\ Own w' (.slice (some ⟨g, 0, none⟩) N c) (frame k xs) /\ w.heap.size <= g /\ Below w.heap.size w w' := by
 subst hN; exact seal_any k ao cap xs w hk0 hk1 hl hm hr hn
theorem own_cap {w : World} {a : Option Addr} {N c : Nat} {xs : List Int} (h : Own w (.slice a N c) xs) : xs.length <= c := by
 rcases h.2.2 with ⟨e, hn⟩ | ⟨g, cap, cur, e, _, _, hnc, _⟩
 ·simp only [Value.slice.injEq] at e
  obtain ⟨rfl, rfl, rfl⟩ := e
  have := h.1
  omega
 ·simp only [Value.slice.injEq] at e
  obtain ⟨rfl, rfl, rfl⟩ := e
  exact hnc
theorem winv_new (w : World) : WInv ((w.alloc (.cells #[.slice none 0 0, .int .i64 0] 130)).alloc (.cells #[.pointer (some ⟨w.heap.size, 0, none⟩)] 132)) (w.heap.size + 1) w.heap.size (.slice none 0 0) [] 0 := by
 refine ⟨?_, ?_, Own.nil _⟩
 ·have := heap_alloc_new (w.alloc (.cells #[.slice none 0 0, .int .i64 0] 130)) (.cells #[.pointer (some ⟨w.heap.size, 0, none⟩)] 132)
  simpa using this
 ·rw [Below.heap_alloc _ _ _ (by simp)]
  exact heap_alloc_new w _
theorem below_two (w : World) (o p : Obj) : Below w.heap.size w ((w.alloc o).alloc p) := (below_alloc w o).trans ((below_alloc (w.alloc o) p).mono (by simp))
theorem own_set {w : World} {g N c : Nat} {xs : List Int} (h : Own w (.slice (some ⟨g, 0, none⟩) N c) xs) (i : Nat) (hi : i < xs.length) (u : Int) (h0 : 0 <= u) (h1 : u <= 255) : Own (w.setCell ⟨g, i, none⟩ (.int .u8 u)) (.slice (some ⟨g, 0, none⟩) N c) (xs.set i u) := by
 obtain ⟨hN, _, _⟩ := own_len h
 subst hN
 rcases h.2.2 with ⟨e, _⟩ | ⟨g', cap, cur, e, _, hg, hnc, hm, hs, ht⟩
 ·simp at e
 ·simp only [Value.slice.injEq, Option.some.injEq, Addr.mk.injEq, true_and, and_true] at e
  obtain ⟨rfl, rfl⟩ := e
  refine ⟨fun x hx => ?_, by simp, .inr ⟨g, c, cur.setIfInBounds i (.int .u8 u), by simp, Nat.zero_le _, heap_set hg i _, by simpa using hnc, hm, by simpa using hs, ?_⟩⟩
  ·rcases List.mem_or_eq_of_mem_set hx with q | q
   ·exact h.1 x q
   ·omega
  ·simp only [Array.toList_setIfInBounds, List.length_set, Nat.mul_one] at ht ⊢
   rw [List.take_set, ht]
   simp [vals, List.map_set]
theorem own_some {w : World} {v : Value} {xs : List Int} (h : Own w v xs) (hn : xs ≠ []) : ∃ g N c, v = .slice (some ⟨g, 0, none⟩) N c := by
 refine own_shape h fun e => ?_
 subst e
 have := (own_len h).1
 exact hn (List.eq_nil_of_length_eq_zero this.symm)
end Go.Proofs.YthgnhdnmcjpdmaaGreatDoor.C
