import Derived.Test.YtmkakdfdfdcncaaGreatDoorPOwnToAppStr
import Derived.Deep.QuietTactic
import Derived.BigQuiet
import Derived.Test.YtmkakdfdfdcncaaGreatDoorPCheckHeadToOpen
import Derived.Lib.SlBytesConst
namespace Go.Proofs.YtmkakdfdfdcncaaGreatDoor.C
set_option linter.unusedVariables false
set_option maxRecDepth 100000
set_option maxHeartbeats 16000000
open Go.RowKit
def Still (w w' : World) : Prop := ∀ B, Below B w w'
theorem Still.refl (w : World) : Still w w := fun B => Below.refl B w
theorem Still.drew {w w' : World} (h : Still w w') : Still w w'.drew := fun B => (h B).drew
theorem Still.trans {w w1 w2 : World} (h : Still w w1) (k : Still w1 w2) : Still w w2 := fun B => (h B).trans (k B)
theorem Still.cell {w w' : World} (h : Still w w') (b o : Nat) : w'.cell? ⟨b, o, none⟩ = w.cell? ⟨b, o, none⟩ := (h (b + 1)).cell (p := ⟨b, o, none⟩) (Nat.lt_succ_self b)
theorem Still.row {w w' : World} (h : Still w w') {ao : Option Addr} {xs : List Int} (hr : RowAt w ao xs) : RowAt w' ao xs := hr.later (h _)
theorem Still.own {w w' : World} (h : Still w w') {v : Value} {xs : List Int} (hr : Own w v xs) : Own w' v xs := hr.kept fun k _ => (h (k + 1)).block k (Nat.lt_succ_self k)
theorem take_eq_step {xs ys : List Int} {k : Nat} (h : xs.take k = ys.take k) (hx : k < xs.length) (hy : k < ys.length) (e : xs.getD k 0 = ys.getD k 0) : xs.take (k + 1) = ys.take (k + 1) := by
 rw [take_snoc xs k hx, take_snoc ys k hy, h, e]
theorem same_any (ao bo : Option Addr) (ca cb : Nat) (xs ys : List Int) (w : World) (hl : xs.length <= 140737488355328) (hl2 : ys.length <= 140737488355328) (hr : RowAt w ao xs) (hs : RowAt w bo ys) :
  Calls Tryz.prog 24 #[.slice ao xs.length ca, .slice bo ys.length cb] w fun e w' => e = .returned (.bool (decide (xs = ys))) /\ Still w w' := by
 by_cases hlen : xs.length = ys.length
 ·have hb : ((xs.length : Int) != ys.length) = false := by simp [hlen]
  have HL : Hid (xs.length = ys.length) := hlen
  clear hlen
  go_enter Tryz.func24, Tryz.ntmps24
  go_wp2
  go_loopw [5] (fun i wr => ∃ k : Nat, k <= xs.length /\ i = .int .i64 k /\ xs.take k = ys.take k /\ Still w wr) (fun i _ => xs.length - (intOf i).toNat)
  case atStart => exact ⟨0, Nat.zero_le _, rfl, rfl, Still.refl _⟩
  case round =>
   obtain ⟨k, hk, rfl, htk, hst⟩ := hrel
   have HT : Hid (xs.take k = ys.take k) := htk
   clear htk
   by_cases hlt : k < xs.length
   ·have hlt2 : k < ys.length := by have := HL.out; omega
    obtain ⟨b, off, rfl, hc⟩ := hr.2 (by intro h; subst h; simp at hlt)
    obtain ⟨b2, off2, rfl, hc2⟩ := hs.2 (by intro h; subst h; simp at hlt2)
    have h1 := (hst.cell b (off + k)).trans (hc k hlt)
    have h2 := (hst.cell b2 (off2 + k)).trans (hc2 k hlt2)
    have HX : Hid (xs.getD k 0 = ys.getD k 0 -> xs.take (k + 1) = ys.take (k + 1)) := fun e => take_eq_step HT.out hlt hlt2 e
    have HN : Hid (xs.getD k 0 ≠ ys.getD k 0 -> xs ≠ ys) := fun e h => e (by rw [h])
    have hbx := hr.1.at k
    have hby := hs.1.at k
    clear hc hc2 hr hs
    generalize xs.getD k 0 = x at *
    generalize ys.getD k 0 = y at *
    by_cases he : x = y
    ·have het : (x != y) = false := by simp [he]
     have HE : Hid (x = y) := he
     clear he
     go_wp2
     go_region
     all_goals go_wp2
     all_goals go_roundw
     all_goals first
      | exact ⟨k + 1, by omega, by go_num, HX.out HE.out, hst.drew⟩
      | (simp [intOf]; omega)
    ·have het : (x != y) = true := by simp [he]
     have HE : Hid (x ≠ y) := he
     clear he
     go_wp2
     go_region
     all_goals go_wp2
     all_goals go_ret
     all_goals exact ⟨by simp [HN.out HE.out], hst.drew⟩
   ·go_wp2
    go_ret
    refine ⟨?_, hst⟩
    have e : xs = ys := by
     have := HT.out
     rwa [List.take_of_length_le (by omega), List.take_of_length_le (by have := HL.out; omega)] at this
    simp [e]
 ·have hb : ((xs.length : Int) != ys.length) = true := by simp; omega
  go_enter Tryz.func24, Tryz.ntmps24
  go_wp2
  go_ret
  refine ⟨?_, Still.refl _⟩
  have hne : xs ≠ ys := fun h => hlen (by rw [h])
  simp [hne]
theorem Own.later {w w' : World} {v : Value} {xs : List Int} (h : Own w v xs) (hb : Below w.heap.size w w') : Own w' v xs := h.kept fun k hk => hb.block k (h.lt k hk)
theorem open_any (k : Int) (ao : Option Addr) (N cap : Nat) (xs : List Int) (w : World) (hN : N = xs.length) (hk0 : 0 <= k) (hk1 : k <= 255) (hl : xs.length <= 140737488355328) (hcap : xs.length <= cap) (hm : Magic w) (hr : RowAt w ao xs) :
  Calls Tryz.prog 78 #[.int .u8 k, .slice ao N cap] w (OpenEnds k xs w) := by
 subst hN
 by_cases h : (checkHead k xs).1 = 0
 ·have hne : xs ≠ [] := by intro e; subst e; simp [checkHead, headBytes, chk] at h
  obtain ⟨b, off, rfl, _⟩ := hr.2 hne
  by_cases hc : 4 < cap
  ·exact open_rest k b off cap xs w hk0 hk1 hl hcap hc hm hr h
  ·obtain ⟨rest, hx, _⟩ := chk_none k xs h
   have h4 : 4 <= xs.length := by rw [hx]; simp [headBytes]
   have e4 : xs.length = 4 := by omega
   have ec : cap = 4 := by omega
   subst ec
   have := open_four k b off xs w hk0 hk1 e4 hm hr h
   rw [e4]
   exact this
 ·exact open_head k ao cap xs w hk0 hk1 hl hm hr h
theorem same_at (ao bo : Option Addr) (n m ca cb : Nat) (xs ys : List Int) (w : World) (hn : n = xs.length) (hm : m = ys.length) (hl : xs.length <= 140737488355328) (hl2 : ys.length <= 140737488355328) (hr : RowAt w ao xs) (hs : RowAt w bo ys) :
  Calls Tryz.prog 24 #[.slice ao n ca, .slice bo m cb] w fun e w' => e = .returned (.bool (decide (xs = ys))) /\ Still w w' := by
 subst hn; subst hm
 exact same_any ao bo ca cb xs ys w hl hl2 hr hs
theorem same_true (ao bo : Option Addr) (n m ca cb : Nat) (xs : List Int) (w : World) (hn : n = xs.length) (hm : m = xs.length) (hl : xs.length <= 140737488355328) (hr : RowAt w ao xs) (hs : RowAt w bo xs) :
  Calls Tryz.prog 24 #[.slice ao n ca, .slice bo m cb] w fun e w' => e = .returned (.bool true) /\ Still w w' := by
 have h := same_at ao bo n m ca cb xs xs w hn hm hl hl hr hs
 simpa using h
theorem seal_at (k : Int) (ao : Option Addr) (N cap : Nat) (xs : List Int) (w : World) (hN : N = xs.length) (hk0 : 0 <= k) (hk1 : k <= 255) (hl : xs.length <= 16777216) (hm : Magic w) (hr : RowAt w ao xs) (hn : ao = none -> cap = 0) :
  Calls Tryz.prog 72 #[.int .u8 k, .slice ao N cap] w fun e w' => ∃ g N c, e = .returned (.tuple #[.slice (some ⟨g, 0, none⟩) N c, .int .i64 0]) /\ Own w' (.slice (some ⟨g, 0, none⟩) N c) (frame k xs) /\ w.heap.size <= g /\ Below w.heap.size w w' := by
 subst hN; exact seal_any k ao cap xs w hk0 hk1 hl hm hr hn
theorem own_cap {w : World} {a : Option Addr} {N c : Nat} {xs : List Int} (h : Own w (.slice a N c) xs) : xs.length <= c := by
 rcases h.2.2 with ⟨e, hn⟩ | ⟨g, cap, cur, e, _, _, hnc, _⟩
 ·simp only [Value.slice.injEq] at e
  obtain ⟨rfl, rfl, rfl⟩ := e
  have := h.1
  omega
 ·simp only [Value.slice.injEq] at e
  obtain ⟨rfl, rfl, rfl⟩ := e
  exact hnc
theorem winv_new (w : World) : WInv ((w.alloc (.cells #[.slice none 0 0, .int .i64 0] 195)).alloc (.cells #[.pointer (some ⟨w.heap.size, 0, none⟩)] 197)) (w.heap.size + 1) w.heap.size (.slice none 0 0) [] 0 := by
 refine ⟨?_, ?_, Own.nil _⟩
 ·have := heap_alloc_new (w.alloc (.cells #[.slice none 0 0, .int .i64 0] 195)) (.cells #[.pointer (some ⟨w.heap.size, 0, none⟩)] 197)
  simpa using this
 ·rw [Below.heap_alloc _ _ _ (by simp)]
  exact heap_alloc_new w _
theorem below_two (w : World) (o p : Obj) : Below w.heap.size w ((w.alloc o).alloc p) := (below_alloc w o).trans ((below_alloc (w.alloc o) p).mono (by simp))
theorem nil_own (B : Nat) : ∀ k, (Value.slice none 0 0).ownBlock = some k -> B <= k := fun k hk => by simp [Value.ownBlock] at hk
theorem own_set {w : World} {g N c : Nat} {xs : List Int} (h : Own w (.slice (some ⟨g, 0, none⟩) N c) xs) (i : Nat) (hi : i < xs.length) (u : Int) (h0 : 0 <= u) (h1 : u <= 255) : Own (w.setCell ⟨g, i, none⟩ (.int .u8 u)) (.slice (some ⟨g, 0, none⟩) N c) (xs.set i u) := by
 obtain ⟨hN, _, _⟩ := own_len h
 subst hN
 rcases h.2.2 with ⟨e, _⟩ | ⟨g', cap, cur, e, _, hg, hnc, hm, hs, ht⟩
 ·simp at e
 ·simp only [Value.slice.injEq, Option.some.injEq, Addr.mk.injEq, true_and, and_true] at e
  obtain ⟨rfl, rfl⟩ := e
  refine ⟨fun x hx => ?_, by simp, .inr ⟨g, c, cur.setIfInBounds i (.int .u8 u), by simp, Nat.zero_le _, heap_set hg i _, by simpa using hnc, hm, by simpa using hs, ?_⟩⟩
  ·rcases List.mem_or_eq_of_mem_set hx with q | q
   ·exact h.1 x q
   ·omega
  ·simp only [Array.toList_setIfInBounds, List.length_set, Nat.mul_one] at ht ⊢
   rw [List.take_set, ht]
   simp [vals, List.map_set]
theorem own_some {w : World} {v : Value} {xs : List Int} (h : Own w v xs) (hn : xs ≠ []) : ∃ g N c, v = .slice (some ⟨g, 0, none⟩) N c := by
 refine own_shape h fun e => ?_
 subst e
 have := (own_len h).1
 exact hn (List.eq_nil_of_length_eq_zero this.symm)
end Go.Proofs.YtmkakdfdfdcncaaGreatDoor.C
