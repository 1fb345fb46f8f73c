import Derived.Test.YtfgfkchhkbkplaaGreatDoorPGEncToBack0
namespace Go.Proofs.YtfgfkchhkbkplaaGreatDoor.C
set_option linter.unusedVariables false
open Go.RowKit
section
variable {w : World} {r : Nat} {ao : Option Addr} {N cap : Nat} {xs : List Int} {pos : Nat} {err : Int}
def REnds (r : Nat) (ao : Option Addr) (N cap : Nat) (xs : List Int) (v : Value) (p : Nat) (e : Int) (w : World) (x : Ending) (w' : World) : Prop :=
 x = .returned v /\ RInv w' r ao N cap xs p e /\ ROnly w w' r
end
section
variable {w : World} {r : Nat} {ao : Option Addr} {N cap : Nat} {xs : List Int} {pos : Nat} {err : Int}
set_option maxRecDepth 100000 in
set_option maxHeartbeats 800000 in
theorem pcount_none (least most : Int) (h : RInv w r ao N cap xs pos err) (hne : (err == 0) = false) (hm1 : most <= 9223372036854775807) (hl1 : least <= 9223372036854775807) :
  Calls Tryz.prog 161 #[.pointer (some ⟨r, 0, none⟩), .int .i64 least, .int .i64 most] w (PeekEnds r ao N cap xs pos 0 0 err w) := by
 have h1 := h.later (below_alloc w (.cells #[.int .u64 0, .int .i64 0] 242))
 have hrl := h.lt
 have fin := ROnly.ofBelow (r := r) (below_alloc w (.cells #[.int .u64 0, .int .i64 0] 242))
 by_cases hl : least < 1
 ·go_enter Tryz.func161, Tryz.ntmps161
  go_wp2_with (go_at_call 157; refine (rfail_no 1 h1 hne).mono ?_; rintro e w' ⟨rfl, rfl⟩)
  go_returns
  exact ⟨rfl, h1, fin⟩
 by_cases hm : most < 0
 ·go_enter Tryz.func161, Tryz.ntmps161
  go_wp2_with (go_at_call 157; refine (rfail_no 1 h1 hne).mono ?_; rintro e w' ⟨rfl, rfl⟩)
  go_returns
  exact ⟨rfl, h1, fin⟩
 have hrne : r ≠ w.heap.size := by omega
 have hN : N <= 140737488355328 := by rw [h.len]; exact h.lim
 have hpN : (pos : Int) <= N := by have := h.pos; have := h.len; omega
 have hq0 : 0 <= ((N : Int) - pos) / least := Int.ediv_nonneg (by omega) (by omega)
 have hq1 : ((N : Int) - pos) / least <= 140737488355328 := Int.le_trans (Int.ediv_le_self _ (by omega)) (by omega)
 have hle : ¬ ((N : Int) - pos) / least < 0 := by omega
 go_enter Tryz.func161, Tryz.ntmps161
 go_wp2_with (go_at_call 174; refine (peek_none most h1 hne).mono ?_; rintro e2 w2 ⟨rfl, hR2, hO2⟩; have hB2 := hO2.own2 hrl; obtain ⟨q0, q1, q2, q3⟩ := cells2 hB2; have hz2 : w.heap.size < w2.heap.size := lt_of_block hB2)
 have hR3 := hR2.later (below_alloc w2 (.cells #[.int .u64 0, .int .i64 0] 242))
 go_quiet ((go_at_call 122; exact Calls.quiet_of (rleft_any (hR3.drewN _))))
 go_wp2
 go_quiet (fail)
 go_wp2
 refine bodyPost_ret (v := .agg #[.int .u64 0, .int .i64 0]) (by simp [results, Tryz.results161, go_sem, q0, q1, hz2]) rfl ?_
 exact ⟨rfl, h.patched (hR3.drewN _) (two_sets _ _ _ _), ((ROnly.ofBelow (below_alloc w _)).trans (hO2.trans (ROnly.ofBelow (below_drewN (below_alloc w2 _) _)))).patched (two_sets _ _ _ _)⟩
set_option maxRecDepth 100000 in
theorem count_none (least most : Int) (h : RInv w r ao N cap xs pos err) (hne : (err == 0) = false) (hm1 : most <= 9223372036854775807) (hl1 : least <= 9223372036854775807) :
  Calls Tryz.prog 121 #[.pointer (some ⟨r, 0, none⟩), .int .i64 least, .int .i64 most] w (REnds r ao N cap xs (.int .i64 0) pos err w) := by
 go_enter Tryz.func121, Tryz.ntmps121
 go_wp2_with (first
  | (go_at_call 161; refine (pcount_none least most h hne hm1 hl1).mono ?_; rintro e2 w2 ⟨rfl, hR2, hO2⟩)
  | (go_at_call 162; refine (rmove_none).mono ?_; rintro e w' ⟨rfl, rfl⟩))
 go_ret
 exact ⟨rfl, hR2.later (below_alloc _ _), hO2.trans (ROnly.ofBelow (below_alloc w2 _))⟩
set_option maxRecDepth 100000 in
theorem rtext_none (most : Int) (h : RInv w r ao N cap xs pos err) (hne : (err == 0) = false) (hm1 : most <= 9223372036854775807) :
  Calls Tryz.prog 119 #[.pointer (some ⟨r, 0, none⟩), .int .i64 most] w (REnds r ao N cap xs (.string .empty) pos err w) := by
 have hl1 : (1 : Int) <= 9223372036854775807 := by decide
 go_enter Tryz.func119, Tryz.ntmps119
 go_wp2_with (go_at_call 161; refine (pcount_none 1 most h hne hm1 hl1).mono ?_; rintro e w2 ⟨rfl, hR2, hO2⟩)
 go_ret
 exact ⟨rfl, hR2.later (below_alloc _ _), hO2.trans (ROnly.ofBelow (below_alloc w2 _))⟩
set_option maxRecDepth 100000 in
theorem rtext_err (most : Int) (h : RInv w r ao N cap xs pos 0) (hm0 : -9223372036854775808 <= most) (hm1 : most <= 9223372036854775807) (e : Int) (hc : countS xs pos 1 most = (0, 0, e)) :
  Calls Tryz.prog 119 #[.pointer (some ⟨r, 0, none⟩), .int .i64 most] w (REnds r ao N cap xs (.string .empty) pos e w) := by
 have hl1 : (1 : Int) <= 9223372036854775807 := by decide
 have HC : Hid _ := hc
 clear hc
 go_enter Tryz.func119, Tryz.ntmps119
 go_wp2_with (go_at_call 161; refine (pcount_eq 1 most h hm0 hm1 hl1 0 0 e HC.out).mono ?_; rintro x w2 ⟨rfl, hR2, hO2⟩)
 go_ret
 exact ⟨rfl, hR2.later (below_alloc _ _), hO2.trans (ROnly.ofBelow (below_alloc w2 _))⟩
end
end Go.Proofs.YtfgfkchhkbkplaaGreatDoor.C
