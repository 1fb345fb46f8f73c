import Derived.Test.YtaiebnppfabfgaaPTR2
import Derived.Test.YtaiebnppfabfgaaPGCheckR
namespace Go.Proofs.Ytaiebnppfabfgaa
set_option linter.unusedVariables false
set_option maxRecDepth 100000
set_option maxHeartbeats 16000000
open Go.RowKit
theorem fruit_R (g : GV) (w : World) (hfg : FG w g) :
  Calls Try.prog 44 #[g.val] w fun e w' => ∃ b M, e = .returned (.slice (some ⟨b, 0, none⟩) g.ns.length g.ns.length) /\ MLst g.ps g.ns.length true M /\ BB w' b M /\ w.heap.size <= b /\ Below w.heap.size w w' := by
 have X0 : Hid ((w.alloc (gBox g)).heap[w.heap.size]? = some (gBox g)) := heap_alloc_new _ _
 obtain ⟨x0, x1, x2, x3, x4⟩ := gb_cells X0.out
 have LC : Hid (Calls Try.prog 62 #[g.val, .bool true] (w.alloc (gBox g)) fun e w' => ∃ b M, e = .returned (.slice (some ⟨b, 0, none⟩) g.ns.length g.ns.length) /\ MLst g.ps g.ns.length true M /\ BB w' b M /\ (w.alloc (gBox g)).heap.size <= b /\ Below (w.alloc (gBox g)).heap.size (w.alloc (gBox g)) w') := least_R g true _ (hfg.later (below_alloc _ _))
 clear hfg
 go_enter Try.func44, Try.ntmps44
 go_wp2_with (go_at_call 62; refine LC.out.mono ?_; rintro e w2 ⟨b, M, rfl, m2, bb2, l2, b2⟩; have B2 : Hid (MLst g.ps g.ns.length true M /\ BB w2 b M /\ w.heap.size <= b /\ Below w.heap.size w w2) := ⟨m2, bb2, Nat.le_trans (below_alloc w (gBox g)).size l2, (below_alloc w _).trans (b2.mono (below_alloc w _).size)⟩; clear m2 bb2 l2 b2)
 go_ret
 exact ⟨b, M, rfl, B2.out⟩
theorem null7_R (g : GV) (w : World) (hfg : FG w g) :
  Calls Try.prog 63 #[g.val] w fun e w' => ∃ b M, e = .returned (.slice (some ⟨b, 0, none⟩) g.ns.length g.ns.length) /\ MLst g.ps g.ns.length false M /\ BB w' b M /\ w.heap.size <= b /\ Below w.heap.size w w' := by
 have X0 : Hid ((w.alloc (gBox g)).heap[w.heap.size]? = some (gBox g)) := heap_alloc_new _ _
 obtain ⟨x0, x1, x2, x3, x4⟩ := gb_cells X0.out
 have LC : Hid (Calls Try.prog 62 #[g.val, .bool false] (w.alloc (gBox g)) fun e w' => ∃ b M, e = .returned (.slice (some ⟨b, 0, none⟩) g.ns.length g.ns.length) /\ MLst g.ps g.ns.length false M /\ BB w' b M /\ (w.alloc (gBox g)).heap.size <= b /\ Below (w.alloc (gBox g)).heap.size (w.alloc (gBox g)) w') := least_R g false _ (hfg.later (below_alloc _ _))
 clear hfg
 go_enter Try.func63, Try.ntmps63
 go_wp2_with (go_at_call 62; refine LC.out.mono ?_; rintro e w2 ⟨b, M, rfl, m2, bb2, l2, b2⟩; have B2 : Hid (MLst g.ps g.ns.length false M /\ BB w2 b M /\ w.heap.size <= b /\ Below w.heap.size w w2) := ⟨m2, bb2, Nat.le_trans (below_alloc w (gBox g)).size l2, (below_alloc w _).trans (b2.mono (below_alloc w _).size)⟩; clear m2 bb2 l2 b2)
 go_ret
 exact ⟨b, M, rfl, B2.out⟩
def offU (v : Bool) (M : List Bool) (k : Nat) : List Int := ((List.range k).filter fun i => decide (M.getD i false = v)).map fun (i : Nat) => (i : Int)
theorem offU_succ (v : Bool) (M : List Bool) (k : Nat) : offU v M (k + 1) = if M.getD k false = v then offU v M k ++ [(k : Int)] else offU v M k := by
 unfold offU
 rw [List.range_succ, List.filter_append, List.map_append]
 by_cases h : M.getD k false = v
 ·have e : List.filter (fun i => decide (M.getD i false = v)) [k] = [k] := by rw [List.filter_cons, if_pos (decide_eq_true h)]; rfl
  rw [if_pos h, e]; rfl
 ·have e : List.filter (fun i => decide (M.getD i false = v)) [k] = [] := by rw [List.filter_cons, if_neg (by rw [decide_eq_false h]; decide)]; rfl
  rw [if_neg h, e]; simp
theorem offU_len (v : Bool) (M : List Bool) (k : Nat) : (offU v M k).length <= k := by
 unfold offU
 rw [List.length_map]
 exact Nat.le_trans (List.length_filter_le _ _) (by simp)
def NumO (w : World) (P : List Int -> Prop) (E : Int) (e : Ending) (w' : World) : Prop := ∃ a c l, e = .returned (.tuple #[.slice a l.length c, .int .i64 E]) /\ P l /\ InRow w' a l /\ Below w.heap.size w w'
theorem barren_R (g : GV) (w : World) (h : GAt 140737488355328 w g) (at_ : Int) (hE : checkG g (checkF g.ts g.ns) = (0, at_)) :
  Calls Try.prog 23 #[g.val] w fun e w' => NumO w (fun l => ∃ M, MLst g.ps g.ns.length true M /\ l = offU false M g.ns.length) 0 e w' := by
 have ok : OkC g := OkC.of (by rw [hE])
 have X0 : Hid ((w.alloc (gBox g)).heap[w.heap.size]? = some (gBox g)) := heap_alloc_new _ _
 have MY : Hid (Calls Try.prog 8 #[g.val] (w.alloc (gBox g)) fun e w' => e = .returned (.int .i64 0) /\ Below (w.alloc (gBox g)).heap.size (w.alloc (gBox g)) w') := by
  have := refmay_G g _ (h.later (below_alloc w (gBox g)))
  rwa [hE] at this
 have HFG : Hid (∀ w', Below w.heap.size w w' -> FG w' g) := fun w' hb => ok.fg (h.later hb)
 obtain ⟨x0, x1, x2, x3, x4⟩ := gb_cells X0.out
 have hnl := ok.nl.2
 have t1 : ((0 : Int) != 0) = false := by decide
 clear h hE ok
 go_enter Try.func23, Try.ntmps23
 go_wp2_with (first
  | (go_at_call 8; refine MY.out.mono ?_; rintro e w2 ⟨rfl, b2⟩; have B2 : Hid (Below w.heap.size w w2 /\ w2.heap[w.heap.size]? = some (gBox g)) := ⟨(below_alloc w _).trans (b2.mono (below_alloc w _).size), (b2.block _ (lt_of_block X0.out)).trans X0.out⟩; clear b2 x0 x1 x2 x3 x4; obtain ⟨x0, x1, x2, x3, x4⟩ := gb_cells B2.out.2)
  | (go_at_call 44; refine (fruit_R g _ (HFG.out _ B2.out.1)).mono ?_; rintro e w3 ⟨mb, M, rfl, m3, bb3, l3, b3⟩; have B3 : Hid (MLst g.ps g.ns.length true M /\ BB w3 mb M /\ Below w.heap.size w w3) := ⟨m3, bb3, B2.out.1.trans (b3.mono B2.out.1.size)⟩; clear m3 bb3 l3 b3 x0 x1 x2 x3 x4))
 go_loopw [6, 7] (fun v i wr => ∃ k : Nat, k <= g.ns.length /\ i = .int .i64 k /\ IL wr v (offU false M k) /\ (∀ j, v.ownBlock = some j -> w3.heap.size <= j) /\ Below w3.heap.size w3 wr) (fun _ i _ => g.ns.length - (intOf i).toNat)
 case atStart => exact ⟨0, Nat.zero_le _, rfl, IL.nil _, (fun j hj => by simp [Value.ownBlock] at hj), Below.refl _ _⟩
 case round =>
  obtain ⟨k, hk, rfl, hI, hv, hB⟩ := hrel
  obtain ⟨va, vc, rfl⟩ := il_len hI
  have HB : Hid (Below w3.heap.size w3 wr) := hB
  by_cases hlt : k < g.ns.length
  ·have klt : (k : Int) < (g.ns.length : Int) := by omega
   have cm := (B3.out.2.1.later hB).cell (i := k) (by rw [B3.out.1.len]; exact hlt)
   have hst : Hid _ := offU_succ false M k
   have hrl := offU_len false M k
   generalize hR : offU false M k = R at *
   obtain ⟨mv, hmv⟩ : ∃ mv, M.getD k false = mv := ⟨_, rfl⟩
   rw [hmv] at cm
   have HMV : Hid (M.getD k false = mv) := hmv
   clear hmv
   cases mv
   ·have HIA : Hid (IL (wr.alloc (.cells #[.int .i64 k] 3)) (.slice va R.length vc) R) := hI.later (below_alloc _ _)
    have HV : Hid (∀ j, (Value.slice va R.length vc).ownBlock = some j -> w3.heap.size <= j) := hv
    have HLT : Hid (R.length <= 2000000) := by show _ <= _; omega
    have E : Hid (offU false M (k + 1) = R ++ [(k : Int)]) := by show _ = _; rw [hst.out, if_pos HMV.out]
    clear hst hI hv hB hrl
    go_wp2_with (at_builtin; refine wpList_il_append rfl _ _ rfl (.slice va R.length vc) R rfl HIA.out _ 1 k rfl (by simp) HLT.out ?_; intro a4 n4 c4 w4 ho4 hg4)
    obtain ⟨q1, q2⟩ := grew_belowI (HB.out.alloc HB.out.size _) HV.out hg4
    have R4 : Hid (IL w4 (.slice a4 n4 c4) (offU false M (k + 1)) /\ (∀ j, (Value.slice a4 n4 c4).ownBlock = some j -> w3.heap.size <= j) /\ Below w3.heap.size w3 w4) := ⟨by rw [E.out]; exact ho4, q2, q1⟩
    clear q1 q2 ho4 hg4
    go_roundw
    case rel => exact ⟨k + 1, by omega, by go_num, R4.out⟩
    case measure => simp [intOf]; omega
   ·have E : Hid (IL wr (.slice va R.length vc) (offU false M (k + 1)) /\ (∀ j, (Value.slice va R.length vc).ownBlock = some j -> w3.heap.size <= j) /\ Below w3.heap.size w3 wr) := ⟨by rw [hst.out, if_neg (by rw [HMV.out]; decide)]; exact hI, hv, hB⟩
    clear hst hI hv hB hrl
    go_wp2
    go_roundw
    case rel => exact ⟨k + 1, by omega, by go_num, E.out⟩
    case measure => simp [intOf]; omega
  ·obtain rfl : k = g.ns.length := by omega
   have R : Hid (InRow wr va (offU false M g.ns.length) /\ Below w.heap.size w wr) := ⟨IL.inrow hI, B3.out.2.2.trans (hB.mono B3.out.2.2.size)⟩
   clear hI hv hB
   go_wp2
   refine bodyPost_ret (results_tmp2 rfl _ _ _) rfl ?_
   exact ⟨va, vc, _, rfl, ⟨M, B3.out.1, rfl⟩, R.out⟩
end Go.Proofs.Ytaiebnppfabfgaa
