import Derived.Test.YtaiebnppfabfgaaPTR4
namespace Go.Proofs.Ytaiebnppfabfgaa
set_option linter.unusedVariables false
set_option maxRecDepth 100000
set_option maxHeartbeats 16000000
open Go.RowKit
theorem t7_R (n : Int) (w : World) : Calls Try.prog 46 #[.int .i64 n] w fun e w' => e = .returned (.agg #[.int .i64 1, .int .i64 n]) /\ Below w.heap.size w w' := by
 go_enter Try.func46, Try.ntmps46
 go_wp2
 refine bodyPost_ret (v := .agg #[.int .i64 1, .int .i64 n]) (by simp [results, Try.results46, go_sem]) rfl ?_
 exact ⟨rfl, below_alloc _ _⟩
theorem n7_R (n : Int) (w : World) : Calls Try.prog 24 #[.int .i64 n] w fun e w' => e = .returned (.agg #[.int .i64 2, .int .i64 n]) /\ Below w.heap.size w w' := by
 go_enter Try.func24, Try.ntmps24
 go_wp2
 refine bodyPost_ret (v := .agg #[.int .i64 2, .int .i64 n]) (by simp [results, Try.results24, go_sem]) rfl ?_
 exact ⟨rfl, below_alloc _ _⟩
def offY (d : Int) (M : List Bool) (k : Nat) : List (Int × Int) := (offU false M k).map fun i => (d, i)
theorem offY_succ (d : Int) (M : List Bool) (k : Nat) : offY d M (k + 1) = if M.getD k false = false then offY d M k ++ [(d, (k : Int))] else offY d M k := by
 unfold offY
 rw [offU_succ]
 split
 ·rw [List.map_append]; rfl
 ·rfl
theorem offY_len (d : Int) (M : List Bool) (k : Nat) : (offY d M k).length <= k := by
 unfold offY
 rw [List.length_map]
 exact offU_len _ _ _
def SymO (w : World) (P : List (Int × Int) -> Prop) (E : Int) (e : Ending) (w' : World) : Prop := ∃ a c l, e = .returned (.tuple #[.slice a l.length c, .int .i64 E]) /\ P l /\ SymRow w' a l /\ Below w.heap.size w w'
theorem unreached_R (g : GV) (w : World) (h : GAt 140737488355328 w g) (at_ : Int) (hE : checkG g (checkF g.ts g.ns) = (0, at_)) :
  Calls Try.prog 25 #[g.val] w fun e w' => SymO w (fun l => ∃ T N, RLst g T N /\ l = offY 1 T g.ts.length ++ offY 2 N g.ns.length) 0 e w' := by
 have ok : OkC g := OkC.of (by rw [hE])
 have X0 : Hid ((w.alloc (gBox g)).heap[w.heap.size]? = some (gBox g)) := heap_alloc_new _ _
 have MY : Hid (Calls Try.prog 8 #[g.val] (w.alloc (gBox g)) fun e w' => e = .returned (.int .i64 0) /\ Below (w.alloc (gBox g)).heap.size (w.alloc (gBox g)) w') := by
  have := refmay_G g _ (h.later (below_alloc w (gBox g)))
  rwa [hE] at this
 have HFG : Hid (∀ w', Below w.heap.size w w' -> FG w' g) := fun w' hb => ok.fg (h.later hb)
 have HST : Hid (0 <= g.start /\ g.start < g.ns.length) := ok.st
 obtain ⟨x0, x1, x2, x3, x4⟩ := gb_cells X0.out
 have hnl := ok.nl.2
 have htl := ok.tl.2
 have t1 : ((0 : Int) != 0) = false := by decide
 clear h hE ok
 go_enter Try.func25, Try.ntmps25
 go_wp2_with (first
  | (go_at_call 8; refine MY.out.mono ?_; rintro e w2 ⟨rfl, b2⟩; have B2 : Hid (Below w.heap.size w w2 /\ w2.heap[w.heap.size]? = some (gBox g)) := ⟨(below_alloc w _).trans (b2.mono (below_alloc w _).size), (b2.block _ (lt_of_block X0.out)).trans X0.out⟩; clear b2 x0 x1 x2 x3 x4; obtain ⟨x0, x1, x2, x3, x4⟩ := gb_cells B2.out.2)
  | (go_at_call 45; refine (reached_R g _ (HFG.out _ B2.out.1) HST.out).mono ?_; rintro e w3 ⟨tb, nb, T, N, rfl, m3, bt3, bn3, l3, l4, b3⟩; have B3 : Hid (RLst g T N /\ BB w3 tb T /\ BB w3 nb N /\ Below w.heap.size w w3) := ⟨m3, bt3, bn3, B2.out.1.trans (b3.mono B2.out.1.size)⟩; clear m3 bt3 bn3 l3 l4 b3 x0 x1 x2 x3 x4))
 go_loopw [7, 8] (fun v i wr => ∃ k : Nat, k <= g.ts.length /\ i = .int .i64 k /\ SY wr v (offY 1 T k) /\ (∀ j, v.ownBlock = some j -> w3.heap.size <= j) /\ Below w3.heap.size w3 wr) (fun _ i _ => g.ts.length - (intOf i).toNat)
 case atStart => exact ⟨0, Nat.zero_le _, rfl, SY.nil _, (fun j hj => by simp [Value.ownBlock] at hj), Below.refl _ _⟩
 case round =>
  obtain ⟨k, hk, rfl, hI, hv, hB⟩ := hrel
  obtain ⟨va, vc, rfl⟩ := sy_len hI
  have HB : Hid (Below w3.heap.size w3 wr) := hB
  by_cases hlt : k < g.ts.length
  ·have klt : (k : Int) < (g.ts.length : Int) := by omega
   have cm := (B3.out.2.1.later hB).cell (i := k) (by rw [B3.out.1.tl]; exact hlt)
   have hst : Hid _ := offY_succ 1 T k
   have hrl := offY_len 1 T k
   generalize hR : offY 1 T k = R at *
   obtain ⟨mv, hmv⟩ : ∃ mv, T.getD k false = mv := ⟨_, rfl⟩
   rw [hmv] at cm
   have HMV : Hid (T.getD k false = mv) := hmv
   clear hmv
   cases mv
   ·have HI : Hid (SY wr (.slice va R.length vc) R) := hI
    have HV : Hid (∀ j, (Value.slice va R.length vc).ownBlock = some j -> w3.heap.size <= j) := hv
    have HLT : Hid (R.length <= 2000000) := by show _ <= _; omega
    have E : Hid (offY 1 T (k + 1) = R ++ [(1, (k : Int))]) := by show _ = _; rw [hst.out, if_pos HMV.out]
    clear hst hI hv hB hrl
    go_wp2_with (first
     | (go_at_call 46; refine (t7_R _ _).mono ?_; rintro e wt ⟨rfl, bt⟩; have BT : Hid (Below wr.heap.size wr wt) := bt; clear bt cm)
     | (at_builtin; refine wpList_sy_append rfl _ _ rfl (.slice va R.length vc) R rfl ((HI.out.later BT.out).later (below_alloc _ _)) wt.heap.size 1 1 k rfl (by simp) (by simp) HLT.out ?_; intro a4 n4 c4 w4 ho4 hg4))
    obtain ⟨q1, q2⟩ := grew_belowI ((HB.out.trans (BT.out.mono HB.out.size)).alloc (HB.out.trans (BT.out.mono HB.out.size)).size _) HV.out hg4
    have R4 : Hid (SY w4 (.slice a4 n4 c4) (offY 1 T (k + 1)) /\ (∀ j, (Value.slice a4 n4 c4).ownBlock = some j -> w3.heap.size <= j) /\ Below w3.heap.size w3 w4) := ⟨by rw [E.out]; exact ho4, q2, q1⟩
    clear q1 q2 ho4 hg4
    go_roundw
    case rel => exact ⟨k + 1, by omega, by go_num, R4.out⟩
    case measure => simp [intOf]; omega
   ·have E : Hid (SY wr (.slice va R.length vc) (offY 1 T (k + 1)) /\ (∀ j, (Value.slice va R.length vc).ownBlock = some j -> w3.heap.size <= j) /\ Below w3.heap.size w3 wr) := ⟨by rw [hst.out, if_neg (by rw [HMV.out]; decide)]; exact hI, hv, hB⟩
    clear hst hI hv hB hrl
    go_wp2
    go_roundw
    case rel => exact ⟨k + 1, by omega, by go_num, E.out⟩
    case measure => simp [intOf]; omega
  ·obtain rfl : k = g.ts.length := by omega
   have R0 : Hid (SY wr (.slice va (offY 1 T g.ts.length).length vc) (offY 1 T g.ts.length) /\ (∀ j, (Value.slice va (offY 1 T g.ts.length).length vc).ownBlock = some j -> w3.heap.size <= j) /\ Below w3.heap.size w3 wr) := ⟨hI, hv, hB⟩
   have hyl := offY_len 1 T g.ts.length
   clear hI hv hB HB
   generalize hY : offY 1 T g.ts.length = Y at *
   have HY : Hid (offY 1 T g.ts.length = Y) := hY
   clear hY
   obtain ⟨wz, rfl⟩ : ∃ wz : World, wz = wr := ⟨_, rfl⟩
   go_wp2
   go_loopw [7, 9] (fun v i wr => ∃ k : Nat, k <= g.ns.length /\ i = .int .i64 k /\ SY wr v (Y ++ offY 2 N k) /\ (∀ j, v.ownBlock = some j -> w3.heap.size <= j) /\ Below w3.heap.size w3 wr) (fun _ i _ => g.ns.length - (intOf i).toNat)
   case atStart => exact ⟨0, Nat.zero_le _, rfl, by rw [show offY 2 N 0 = [] from rfl, List.append_nil]; exact R0.out.1, R0.out.2⟩
   case round =>
    clear R0
    obtain ⟨k, hk, rfl, hI, hv, hB⟩ := hrel
    obtain ⟨va, vc, rfl⟩ := sy_len hI
    have HB : Hid (Below w3.heap.size w3 wr) := hB
    by_cases hlt : k < g.ns.length
    ·have klt : (k : Int) < (g.ns.length : Int) := by omega
     have cm := (B3.out.2.2.1.later hB).cell (i := k) (by rw [B3.out.1.nl]; exact hlt)
     have hst : Hid _ := offY_succ 2 N k
     have hrl : (Y ++ offY 2 N k).length <= 128 := by
      have := offY_len 2 N k
      rw [List.length_append]; omega
     have hst2 : Hid (Y ++ offY 2 N (k + 1) = if N.getD k false = false then (Y ++ offY 2 N k) ++ [(2, (k : Int))] else Y ++ offY 2 N k) := by
      show _ = _
      rw [hst.out]
      split
      ·rw [List.append_assoc]
      ·rfl
     clear hst
     generalize Y ++ offY 2 N k = R at *
     obtain ⟨mv, hmv⟩ : ∃ mv, N.getD k false = mv := ⟨_, rfl⟩
     rw [hmv] at cm
     have HMV : Hid (N.getD k false = mv) := hmv
     clear hmv
     cases mv
     ·have HI : Hid (SY wr (.slice va R.length vc) R) := hI
      have HV : Hid (∀ j, (Value.slice va R.length vc).ownBlock = some j -> w3.heap.size <= j) := hv
      have HLT : Hid (R.length <= 2000000) := by show _ <= _; omega
      have E : Hid (Y ++ offY 2 N (k + 1) = R ++ [(2, (k : Int))]) := by show _ = _; rw [hst2.out, if_pos HMV.out]
      clear hst2 hI hv hB hrl
      go_wp2_with (first
       | (go_at_call 24; refine (n7_R _ _).mono ?_; rintro e wt ⟨rfl, bt⟩; have BT : Hid (Below wr.heap.size wr wt) := bt; clear bt cm)
       | (at_builtin; refine wpList_sy_append rfl _ _ rfl (.slice va R.length vc) R rfl ((HI.out.later BT.out).later (below_alloc _ _)) wt.heap.size 1 2 k rfl (by simp) (by simp) HLT.out ?_; intro a4 n4 c4 w4 ho4 hg4))
      obtain ⟨q1, q2⟩ := grew_belowI ((HB.out.trans (BT.out.mono HB.out.size)).alloc (HB.out.trans (BT.out.mono HB.out.size)).size _) HV.out hg4
      have R4 : Hid (SY w4 (.slice a4 n4 c4) (Y ++ offY 2 N (k + 1)) /\ (∀ j, (Value.slice a4 n4 c4).ownBlock = some j -> w3.heap.size <= j) /\ Below w3.heap.size w3 w4) := ⟨by rw [E.out]; exact ho4, q2, q1⟩
      clear q1 q2 ho4 hg4
      go_roundw
      case rel => exact ⟨k + 1, by omega, by go_num, R4.out⟩
      case measure => simp [intOf]; omega
     ·have E : Hid (SY wr (.slice va R.length vc) (Y ++ offY 2 N (k + 1)) /\ (∀ j, (Value.slice va R.length vc).ownBlock = some j -> w3.heap.size <= j) /\ Below w3.heap.size w3 wr) := ⟨by rw [hst2.out, if_neg (by rw [HMV.out]; decide)]; exact hI, hv, hB⟩
      clear hst2 hI hv hB hrl
      go_wp2
      go_roundw
      case rel => exact ⟨k + 1, by omega, by go_num, E.out⟩
      case measure => simp [intOf]; omega
    ·obtain rfl : k = g.ns.length := by omega
     have R : Hid (SymRow wr va (Y ++ offY 2 N g.ns.length) /\ Below w.heap.size w wr) := ⟨hI.row, B3.out.2.2.2.trans (hB.mono B3.out.2.2.2.size)⟩
     clear hI hv hB
     go_wp2
     refine bodyPost_ret (results_tmp2 rfl _ _ _) rfl ?_
     exact ⟨va, vc, _, rfl, ⟨T, N, B3.out.1, by rw [HY.out]⟩, R.out⟩
end Go.Proofs.Ytaiebnppfabfgaa
