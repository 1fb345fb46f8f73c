import Derived.Test.YthgnhdnmcjpdmaaGreatDoorPGT11ToGT13
import Derived.RangeFuncBox
import Derived.RangeFuncLeaves
import Derived.Shelf.Abstract
import Derived.WalkKit
import Derived.OwnWalkIn
import Derived.TacticsInMore
import Derived.LoopNIn
import Derived.LoopIn
import Derived.Maps.AppendAt
import Derived.Test.YthgnhdnmcjpdmaaGreatDoorPGOkToSCheckR
namespace Go.Proofs.YthgnhdnmcjpdmaaGreatDoor
set_option linter.unusedVariables false
set_option maxRecDepth 100000
set_option maxHeartbeats 16000000
open Go.RowKit
def outU (n : Nat) (x : Int) : Bool := decide (x < 0) || decide ((n : Int) <= x)
structure BoxS (ao : Option Addr) (cap : Nat) (l : List Int) (gb : Nat) (w : World) : Prop where
 c : w.cell? ⟨gb, 0, none⟩ = some (.slice ao l.length cap)
 lt : gb < w.heap.size
theorem BoxS.later {ao : Option Addr} {cap : Nat} {l : List Int} {gb : Nat} {w w' : World} (h : BoxS ao cap l gb w) (hb : Below w.heap.size w w') : BoxS ao cap l gb w' := ⟨(hb.cell (p := ⟨gb, 0, none⟩) h.lt).trans h.c, Nat.lt_of_lt_of_le h.lt hb.size⟩
theorem within_c (ao : Option Addr) (cap : Nat) (l : List Int) (gb : Nat) (n : Int) (w : World) (hl : l.length <= 140737488355328) (hB : BoxS ao cap l gb w) :
  Calls Tryz.prog 73 #[.int .i64 n, .pointer (some ⟨gb, 0, none⟩)] w fun e w' => e = .returned (.bool (outU l.length n)) /\ Below w.heap.size w w' := by
 have c0 := hB.c
 clear hB
 by_cases h0 : n < 0
 ·have e1 : outU l.length n = true := by simp [outU, h0]
  rw [e1]
  clear e1
  go_enter Tryz.func73, Tryz.ntmps73
  go_wp2
  go_ret
  exact ⟨rfl, by go_grown⟩
 ·by_cases h1 : (l.length : Int) <= n
  ·have e1 : outU l.length n = true := by simp [outU, h1]
   rw [e1]
   clear e1
   go_enter Tryz.func73, Tryz.ntmps73
   go_wp2
   go_ret
   exact ⟨rfl, by go_grown⟩
  ·have e1 : outU l.length n = false := by simp [outU]; omega
   rw [e1]
   clear e1
   go_enter Tryz.func73, Tryz.ntmps73
   go_wp2
   go_ret
   exact ⟨rfl, by go_grown⟩
theorem idx_within (gb : Nat) (ao : Option Addr) (cap : Nat) (l : List Int) (w : World) (hl : l.length <= 140737488355328) (hr : InRow w ao l) (hB : BoxS ao cap l gb w) :
  Calls Tryz.prog 122 #[.slice ao l.length cap, .func (.func 73) #[] #[.pointer (some ⟨gb, 0, none⟩)]] w fun e w' => ∃ v, e = .returned (.int .i64 v) /\ ((l.any fun n => outU l.length n) = decide (0 <= v)) /\ Below w.heap.size w w' := by
 have HR : Hid (InRow w ao l) := hr
 clear hr
 have HB : Hid (BoxS ao cap l gb w) := hB
 clear hB
 go_enter Tryz.func122, Tryz.ntmps122
 go_wp2
 go_loopw [8] (fun z wr => ∃ k : Nat, k <= l.length /\ z = .int .i64 k /\ Below w.heap.size w wr /\ Hid (∀ j, j < k -> outU l.length (l.getD j 0) = false)) (fun z _ => l.length - (intOf z).toNat)
 case atStart => exact ⟨0, Nat.zero_le _, rfl, Below.refl _ _, fun j hj => by omega⟩
 case round =>
  obtain ⟨k, hk, rfl, hb, HA⟩ := hrel
  by_cases hlt : k < l.length
  ·obtain ⟨rb, ro, rfl, hrb, hrc⟩ := (HR.out.later hb) (by intro e; subst e; simp at hlt)
   have r0 := hrc k hlt
   have hm : l.getD k 0 ∈ l := getD_memI hlt
   have HIT : Hid (outU l.length (l.getD k 0) = true -> (l.any fun n => outU l.length n) = true) := fun e => any_hit (d := 0) hlt e
   have HST : Hid (outU l.length (l.getD k 0) = false -> ∀ j, j < k + 1 -> outU l.length (l.getD j 0) = false) := fun e j hj => by
    rcases Nat.lt_succ_iff_lt_or_eq.1 hj with r | rfl
    ·exact HA.out j r
    ·exact e
   have CS : Hid (Calls Tryz.prog 73 #[.int .i64 (l.getD k 0), .pointer (some ⟨gb, 0, none⟩)] wr fun e w' => e = .returned (.bool (outU l.length (l.getD k 0))) /\ Below wr.heap.size wr w') := within_c _ cap l gb _ wr hl (HB.out.later hb)
   have klt : (k : Int) < (l.length : Int) := by omega
   clear hrc hm HA
   generalize l.getD k 0 = n at *
   cases hin : (outU l.length n) with
   | true =>
    have HX : Hid _ := HIT.out hin
    have CS2 : Hid (Calls Tryz.prog 73 #[.int .i64 n, .pointer (some ⟨gb, 0, none⟩)] wr fun e w' => e = .returned (.bool true) /\ Below wr.heap.size wr w') := by have := CS.out; rw [hin] at this; exact this
    clear HIT HST hin CS
    go_wp2_with (go_at_call 73; refine CS2.out.mono ?_; rintro e w1 ⟨rfl, hb1⟩)
    go_ret
    exact ⟨_, rfl, by rw [HX.out]; simp, hb.trans (hb1.mono hb.size)⟩
   | false =>
    have HX : Hid _ := HST.out hin
    have CS2 : Hid (Calls Tryz.prog 73 #[.int .i64 n, .pointer (some ⟨gb, 0, none⟩)] wr fun e w' => e = .returned (.bool false) /\ Below wr.heap.size wr w') := by have := CS.out; rw [hin] at this; exact this
    clear HIT HST hin CS
    go_wp2_with (go_at_call 73; refine CS2.out.mono ?_; rintro e w1 ⟨rfl, hb1⟩)
    go_roundw
    case rel => exact ⟨k + 1, by omega, by go_num, hb.trans (hb1.mono hb.size), HX.out⟩
    case measure => simp [intOf]; omega
  ·have HX : Hid ((l.any fun n => outU l.length n) = false) := any_none 0 fun j hj => HA.out j (by omega)
   clear HA
   go_wp2
   go_ret
   exact ⟨-1, rfl, by rw [HX.out]; rfl, hb⟩
theorem contains_within (gb : Nat) (ao : Option Addr) (cap : Nat) (l : List Int) (w : World) (x : Bool) (hx : (l.any fun n => outU l.length n) = x) (hl : l.length <= 140737488355328) (hr : InRow w ao l) (hB : BoxS ao cap l gb w) :
  Calls Tryz.prog 72 #[.slice ao l.length cap, .func (.func 73) #[] #[.pointer (some ⟨gb, 0, none⟩)]] w fun e w' => e = .returned (.bool x) /\ Below w.heap.size w w' := by
 have HR : Hid (InRow w ao l) := hr
 have HX : Hid ((l.any fun n => outU l.length n) = x) := hx
 have HB : Hid (BoxS ao cap l gb w) := hB
 clear hB
 clear hx hr
 go_enter Tryz.func72, Tryz.ntmps72
 go_wp2_with (go_at_call 122; refine (idx_within gb ao cap l w hl HR.out HB.out).mono ?_; rintro e w1 ⟨v, rfl, hv', hb1⟩; have hv : Hid _ := hv'; clear hv')
 go_ret
 exact ⟨by have h1 := hv.out; have h2 := HX.out; rw [h2] at h1; rw [h1]; rfl, hb1⟩
theorem within_G (ao : Option Addr) (cap : Nat) (l : List Int) (w : World) (x : Bool) (hx : (l.any fun n => outU l.length n) = x) (hl : l.length <= 1048576) (hr : InRow w ao l) :
  Calls Tryz.prog 23 #[.slice ao l.length cap] w fun e w' => e = .returned (.bool (!x)) /\ Below w.heap.size w w' := by
 have HB : Hid (BoxS ao cap l w.heap.size (w.alloc (.cells #[.slice ao l.length cap] 27))) := ⟨(cellq_any (alloc_at _ _)).trans rfl, by simp⟩
 have HR : Hid (InRow (w.alloc (.cells #[.slice ao l.length cap] 27)) ao l) := hr.later (below_alloc _ _)
 have HX : Hid ((l.any fun n => outU l.length n) = x) := hx
 clear hx hr
 go_enter Tryz.func23, Tryz.ntmps23
 go_wp2_with (go_at_call 72; refine (contains_within w.heap.size ao cap l _ x HX.out (by omega) HR.out HB.out).mono ?_; rintro e w1 ⟨rfl, b1⟩)
 go_ret
 exact ⟨rfl, (below_alloc w _).trans (b1.mono (by simp))⟩
end Go.Proofs.YthgnhdnmcjpdmaaGreatDoor
namespace Go.Proofs.YthgnhdnmcjpdmaaGreatDoor
set_option linter.unusedVariables false
set_option maxRecDepth 100000
set_option maxHeartbeats 16000000
open Go.RowKit Go.Shelf
def comeU (zs : List Int) (k : Nat) : List Int := (List.range k).map fun j => zs.getD j 0
theorem comeU_succ (zs : List Int) (k : Nat) : comeU zs (k + 1) = comeU zs k ++ [zs.getD k 0] := by simp [comeU, List.range_succ]
theorem comeU_len (zs : List Int) (k : Nat) : (comeU zs k).length = k := by simp [comeU]
theorem comeU_all (zs : List Int) : comeU zs zs.length = zs := by
 apply List.ext_getElem
 ·simp [comeU]
 ·intro i h1 h2
  simp [comeU, h2, List.getD]
theorem values_run (F : Fence) (n : Nat) (h7 : F.fn 125) (hro : F.round = none) (hn : 1 <= n) (l Bs n₀ : Nat) (ao : Option Addr) (cap : Nat) (zs : List Int) (hz : zs.length <= 1048576) (J Jx : List Int -> World -> Prop)
  (hY : ∀ pre x W, J pre W -> pre.length < zs.length -> YieldAt F (n - 1) Tryz.prog l #[.int .i64 x] W fun e W' =>
   (e = .returned (.bool true) /\ J (pre ++ [x]) W' /\ Below n₀ W W') ∨ (e = .returned (.bool false) /\ Jx (pre ++ [x]) W'))
  (W : World) (hBs : W.cell? ⟨Bs, 0, none⟩ = some (.slice ao zs.length cap)) (hr : ∀ W', Below n₀ W W' -> InRow W' ao zs) (h0 : J [] W) :
  CallsIn F n Tryz.prog 125 #[.func (.yield l) #[] #[], .pointer (some ⟨Bs, 0, none⟩)] W fun e W' => (∃ v, e = .returned v) /\
   ((∃ ys, ys = zs /\ J ys W') ∨ (∃ pre, True /\ Jx pre W')) := by
 refine callsIn_of_wp Tryz.func125 rfl h7 ?_ hro
 simp only [Tryz.ntmps125, List.size_toArray, List.length_cons, List.length_nil, Nat.reduceAdd, Nat.reduceSub, Array.replicate_succ, Array.replicate_zero, List.push_toArray, List.append_toArray, List.nil_append, List.cons_append]
 gi_wp2
 gi_loopw [7] (fun i wr => ∃ k : Nat, k <= zs.length /\ i = .int .i64 k /\ J (comeU zs k) wr /\ Below n₀ W wr)
  (fun i _ => zs.length - (intOf i).toNat)
 case atStart => exact ⟨0, Nat.zero_le _, rfl, h0, Below.refl _ _⟩
 case round =>
  obtain ⟨k, hk, rfl, hJs, hnx⟩ := hrel
  by_cases hlt : k < zs.length
  ·obtain ⟨fn, tmps, assign, body, hy, hR⟩ := hY _ (zs.getD k 0) wr hJs (by rw [comeU_len]; exact hlt)
   obtain ⟨b, off, rfl, _, hc⟩ := hr wr hnx (by intro e; rw [e] at hlt; simp at hlt)
   have hcx := hc k hlt
   have HS : Hid (comeU zs (k + 1) = comeU zs k ++ [zs.getD k 0]) := comeU_succ zs k
   clear hc
   generalize zs.getD k 0 = x at *
   gi_wp2
   refine hR.mono ?_
   rintro e W3 (⟨rfl, hJ3, hk3⟩ | ⟨rfl, hJx3⟩)
   ·gi_wp2
    go_roundw
    case rel => exact ⟨k + 1, by omega, by simp, by rw [HS.out]; exact hJ3, hnx.trans hk3⟩
    case measure => simp [intOf]; omega
   ·gi_wp2
    refine bodyPost_ret (results_none rfl _ _ _) rfl ?_
    exact ⟨⟨_, rfl⟩, .inr ⟨_, trivial, hJx3⟩⟩
  ·obtain rfl : k = zs.length := by omega
   gi_wp2
   go_end0
   exact ⟨⟨_, rfl⟩, .inl ⟨_, comeU_all zs, hJs⟩⟩
theorem values_seq (F : Fence) (n : Nat) (h7 : F.fn 125) (hro : F.round = none) (hn : 1 <= n) (Bs : Nat) (ao : Option Addr) (cap : Nat) (zs : List Int) (hz : zs.length <= 1048576) (w0 w : World) (hb : Below w0.heap.size w0 w) (hBs : Bs < w.heap.size) (hc : w.cell? ⟨Bs, 0, none⟩ = some (.slice ao zs.length cap)) (hr : InRow w0 ao zs) :
  SeqStopsK F n Tryz.prog 125 #[.pointer (some ⟨Bs, 0, none⟩)] (fun x : Int => #[Value.int .i64 x]) (Below w0.heap.size) (fun ys => ys = zs) (fun _ => True) zs.length w := fun l J Jx W hW _ _ hY h0 =>
 values_run F n h7 hro hn l Bs w0.heap.size ao cap zs hz J Jx hY W ((hW.cell (p := ⟨Bs, 0, none⟩) hBs).trans hc) (fun _ hb' => hr.later ((hb.trans (hW.mono hb.size)).trans hb')) h0
theorem append_seq (F : Fence) (n : Nat) (h3 : F.fn 153) (h5 : F.fn 125) (hro : F.round = none) (hn : 3 <= n) (Bs : Nat) (ao : Option Addr) (cap : Nat) (zs : List Int) (hz : zs.length <= 1048576) (w : World) (hBs : Bs < w.heap.size) (hc : w.cell? ⟨Bs, 0, none⟩ = some (.slice ao zs.length cap)) (hr : InRow w ao zs) :
  CallsIn F n Tryz.prog 153 #[.slice none 0 0, .func (.func 125) #[] #[.pointer (some ⟨Bs, 0, none⟩)]] w fun e W' => ∃ v, e = .returned v /\ W'.ownsRow w.heap.size 3 1 v zs.length (zs.map (Value.int .i64)) /\ (v = .slice none 0 0 ↔ zs = []) /\ Below w.heap.size w W' := by
 have h1 : 1 <= n := by omega
 obtain ⟨i0, hi, hz0, hz1, hz2⟩ := infoInt_parts
 refine callsIn_of_wp_marks Tryz.func153 rfl h3 ?_ hro
 simp only [Tryz.ntmps153, List.size_toArray, List.length_cons, List.length_nil, Nat.reduceAdd, Nat.reduceSub, Array.replicate_succ, Array.replicate_zero, List.push_toArray, List.append_toArray, List.nil_append, List.cons_append]
 gi_wp2
 have bO := Boxed.new w 27 (.slice none 0 0)
 have hB0 : Below w.heap.size w (w.alloc (.cells #[.slice none 0 0] 27)) := (Below.refl _ w).alloc (Nat.le_refl _) _
 refine wpIn_rangeFunc_ownG hro h1 (gf := 125) (lb := #[.pointer (some ⟨Bs, 0, none⟩)]) rfl h5 (enters_of Tryz.func125 (by kernel_rfl) rfl)
  (values_seq F (n - 1) h5 hro (by omega) Bs ao cap zs hz w _ hB0 (by simp; omega) ((hB0.cell (p := ⟨Bs, 0, none⟩) hBs).trans hc) hr) belowK_t (belowK_b (by simp)) (Below.refl _ _) (fun _ => rfl)
  (fun pre W => (∃ v, Boxed W w.heap.size 27 v /\ W.ownsRow w.heap.size 3 1 v pre.length (pre.map (Value.int .i64)) /\ (v = .slice none 0 0 ↔ pre = [])) /\ Below w.heap.size w W)
  (fun _ _ _ => False)
  (OwnFrom.and (Own.from (holdsRow_own w.heap.size w.heap.size 27 3 1 (fun pre : List Int => pre.length) (fun pre => pre.map (Value.int .i64)) (fun pre v => v = .slice none 0 0 ↔ pre = [])) _) (ownFrom_below (Nat.le_refl _) (by simp)))
  (fun _ _ _ _ _ hs _ _ => hs)
  ⟨⟨_, bO, World.ownsRow_nil _ _ _ _, by simp⟩, hB0⟩
  (fun x => { tmps := #[.slice none 0 0, .func (.func 125) #[] #[.pointer (some ⟨Bs, 0, none⟩)], .pointer (some ⟨w.heap.size, 0, none⟩), undef, .slice none 0 0, .int .i64 x, .func (.func 125) #[] #[.pointer (some ⟨Bs, 0, none⟩)], .int .i64 x, undef, undef, undef, undef, undef], defers := [] }) ?assign ?body ?done ?stop
 case assign =>
  intro l x W K hK
  have hsa := @Oper.semAt_some
  gi_wp2
  exact hK
 case body =>
  rintro l pre x W ⟨⟨v, hv, hrow, hnil⟩, hB⟩ hlt
  have hcb := hv.cell
  have hsa := @Oper.semAt_some
  gi_wp2_with (gi_at_builtin; refine wpListIn_append_own _ rfl _ _ 27 rfl w.heap.size 3 i0 (.int .i64 0) 1 8 Tryz.underlying27 hi hz0 hz1 hz2 rfl (by decide) _ _ _ rfl (hrow.alloc _) ⟨W.heap.size, 0, none⟩ 1 1 [.int .i64 x] rfl rfl (cell_one_new _ _ _) (by simp [Value.oneCell']) (by unfold maxLen; omega) (by omega) (by have := hB.size; simp; omega) ?_; intro v' w1 hown' hgrow _; obtain ⟨g', cap', rfl⟩ := ownsRow_succ hown'; obtain ⟨hv1, hv2, hr2, hk2, hb2⟩ := hv.appended (by decide) hrow hB.size (Nat.le_refl _) hown' hgrow; have hc1 := hv1.cell; have hf1 := hv1.frozen)
  exact ⟨hk2.from _, hb2, ⟨_, hv2, by simpa using hr2, by simp⟩, hB.trans hb2⟩
 case done =>
  rintro D ys W hD rfl ⟨⟨v, hv, hrow, hnil⟩, hB⟩ hK
  have hcb := hv.cell
  gi_wp2
  refine ⟨by simp, .inl ⟨_, _, rfl, run_takeDeferred hK, ?_⟩⟩
  exact ⟨_, results_tmp rfl _ _ _, v, rfl, ownsRow_putObj hrow _ hK rfl, hnil, hB.trans (belowK_b (w := w) (Nat.le_refl _) W D _ _ (by simp at hD; omega) hK rfl rfl)⟩
 case stop =>
  rintro D c pre W _ _ h _
  exact h.elim
end Go.Proofs.YthgnhdnmcjpdmaaGreatDoor
namespace Go.Proofs.YthgnhdnmcjpdmaaGreatDoor
set_option linter.unusedVariables false
set_option maxRecDepth 100000
set_option maxHeartbeats 16000000
open Go.RowKit Go.Shelf
theorem append_seqC (Bs : Nat) (ao : Option Addr) (cap : Nat) (zs : List Int) (hz : zs.length <= 1048576) (w : World) (hBs : Bs < w.heap.size) (hc : w.cell? ⟨Bs, 0, none⟩ = some (.slice ao zs.length cap)) (hr : InRow w ao zs) :
  Calls Tryz.prog 153 #[.slice none 0 0, .func (.func 125) #[] #[.pointer (some ⟨Bs, 0, none⟩)]] w fun e W' => ∃ v, e = .returned v /\ W'.ownsRow w.heap.size 3 1 v zs.length (zs.map (Value.int .i64)) /\ (v = .slice none 0 0 ↔ zs = []) /\ Below w.heap.size w W' :=
 (callsIn_wide (n := 3)).1 (append_seq Fence.wide 3 trivial trivial rfl (by omega) Bs ao cap zs hz w hBs hc hr)
theorem collect_G (Bs : Nat) (ao : Option Addr) (cap : Nat) (zs : List Int) (hz : zs.length <= 1048576) (w : World) (hBs : Bs < w.heap.size) (hc : w.cell? ⟨Bs, 0, none⟩ = some (.slice ao zs.length cap)) (hr : InRow w ao zs) :
  Calls Tryz.prog 123 #[.func (.func 125) #[] #[.pointer (some ⟨Bs, 0, none⟩)]] w fun e W' => ∃ v, e = .returned v /\ W'.ownsRow w.heap.size 3 1 v zs.length (zs.map (Value.int .i64)) /\ (v = .slice none 0 0 ↔ zs = []) /\ Below w.heap.size w W' := by
 have HH : Hid (w.cell? ⟨Bs, 0, none⟩ = some (.slice ao zs.length cap) /\ InRow w ao zs) := ⟨hc, hr⟩
 clear hc hr
 go_enter Tryz.func123, Tryz.ntmps123
 go_wp2_with (go_at_call 153; refine (append_seqC Bs ao cap zs hz _ hBs HH.out.1 HH.out.2).mono ?_; rintro e w1 ⟨v, rfl, h1, h2, h3⟩)
 go_ret
 exact ⟨v, rfl, h1, h2, h3⟩
theorem sorted_G (Bs : Nat) (ao : Option Addr) (cap : Nat) (zs : List Int) (hz : zs.length <= 1048576) (w : World) (hBs : Bs < w.heap.size) (hc : w.cell? ⟨Bs, 0, none⟩ = some (.slice ao zs.length cap)) (hr : InRow w ao zs) (L : List Int) (hL : sortU zs = L) (hne : zs ≠ []) :
  Calls Tryz.prog 74 #[.func (.func 125) #[] #[.pointer (some ⟨Bs, 0, none⟩)]] w fun e W' => ∃ b c, e = .returned (.slice (some ⟨b, 0, none⟩) zs.length c) /\ RB W' b 3 (L.map (Value.int .i64 ·)) c 1 /\ Below w.heap.size w W' := by
 have HH : Hid (w.cell? ⟨Bs, 0, none⟩ = some (.slice ao zs.length cap) /\ InRow w ao zs) := ⟨hc, hr⟩
 have HN : Hid (zs ≠ [] /\ sortU zs = L) := ⟨hne, hL⟩
 clear hc hr hne hL
 go_enter Tryz.func74, Tryz.ntmps74
 go_wp2_with (first
  | (go_at_call 123; refine (collect_G Bs ao cap zs hz _ hBs HH.out.1 HH.out.2).mono ?_; rintro e w1 ⟨v, rfl, h1, h2, h3⟩; obtain ⟨b, c, rfl⟩ : ∃ b c, v = .slice (some ⟨b, 0, none⟩) zs.length c := (by rcases h1.2 with ⟨e, _⟩ | ⟨b, c, _, e, _⟩; exact absurd (h2.1 e) HN.out.1; exact ⟨b, c, e⟩); have RB1 : Hid (RB w1 b 3 (zs.map (Value.int .i64 ·)) c 1 /\ w.heap.size <= b /\ Below w.heap.size w w1) := ⟨(RB.of_own h1).1, (RB.of_own h1).2.1, h3⟩; clear h1 h2 h3)
  | (go_at_call 124; refine (sort_int b c zs w1 hz RB1.out.1).mono ?_; rintro e w2 ⟨rfl, r2, t2⟩))
 go_ret
 exact ⟨b, c, rfl, by rw [<- HN.out.2]; exact r2, RB1.out.2.2.trans (t2.bel _ RB1.out.2.2.size RB1.out.2.1)⟩
theorem values_G (ao : Option Addr) (len cap : Nat) (w : World) : Calls Tryz.prog 75 #[.slice ao len cap] w fun e w' => e = .returned (.func (.func 125) #[] #[.pointer (some ⟨w.heap.size, 0, none⟩)]) /\ w' = w.alloc (.cells #[.slice ao len cap] 27) := by
 go_enter Tryz.func75, Tryz.ntmps75
 go_wp2
 go_ret
 exact ⟨rfl, rfl⟩
theorem twice_G (ao : Option Addr) (cap : Nat) (l : List Int) (w : World) (x : Bool) (hx : risesU (sortU l) = x) (hl : l.length <= 1048576) (hr : InRow w ao l) (hne : l ≠ []) :
  Calls Tryz.prog 24 #[.slice ao l.length cap] w fun e w' => e = .returned (.bool (!x)) /\ Below w.heap.size w w' := by
 obtain ⟨L, hL⟩ : ∃ L, sortU l = L := ⟨_, rfl⟩
 have HS : Hid (Calls Tryz.prog 74 #[.func (.func 125) #[] #[.pointer (some ⟨w.heap.size, 0, none⟩)]] (w.alloc (.cells #[.slice ao l.length cap] 27)) fun e W' => ∃ b c, e = .returned (.slice (some ⟨b, 0, none⟩) l.length c) /\ RB W' b 3 (L.map (Value.int .i64 ·)) c 1 /\ Below (w.alloc (.cells #[.slice ao l.length cap] 27)).heap.size (w.alloc (.cells #[.slice ao l.length cap] 27)) W') := sorted_G w.heap.size ao cap l hl (w.alloc (.cells #[.slice ao l.length cap] 27)) (by simp) ((cellq_any (alloc_at _ _)).trans rfl) (hr.later (below_alloc _ _)) L hL hne
 have HLL : Hid (L.length = l.length /\ risesU L = x) := ⟨by rw [<- hL]; exact (sortU_perm l).length_eq, by rw [<- hL]; exact hx⟩
 clear hx hr hne hL
 go_enter Tryz.func24, Tryz.ntmps24
 go_wp2_with (first
  | (go_at_call 75; refine (values_G ao l.length cap w).mono ?_; rintro e w1 ⟨rfl, rfl⟩)
  | (go_at_call 74; refine HS.out.mono ?_; rintro e w2 ⟨b, c, rfl, r2', b2'⟩; have R2 : Hid (RB w2 b 3 (L.map (Value.int .i64 ·)) c 1 /\ Below w.heap.size w w2) := ⟨r2', (below_alloc w _).trans (b2'.mono (by simp))⟩; clear r2' b2'; have CR : Hid (Calls Tryz.prog 76 #[.slice (some ⟨b, 0, none⟩) l.length c] w2 fun e w' => e = .returned (.bool x) /\ Below w2.heap.size w2 w') := (by have hh := rises_b (some ⟨b, 0, none⟩) c L w2 x HLL.out.2 (by have := HLL.out.1; omega) (inRow_of R2.out.1); rw [HLL.out.1] at hh; exact hh))
  | (go_at_call 76; refine CR.out.mono ?_; rintro e w3 ⟨rfl, b3⟩))
 go_ret
 exact ⟨rfl, R2.out.2.trans (b3.mono R2.out.2.size)⟩
def renU (g : GV) (ts ns : List Int) : Int :=
 if ts.length ≠ g.ts.length ∨ ns.length ≠ g.ns.length then 3
 else if (ts.any fun n => outU ts.length n) = true ∨ (ns.any fun n => outU ns.length n) = true then 4
 else if risesU (sortU ts) = false ∨ risesU (sortU ns) = false then 6
 else 0
theorem isPerm_of {l : List Int} (h1 : (l.any fun n => outU l.length n) = false) (h2 : risesU (sortU l) = true) : IsPerm l := by
 rw [rises_sort, decide_eq_true_eq, List.nodup_iff_pairwise_ne, List.pairwise_iff_getElem] at h2
 rw [List.any_eq_false] at h1
 refine ⟨fun i hi => ?_, fun i j hi hj => ?_⟩
 ·have e : l.getD i 0 = l[i] := by simp [List.getD, hi]
  have := h1 l[i] (List.getElem_mem hi)
  simp [outU] at this
  rw [e]; omega
 ·have := h2 j i (by omega) hi hj
  simpa [List.getD, hi, show j < l.length by omega] using this
theorem renU_ok {g : GV} {ts ns : List Int} (h : renU g ts ns = 0) : NumOk g ts ns := by
 unfold renU at h
 by_cases h1 : ts.length ≠ g.ts.length ∨ ns.length ≠ g.ns.length
 ·rw [if_pos h1] at h; cases h
 rw [if_neg h1] at h
 by_cases h2 : (ts.any fun n => outU ts.length n) = true ∨ (ns.any fun n => outU ns.length n) = true
 ·rw [if_pos h2] at h; cases h
 rw [if_neg h2] at h
 by_cases h3 : risesU (sortU ts) = false ∨ risesU (sortU ns) = false
 ·rw [if_pos h3] at h; cases h
 have h2' : ¬ (ts.any fun n => outU ts.length n) = true /\ ¬ (ns.any fun n => outU ns.length n) = true := ⟨fun e => h2 (.inl e), fun e => h2 (.inr e)⟩
 have h3' : ¬ risesU (sortU ts) = false /\ ¬ risesU (sortU ns) = false := ⟨fun e => h3 (.inl e), fun e => h3 (.inr e)⟩
 exact ⟨by omega, by omega, isPerm_of (by simpa using h2'.1) (by simpa using h3'.1), isPerm_of (by simpa using h2'.2) (by simpa using h3'.2)⟩
theorem renumber_no (g : GV) (a1 a2 : Option Addr) (n1 n2 c1 c2 : Nat) (w : World) (h : GAt 140737488355328 w g) (hpc : g.ps.length <= g.pc) (er at_ : Int) (hE : checkG g (checkF g.ts g.ns) = (er, at_)) (h0 : er ≠ 0) :
  Calls Tryz.prog 7 #[g.val, .slice a1 n1 c1, .slice a2 n2 c2] w fun e w' => e = .returned (.tuple #[.agg #[.slice none 0 0, .slice none 0 0, .int .i64 0, .slice none 0 0, .slice none 0 0], .int .i64 er]) /\ Below w.heap.size w w' := by
 have CB0 : Hid (CBx w.heap.size w (gA g) ((w.alloc (.cells (gA g) 26)).alloc (.cells #[.slice none 0 0, .slice none 0 0, .int .i64 0, .slice none 0 0, .slice none 0 0] 26))) := cb_start g w
 have HGA : Hid (GAt 140737488355328 ((w.alloc (.cells (gA g) 26)).alloc (.cells #[.slice none 0 0, .slice none 0 0, .int .i64 0, .slice none 0 0, .slice none 0 0] 26)) g) := h.later CB0.out.bel
 have he : (er != 0) = true := by simpa using h0
 clear h
 go_enter Tryz.func7, Tryz.ntmps7
 go_wp2_with (go_at_call 17; refine (check_G g _ HGA.out hpc er at_ hE).mono ?_; rintro e w1 ⟨rfl, b1⟩; have C1 : Hid (CBx w.heap.size w (gA g) w1) := CB0.out.later b1; have x0 : w1.cell? ⟨w.heap.size, 0, none⟩ = some (.slice g.ta g.ts.length g.tc) := (cellq_any C1.out.box).trans rfl; have x1 : w1.cell? ⟨w.heap.size, 1, none⟩ = some (.slice g.na g.ns.length g.nc) := (cellq_any C1.out.box).trans rfl; have x2 : w1.cell? ⟨w.heap.size, 2, none⟩ = some (.int .i64 g.start) := (cellq_any C1.out.box).trans rfl; have x3 : w1.cell? ⟨w.heap.size, 3, none⟩ = some (.slice g.pa g.ps.length g.pc) := (cellq_any C1.out.box).trans rfl; have x4 : w1.cell? ⟨w.heap.size, 4, none⟩ = some (.slice g.la g.ls.length g.lc) := (cellq_any C1.out.box).trans rfl; have r0 : w1.cell? ⟨w.heap.size + 1, 0, none⟩ = some (.slice none 0 0) := (cellq_any C1.out.out).trans rfl; have y0 : w1.frozen? ⟨w.heap.size + 1, 0, none⟩ = false := (by unfold World.frozen?; rw [C1.out.out]; rfl); have r1 : w1.cell? ⟨w.heap.size + 1, 1, none⟩ = some (.slice none 0 0) := (cellq_any C1.out.out).trans rfl; have y1 : w1.frozen? ⟨w.heap.size + 1, 1, none⟩ = false := (by unfold World.frozen?; rw [C1.out.out]; rfl); have r2 : w1.cell? ⟨w.heap.size + 1, 2, none⟩ = some (.int .i64 0) := (cellq_any C1.out.out).trans rfl; have y2 : w1.frozen? ⟨w.heap.size + 1, 2, none⟩ = false := (by unfold World.frozen?; rw [C1.out.out]; rfl); have r3 : w1.cell? ⟨w.heap.size + 1, 3, none⟩ = some (.slice none 0 0) := (cellq_any C1.out.out).trans rfl; have y3 : w1.frozen? ⟨w.heap.size + 1, 3, none⟩ = false := (by unfold World.frozen?; rw [C1.out.out]; rfl); have r4 : w1.cell? ⟨w.heap.size + 1, 4, none⟩ = some (.slice none 0 0) := (cellq_any C1.out.out).trans rfl; have y4 : w1.frozen? ⟨w.heap.size + 1, 4, none⟩ = false := (by unfold World.frozen?; rw [C1.out.out]; rfl); have hz : w.heap.size + 1 < w1.heap.size := lt_of_block C1.out.out; clear b1)
 refine bodyPost_ret (v := .tuple #[.agg #[.slice none 0 0, .slice none 0 0, .int .i64 0, .slice none 0 0, .slice none 0 0], .int .i64 er]) (by simp [results, Tryz.results7, go_sem, r0, r1, r2, r3, r4]) rfl ?_
 exact ⟨rfl, (C1.out.five _ _ _ _ _).1⟩
theorem renumber_err (g : GV) (a1 a2 : Option Addr) (c1 c2 : Nat) (ts ns : List Int) (w : World) (h : GAt 140737488355328 w g) (hpc : g.ps.length <= g.pc) (at_ : Int) (hE : checkG g (checkF g.ts g.ns) = (0, at_)) (h1 : InRow w a1 ts) (h2 : InRow w a2 ns) (hl : ts.length <= 140737488355328 /\ ns.length <= 140737488355328) (er : Int) (hu : renU g ts ns = er) (h0 : er ≠ 0) :
  Calls Tryz.prog 7 #[g.val, .slice a1 ts.length c1, .slice a2 ns.length c2] w fun e w' => e = .returned (.tuple #[.agg #[.slice none 0 0, .slice none 0 0, .int .i64 0, .slice none 0 0, .slice none 0 0], .int .i64 er]) /\ Below w.heap.size w w' := by
 have CB0 : Hid (CBx w.heap.size w (gA g) ((w.alloc (.cells (gA g) 26)).alloc (.cells #[.slice none 0 0, .slice none 0 0, .int .i64 0, .slice none 0 0, .slice none 0 0] 26))) := cb_start g w
 have HGA : Hid (∀ w', Below w.heap.size w w' -> GAt 140737488355328 w' g /\ InRow w' a1 ts /\ InRow w' a2 ns) := fun w' hb => ⟨h.later hb, h1.later hb, h2.later hb⟩
 have he : ((0 : Int) != 0) = false := by simp
 have ok : OkC g := OkC.of (by rw [hE])
 obtain ⟨hl1, hl2⟩ := hl
 have htl := h.tl
 have hnl := h.nl
 clear h h1 h2
 unfold renU at hu
 by_cases q1 : ts.length = g.ts.length
 case neg =>
  rw [if_pos (.inl q1)] at hu
  subst hu
  have e1 : ((ts.length : Int) != g.ts.length) = true := by simp; omega
  clear h0
  go_enter Tryz.func7, Tryz.ntmps7
  go_wp2_with (first
   | (go_at_call 17; refine (check_G g _ (HGA.out _ CB0.out.bel).1 hpc 0 at_ hE).mono ?_; rintro e w1 ⟨rfl, b1⟩; have C1 : Hid (CBx w.heap.size w (gA g) w1) := CB0.out.later b1; have x0 : w1.cell? ⟨w.heap.size, 0, none⟩ = some (.slice g.ta g.ts.length g.tc) := (cellq_any C1.out.box).trans rfl; have x1 : w1.cell? ⟨w.heap.size, 1, none⟩ = some (.slice g.na g.ns.length g.nc) := (cellq_any C1.out.box).trans rfl; have x2 : w1.cell? ⟨w.heap.size, 2, none⟩ = some (.int .i64 g.start) := (cellq_any C1.out.box).trans rfl; have x3 : w1.cell? ⟨w.heap.size, 3, none⟩ = some (.slice g.pa g.ps.length g.pc) := (cellq_any C1.out.box).trans rfl; have x4 : w1.cell? ⟨w.heap.size, 4, none⟩ = some (.slice g.la g.ls.length g.lc) := (cellq_any C1.out.box).trans rfl; have r0 : w1.cell? ⟨w.heap.size + 1, 0, none⟩ = some (.slice none 0 0) := (cellq_any C1.out.out).trans rfl; have y0 : w1.frozen? ⟨w.heap.size + 1, 0, none⟩ = false := (by unfold World.frozen?; rw [C1.out.out]; rfl); have r1 : w1.cell? ⟨w.heap.size + 1, 1, none⟩ = some (.slice none 0 0) := (cellq_any C1.out.out).trans rfl; have y1 : w1.frozen? ⟨w.heap.size + 1, 1, none⟩ = false := (by unfold World.frozen?; rw [C1.out.out]; rfl); have r2 : w1.cell? ⟨w.heap.size + 1, 2, none⟩ = some (.int .i64 0) := (cellq_any C1.out.out).trans rfl; have y2 : w1.frozen? ⟨w.heap.size + 1, 2, none⟩ = false := (by unfold World.frozen?; rw [C1.out.out]; rfl); have r3 : w1.cell? ⟨w.heap.size + 1, 3, none⟩ = some (.slice none 0 0) := (cellq_any C1.out.out).trans rfl; have y3 : w1.frozen? ⟨w.heap.size + 1, 3, none⟩ = false := (by unfold World.frozen?; rw [C1.out.out]; rfl); have r4 : w1.cell? ⟨w.heap.size + 1, 4, none⟩ = some (.slice none 0 0) := (cellq_any C1.out.out).trans rfl; have y4 : w1.frozen? ⟨w.heap.size + 1, 4, none⟩ = false := (by unfold World.frozen?; rw [C1.out.out]; rfl); have hz : w.heap.size + 1 < w1.heap.size := lt_of_block C1.out.out; clear b1))
  refine bodyPost_ret (v := .tuple #[.agg #[.slice none 0 0, .slice none 0 0, .int .i64 0, .slice none 0 0, .slice none 0 0], .int .i64 3]) (by simp [results, Tryz.results7, go_sem, r0, r1, r2, r3, r4]) rfl ?_
  exact ⟨rfl, (C1.out.five _ _ _ _ _).1⟩
 by_cases q2 : ns.length = g.ns.length
 case neg =>
  rw [if_pos (.inr q2)] at hu
  subst hu
  have e1 : ((ts.length : Int) != g.ts.length) = false := by simp; omega
  have e2 : ((ns.length : Int) != g.ns.length) = true := by simp; omega
  clear h0 q1
  go_enter Tryz.func7, Tryz.ntmps7
  go_wp2_with (first
   | (go_at_call 17; refine (check_G g _ (HGA.out _ CB0.out.bel).1 hpc 0 at_ hE).mono ?_; rintro e w1 ⟨rfl, b1⟩; have C1 : Hid (CBx w.heap.size w (gA g) w1) := CB0.out.later b1; have x0 : w1.cell? ⟨w.heap.size, 0, none⟩ = some (.slice g.ta g.ts.length g.tc) := (cellq_any C1.out.box).trans rfl; have x1 : w1.cell? ⟨w.heap.size, 1, none⟩ = some (.slice g.na g.ns.length g.nc) := (cellq_any C1.out.box).trans rfl; have x2 : w1.cell? ⟨w.heap.size, 2, none⟩ = some (.int .i64 g.start) := (cellq_any C1.out.box).trans rfl; have x3 : w1.cell? ⟨w.heap.size, 3, none⟩ = some (.slice g.pa g.ps.length g.pc) := (cellq_any C1.out.box).trans rfl; have x4 : w1.cell? ⟨w.heap.size, 4, none⟩ = some (.slice g.la g.ls.length g.lc) := (cellq_any C1.out.box).trans rfl; have r0 : w1.cell? ⟨w.heap.size + 1, 0, none⟩ = some (.slice none 0 0) := (cellq_any C1.out.out).trans rfl; have y0 : w1.frozen? ⟨w.heap.size + 1, 0, none⟩ = false := (by unfold World.frozen?; rw [C1.out.out]; rfl); have r1 : w1.cell? ⟨w.heap.size + 1, 1, none⟩ = some (.slice none 0 0) := (cellq_any C1.out.out).trans rfl; have y1 : w1.frozen? ⟨w.heap.size + 1, 1, none⟩ = false := (by unfold World.frozen?; rw [C1.out.out]; rfl); have r2 : w1.cell? ⟨w.heap.size + 1, 2, none⟩ = some (.int .i64 0) := (cellq_any C1.out.out).trans rfl; have y2 : w1.frozen? ⟨w.heap.size + 1, 2, none⟩ = false := (by unfold World.frozen?; rw [C1.out.out]; rfl); have r3 : w1.cell? ⟨w.heap.size + 1, 3, none⟩ = some (.slice none 0 0) := (cellq_any C1.out.out).trans rfl; have y3 : w1.frozen? ⟨w.heap.size + 1, 3, none⟩ = false := (by unfold World.frozen?; rw [C1.out.out]; rfl); have r4 : w1.cell? ⟨w.heap.size + 1, 4, none⟩ = some (.slice none 0 0) := (cellq_any C1.out.out).trans rfl; have y4 : w1.frozen? ⟨w.heap.size + 1, 4, none⟩ = false := (by unfold World.frozen?; rw [C1.out.out]; rfl); have hz : w.heap.size + 1 < w1.heap.size := lt_of_block C1.out.out; clear b1))
  refine bodyPost_ret (v := .tuple #[.agg #[.slice none 0 0, .slice none 0 0, .int .i64 0, .slice none 0 0, .slice none 0 0], .int .i64 3]) (by simp [results, Tryz.results7, go_sem, r0, r1, r2, r3, r4]) rfl ?_
  exact ⟨rfl, (C1.out.five _ _ _ _ _).1⟩
 rw [if_neg (by omega)] at hu
 have e1 : ((ts.length : Int) != g.ts.length) = false := by simp; omega
 have e2 : ((ns.length : Int) != g.ns.length) = false := by simp; omega
 have LL : Hid (ts.length <= 1048576 /\ ns.length <= 1048576) := ⟨by have := ok.tl; omega, by have := ok.nl; omega⟩
 have NE : Hid (ts ≠ [] /\ ns ≠ []) := ⟨fun e => by have := ok.tl; rw [e] at q1; simp at q1; omega, fun e => by have := ok.nl; rw [e] at q2; simp at q2; omega⟩
 clear q1 q2 ok
 cases w1' : (ts.any fun n => outU ts.length n) with
 | true =>
  rw [if_pos (.inl w1')] at hu
  subst hu
  have HW1 : Hid _ := w1'
  clear h0 w1'
  go_enter Tryz.func7, Tryz.ntmps7
  go_wp2_with (first
   | (go_at_call 17; refine (check_G g _ (HGA.out _ CB0.out.bel).1 hpc 0 at_ hE).mono ?_; rintro e w1 ⟨rfl, b1⟩; have C1 : Hid (CBx w.heap.size w (gA g) w1) := CB0.out.later b1; have x0 : w1.cell? ⟨w.heap.size, 0, none⟩ = some (.slice g.ta g.ts.length g.tc) := (cellq_any C1.out.box).trans rfl; have x1 : w1.cell? ⟨w.heap.size, 1, none⟩ = some (.slice g.na g.ns.length g.nc) := (cellq_any C1.out.box).trans rfl; have x2 : w1.cell? ⟨w.heap.size, 2, none⟩ = some (.int .i64 g.start) := (cellq_any C1.out.box).trans rfl; have x3 : w1.cell? ⟨w.heap.size, 3, none⟩ = some (.slice g.pa g.ps.length g.pc) := (cellq_any C1.out.box).trans rfl; have x4 : w1.cell? ⟨w.heap.size, 4, none⟩ = some (.slice g.la g.ls.length g.lc) := (cellq_any C1.out.box).trans rfl; have r0 : w1.cell? ⟨w.heap.size + 1, 0, none⟩ = some (.slice none 0 0) := (cellq_any C1.out.out).trans rfl; have y0 : w1.frozen? ⟨w.heap.size + 1, 0, none⟩ = false := (by unfold World.frozen?; rw [C1.out.out]; rfl); have r1 : w1.cell? ⟨w.heap.size + 1, 1, none⟩ = some (.slice none 0 0) := (cellq_any C1.out.out).trans rfl; have y1 : w1.frozen? ⟨w.heap.size + 1, 1, none⟩ = false := (by unfold World.frozen?; rw [C1.out.out]; rfl); have r2 : w1.cell? ⟨w.heap.size + 1, 2, none⟩ = some (.int .i64 0) := (cellq_any C1.out.out).trans rfl; have y2 : w1.frozen? ⟨w.heap.size + 1, 2, none⟩ = false := (by unfold World.frozen?; rw [C1.out.out]; rfl); have r3 : w1.cell? ⟨w.heap.size + 1, 3, none⟩ = some (.slice none 0 0) := (cellq_any C1.out.out).trans rfl; have y3 : w1.frozen? ⟨w.heap.size + 1, 3, none⟩ = false := (by unfold World.frozen?; rw [C1.out.out]; rfl); have r4 : w1.cell? ⟨w.heap.size + 1, 4, none⟩ = some (.slice none 0 0) := (cellq_any C1.out.out).trans rfl; have y4 : w1.frozen? ⟨w.heap.size + 1, 4, none⟩ = false := (by unfold World.frozen?; rw [C1.out.out]; rfl); have hz : w.heap.size + 1 < w1.heap.size := lt_of_block C1.out.out; clear b1)
   | (go_at_call 23; refine (within_G a1 c1 ts _ true HW1.out LL.out.1 (HGA.out _ C1.out.bel).2.1).mono ?_; rintro e w2 ⟨rfl, b2⟩; have C2 : Hid (CBx w.heap.size w (gA g) w2) := C1.out.later b2; clear x0 x1 x2 x3 x4 r0 r1 r2 r3 r4 y0 y1 y2 y3 y4 hz; have x0 : w2.cell? ⟨w.heap.size, 0, none⟩ = some (.slice g.ta g.ts.length g.tc) := (cellq_any C2.out.box).trans rfl; have x1 : w2.cell? ⟨w.heap.size, 1, none⟩ = some (.slice g.na g.ns.length g.nc) := (cellq_any C2.out.box).trans rfl; have x2 : w2.cell? ⟨w.heap.size, 2, none⟩ = some (.int .i64 g.start) := (cellq_any C2.out.box).trans rfl; have x3 : w2.cell? ⟨w.heap.size, 3, none⟩ = some (.slice g.pa g.ps.length g.pc) := (cellq_any C2.out.box).trans rfl; have x4 : w2.cell? ⟨w.heap.size, 4, none⟩ = some (.slice g.la g.ls.length g.lc) := (cellq_any C2.out.box).trans rfl; have r0 : w2.cell? ⟨w.heap.size + 1, 0, none⟩ = some (.slice none 0 0) := (cellq_any C2.out.out).trans rfl; have y0 : w2.frozen? ⟨w.heap.size + 1, 0, none⟩ = false := (by unfold World.frozen?; rw [C2.out.out]; rfl); have r1 : w2.cell? ⟨w.heap.size + 1, 1, none⟩ = some (.slice none 0 0) := (cellq_any C2.out.out).trans rfl; have y1 : w2.frozen? ⟨w.heap.size + 1, 1, none⟩ = false := (by unfold World.frozen?; rw [C2.out.out]; rfl); have r2 : w2.cell? ⟨w.heap.size + 1, 2, none⟩ = some (.int .i64 0) := (cellq_any C2.out.out).trans rfl; have y2 : w2.frozen? ⟨w.heap.size + 1, 2, none⟩ = false := (by unfold World.frozen?; rw [C2.out.out]; rfl); have r3 : w2.cell? ⟨w.heap.size + 1, 3, none⟩ = some (.slice none 0 0) := (cellq_any C2.out.out).trans rfl; have y3 : w2.frozen? ⟨w.heap.size + 1, 3, none⟩ = false := (by unfold World.frozen?; rw [C2.out.out]; rfl); have r4 : w2.cell? ⟨w.heap.size + 1, 4, none⟩ = some (.slice none 0 0) := (cellq_any C2.out.out).trans rfl; have y4 : w2.frozen? ⟨w.heap.size + 1, 4, none⟩ = false := (by unfold World.frozen?; rw [C2.out.out]; rfl); have hz : w.heap.size + 1 < w2.heap.size := lt_of_block C2.out.out; clear b2))
  refine bodyPost_ret (v := .tuple #[.agg #[.slice none 0 0, .slice none 0 0, .int .i64 0, .slice none 0 0, .slice none 0 0], .int .i64 4]) (by simp [results, Tryz.results7, go_sem, r0, r1, r2, r3, r4]) rfl ?_
  exact ⟨rfl, (C2.out.five _ _ _ _ _).1⟩
 | false =>
  cases w2' : (ns.any fun n => outU ns.length n) with
  | true =>
   rw [if_pos (.inr w2')] at hu
   subst hu
   have HW1 : Hid _ := w1'
   have HW2 : Hid _ := w2'
   clear h0 w1' w2'
   go_enter Tryz.func7, Tryz.ntmps7
   go_wp2_with (first
    | (go_at_call 17; refine (check_G g _ (HGA.out _ CB0.out.bel).1 hpc 0 at_ hE).mono ?_; rintro e w1 ⟨rfl, b1⟩; have C1 : Hid (CBx w.heap.size w (gA g) w1) := CB0.out.later b1; have x0 : w1.cell? ⟨w.heap.size, 0, none⟩ = some (.slice g.ta g.ts.length g.tc) := (cellq_any C1.out.box).trans rfl; have x1 : w1.cell? ⟨w.heap.size, 1, none⟩ = some (.slice g.na g.ns.length g.nc) := (cellq_any C1.out.box).trans rfl; have x2 : w1.cell? ⟨w.heap.size, 2, none⟩ = some (.int .i64 g.start) := (cellq_any C1.out.box).trans rfl; have x3 : w1.cell? ⟨w.heap.size, 3, none⟩ = some (.slice g.pa g.ps.length g.pc) := (cellq_any C1.out.box).trans rfl; have x4 : w1.cell? ⟨w.heap.size, 4, none⟩ = some (.slice g.la g.ls.length g.lc) := (cellq_any C1.out.box).trans rfl; have r0 : w1.cell? ⟨w.heap.size + 1, 0, none⟩ = some (.slice none 0 0) := (cellq_any C1.out.out).trans rfl; have y0 : w1.frozen? ⟨w.heap.size + 1, 0, none⟩ = false := (by unfold World.frozen?; rw [C1.out.out]; rfl); have r1 : w1.cell? ⟨w.heap.size + 1, 1, none⟩ = some (.slice none 0 0) := (cellq_any C1.out.out).trans rfl; have y1 : w1.frozen? ⟨w.heap.size + 1, 1, none⟩ = false := (by unfold World.frozen?; rw [C1.out.out]; rfl); have r2 : w1.cell? ⟨w.heap.size + 1, 2, none⟩ = some (.int .i64 0) := (cellq_any C1.out.out).trans rfl; have y2 : w1.frozen? ⟨w.heap.size + 1, 2, none⟩ = false := (by unfold World.frozen?; rw [C1.out.out]; rfl); have r3 : w1.cell? ⟨w.heap.size + 1, 3, none⟩ = some (.slice none 0 0) := (cellq_any C1.out.out).trans rfl; have y3 : w1.frozen? ⟨w.heap.size + 1, 3, none⟩ = false := (by unfold World.frozen?; rw [C1.out.out]; rfl); have r4 : w1.cell? ⟨w.heap.size + 1, 4, none⟩ = some (.slice none 0 0) := (cellq_any C1.out.out).trans rfl; have y4 : w1.frozen? ⟨w.heap.size + 1, 4, none⟩ = false := (by unfold World.frozen?; rw [C1.out.out]; rfl); have hz : w.heap.size + 1 < w1.heap.size := lt_of_block C1.out.out; clear b1)
    | (go_at_call 23; refine (within_G a2 c2 ns _ true HW2.out LL.out.2 (HGA.out _ C2.out.bel).2.2).mono ?_; rintro e w3 ⟨rfl, b3⟩; have C3 : Hid (CBx w.heap.size w (gA g) w3) := C2.out.later b3; clear x0 x1 x2 x3 x4 r0 r1 r2 r3 r4 y0 y1 y2 y3 y4 hz; have x0 : w3.cell? ⟨w.heap.size, 0, none⟩ = some (.slice g.ta g.ts.length g.tc) := (cellq_any C3.out.box).trans rfl; have x1 : w3.cell? ⟨w.heap.size, 1, none⟩ = some (.slice g.na g.ns.length g.nc) := (cellq_any C3.out.box).trans rfl; have x2 : w3.cell? ⟨w.heap.size, 2, none⟩ = some (.int .i64 g.start) := (cellq_any C3.out.box).trans rfl; have x3 : w3.cell? ⟨w.heap.size, 3, none⟩ = some (.slice g.pa g.ps.length g.pc) := (cellq_any C3.out.box).trans rfl; have x4 : w3.cell? ⟨w.heap.size, 4, none⟩ = some (.slice g.la g.ls.length g.lc) := (cellq_any C3.out.box).trans rfl; have r0 : w3.cell? ⟨w.heap.size + 1, 0, none⟩ = some (.slice none 0 0) := (cellq_any C3.out.out).trans rfl; have y0 : w3.frozen? ⟨w.heap.size + 1, 0, none⟩ = false := (by unfold World.frozen?; rw [C3.out.out]; rfl); have r1 : w3.cell? ⟨w.heap.size + 1, 1, none⟩ = some (.slice none 0 0) := (cellq_any C3.out.out).trans rfl; have y1 : w3.frozen? ⟨w.heap.size + 1, 1, none⟩ = false := (by unfold World.frozen?; rw [C3.out.out]; rfl); have r2 : w3.cell? ⟨w.heap.size + 1, 2, none⟩ = some (.int .i64 0) := (cellq_any C3.out.out).trans rfl; have y2 : w3.frozen? ⟨w.heap.size + 1, 2, none⟩ = false := (by unfold World.frozen?; rw [C3.out.out]; rfl); have r3 : w3.cell? ⟨w.heap.size + 1, 3, none⟩ = some (.slice none 0 0) := (cellq_any C3.out.out).trans rfl; have y3 : w3.frozen? ⟨w.heap.size + 1, 3, none⟩ = false := (by unfold World.frozen?; rw [C3.out.out]; rfl); have r4 : w3.cell? ⟨w.heap.size + 1, 4, none⟩ = some (.slice none 0 0) := (cellq_any C3.out.out).trans rfl; have y4 : w3.frozen? ⟨w.heap.size + 1, 4, none⟩ = false := (by unfold World.frozen?; rw [C3.out.out]; rfl); have hz : w.heap.size + 1 < w3.heap.size := lt_of_block C3.out.out; clear b3)
    | (go_at_call 23; refine (within_G a1 c1 ts _ false HW1.out LL.out.1 (HGA.out _ C1.out.bel).2.1).mono ?_; rintro e w2 ⟨rfl, b2⟩; have C2 : Hid (CBx w.heap.size w (gA g) w2) := C1.out.later b2; clear x0 x1 x2 x3 x4 r0 r1 r2 r3 r4 y0 y1 y2 y3 y4 hz; have x0 : w2.cell? ⟨w.heap.size, 0, none⟩ = some (.slice g.ta g.ts.length g.tc) := (cellq_any C2.out.box).trans rfl; have x1 : w2.cell? ⟨w.heap.size, 1, none⟩ = some (.slice g.na g.ns.length g.nc) := (cellq_any C2.out.box).trans rfl; have x2 : w2.cell? ⟨w.heap.size, 2, none⟩ = some (.int .i64 g.start) := (cellq_any C2.out.box).trans rfl; have x3 : w2.cell? ⟨w.heap.size, 3, none⟩ = some (.slice g.pa g.ps.length g.pc) := (cellq_any C2.out.box).trans rfl; have x4 : w2.cell? ⟨w.heap.size, 4, none⟩ = some (.slice g.la g.ls.length g.lc) := (cellq_any C2.out.box).trans rfl; have r0 : w2.cell? ⟨w.heap.size + 1, 0, none⟩ = some (.slice none 0 0) := (cellq_any C2.out.out).trans rfl; have y0 : w2.frozen? ⟨w.heap.size + 1, 0, none⟩ = false := (by unfold World.frozen?; rw [C2.out.out]; rfl); have r1 : w2.cell? ⟨w.heap.size + 1, 1, none⟩ = some (.slice none 0 0) := (cellq_any C2.out.out).trans rfl; have y1 : w2.frozen? ⟨w.heap.size + 1, 1, none⟩ = false := (by unfold World.frozen?; rw [C2.out.out]; rfl); have r2 : w2.cell? ⟨w.heap.size + 1, 2, none⟩ = some (.int .i64 0) := (cellq_any C2.out.out).trans rfl; have y2 : w2.frozen? ⟨w.heap.size + 1, 2, none⟩ = false := (by unfold World.frozen?; rw [C2.out.out]; rfl); have r3 : w2.cell? ⟨w.heap.size + 1, 3, none⟩ = some (.slice none 0 0) := (cellq_any C2.out.out).trans rfl; have y3 : w2.frozen? ⟨w.heap.size + 1, 3, none⟩ = false := (by unfold World.frozen?; rw [C2.out.out]; rfl); have r4 : w2.cell? ⟨w.heap.size + 1, 4, none⟩ = some (.slice none 0 0) := (cellq_any C2.out.out).trans rfl; have y4 : w2.frozen? ⟨w.heap.size + 1, 4, none⟩ = false := (by unfold World.frozen?; rw [C2.out.out]; rfl); have hz : w.heap.size + 1 < w2.heap.size := lt_of_block C2.out.out; clear b2))
   refine bodyPost_ret (v := .tuple #[.agg #[.slice none 0 0, .slice none 0 0, .int .i64 0, .slice none 0 0, .slice none 0 0], .int .i64 4]) (by simp [results, Tryz.results7, go_sem, r0, r1, r2, r3, r4]) rfl ?_
   exact ⟨rfl, (C3.out.five _ _ _ _ _).1⟩
  | false =>
   rw [if_neg (by rw [w1', w2']; simp)] at hu
   have HW1 : Hid _ := w1'
   have HW2 : Hid _ := w2'
   clear w1' w2'
   cases t1' : risesU (sortU ts) with
   | false =>
    rw [if_pos (.inl t1')] at hu
    subst hu
    have HT1 : Hid _ := t1'
    clear h0 t1'
    go_enter Tryz.func7, Tryz.ntmps7
    go_wp2_with (first
     | (go_at_call 17; refine (check_G g _ (HGA.out _ CB0.out.bel).1 hpc 0 at_ hE).mono ?_; rintro e w1 ⟨rfl, b1⟩; have C1 : Hid (CBx w.heap.size w (gA g) w1) := CB0.out.later b1; have x0 : w1.cell? ⟨w.heap.size, 0, none⟩ = some (.slice g.ta g.ts.length g.tc) := (cellq_any C1.out.box).trans rfl; have x1 : w1.cell? ⟨w.heap.size, 1, none⟩ = some (.slice g.na g.ns.length g.nc) := (cellq_any C1.out.box).trans rfl; have x2 : w1.cell? ⟨w.heap.size, 2, none⟩ = some (.int .i64 g.start) := (cellq_any C1.out.box).trans rfl; have x3 : w1.cell? ⟨w.heap.size, 3, none⟩ = some (.slice g.pa g.ps.length g.pc) := (cellq_any C1.out.box).trans rfl; have x4 : w1.cell? ⟨w.heap.size, 4, none⟩ = some (.slice g.la g.ls.length g.lc) := (cellq_any C1.out.box).trans rfl; have r0 : w1.cell? ⟨w.heap.size + 1, 0, none⟩ = some (.slice none 0 0) := (cellq_any C1.out.out).trans rfl; have y0 : w1.frozen? ⟨w.heap.size + 1, 0, none⟩ = false := (by unfold World.frozen?; rw [C1.out.out]; rfl); have r1 : w1.cell? ⟨w.heap.size + 1, 1, none⟩ = some (.slice none 0 0) := (cellq_any C1.out.out).trans rfl; have y1 : w1.frozen? ⟨w.heap.size + 1, 1, none⟩ = false := (by unfold World.frozen?; rw [C1.out.out]; rfl); have r2 : w1.cell? ⟨w.heap.size + 1, 2, none⟩ = some (.int .i64 0) := (cellq_any C1.out.out).trans rfl; have y2 : w1.frozen? ⟨w.heap.size + 1, 2, none⟩ = false := (by unfold World.frozen?; rw [C1.out.out]; rfl); have r3 : w1.cell? ⟨w.heap.size + 1, 3, none⟩ = some (.slice none 0 0) := (cellq_any C1.out.out).trans rfl; have y3 : w1.frozen? ⟨w.heap.size + 1, 3, none⟩ = false := (by unfold World.frozen?; rw [C1.out.out]; rfl); have r4 : w1.cell? ⟨w.heap.size + 1, 4, none⟩ = some (.slice none 0 0) := (cellq_any C1.out.out).trans rfl; have y4 : w1.frozen? ⟨w.heap.size + 1, 4, none⟩ = false := (by unfold World.frozen?; rw [C1.out.out]; rfl); have hz : w.heap.size + 1 < w1.heap.size := lt_of_block C1.out.out; clear b1)
     | (go_at_call 24; refine (twice_G a1 c1 ts _ false HT1.out LL.out.1 (HGA.out _ C3.out.bel).2.1 NE.out.1).mono ?_; rintro e w4 ⟨rfl, b4⟩; have C4 : Hid (CBx w.heap.size w (gA g) w4) := C3.out.later b4; clear x0 x1 x2 x3 x4 r0 r1 r2 r3 r4 y0 y1 y2 y3 y4 hz; have x0 : w4.cell? ⟨w.heap.size, 0, none⟩ = some (.slice g.ta g.ts.length g.tc) := (cellq_any C4.out.box).trans rfl; have x1 : w4.cell? ⟨w.heap.size, 1, none⟩ = some (.slice g.na g.ns.length g.nc) := (cellq_any C4.out.box).trans rfl; have x2 : w4.cell? ⟨w.heap.size, 2, none⟩ = some (.int .i64 g.start) := (cellq_any C4.out.box).trans rfl; have x3 : w4.cell? ⟨w.heap.size, 3, none⟩ = some (.slice g.pa g.ps.length g.pc) := (cellq_any C4.out.box).trans rfl; have x4 : w4.cell? ⟨w.heap.size, 4, none⟩ = some (.slice g.la g.ls.length g.lc) := (cellq_any C4.out.box).trans rfl; have r0 : w4.cell? ⟨w.heap.size + 1, 0, none⟩ = some (.slice none 0 0) := (cellq_any C4.out.out).trans rfl; have y0 : w4.frozen? ⟨w.heap.size + 1, 0, none⟩ = false := (by unfold World.frozen?; rw [C4.out.out]; rfl); have r1 : w4.cell? ⟨w.heap.size + 1, 1, none⟩ = some (.slice none 0 0) := (cellq_any C4.out.out).trans rfl; have y1 : w4.frozen? ⟨w.heap.size + 1, 1, none⟩ = false := (by unfold World.frozen?; rw [C4.out.out]; rfl); have r2 : w4.cell? ⟨w.heap.size + 1, 2, none⟩ = some (.int .i64 0) := (cellq_any C4.out.out).trans rfl; have y2 : w4.frozen? ⟨w.heap.size + 1, 2, none⟩ = false := (by unfold World.frozen?; rw [C4.out.out]; rfl); have r3 : w4.cell? ⟨w.heap.size + 1, 3, none⟩ = some (.slice none 0 0) := (cellq_any C4.out.out).trans rfl; have y3 : w4.frozen? ⟨w.heap.size + 1, 3, none⟩ = false := (by unfold World.frozen?; rw [C4.out.out]; rfl); have r4 : w4.cell? ⟨w.heap.size + 1, 4, none⟩ = some (.slice none 0 0) := (cellq_any C4.out.out).trans rfl; have y4 : w4.frozen? ⟨w.heap.size + 1, 4, none⟩ = false := (by unfold World.frozen?; rw [C4.out.out]; rfl); have hz : w.heap.size + 1 < w4.heap.size := lt_of_block C4.out.out; clear b4)
     | (go_at_call 23; refine (within_G a2 c2 ns _ false HW2.out LL.out.2 (HGA.out _ C2.out.bel).2.2).mono ?_; rintro e w3 ⟨rfl, b3⟩; have C3 : Hid (CBx w.heap.size w (gA g) w3) := C2.out.later b3; clear x0 x1 x2 x3 x4 r0 r1 r2 r3 r4 y0 y1 y2 y3 y4 hz; have x0 : w3.cell? ⟨w.heap.size, 0, none⟩ = some (.slice g.ta g.ts.length g.tc) := (cellq_any C3.out.box).trans rfl; have x1 : w3.cell? ⟨w.heap.size, 1, none⟩ = some (.slice g.na g.ns.length g.nc) := (cellq_any C3.out.box).trans rfl; have x2 : w3.cell? ⟨w.heap.size, 2, none⟩ = some (.int .i64 g.start) := (cellq_any C3.out.box).trans rfl; have x3 : w3.cell? ⟨w.heap.size, 3, none⟩ = some (.slice g.pa g.ps.length g.pc) := (cellq_any C3.out.box).trans rfl; have x4 : w3.cell? ⟨w.heap.size, 4, none⟩ = some (.slice g.la g.ls.length g.lc) := (cellq_any C3.out.box).trans rfl; have r0 : w3.cell? ⟨w.heap.size + 1, 0, none⟩ = some (.slice none 0 0) := (cellq_any C3.out.out).trans rfl; have y0 : w3.frozen? ⟨w.heap.size + 1, 0, none⟩ = false := (by unfold World.frozen?; rw [C3.out.out]; rfl); have r1 : w3.cell? ⟨w.heap.size + 1, 1, none⟩ = some (.slice none 0 0) := (cellq_any C3.out.out).trans rfl; have y1 : w3.frozen? ⟨w.heap.size + 1, 1, none⟩ = false := (by unfold World.frozen?; rw [C3.out.out]; rfl); have r2 : w3.cell? ⟨w.heap.size + 1, 2, none⟩ = some (.int .i64 0) := (cellq_any C3.out.out).trans rfl; have y2 : w3.frozen? ⟨w.heap.size + 1, 2, none⟩ = false := (by unfold World.frozen?; rw [C3.out.out]; rfl); have r3 : w3.cell? ⟨w.heap.size + 1, 3, none⟩ = some (.slice none 0 0) := (cellq_any C3.out.out).trans rfl; have y3 : w3.frozen? ⟨w.heap.size + 1, 3, none⟩ = false := (by unfold World.frozen?; rw [C3.out.out]; rfl); have r4 : w3.cell? ⟨w.heap.size + 1, 4, none⟩ = some (.slice none 0 0) := (cellq_any C3.out.out).trans rfl; have y4 : w3.frozen? ⟨w.heap.size + 1, 4, none⟩ = false := (by unfold World.frozen?; rw [C3.out.out]; rfl); have hz : w.heap.size + 1 < w3.heap.size := lt_of_block C3.out.out; clear b3)
     | (go_at_call 23; refine (within_G a1 c1 ts _ false HW1.out LL.out.1 (HGA.out _ C1.out.bel).2.1).mono ?_; rintro e w2 ⟨rfl, b2⟩; have C2 : Hid (CBx w.heap.size w (gA g) w2) := C1.out.later b2; clear x0 x1 x2 x3 x4 r0 r1 r2 r3 r4 y0 y1 y2 y3 y4 hz; have x0 : w2.cell? ⟨w.heap.size, 0, none⟩ = some (.slice g.ta g.ts.length g.tc) := (cellq_any C2.out.box).trans rfl; have x1 : w2.cell? ⟨w.heap.size, 1, none⟩ = some (.slice g.na g.ns.length g.nc) := (cellq_any C2.out.box).trans rfl; have x2 : w2.cell? ⟨w.heap.size, 2, none⟩ = some (.int .i64 g.start) := (cellq_any C2.out.box).trans rfl; have x3 : w2.cell? ⟨w.heap.size, 3, none⟩ = some (.slice g.pa g.ps.length g.pc) := (cellq_any C2.out.box).trans rfl; have x4 : w2.cell? ⟨w.heap.size, 4, none⟩ = some (.slice g.la g.ls.length g.lc) := (cellq_any C2.out.box).trans rfl; have r0 : w2.cell? ⟨w.heap.size + 1, 0, none⟩ = some (.slice none 0 0) := (cellq_any C2.out.out).trans rfl; have y0 : w2.frozen? ⟨w.heap.size + 1, 0, none⟩ = false := (by unfold World.frozen?; rw [C2.out.out]; rfl); have r1 : w2.cell? ⟨w.heap.size + 1, 1, none⟩ = some (.slice none 0 0) := (cellq_any C2.out.out).trans rfl; have y1 : w2.frozen? ⟨w.heap.size + 1, 1, none⟩ = false := (by unfold World.frozen?; rw [C2.out.out]; rfl); have r2 : w2.cell? ⟨w.heap.size + 1, 2, none⟩ = some (.int .i64 0) := (cellq_any C2.out.out).trans rfl; have y2 : w2.frozen? ⟨w.heap.size + 1, 2, none⟩ = false := (by unfold World.frozen?; rw [C2.out.out]; rfl); have r3 : w2.cell? ⟨w.heap.size + 1, 3, none⟩ = some (.slice none 0 0) := (cellq_any C2.out.out).trans rfl; have y3 : w2.frozen? ⟨w.heap.size + 1, 3, none⟩ = false := (by unfold World.frozen?; rw [C2.out.out]; rfl); have r4 : w2.cell? ⟨w.heap.size + 1, 4, none⟩ = some (.slice none 0 0) := (cellq_any C2.out.out).trans rfl; have y4 : w2.frozen? ⟨w.heap.size + 1, 4, none⟩ = false := (by unfold World.frozen?; rw [C2.out.out]; rfl); have hz : w.heap.size + 1 < w2.heap.size := lt_of_block C2.out.out; clear b2))
    refine bodyPost_ret (v := .tuple #[.agg #[.slice none 0 0, .slice none 0 0, .int .i64 0, .slice none 0 0, .slice none 0 0], .int .i64 6]) (by simp [results, Tryz.results7, go_sem, r0, r1, r2, r3, r4]) rfl ?_
    exact ⟨rfl, (C4.out.five _ _ _ _ _).1⟩
   | true =>
    cases t2' : risesU (sortU ns) with
    | false =>
     rw [if_pos (.inr t2')] at hu
     subst hu
     have HT1 : Hid _ := t1'
     have HT2 : Hid _ := t2'
     clear h0 t1' t2'
     go_enter Tryz.func7, Tryz.ntmps7
     go_wp2_with (first
      | (go_at_call 17; refine (check_G g _ (HGA.out _ CB0.out.bel).1 hpc 0 at_ hE).mono ?_; rintro e w1 ⟨rfl, b1⟩; have C1 : Hid (CBx w.heap.size w (gA g) w1) := CB0.out.later b1; have x0 : w1.cell? ⟨w.heap.size, 0, none⟩ = some (.slice g.ta g.ts.length g.tc) := (cellq_any C1.out.box).trans rfl; have x1 : w1.cell? ⟨w.heap.size, 1, none⟩ = some (.slice g.na g.ns.length g.nc) := (cellq_any C1.out.box).trans rfl; have x2 : w1.cell? ⟨w.heap.size, 2, none⟩ = some (.int .i64 g.start) := (cellq_any C1.out.box).trans rfl; have x3 : w1.cell? ⟨w.heap.size, 3, none⟩ = some (.slice g.pa g.ps.length g.pc) := (cellq_any C1.out.box).trans rfl; have x4 : w1.cell? ⟨w.heap.size, 4, none⟩ = some (.slice g.la g.ls.length g.lc) := (cellq_any C1.out.box).trans rfl; have r0 : w1.cell? ⟨w.heap.size + 1, 0, none⟩ = some (.slice none 0 0) := (cellq_any C1.out.out).trans rfl; have y0 : w1.frozen? ⟨w.heap.size + 1, 0, none⟩ = false := (by unfold World.frozen?; rw [C1.out.out]; rfl); have r1 : w1.cell? ⟨w.heap.size + 1, 1, none⟩ = some (.slice none 0 0) := (cellq_any C1.out.out).trans rfl; have y1 : w1.frozen? ⟨w.heap.size + 1, 1, none⟩ = false := (by unfold World.frozen?; rw [C1.out.out]; rfl); have r2 : w1.cell? ⟨w.heap.size + 1, 2, none⟩ = some (.int .i64 0) := (cellq_any C1.out.out).trans rfl; have y2 : w1.frozen? ⟨w.heap.size + 1, 2, none⟩ = false := (by unfold World.frozen?; rw [C1.out.out]; rfl); have r3 : w1.cell? ⟨w.heap.size + 1, 3, none⟩ = some (.slice none 0 0) := (cellq_any C1.out.out).trans rfl; have y3 : w1.frozen? ⟨w.heap.size + 1, 3, none⟩ = false := (by unfold World.frozen?; rw [C1.out.out]; rfl); have r4 : w1.cell? ⟨w.heap.size + 1, 4, none⟩ = some (.slice none 0 0) := (cellq_any C1.out.out).trans rfl; have y4 : w1.frozen? ⟨w.heap.size + 1, 4, none⟩ = false := (by unfold World.frozen?; rw [C1.out.out]; rfl); have hz : w.heap.size + 1 < w1.heap.size := lt_of_block C1.out.out; clear b1)
      | (go_at_call 24; refine (twice_G a2 c2 ns _ false HT2.out LL.out.2 (HGA.out _ C4.out.bel).2.2 NE.out.2).mono ?_; rintro e w5 ⟨rfl, b5⟩; have C5 : Hid (CBx w.heap.size w (gA g) w5) := C4.out.later b5; clear x0 x1 x2 x3 x4 r0 r1 r2 r3 r4 y0 y1 y2 y3 y4 hz; have x0 : w5.cell? ⟨w.heap.size, 0, none⟩ = some (.slice g.ta g.ts.length g.tc) := (cellq_any C5.out.box).trans rfl; have x1 : w5.cell? ⟨w.heap.size, 1, none⟩ = some (.slice g.na g.ns.length g.nc) := (cellq_any C5.out.box).trans rfl; have x2 : w5.cell? ⟨w.heap.size, 2, none⟩ = some (.int .i64 g.start) := (cellq_any C5.out.box).trans rfl; have x3 : w5.cell? ⟨w.heap.size, 3, none⟩ = some (.slice g.pa g.ps.length g.pc) := (cellq_any C5.out.box).trans rfl; have x4 : w5.cell? ⟨w.heap.size, 4, none⟩ = some (.slice g.la g.ls.length g.lc) := (cellq_any C5.out.box).trans rfl; have r0 : w5.cell? ⟨w.heap.size + 1, 0, none⟩ = some (.slice none 0 0) := (cellq_any C5.out.out).trans rfl; have y0 : w5.frozen? ⟨w.heap.size + 1, 0, none⟩ = false := (by unfold World.frozen?; rw [C5.out.out]; rfl); have r1 : w5.cell? ⟨w.heap.size + 1, 1, none⟩ = some (.slice none 0 0) := (cellq_any C5.out.out).trans rfl; have y1 : w5.frozen? ⟨w.heap.size + 1, 1, none⟩ = false := (by unfold World.frozen?; rw [C5.out.out]; rfl); have r2 : w5.cell? ⟨w.heap.size + 1, 2, none⟩ = some (.int .i64 0) := (cellq_any C5.out.out).trans rfl; have y2 : w5.frozen? ⟨w.heap.size + 1, 2, none⟩ = false := (by unfold World.frozen?; rw [C5.out.out]; rfl); have r3 : w5.cell? ⟨w.heap.size + 1, 3, none⟩ = some (.slice none 0 0) := (cellq_any C5.out.out).trans rfl; have y3 : w5.frozen? ⟨w.heap.size + 1, 3, none⟩ = false := (by unfold World.frozen?; rw [C5.out.out]; rfl); have r4 : w5.cell? ⟨w.heap.size + 1, 4, none⟩ = some (.slice none 0 0) := (cellq_any C5.out.out).trans rfl; have y4 : w5.frozen? ⟨w.heap.size + 1, 4, none⟩ = false := (by unfold World.frozen?; rw [C5.out.out]; rfl); have hz : w.heap.size + 1 < w5.heap.size := lt_of_block C5.out.out; clear b5)
      | (go_at_call 24; refine (twice_G a1 c1 ts _ true HT1.out LL.out.1 (HGA.out _ C3.out.bel).2.1 NE.out.1).mono ?_; rintro e w4 ⟨rfl, b4⟩; have C4 : Hid (CBx w.heap.size w (gA g) w4) := C3.out.later b4; clear x0 x1 x2 x3 x4 r0 r1 r2 r3 r4 y0 y1 y2 y3 y4 hz; have x0 : w4.cell? ⟨w.heap.size, 0, none⟩ = some (.slice g.ta g.ts.length g.tc) := (cellq_any C4.out.box).trans rfl; have x1 : w4.cell? ⟨w.heap.size, 1, none⟩ = some (.slice g.na g.ns.length g.nc) := (cellq_any C4.out.box).trans rfl; have x2 : w4.cell? ⟨w.heap.size, 2, none⟩ = some (.int .i64 g.start) := (cellq_any C4.out.box).trans rfl; have x3 : w4.cell? ⟨w.heap.size, 3, none⟩ = some (.slice g.pa g.ps.length g.pc) := (cellq_any C4.out.box).trans rfl; have x4 : w4.cell? ⟨w.heap.size, 4, none⟩ = some (.slice g.la g.ls.length g.lc) := (cellq_any C4.out.box).trans rfl; have r0 : w4.cell? ⟨w.heap.size + 1, 0, none⟩ = some (.slice none 0 0) := (cellq_any C4.out.out).trans rfl; have y0 : w4.frozen? ⟨w.heap.size + 1, 0, none⟩ = false := (by unfold World.frozen?; rw [C4.out.out]; rfl); have r1 : w4.cell? ⟨w.heap.size + 1, 1, none⟩ = some (.slice none 0 0) := (cellq_any C4.out.out).trans rfl; have y1 : w4.frozen? ⟨w.heap.size + 1, 1, none⟩ = false := (by unfold World.frozen?; rw [C4.out.out]; rfl); have r2 : w4.cell? ⟨w.heap.size + 1, 2, none⟩ = some (.int .i64 0) := (cellq_any C4.out.out).trans rfl; have y2 : w4.frozen? ⟨w.heap.size + 1, 2, none⟩ = false := (by unfold World.frozen?; rw [C4.out.out]; rfl); have r3 : w4.cell? ⟨w.heap.size + 1, 3, none⟩ = some (.slice none 0 0) := (cellq_any C4.out.out).trans rfl; have y3 : w4.frozen? ⟨w.heap.size + 1, 3, none⟩ = false := (by unfold World.frozen?; rw [C4.out.out]; rfl); have r4 : w4.cell? ⟨w.heap.size + 1, 4, none⟩ = some (.slice none 0 0) := (cellq_any C4.out.out).trans rfl; have y4 : w4.frozen? ⟨w.heap.size + 1, 4, none⟩ = false := (by unfold World.frozen?; rw [C4.out.out]; rfl); have hz : w.heap.size + 1 < w4.heap.size := lt_of_block C4.out.out; clear b4)
      | (go_at_call 23; refine (within_G a2 c2 ns _ false HW2.out LL.out.2 (HGA.out _ C2.out.bel).2.2).mono ?_; rintro e w3 ⟨rfl, b3⟩; have C3 : Hid (CBx w.heap.size w (gA g) w3) := C2.out.later b3; clear x0 x1 x2 x3 x4 r0 r1 r2 r3 r4 y0 y1 y2 y3 y4 hz; have x0 : w3.cell? ⟨w.heap.size, 0, none⟩ = some (.slice g.ta g.ts.length g.tc) := (cellq_any C3.out.box).trans rfl; have x1 : w3.cell? ⟨w.heap.size, 1, none⟩ = some (.slice g.na g.ns.length g.nc) := (cellq_any C3.out.box).trans rfl; have x2 : w3.cell? ⟨w.heap.size, 2, none⟩ = some (.int .i64 g.start) := (cellq_any C3.out.box).trans rfl; have x3 : w3.cell? ⟨w.heap.size, 3, none⟩ = some (.slice g.pa g.ps.length g.pc) := (cellq_any C3.out.box).trans rfl; have x4 : w3.cell? ⟨w.heap.size, 4, none⟩ = some (.slice g.la g.ls.length g.lc) := (cellq_any C3.out.box).trans rfl; have r0 : w3.cell? ⟨w.heap.size + 1, 0, none⟩ = some (.slice none 0 0) := (cellq_any C3.out.out).trans rfl; have y0 : w3.frozen? ⟨w.heap.size + 1, 0, none⟩ = false := (by unfold World.frozen?; rw [C3.out.out]; rfl); have r1 : w3.cell? ⟨w.heap.size + 1, 1, none⟩ = some (.slice none 0 0) := (cellq_any C3.out.out).trans rfl; have y1 : w3.frozen? ⟨w.heap.size + 1, 1, none⟩ = false := (by unfold World.frozen?; rw [C3.out.out]; rfl); have r2 : w3.cell? ⟨w.heap.size + 1, 2, none⟩ = some (.int .i64 0) := (cellq_any C3.out.out).trans rfl; have y2 : w3.frozen? ⟨w.heap.size + 1, 2, none⟩ = false := (by unfold World.frozen?; rw [C3.out.out]; rfl); have r3 : w3.cell? ⟨w.heap.size + 1, 3, none⟩ = some (.slice none 0 0) := (cellq_any C3.out.out).trans rfl; have y3 : w3.frozen? ⟨w.heap.size + 1, 3, none⟩ = false := (by unfold World.frozen?; rw [C3.out.out]; rfl); have r4 : w3.cell? ⟨w.heap.size + 1, 4, none⟩ = some (.slice none 0 0) := (cellq_any C3.out.out).trans rfl; have y4 : w3.frozen? ⟨w.heap.size + 1, 4, none⟩ = false := (by unfold World.frozen?; rw [C3.out.out]; rfl); have hz : w.heap.size + 1 < w3.heap.size := lt_of_block C3.out.out; clear b3)
      | (go_at_call 23; refine (within_G a1 c1 ts _ false HW1.out LL.out.1 (HGA.out _ C1.out.bel).2.1).mono ?_; rintro e w2 ⟨rfl, b2⟩; have C2 : Hid (CBx w.heap.size w (gA g) w2) := C1.out.later b2; clear x0 x1 x2 x3 x4 r0 r1 r2 r3 r4 y0 y1 y2 y3 y4 hz; have x0 : w2.cell? ⟨w.heap.size, 0, none⟩ = some (.slice g.ta g.ts.length g.tc) := (cellq_any C2.out.box).trans rfl; have x1 : w2.cell? ⟨w.heap.size, 1, none⟩ = some (.slice g.na g.ns.length g.nc) := (cellq_any C2.out.box).trans rfl; have x2 : w2.cell? ⟨w.heap.size, 2, none⟩ = some (.int .i64 g.start) := (cellq_any C2.out.box).trans rfl; have x3 : w2.cell? ⟨w.heap.size, 3, none⟩ = some (.slice g.pa g.ps.length g.pc) := (cellq_any C2.out.box).trans rfl; have x4 : w2.cell? ⟨w.heap.size, 4, none⟩ = some (.slice g.la g.ls.length g.lc) := (cellq_any C2.out.box).trans rfl; have r0 : w2.cell? ⟨w.heap.size + 1, 0, none⟩ = some (.slice none 0 0) := (cellq_any C2.out.out).trans rfl; have y0 : w2.frozen? ⟨w.heap.size + 1, 0, none⟩ = false := (by unfold World.frozen?; rw [C2.out.out]; rfl); have r1 : w2.cell? ⟨w.heap.size + 1, 1, none⟩ = some (.slice none 0 0) := (cellq_any C2.out.out).trans rfl; have y1 : w2.frozen? ⟨w.heap.size + 1, 1, none⟩ = false := (by unfold World.frozen?; rw [C2.out.out]; rfl); have r2 : w2.cell? ⟨w.heap.size + 1, 2, none⟩ = some (.int .i64 0) := (cellq_any C2.out.out).trans rfl; have y2 : w2.frozen? ⟨w.heap.size + 1, 2, none⟩ = false := (by unfold World.frozen?; rw [C2.out.out]; rfl); have r3 : w2.cell? ⟨w.heap.size + 1, 3, none⟩ = some (.slice none 0 0) := (cellq_any C2.out.out).trans rfl; have y3 : w2.frozen? ⟨w.heap.size + 1, 3, none⟩ = false := (by unfold World.frozen?; rw [C2.out.out]; rfl); have r4 : w2.cell? ⟨w.heap.size + 1, 4, none⟩ = some (.slice none 0 0) := (cellq_any C2.out.out).trans rfl; have y4 : w2.frozen? ⟨w.heap.size + 1, 4, none⟩ = false := (by unfold World.frozen?; rw [C2.out.out]; rfl); have hz : w.heap.size + 1 < w2.heap.size := lt_of_block C2.out.out; clear b2))
     refine bodyPost_ret (v := .tuple #[.agg #[.slice none 0 0, .slice none 0 0, .int .i64 0, .slice none 0 0, .slice none 0 0], .int .i64 6]) (by simp [results, Tryz.results7, go_sem, r0, r1, r2, r3, r4]) rfl ?_
     exact ⟨rfl, (C5.out.five _ _ _ _ _).1⟩
    | true =>
     rw [if_neg (by rw [t1', t2']; simp)] at hu
     exact absurd hu.symm h0
theorem renumber_ok (g : GV) (a1 a2 : Option Addr) (c1 c2 : Nat) (ts ns : List Int) (w : World) (h : GAt 140737488355328 w g) (hpc : g.ps.length <= g.pc) (at_ : Int) (hE : checkG g (checkF g.ts g.ns) = (0, at_)) (h1 : InRow w a1 ts) (h2 : InRow w a2 ns) (hl : ts.length <= 140737488355328 /\ ns.length <= 140737488355328) (hu : renU g ts ns = 0) :
  Calls Tryz.prog 7 #[g.val, .slice a1 ts.length c1, .slice a2 ns.length c2] w fun e w' => ∃ g' A H E pb lb tb nb, e = .returned (.tuple #[g'.val, .int .i64 0]) /\ SameG (g.ren ts ns) g' /\ MG w.heap.size w' g' A H E pb lb tb nb /\ Below w.heap.size w w' := by
 have CB0 : Hid (CBx w.heap.size w (gA g) ((w.alloc (.cells (gA g) 26)).alloc (.cells #[.slice none 0 0, .slice none 0 0, .int .i64 0, .slice none 0 0, .slice none 0 0] 26))) := cb_start g w
 have HGA : Hid (∀ w', Below w.heap.size w w' -> GAt 140737488355328 w' g /\ InRow w' a1 ts /\ InRow w' a2 ns) := fun w' hb => ⟨h.later hb, h1.later hb, h2.later hb⟩
 have he : ((0 : Int) != 0) = false := by simp
 have ok : OkC g := OkC.of (by rw [hE])
 obtain ⟨hl1, hl2⟩ := hl
 have htl := h.tl
 have hnl := h.nl
 clear h h1 h2
 have NO : Hid (NumOk g ts ns) := renU_ok hu
 have OK : Hid (OkC g) := ok
 have q1 := NO.out.tl
 have q2 := NO.out.nl
 have e1 : ((ts.length : Int) != g.ts.length) = false := by simp; omega
 have e2 : ((ns.length : Int) != g.ns.length) = false := by simp; omega
 have LL : Hid (ts.length <= 1048576 /\ ns.length <= 1048576) := ⟨by have := ok.tl; omega, by have := ok.nl; omega⟩
 have NE : Hid (ts ≠ [] /\ ns ≠ []) := ⟨fun e => by have := ok.tl; rw [e] at q1; simp at q1; omega, fun e => by have := ok.nl; rw [e] at q2; simp at q2; omega⟩
 unfold renU at hu
 rw [if_neg (by omega)] at hu
 obtain ⟨HW1, HW2⟩ : Hid ((ts.any fun n => outU ts.length n) = false) /\ Hid ((ns.any fun n => outU ns.length n) = false) := by
  by_cases h : (ts.any fun n => outU ts.length n) = true ∨ (ns.any fun n => outU ns.length n) = true
  ·rw [if_pos h] at hu; cases hu
  ·exact ⟨by have : ¬ (ts.any fun n => outU ts.length n) = true := fun e => h (.inl e); show _ = _; simpa using this, by have : ¬ (ns.any fun n => outU ns.length n) = true := fun e => h (.inr e); show _ = _; simpa using this⟩
 rw [if_neg (by rw [HW1.out, HW2.out]; simp)] at hu
 obtain ⟨HT1, HT2⟩ : Hid (risesU (sortU ts) = true) /\ Hid (risesU (sortU ns) = true) := by
  by_cases h : risesU (sortU ts) = false ∨ risesU (sortU ns) = false
  ·rw [if_pos h] at hu; cases hu
  ·exact ⟨by have : ¬ risesU (sortU ts) = false := fun e => h (.inl e); show _ = _; simpa using this, by have : ¬ risesU (sortU ns) = false := fun e => h (.inr e); show _ = _; simpa using this⟩
 clear hu q1 q2 ok
 go_enter Tryz.func7, Tryz.ntmps7
 go_wp2_with (first
  | (go_at_call 17; refine (check_G g _ (HGA.out _ CB0.out.bel).1 hpc 0 at_ hE).mono ?_; rintro e w1 ⟨rfl, b1⟩; have C1 : Hid (CBx w.heap.size w (gA g) w1) := CB0.out.later b1; have x0 : w1.cell? ⟨w.heap.size, 0, none⟩ = some (.slice g.ta g.ts.length g.tc) := (cellq_any C1.out.box).trans rfl; have x1 : w1.cell? ⟨w.heap.size, 1, none⟩ = some (.slice g.na g.ns.length g.nc) := (cellq_any C1.out.box).trans rfl; have x2 : w1.cell? ⟨w.heap.size, 2, none⟩ = some (.int .i64 g.start) := (cellq_any C1.out.box).trans rfl; have x3 : w1.cell? ⟨w.heap.size, 3, none⟩ = some (.slice g.pa g.ps.length g.pc) := (cellq_any C1.out.box).trans rfl; have x4 : w1.cell? ⟨w.heap.size, 4, none⟩ = some (.slice g.la g.ls.length g.lc) := (cellq_any C1.out.box).trans rfl; have r0 : w1.cell? ⟨w.heap.size + 1, 0, none⟩ = some (.slice none 0 0) := (cellq_any C1.out.out).trans rfl; have y0 : w1.frozen? ⟨w.heap.size + 1, 0, none⟩ = false := (by unfold World.frozen?; rw [C1.out.out]; rfl); have r1 : w1.cell? ⟨w.heap.size + 1, 1, none⟩ = some (.slice none 0 0) := (cellq_any C1.out.out).trans rfl; have y1 : w1.frozen? ⟨w.heap.size + 1, 1, none⟩ = false := (by unfold World.frozen?; rw [C1.out.out]; rfl); have r2 : w1.cell? ⟨w.heap.size + 1, 2, none⟩ = some (.int .i64 0) := (cellq_any C1.out.out).trans rfl; have y2 : w1.frozen? ⟨w.heap.size + 1, 2, none⟩ = false := (by unfold World.frozen?; rw [C1.out.out]; rfl); have r3 : w1.cell? ⟨w.heap.size + 1, 3, none⟩ = some (.slice none 0 0) := (cellq_any C1.out.out).trans rfl; have y3 : w1.frozen? ⟨w.heap.size + 1, 3, none⟩ = false := (by unfold World.frozen?; rw [C1.out.out]; rfl); have r4 : w1.cell? ⟨w.heap.size + 1, 4, none⟩ = some (.slice none 0 0) := (cellq_any C1.out.out).trans rfl; have y4 : w1.frozen? ⟨w.heap.size + 1, 4, none⟩ = false := (by unfold World.frozen?; rw [C1.out.out]; rfl); have hz : w.heap.size + 1 < w1.heap.size := lt_of_block C1.out.out; clear b1)
  | (go_at_call 24; refine (twice_G a2 c2 ns _ true HT2.out LL.out.2 (HGA.out _ C4.out.bel).2.2 NE.out.2).mono ?_; rintro e w5 ⟨rfl, b5⟩; have C5 : Hid (CBx w.heap.size w (gA g) w5) := C4.out.later b5; clear x0 x1 x2 x3 x4 r0 r1 r2 r3 r4 y0 y1 y2 y3 y4 hz; have x0 : w5.cell? ⟨w.heap.size, 0, none⟩ = some (.slice g.ta g.ts.length g.tc) := (cellq_any C5.out.box).trans rfl; have x1 : w5.cell? ⟨w.heap.size, 1, none⟩ = some (.slice g.na g.ns.length g.nc) := (cellq_any C5.out.box).trans rfl; have x2 : w5.cell? ⟨w.heap.size, 2, none⟩ = some (.int .i64 g.start) := (cellq_any C5.out.box).trans rfl; have x3 : w5.cell? ⟨w.heap.size, 3, none⟩ = some (.slice g.pa g.ps.length g.pc) := (cellq_any C5.out.box).trans rfl; have x4 : w5.cell? ⟨w.heap.size, 4, none⟩ = some (.slice g.la g.ls.length g.lc) := (cellq_any C5.out.box).trans rfl; have r0 : w5.cell? ⟨w.heap.size + 1, 0, none⟩ = some (.slice none 0 0) := (cellq_any C5.out.out).trans rfl; have y0 : w5.frozen? ⟨w.heap.size + 1, 0, none⟩ = false := (by unfold World.frozen?; rw [C5.out.out]; rfl); have r1 : w5.cell? ⟨w.heap.size + 1, 1, none⟩ = some (.slice none 0 0) := (cellq_any C5.out.out).trans rfl; have y1 : w5.frozen? ⟨w.heap.size + 1, 1, none⟩ = false := (by unfold World.frozen?; rw [C5.out.out]; rfl); have r2 : w5.cell? ⟨w.heap.size + 1, 2, none⟩ = some (.int .i64 0) := (cellq_any C5.out.out).trans rfl; have y2 : w5.frozen? ⟨w.heap.size + 1, 2, none⟩ = false := (by unfold World.frozen?; rw [C5.out.out]; rfl); have r3 : w5.cell? ⟨w.heap.size + 1, 3, none⟩ = some (.slice none 0 0) := (cellq_any C5.out.out).trans rfl; have y3 : w5.frozen? ⟨w.heap.size + 1, 3, none⟩ = false := (by unfold World.frozen?; rw [C5.out.out]; rfl); have r4 : w5.cell? ⟨w.heap.size + 1, 4, none⟩ = some (.slice none 0 0) := (cellq_any C5.out.out).trans rfl; have y4 : w5.frozen? ⟨w.heap.size + 1, 4, none⟩ = false := (by unfold World.frozen?; rw [C5.out.out]; rfl); have hz : w.heap.size + 1 < w5.heap.size := lt_of_block C5.out.out; clear b5)
  | (go_at_call 24; refine (twice_G a1 c1 ts _ true HT1.out LL.out.1 (HGA.out _ C3.out.bel).2.1 NE.out.1).mono ?_; rintro e w4 ⟨rfl, b4⟩; have C4 : Hid (CBx w.heap.size w (gA g) w4) := C3.out.later b4; clear x0 x1 x2 x3 x4 r0 r1 r2 r3 r4 y0 y1 y2 y3 y4 hz; have x0 : w4.cell? ⟨w.heap.size, 0, none⟩ = some (.slice g.ta g.ts.length g.tc) := (cellq_any C4.out.box).trans rfl; have x1 : w4.cell? ⟨w.heap.size, 1, none⟩ = some (.slice g.na g.ns.length g.nc) := (cellq_any C4.out.box).trans rfl; have x2 : w4.cell? ⟨w.heap.size, 2, none⟩ = some (.int .i64 g.start) := (cellq_any C4.out.box).trans rfl; have x3 : w4.cell? ⟨w.heap.size, 3, none⟩ = some (.slice g.pa g.ps.length g.pc) := (cellq_any C4.out.box).trans rfl; have x4 : w4.cell? ⟨w.heap.size, 4, none⟩ = some (.slice g.la g.ls.length g.lc) := (cellq_any C4.out.box).trans rfl; have r0 : w4.cell? ⟨w.heap.size + 1, 0, none⟩ = some (.slice none 0 0) := (cellq_any C4.out.out).trans rfl; have y0 : w4.frozen? ⟨w.heap.size + 1, 0, none⟩ = false := (by unfold World.frozen?; rw [C4.out.out]; rfl); have r1 : w4.cell? ⟨w.heap.size + 1, 1, none⟩ = some (.slice none 0 0) := (cellq_any C4.out.out).trans rfl; have y1 : w4.frozen? ⟨w.heap.size + 1, 1, none⟩ = false := (by unfold World.frozen?; rw [C4.out.out]; rfl); have r2 : w4.cell? ⟨w.heap.size + 1, 2, none⟩ = some (.int .i64 0) := (cellq_any C4.out.out).trans rfl; have y2 : w4.frozen? ⟨w.heap.size + 1, 2, none⟩ = false := (by unfold World.frozen?; rw [C4.out.out]; rfl); have r3 : w4.cell? ⟨w.heap.size + 1, 3, none⟩ = some (.slice none 0 0) := (cellq_any C4.out.out).trans rfl; have y3 : w4.frozen? ⟨w.heap.size + 1, 3, none⟩ = false := (by unfold World.frozen?; rw [C4.out.out]; rfl); have r4 : w4.cell? ⟨w.heap.size + 1, 4, none⟩ = some (.slice none 0 0) := (cellq_any C4.out.out).trans rfl; have y4 : w4.frozen? ⟨w.heap.size + 1, 4, none⟩ = false := (by unfold World.frozen?; rw [C4.out.out]; rfl); have hz : w.heap.size + 1 < w4.heap.size := lt_of_block C4.out.out; clear b4)
  | (go_at_call 23; refine (within_G a2 c2 ns _ false HW2.out LL.out.2 (HGA.out _ C2.out.bel).2.2).mono ?_; rintro e w3 ⟨rfl, b3⟩; have C3 : Hid (CBx w.heap.size w (gA g) w3) := C2.out.later b3; clear x0 x1 x2 x3 x4 r0 r1 r2 r3 r4 y0 y1 y2 y3 y4 hz; have x0 : w3.cell? ⟨w.heap.size, 0, none⟩ = some (.slice g.ta g.ts.length g.tc) := (cellq_any C3.out.box).trans rfl; have x1 : w3.cell? ⟨w.heap.size, 1, none⟩ = some (.slice g.na g.ns.length g.nc) := (cellq_any C3.out.box).trans rfl; have x2 : w3.cell? ⟨w.heap.size, 2, none⟩ = some (.int .i64 g.start) := (cellq_any C3.out.box).trans rfl; have x3 : w3.cell? ⟨w.heap.size, 3, none⟩ = some (.slice g.pa g.ps.length g.pc) := (cellq_any C3.out.box).trans rfl; have x4 : w3.cell? ⟨w.heap.size, 4, none⟩ = some (.slice g.la g.ls.length g.lc) := (cellq_any C3.out.box).trans rfl; have r0 : w3.cell? ⟨w.heap.size + 1, 0, none⟩ = some (.slice none 0 0) := (cellq_any C3.out.out).trans rfl; have y0 : w3.frozen? ⟨w.heap.size + 1, 0, none⟩ = false := (by unfold World.frozen?; rw [C3.out.out]; rfl); have r1 : w3.cell? ⟨w.heap.size + 1, 1, none⟩ = some (.slice none 0 0) := (cellq_any C3.out.out).trans rfl; have y1 : w3.frozen? ⟨w.heap.size + 1, 1, none⟩ = false := (by unfold World.frozen?; rw [C3.out.out]; rfl); have r2 : w3.cell? ⟨w.heap.size + 1, 2, none⟩ = some (.int .i64 0) := (cellq_any C3.out.out).trans rfl; have y2 : w3.frozen? ⟨w.heap.size + 1, 2, none⟩ = false := (by unfold World.frozen?; rw [C3.out.out]; rfl); have r3 : w3.cell? ⟨w.heap.size + 1, 3, none⟩ = some (.slice none 0 0) := (cellq_any C3.out.out).trans rfl; have y3 : w3.frozen? ⟨w.heap.size + 1, 3, none⟩ = false := (by unfold World.frozen?; rw [C3.out.out]; rfl); have r4 : w3.cell? ⟨w.heap.size + 1, 4, none⟩ = some (.slice none 0 0) := (cellq_any C3.out.out).trans rfl; have y4 : w3.frozen? ⟨w.heap.size + 1, 4, none⟩ = false := (by unfold World.frozen?; rw [C3.out.out]; rfl); have hz : w.heap.size + 1 < w3.heap.size := lt_of_block C3.out.out; clear b3)
  | (go_at_call 23; refine (within_G a1 c1 ts _ false HW1.out LL.out.1 (HGA.out _ C1.out.bel).2.1).mono ?_; rintro e w2 ⟨rfl, b2⟩; have C2 : Hid (CBx w.heap.size w (gA g) w2) := C1.out.later b2; clear x0 x1 x2 x3 x4 r0 r1 r2 r3 r4 y0 y1 y2 y3 y4 hz; have x0 : w2.cell? ⟨w.heap.size, 0, none⟩ = some (.slice g.ta g.ts.length g.tc) := (cellq_any C2.out.box).trans rfl; have x1 : w2.cell? ⟨w.heap.size, 1, none⟩ = some (.slice g.na g.ns.length g.nc) := (cellq_any C2.out.box).trans rfl; have x2 : w2.cell? ⟨w.heap.size, 2, none⟩ = some (.int .i64 g.start) := (cellq_any C2.out.box).trans rfl; have x3 : w2.cell? ⟨w.heap.size, 3, none⟩ = some (.slice g.pa g.ps.length g.pc) := (cellq_any C2.out.box).trans rfl; have x4 : w2.cell? ⟨w.heap.size, 4, none⟩ = some (.slice g.la g.ls.length g.lc) := (cellq_any C2.out.box).trans rfl; have r0 : w2.cell? ⟨w.heap.size + 1, 0, none⟩ = some (.slice none 0 0) := (cellq_any C2.out.out).trans rfl; have y0 : w2.frozen? ⟨w.heap.size + 1, 0, none⟩ = false := (by unfold World.frozen?; rw [C2.out.out]; rfl); have r1 : w2.cell? ⟨w.heap.size + 1, 1, none⟩ = some (.slice none 0 0) := (cellq_any C2.out.out).trans rfl; have y1 : w2.frozen? ⟨w.heap.size + 1, 1, none⟩ = false := (by unfold World.frozen?; rw [C2.out.out]; rfl); have r2 : w2.cell? ⟨w.heap.size + 1, 2, none⟩ = some (.int .i64 0) := (cellq_any C2.out.out).trans rfl; have y2 : w2.frozen? ⟨w.heap.size + 1, 2, none⟩ = false := (by unfold World.frozen?; rw [C2.out.out]; rfl); have r3 : w2.cell? ⟨w.heap.size + 1, 3, none⟩ = some (.slice none 0 0) := (cellq_any C2.out.out).trans rfl; have y3 : w2.frozen? ⟨w.heap.size + 1, 3, none⟩ = false := (by unfold World.frozen?; rw [C2.out.out]; rfl); have r4 : w2.cell? ⟨w.heap.size + 1, 4, none⟩ = some (.slice none 0 0) := (cellq_any C2.out.out).trans rfl; have y4 : w2.frozen? ⟨w.heap.size + 1, 4, none⟩ = false := (by unfold World.frozen?; rw [C2.out.out]; rfl); have hz : w.heap.size + 1 < w2.heap.size := lt_of_block C2.out.out; clear b2)
  | (go_at_call 25; refine (ren_G g a1 a2 c1 c2 ts ns _ ((HGA.out _ C5.out.bel).1.ok OK.out) OK.out NO.out (HGA.out _ C5.out.bel).2.1 (HGA.out _ C5.out.bel).2.2).mono ?_; rintro e w6 ⟨⟨ta, tc, tsx, na, nc, nsx, stx, pa, pc, psx, la, lc, lsx⟩, A, H, E, pb, lb, tb, nb, rfl, sg', mg', b6⟩; have C6 : Hid (CBx w.heap.size w (gA g) w6) := C5.out.later b6; have SG : Hid (SameG (g.ren ts ns) ⟨ta, tc, tsx, na, nc, nsx, stx, pa, pc, psx, la, lc, lsx⟩) := sg'; have M6 : Hid (MG w5.heap.size w6 ⟨ta, tc, tsx, na, nc, nsx, stx, pa, pc, psx, la, lc, lsx⟩ A H E pb lb tb nb) := mg'; clear x0 x1 x2 x3 x4 r0 r1 r2 r3 r4 y0 y1 y2 y3 y4 hz; have x0 : w6.cell? ⟨w.heap.size, 0, none⟩ = some (.slice g.ta g.ts.length g.tc) := (cellq_any C6.out.box).trans rfl; have x1 : w6.cell? ⟨w.heap.size, 1, none⟩ = some (.slice g.na g.ns.length g.nc) := (cellq_any C6.out.box).trans rfl; have x2 : w6.cell? ⟨w.heap.size, 2, none⟩ = some (.int .i64 g.start) := (cellq_any C6.out.box).trans rfl; have x3 : w6.cell? ⟨w.heap.size, 3, none⟩ = some (.slice g.pa g.ps.length g.pc) := (cellq_any C6.out.box).trans rfl; have x4 : w6.cell? ⟨w.heap.size, 4, none⟩ = some (.slice g.la g.ls.length g.lc) := (cellq_any C6.out.box).trans rfl; have r0 : w6.cell? ⟨w.heap.size + 1, 0, none⟩ = some (.slice none 0 0) := (cellq_any C6.out.out).trans rfl; have y0 : w6.frozen? ⟨w.heap.size + 1, 0, none⟩ = false := (by unfold World.frozen?; rw [C6.out.out]; rfl); have r1 : w6.cell? ⟨w.heap.size + 1, 1, none⟩ = some (.slice none 0 0) := (cellq_any C6.out.out).trans rfl; have y1 : w6.frozen? ⟨w.heap.size + 1, 1, none⟩ = false := (by unfold World.frozen?; rw [C6.out.out]; rfl); have r2 : w6.cell? ⟨w.heap.size + 1, 2, none⟩ = some (.int .i64 0) := (cellq_any C6.out.out).trans rfl; have y2 : w6.frozen? ⟨w.heap.size + 1, 2, none⟩ = false := (by unfold World.frozen?; rw [C6.out.out]; rfl); have r3 : w6.cell? ⟨w.heap.size + 1, 3, none⟩ = some (.slice none 0 0) := (cellq_any C6.out.out).trans rfl; have y3 : w6.frozen? ⟨w.heap.size + 1, 3, none⟩ = false := (by unfold World.frozen?; rw [C6.out.out]; rfl); have r4 : w6.cell? ⟨w.heap.size + 1, 4, none⟩ = some (.slice none 0 0) := (cellq_any C6.out.out).trans rfl; have y4 : w6.frozen? ⟨w.heap.size + 1, 4, none⟩ = false := (by unfold World.frozen?; rw [C6.out.out]; rfl); have hz : w.heap.size + 1 < w6.heap.size := lt_of_block C6.out.out; clear b6 sg' mg'))
 refine bodyPost_ret (v := .tuple #[.agg #[.slice ta tsx.length tc, .slice na nsx.length nc, .int .i64 stx, .slice pa psx.length pc, .slice la lsx.length lc], .int .i64 0]) (by simp [results, Tryz.results7, go_sem, r0, r1, r2, r3, r4]) rfl ?_
 have h5 := C6.out.five (.slice ta tsx.length tc) (.slice na nsx.length nc) (.int .i64 stx) (.slice pa psx.length pc) (.slice la lsx.length lc)
 have hsz := lt_of_block C5.out.out
 refine ⟨⟨ta, tc, tsx, na, nc, nsx, stx, pa, pc, psx, la, lc, lsx⟩, A, H, E, pb, lb, tb, nb, rfl, SG.out, ?_, h5.1⟩
 refine (M6.out.kept ?_ fun j hj _ => h5.2 j (by omega)).mono (by omega)
 simp
end Go.Proofs.YthgnhdnmcjpdmaaGreatDoor
