import Derived.Test.YtcjejnenklppiaaDoorBZ14
namespace Go.Proofs.YtcjejnenklppiaaDoor
set_option linter.unusedVariables false
open Go.RowKit Go.Shelf

/-- What Order answers. -/
def OrA (w : World) (n : Int) (E : List (Int × Int)) (e : Ending) (w' : World) : Prop :=
  Below w.heap.size w w' ∧ (((decide (0 ≤ n) && decide (n ≤ 4096)) = false ∧ e = .returned (.tuple #[.slice none 0 0, .slice none 0 0, .int .i64 4])) ∨ ∃ k : Nat, n = (k : Int) ∧ k ≤ 4096 ∧
    ((E.all (okE k) = false ∧ e = .returned (.tuple #[.slice none 0 0, .slice none 0 0, .int .i64 51])) ∨ (E.all (okE k) = true ∧ ∃ Ns, RelB E k Ns ∧
      (((placeU Ns k).length = k ∧ ∃ v, e = .returned (.tuple #[v, .slice none 0 0, .int .i64 0]) ∧ LBs w (nI (placeU Ns k)) v w') ∨
       ((placeU Ns k).length < k ∧ ∃ v Cy, e = .returned (.tuple #[.slice none 0 0, v, .int .i64 73]) ∧ LBs w (nI Cy) v w' ∧ CyP Ns k Cy)))))
set_option maxRecDepth 100000 in
set_option maxHeartbeats 8000000 in
theorem order_any (n : Int) (w : World) (ea : Option Addr) (ec : Nat) (E : List (Int × Int)) (hE : PrsB w ea E) (hEl : E.length ≤ 140737488355328) (hT : TabB w) : Calls Tryd.prog 42 #[.int .i64 n, .slice ea E.length ec] w (OrA w n E) := by
  by_cases hn : (decide (0 ≤ n) && decide (n ≤ 4096)) = false
  · have RF : Hid (Calls Tryd.prog 43 #[.int .i64 n, .slice ea E.length ec] w fun e w' => e = .returned (.tuple #[.slice none 0 0, .int .i64 4]) ∧ w' = w) := rows_far n hn ea E.length ec w
    have HN : Hid ((decide (0 ≤ n) && decide (n ≤ 4096)) = false) := hn
    clear hE hT hn
    generalize E.length = el at *
    go_enter Tryd.func42, Tryd.ntmps42
    go_wp2_with (go_at_call 43; refine RF.out.mono ?_; rintro e w1 ⟨rfl, hz⟩; rw [hz]; clear hz w1)
    refine bodyPost_ret (v := .tuple #[.slice none 0 0, .slice none 0 0, .int .i64 4]) (by simp [results, Tryd.results42, go_sem]) rfl ?_
    exact ⟨Below.refl _ _, .inl ⟨HN.out, rfl⟩⟩
  · obtain ⟨k, rfl⟩ : ∃ k : Nat, n = (k : Int) := ⟨n.toNat, by simp at hn; omega⟩
    have hk : k ≤ 4096 := by simp at hn; omega
    have RF : Hid (Calls Tryd.prog 43 #[.int .i64 (k : Int), .slice ea E.length ec] w (RoA w k E)) := rows_SB hk ea ec E hE hEl
    have HT : Hid (TabB w) := hT
    clear hE hT hn
    generalize hel : E.length = el at *
    clear hel
    go_enter Tryd.func42, Tryd.ntmps42
    go_wp2_with (go_at_call 43; refine RF.out.mono ?_)
    rintro e w1 (⟨hE, rfl, b1⟩ | ⟨hE, Ns, rfl, t1, hb1⟩)
    · have HE : Hid (E.all (okE k) = false ∧ Below w.heap.size w w1) := ⟨hE, b1⟩
      clear hE b1
      go_wp2
      refine bodyPost_ret (v := .tuple #[.slice none 0 0, .slice none 0 0, .int .i64 51]) (by simp [results, Tryd.results42, go_sem]) rfl ?_
      exact ⟨HE.out.2, .inr ⟨k, rfl, hk, .inl ⟨HE.out.1, rfl⟩⟩⟩
    · have HE : Hid (E.all (okE k) = true ∧ RelB E k Ns ∧ Below w.heap.size w w1) := ⟨hE, t1.rel hb1, t1.bel⟩
      have T1 : Hid (TuB w k Ns w1) := t1
      have PL : Hid (Calls Tryd.prog 51 #[.slice (some ⟨w.heap.size, 0, none⟩) k k] w1 fun e w' => ∃ v, e = .returned v ∧ IL w' v (nI (placeU Ns k)) ∧ (∀ j, v.ownBlock = some j → w1.heap.size ≤ j) ∧ Below w1.heap.size w1 w') := place_SB t1.rw t1.len hk (HT.out.later t1.bel) k
      obtain ⟨P, _, hP2⟩ := place_is Ns k
      clear hE t1 hb1
      go_wp2_with (go_at_call 51; refine PL.out.mono ?_)
      rintro e w2 ⟨v2, rfl, i2, o2, b2⟩
      obtain ⟨pa, pc, rfl⟩ := il_lenB i2
      have B2 : Hid (Below w.heap.size w w2) := HE.out.2.2.trans (b2.mono HE.out.2.2.size)
      rcases hP2 with hfull | ⟨hshort, _⟩
      · have L2 : Hid (LBs w (nI (placeU Ns k)) (.slice pa k pc) w2) := by
          rw [hfull] at i2 o2
          exact ⟨i2, fun j hj => Nat.le_trans HE.out.2.2.size (o2 j hj), B2.out⟩
        have HFU : Hid ((placeU Ns k).length = k) := hfull
        rw [hfull]
        have klt : ¬ (k : Int) < (k : Int) := by omega
        clear i2 o2 b2 PL hfull
        go_wp2
        refine bodyPost_ret (v := .tuple #[.slice pa k pc, .slice none 0 0, .int .i64 0]) (by simp [results, Tryd.results42, go_sem]) rfl ?_
        exact ⟨B2.out, .inr ⟨k, rfl, hk, .inr ⟨HE.out.1, Ns, HE.out.2.1, .inl ⟨HFU.out, _, rfl, L2.out⟩⟩⟩⟩
      · have HSH : Hid ((placeU Ns k).length < k) := hshort
        have CY : Hid (Calls Tryd.prog 52 #[.slice (some ⟨w.heap.size, 0, none⟩) k k] w2 fun e w' => ∃ v Cy, e = .returned v ∧ LBs w (nI Cy) v w' ∧ CyP Ns k Cy) := (cycle_SB (T1.out.rw.later b2) T1.out.len hk ((HT.out.later T1.out.bel).later b2) hshort k).mono fun e w' ⟨v, Cy, q1, q2, q3⟩ => ⟨v, Cy, q1, ⟨q2.il, fun j hj => Nat.le_trans B2.out.size (q2.own j hj), B2.out.trans (q2.bel.mono B2.out.size)⟩, q3⟩
        have klt : ((placeU Ns k).length : Int) < (k : Int) := by omega
        generalize hpl : (placeU Ns k).length = pl at *
        clear i2 o2 b2 PL hshort
        go_wp2_with (go_at_call 52; refine CY.out.mono ?_; rintro e w3 ⟨v3, Cy, rfl, l3, p3⟩; have L3 : Hid (LBs w (nI Cy) v3 w3 ∧ CyP Ns k Cy) := ⟨l3, p3⟩; clear l3 p3)
        refine bodyPost_ret (v := .tuple #[.slice none 0 0, v3, .int .i64 73]) (by simp [results, Tryd.results42, go_sem]) rfl ?_
        exact ⟨L3.out.1.bel, .inr ⟨k, rfl, hk, .inr ⟨HE.out.1, Ns, HE.out.2.1, .inr ⟨by rw [hpl]; exact HSH.out, v3, Cy, rfl, L3.out.1, L3.out.2⟩⟩⟩⟩
end Go.Proofs.YtcjejnenklppiaaDoor
