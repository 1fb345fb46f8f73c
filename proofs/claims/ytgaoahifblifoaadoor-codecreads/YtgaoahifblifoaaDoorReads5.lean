import Derived.Test.YtgaoahifblifoaaDoorReads4
import Derived.Test.YtgaoahifblifoaaDoorGetArg
namespace Go.Proofs.YtgaoahifblifoaaDoor
set_option linter.unusedVariables false
open Go.RowKit

/-- In the loop. -/
def RSt (B : Nat) (w1 : World) (r q : Nat) (ro : Option Addr) (N rc : Nat) (qo : Option Addr) (qc : Nat) (xs : List Int) (wr : World) : Prop :=
  ∃ p e, Pair2 wr r q ro N rc qo qc xs p p e e ∧ Below B w1 wr ∧ B ≤ r ∧ B ≤ q ∧ B ≤ wr.heap.size
theorem qinv_new (w : World) (ao : Option Addr) (cap : Nat) (xs : List Int) (hl : xs.length ≤ 140737488355328) (hr : RowAt w ao xs) (hlt : ∀ b off, ao = some ⟨b, off, none⟩ → xs ≠ [] → b < w.heap.size) :
    QInv (w.alloc (.cells #[.slice ao xs.length cap, .int .i64 0, .int .i64 0, .int .i64 0] 65)) w.heap.size ao cap xs 0 0 := by
  refine ⟨?_, hr.later (below_alloc w _), Nat.zero_le _, hl, fun b off e hn => Nat.ne_of_lt (hlt b off e hn)⟩
  have := heap_alloc_new w (.cells #[.slice ao xs.length cap, .int .i64 0, .int .i64 0, .int .i64 0] 65)
  simpa [spotS] using this
theorem row_lt {w : World} {ao : Option Addr} {xs : List Int} (hr : RowAt w ao xs) : ∀ b off, ao = some ⟨b, off, none⟩ → xs ≠ [] → b < w.heap.size := fun b off e hn => by
  obtain ⟨b', off', e', hc⟩ := hr.2 hn
  rw [e] at e'
  simp at e'
  obtain ⟨rfl, rfl⟩ := e'
  exact World.block_lt_of_cell? w _ (hc 0 (List.length_pos_iff.2 hn))
set_option maxRecDepth 100000 in
set_option maxHeartbeats 4000000 in
theorem reads_walk (ao lo : Option Addr) (ca cl : Nat) (xs : List Int) (l : List GetV) (w : World) (hm : Magic w) (hx : xs.length ≤ 140737488351232) (hl : l.length ≤ 140737488355328) (hr : RowAt w ao xs) (hz : GetsAt w lo l) (hna : ao = none → ca = 0) (hcb : xs.length ≤ ca) :
    Calls Tryd.prog 5 #[.slice ao xs.length ca, .slice lo l.length cl] w fun e w' => e = .returned (.bool true) ∧ Below w.heap.size w w' := by
  have HX : Hid (xs.length ≤ 140737488355300) := Nat.le_trans hx (by decide)
  have HX2 : Hid (xs.length ≤ 140737488355328) := Nat.le_trans hx (by decide)
  have HRA : Hid (RowAt (w.alloc gNew) ao xs) := hr.later (below_alloc w _)
  have HB0 : Hid (w.heap.size ≤ (w.alloc gNew).heap.size) := (below_alloc w gNew).size
  have HE0 : Hid (([] : List GE).length ≤ 1000) := by show _ ≤ _; simp
  have HE1 : Hid (∀ x1 : GE, ([] ++ [x1]).length ≤ 1000) := fun x1 => by simp
  obtain ⟨hz, hzr⟩ := hz
  go_enter Tryd.func5, Tryd.ntmps5
  go_wp2_with (first
    | (go_at_call 10; (with_reducible refine (gbytes_at w.heap.size w.heap.size gNil gNil [] ao xs.length ca xs (w.alloc gNew) rfl HX.out HRA.out (ginv_new w) HE0.out HB0.out (Nat.le_refl _) (gnil_own _) (gnil_own _)).mono ?_); rintro e w1 ⟨L1, W1, x1, g1, rfl, hG1, hr1, hk1', hL1, hW1, hb1'⟩; have hb1 := (below_alloc w gNew).trans hb1'; clear hk1' hb1')
    | (go_at_call 22; (with_reducible refine (newreader_any (some ⟨g1, 0, none⟩) xs.length (xs.length + 3) xs w1 rfl HX2.out hr1 no_nil).mono ?_); rintro e w2 ⟨r, ro, N, rc, rfl, hR, hrl, hb2⟩))
  go_loopw [8] (fun i wr => ∃ k : Nat, k ≤ l.length ∧ i = .int .i64 k ∧ RSt w1.heap.size w1 r w2.heap.size ro N rc ao ca xs wr) (fun i _ => l.length - (intOf i).toNat)
  case atStart =>
    have hr2 : RowAt w2 ao xs := (hr.later hb1).later hb2
    exact ⟨0, Nat.zero_le _, rfl, 0, 0, ⟨hR.later (below_alloc w2 _), qinv_new w2 ao ca xs HX2.out hr2 (row_lt hr2), hcb⟩, hb2.alloc hb2.size _, hrl, hb2.size, by have := hb2.size; simp; omega⟩
  case round =>
    obtain ⟨k, hk, rfl, p, e, hP, hB, l1, l2, l3⟩ := hrel
    clear hR hb2 hrl
    by_cases hlt : k < l.length
    · obtain ⟨bb, off, rfl, hbl, hc⟩ := hzr (by intro q; subst q; simp at hlt)
      obtain ⟨c0, c1, c2, c3⟩ := hc k hlt
      obtain ⟨⟨m0, m1⟩, m2⟩ := hz (l.getD k .none) (by simp [List.getD, hlt])
      clear hc hzr hz
      generalize l.getD k .none = o at *
      obtain ⟨wh, mo, le, co⟩ := o
      simp only at c0 c1 c2 c3 m0 m1 m2
      have hw := hb1.trans (hB.mono hb1.size)
      have d0 := (hw.cell (p := ⟨bb, off + k * 4, none⟩) hbl).trans c0
      have d1 := (hw.cell (p := ⟨bb, off + k * 4 + 1, none⟩) hbl).trans c1
      have d2 := (hw.cell (p := ⟨bb, off + k * 4 + 2, none⟩) hbl).trans c2
      have d3 := (hw.cell (p := ⟨bb, off + k * 4 + 3, none⟩) hbl).trans c3
      have LO : Hid (w1.heap.size ≤ r ∧ w1.heap.size ≤ w2.heap.size ∧ w1.heap.size ≤ wr.heap.size) := ⟨l1, l2, l3⟩
      clear c0 c1 c2 c3 hw hG1 hr1 HRA
      go_wp2_with (first
        | (go_at_call 23; refine (reads_any hP hB LO.out _ m0 m1 m2).mono ?_; rintro x w3 ⟨rfl, p3, e3, M3⟩))
      go_roundw
      case rel => exact ⟨k + 1, by omega, by go_num, p3, e3, M3.P, M3.be, M3.lo.1, M3.lo.2.1, M3.lo.2.2⟩
      case measure => simp [intOf]; omega
    · have hG2 := hG1.later hB
      have hb3 := hb1.trans (hB.mono hb1.size)
      clear hzr hz hP hG1 hr1 HRA
      go_wp2_with (first
        | (go_at_call 18; (with_reducible refine (intact_any w.heap.size L1 W1 ([] ++ [x1]) wr hG2 (HE1.out x1)).mono ?_); rintro e w9 ⟨rfl, hs9⟩; have hb9 := hb3.trans (hs9 _); have hm9 := hm.later hb9 hm.lt)
        | (go_at_call 19; (with_reducible refine (alive_any w9 hm9).mono ?_); rintro e w10 ⟨rfl, hb10⟩; have hb11 := hb9.trans (hb10.mono hb9.size)))
      go_ret
      exact ⟨rfl, hb11⟩
end Go.Proofs.YtgaoahifblifoaaDoor
