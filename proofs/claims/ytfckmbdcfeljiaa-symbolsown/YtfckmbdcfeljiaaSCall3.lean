import Derived.Test.YtfckmbdcfeljiaaSCall2
import Derived.Test.YtfckmbdcfeljiaaSDenseP
namespace Go.Proofs.Ytfckmbdcfeljiaa
set_option linter.unusedVariables false
open Go.RowKit Go.Maps

set_option maxRecDepth 100000 in
set_option maxHeartbeats 2000000 in
theorem name_core {w : World} {p g b : Nat} {T N : Value} {D : DataW Unit} {ts ns : List ByteArray} (h : BInv w p g b T N D ts ns) (k n : Int) (x : ByteArray) (ok : Bool) (hx : nameF ts ns k n = (x, ok)) (hok : ok = true ∨ ok = false ∧ x = ⟨#[]⟩) :
    Calls Try.prog 41 #[.pointer (some ⟨p, 0, none⟩), .agg #[.int .i64 k, .int .i64 n]] w fun e w' => e = .returned (.tuple #[.string x, .int .i64 (bif ok then 0 else 35)]) ∧ Below w.heap.size w w' := by
  have hA := h.later (below_alloc w (.cells #[.int .i64 k, .int .i64 n] 70))
  have cN : ∀ w', Below (w.alloc (.cells #[.int .i64 k, .int .i64 n] 70)).heap.size (w.alloc (.cells #[.int .i64 k, .int .i64 n] 70)) w' → Calls Try.prog 59 #[T, N, .agg #[.int .i64 k, .int .i64 n]] w' fun e w'' => e = .returned (.tuple #[.string x, .bool ok]) ∧ Below w'.heap.size w' w'' := fun w' hb => by
    have h' := hA.later hb
    obtain ⟨ta, tc, rfl, hr, _, _⟩ := h'.tn.row
    obtain ⟨na, nc, rfl, hr', _, _⟩ := h'.nn.row
    have t1 := h.tl
    have t2 := h.nl
    have := nameof_any ta na ts.length ns.length tc nc ts ns k n w' rfl rfl hr hr' (by omega) (by omega)
    rw [hx] at this
    exact this
  obtain ⟨d0, d1, d2, d3, lp, lg⟩ := hA.cells
  have xP := fun y : Ext (w.alloc (.cells #[.int .i64 k, .int .i64 n] 70)) => (y.cell (a := ⟨p, 0, none⟩) lp).trans d0
  have xT := fun y : Ext (w.alloc (.cells #[.int .i64 k, .int .i64 n] 70)) => (y.cell (a := ⟨g, 4, none⟩) lg).trans d2
  have xN := fun y : Ext (w.alloc (.cells #[.int .i64 k, .int .i64 n] 70)) => (y.cell (a := ⟨g, 8, none⟩) lg).trans d3
  have bx := boxAt_new w k n 70
  have x0 := fun y : Ext (w.alloc (.cells #[.int .i64 k, .int .i64 n] 70)) => (bx.ext y).1
  have x1 := fun y : Ext (w.alloc (.cells #[.int .i64 k, .int .i64 n] 70)) => (bx.ext y).2
  have fin := below_alloc w (.cells #[.int .i64 k, .int .i64 n] 70)
  clear h bx
  obtain rfl | ⟨rfl, rfl⟩ := hok
  all_goals
    go_enter Try.func41, Try.ntmps41
    go_wp2_with (first | (go_at_call 22; refine (made_any hA).mono ?_; rintro e w' ⟨rfl, rfl⟩))
    refine wp_region_ext (by kernel_rfl) (by kernel_rfl) ?_
    repeat (quiet_step (first | (go_at_call 59; exact Calls.ext_of (cN _ (Ext.h _)))))
    refine wpQuiet_nil ?_
    rintro _ ⟨x6, rfl⟩
    go_wp2
    go_returns
    exact ⟨rfl, fin.trans (x6.h.mono fin.size)⟩

theorem take_eq_stepS {xs ys : List ByteArray} {k : Nat} (h : xs.take k = ys.take k) (hx : k < xs.length) (hy : k < ys.length) (e : xs.getD k ByteArray.empty = ys.getD k ByteArray.empty) : xs.take (k + 1) = ys.take (k + 1) := by
  rw [List.take_succ_eq_append_getElem hx, List.take_succ_eq_append_getElem hy, h]
  simp [List.getD, hx, hy] at e
  rw [e]
set_option maxHeartbeats 1000000 in
theorem samestrs_eq (ao bo : Option Addr) (n m ca cb : Nat) (ss : List ByteArray) (w : World) (hn : n = ss.length) (hm : m = ss.length) (hl : ss.length ≤ 140737488355328) (hr : StrRow w ao ss) (hs : StrRow w bo ss) :
    Calls Try.prog 13 #[.slice ao n ca, .slice bo m cb] w fun e w' => e = .returned (.bool true) ∧ Below w.heap.size w w' := by
  subst hn hm
  have hb : ((ss.length : Int) != ss.length) = false := by simp
  go_enter Try.func13, Try.ntmps13
  go_wp2
  go_loopw [5] (fun i wr => ∃ k : Nat, k ≤ ss.length ∧ i = .int .i64 k ∧ Below w.heap.size w wr) (fun i _ => ss.length - (intOf i).toNat)
  case atStart => exact ⟨0, Nat.zero_le _, rfl, Below.refl _ _⟩
  case round =>
    obtain ⟨k, hk, rfl, hB⟩ := hrel
    by_cases hlt : k < ss.length
    · obtain ⟨b, off, rfl, _, hc⟩ := (hr.later hB) (by intro h; subst h; simp at hlt)
      obtain ⟨b2, off2, rfl, _, hc2⟩ := (hs.later hB) (by intro h; subst h; simp at hlt)
      have h1 := hc k hlt
      have h2 := hc2 k hlt
      clear hc hc2 hr hs
      generalize ss.getD k ByteArray.empty = x at *
      have het : (x.toList != x.toList) = false := by simp
      go_wp2
      go_quiet (fail)
      go_wp2
      go_roundw
      case rel => exact ⟨k + 1, by omega, by go_num, below_drewN hB _⟩
      case measure => simp [intOf]; omega
    · go_wp2
      go_ret
      exact ⟨rfl, hB⟩
end Go.Proofs.Ytfckmbdcfeljiaa
