import Derived.Test.YtfckmbdcfeljiaaDoorSum
namespace Go.Proofs.YtfckmbdcfeljiaaDoor
set_option linter.unusedVariables false
open Go.RowKit

/-- The package's three bytes lie there (what the row's list gives). -/
def Magic (w : World) : Prop := w.cell? ⟨0, 0, none⟩ = some (.int .u8 103) ∧ w.cell? ⟨0, 1, none⟩ = some (.int .u8 116) ∧ w.cell? ⟨0, 2, none⟩ = some (.int .u8 114)
theorem Magic.lt {w : World} (h : Magic w) : 0 < w.heap.size := World.block_lt_of_cell? w _ h.1
theorem Magic.later {w w' : World} {B : Nat} (h : Magic w) (hb : Below B w w') (hB : 0 < B) : Magic w' := by
  obtain ⟨a, b, c⟩ := h
  exact ⟨(hb.cell (p := ⟨0, 0, none⟩) hB).trans a, (hb.cell (p := ⟨0, 1, none⟩) hB).trans b, (hb.cell (p := ⟨0, 2, none⟩) hB).trans c⟩

set_option maxHeartbeats 400000 in
theorem head_any (k : Int) (w : World) (hm : Magic w) :
    Calls Tryd.prog 28 #[.int .u8 k] w fun e w' => e = .returned (.agg #[.int .u8 103, .int .u8 116, .int .u8 114, .int .u8 k]) ∧ Below w.heap.size w w' := by
  have hz := hm.lt
  obtain ⟨h0, h1, h2⟩ := hm
  go_enter Tryd.func28, Tryd.ntmps28
  have i0 : ∀ w, (Instr.index 99 (.agg #[.int .u8 103, .int .u8 116, .int .u8 114]) (.int .i64 0)).run Tryd.prog w = .ok (.int .u8 103) w := fun _ => by kernel_rfl
  have i1 : ∀ w, (Instr.index 99 (.agg #[.int .u8 103, .int .u8 116, .int .u8 114]) (.int .i64 1)).run Tryd.prog w = .ok (.int .u8 116) w := fun _ => by kernel_rfl
  have i2 : ∀ w, (Instr.index 99 (.agg #[.int .u8 103, .int .u8 116, .int .u8 114]) (.int .i64 2)).run Tryd.prog w = .ok (.int .u8 114) w := fun _ => by kernel_rfl
  go_wp2
  go_rounds 4
  go_returns
  exact ⟨rfl, by go_grown⟩
end Go.Proofs.YtfckmbdcfeljiaaDoor
