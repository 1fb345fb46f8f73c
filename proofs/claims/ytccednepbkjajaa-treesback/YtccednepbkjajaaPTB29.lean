import Derived.Test.YtccednepbkjajaaPTB26ToTB28
import Derived.Test.YtccednepbkjajaaPTCn
import Derived.Test.YtccednepbkjajaaPTS1ToTS3
namespace Go.Proofs.Ytccednepbkjajaa
set_option linter.unusedVariables false
open Go.RowKit
structure TOS (w : World) (g : GV) (b : Nat) (T : TV) (w' : World) : Prop where
 bel : Below w.heap.size w w'
 gb : w'.heap[w.heap.size]? = some (gBox g)
 tb : w'.heap[b]? = some (tBox T)
 ta : TAt w' T
theorem TOS.later {w : World} {g : GV} {b : Nat} {T : TV} {w' w'' : World} (h : TOS w g b T w') (hb : Below w'.heap.size w' w'') : TOS w g b T w'' := ⟨h.bel.trans (hb.mono h.bel.size), (hb.block _ (lt_of_block h.gb)).trans h.gb, (hb.block _ (lt_of_block h.tb)).trans h.tb, h.ta.later hb⟩
theorem ilo_row {w : World} {vo : Value} {l : List Int} (h : ILo w vo l) : ∃ a c, vo = .slice a l.length c /\ InRow w a l := by
 obtain ⟨a, c, rfl, -⟩ := RO.len h
 exact ⟨a, c, rfl, (ILo.row h).2⟩
theorem tkt_row {w : World} {vo : Value} {l : List TV} (h : TKt w vo l) : ∃ a c, vo = .slice a (l.map tkV).length c /\ TkRow w a (l.map tkV) := by
 obtain ⟨a, c, rfl, -⟩ := RO.len h
 exact ⟨a, c, by rw [List.length_map], (TKt.row h).2⟩
theorem ans_of {N : Nat} {u : Option TV × Int × Int} {e : Ending} {w' : World} (h : ansE N u e w') : ∃ T, samV T (anT u).1 /\ TAt w' T /\ e = .returned (.tuple #[T.val, .int .i64 (anT u).2.1, .int .i64 (anT u).2.2]) := by
 obtain ⟨T, a, b, c⟩ := ansE_T h
 exact ⟨T, a, b.ta, c⟩
end Go.Proofs.Ytccednepbkjajaa
