import Derived.Test.YtboabidokkghbaaGreatGBulkToFBulk
namespace Go.Proofs.YtboabidokkghbaaGreat
set_option linter.unusedVariables false
open Go.ChangeShapes Go.WideShapes Go.ChangeAt Go.RowKit

set_option maxRecDepth 100000 in
theorem open_syms {H : Type} {enc : TypeId × Value → H} {W : World} {base : Nat} {v : Value} {d : DataW H} {p : List MemPlace} (hv : Value.okWide Tryz.prog W .any base 60 v)
    (h : DataW.Trod enc Tryz.prog W 0 (fun _ => true) true 60 v d p) :
    ∃ (a : Option Addr) (cap : Nat) (l : List (Int × Int)), v = .slice a l.length cap ∧ SymRow W a l ∧ True ∧ LD l.length d := by
  obtain ⟨a0, len0, cap0, rfl⟩ := okWide_slice Tryz.underlying60 hv
  obtain ⟨fuel, hf⟩ := h
  obtain ⟨a, cap, l, hcs, h1, h2⟩ := osyms hf
  simp only [Value.cells, List.cons.injEq, and_true] at hcs
  exact ⟨a, cap, l, hcs, h1, trivial, h2⟩
end Go.Proofs.YtboabidokkghbaaGreat
