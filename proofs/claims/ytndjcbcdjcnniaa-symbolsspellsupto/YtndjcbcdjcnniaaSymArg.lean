import Derived.Test.YtndjcbcdjcnniaaSArg
import Derived.Test.YtndjcbcdjcnniaaSSpell
import Derived.Deep.Slices
namespace Go.Proofs.Ytndjcbcdjcnniaa
set_option linter.unusedVariables false
open Go.ChangeShapes Go.WideShapes Go.ChangeAt Go.RowKit

theorem cellsIntA : Try.prog.cellsOf 3 = 1 := by kernel_rfl
theorem cellsKindA : Try.prog.cellsOf 59 = 1 := by kernel_rfl
set_option maxRecDepth 100000 in
theorem open_symCells {H : Type} {enc : TypeId × Value → H} {W : World} {fuel : Nat} {cs : List Value} {x : DataW H × List MemPlace} (h : DataW.trod enc Try.prog W 0 (fun _ => true) true fuel 61 cs = some x) : ∃ q : Int × Int, cs = [.int .i64 q.1, .int .i64 q.2] := by
  obtain ⟨xs, n, _, hx, hl, hlen, hf⟩ := DataW.trod_struct Try.underlying61 h
  rw [cellsSym] at hl
  match xs, hlen, cs, hl with
  | [y0, y1], _, [e0, e1], _ =>
    have g0 := hf 0 _ rfl
    have g1 := hf 1 _ rfl
    simp [cellsIntA, cellsKindA] at g0 g1
    obtain ⟨a, ha, _, _⟩ := DataW.trod_int Try.underlying59 g0
    obtain ⟨b, hb, _, _⟩ := DataW.trod_int Try.underlying3 g1
    simp only [List.cons.injEq, and_true] at ha hb
    subst ha; subst hb
    exact ⟨(a, b), rfl⟩
set_option maxRecDepth 100000 in
/-- Symbols that came in. -/
theorem open_syms {H : Type} {enc : TypeId × Value → H} {W : World} {base : Nat} {v : Value} {d : DataW H} {p : List MemPlace} (hv : Value.okWide Try.prog W .any base 45 v)
    (h : DataW.Trod enc Try.prog W 0 (fun _ => true) true 45 v d p) :
    ∃ (a : Option Addr) (n cap : Nat) (l : List (Int × Int)), v = .slice a n cap ∧ (n = l.length ∧ SymRow W a l) ∧ ((d = .nil ∧ l = []) ∨ ∃ el spare, d = .slice el spare ∧ el.length = l.length) := by
  obtain ⟨a0, len0, cap0, rfl⟩ := okWide_slice Try.underlying45 hv
  obtain ⟨fuel, hf⟩ := h
  rcases Go.Deep.open_slice Try.underlying45 hf with ⟨hcs, hx⟩ | ⟨x, l, c, m, n, D, Pl, hcs, _, hl, _, hm, hx, hel⟩
  · simp [Value.cells] at hcs
    obtain ⟨rfl, rfl, rfl⟩ := hcs
    simp only [Prod.mk.injEq] at hx
    exact ⟨none, 0, 0, [], rfl, ⟨rfl, fun h => absurd rfl h⟩, .inl ⟨hx.1, rfl⟩⟩
  · simp [Value.cells] at hcs
    obtain ⟨rfl, rfl, rfl⟩ := hcs
    simp only [Prod.mk.injEq] at hx
    have hm' : m = cap0 := by simpa using hm
    have each : ∀ i, i < m → ∃ q : Int × Int, W.cell? (x.add (i * 2)) = some (.int .i64 q.1) ∧ W.cell? (x.add (i * 2 + 1)) = some (.int .i64 q.2) := by
      intro i hi
      obtain ⟨cs', h1, h2⟩ := hel i hi
      rw [cellsSym] at h1
      obtain ⟨hl1, _, hcell⟩ := World.cells?_some h1
      obtain ⟨q, hs⟩ := open_symCells h2
      subst hs
      have e0 := hcell 0 (by omega)
      have e1 := hcell 1 (by omega)
      rw [Go.Deep.add_add] at e0 e1
      exact ⟨q, by simpa using e0, by simpa using e1⟩
    obtain ⟨f, hfs⟩ : ∃ f : Nat → Int × Int, ∀ i, i < m → W.cell? (x.add (i * 2)) = some (.int .i64 (f i).1) ∧ W.cell? (x.add (i * 2 + 1)) = some (.int .i64 (f i).2) :=
      ⟨fun i => if h : i < m then Classical.choose (each i h) else (0, 0), fun i h => by simp only [dif_pos h]; exact Classical.choose_spec (each i h)⟩
    have hpl : ((List.range len0).map f).length = len0 := by simp
    have hgd : ∀ i, i < len0 → ((List.range len0).map f).getD i (0, 0) = f i := fun i hi => by simp [List.getD, hi]
    refine ⟨some x, len0, cap0, (List.range len0).map f, rfl, ⟨by rw [hpl], fun hne => ?_⟩, .inr ⟨_, _, hx.1, by simp⟩⟩
    obtain ⟨b, off, spot⟩ := x
    have h0 : 0 < len0 := by
      rcases Nat.eq_zero_or_pos len0 with e | e
      · subst e; simp at hne
      · exact e
    have hc0 := (hfs 0 (by omega)).1
    have hspot : spot = none := by simpa [Addr.add] using World.cell?_spot hc0
    subst hspot
    refine ⟨b, off, rfl, ?_, fun i hi => ?_⟩
    · have := World.block_lt_of_cell? W _ hc0
      rw [add_none] at this
      exact this
    · rw [hpl] at hi
      rw [hgd i hi]
      obtain ⟨e0, e1⟩ := hfs i (by omega)
      rw [add_none] at e0 e1
      exact ⟨e0, by rw [Nat.add_assoc]; exact e1⟩
end Go.Proofs.Ytndjcbcdjcnniaa
