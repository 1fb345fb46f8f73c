import Derived.Test.YtccednepbkjajaaPTTPToRegS
import Derived.Test.YtccednepbkjajaaPGRulesToGBulk
import Derived.Test.YtccednepbkjajaaPTS1ToTS3
namespace Go.Proofs.Ytccednepbkjajaa
set_option linter.unusedVariables false
open Go.ChangeShapes Go.WideShapes Go.ChangeAt Go.RowKit
theorem gcellsTok : Try.prog.cellsOf 28 = 2 := by kernel_rfl
theorem gcellsStr1 : Try.prog.cellsOf 9 = 1 := by kernel_rfl
section
variable {H : Type} {enc : TypeId × Value -> H} {W : World}
set_option maxRecDepth 100000 in
theorem otok {fuel : Nat} {cs : List Value} {x : DataW H × List MemPlace} (h : DataW.trod enc Try.prog W 0 (fun _ => true) true fuel 28 cs = some x) : ∃ (k : Int) (s : ByteArray), cs = [.int .i64 k, .string s] := by
 obtain ⟨xs, n, _, hx, hl, hlen, hf⟩ := DataW.trod_struct Try.underlying28 h
 rw [gcellsTok] at hl
 match xs, hlen, cs, hl with
 | [y0, y1], _, [e0, e1], _ =>
  have g0 := hf 0 _ rfl
  have g1 := hf 1 _ rfl
  simp [gcellsInt, gcellsStr1] at g0 g1
  obtain ⟨a, ha, _, _⟩ := DataW.trod_int Try.underlying3 g0
  obtain ⟨b, hb, _⟩ := DataW.trod_string Try.underlying9 g1
  simp only [List.cons.injEq, and_true] at ha hb
  subst ha; subst hb
  exact ⟨a, b, rfl⟩
end
section
variable {H : Type} {enc : TypeId × Value -> H} {W : World}
set_option maxRecDepth 100000 in
theorem otoks {fuel : Nat} {cs : List Value} {x : DataW H × List MemPlace} (hf : DataW.trod enc Try.prog W 0 (fun _ => true) true fuel 38 cs = some x) :
  ∃ (a : Option Addr) (cap : Nat) (l : List (Int × ByteArray)), cs = [.slice a l.length cap] /\ TkRow W a l /\ LD l.length x.1 := by
 rcases Go.Deep.open_slice Try.underlying38 hf with ⟨hcs, hx⟩ | ⟨a, len, cap, m, n, D, Pl, hcs, _, hl, _, hm, hx, hel⟩
 ·exact ⟨none, 0, [], hcs, fun h => absurd rfl h, .inl ⟨by rw [hx], rfl⟩⟩
 ·have hm' : m = cap := by simpa using hm
  have each : ∀ i, i < m -> ∃ q : Int × ByteArray, W.cell? (a.add (i * 2)) = some (.int .i64 q.1) /\ W.cell? (a.add (i * 2 + 1)) = some (.string q.2) := by
   intro i hi
   obtain ⟨cs', h1, h2⟩ := hel i hi
   rw [gcellsTok] at h1
   obtain ⟨hl1, _, hcell⟩ := World.cells?_some h1
   obtain ⟨k, s, hs⟩ := otok h2
   subst hs
   have e0 := hcell 0 (by omega)
   have e1 := hcell 1 (by omega)
   rw [Go.Deep.add_add] at e0 e1
   exact ⟨(k, s), by simpa using e0, by simpa using e1⟩
  obtain ⟨f, hfs⟩ : ∃ f : Nat -> Int × ByteArray, ∀ i, i < m -> W.cell? (a.add (i * 2)) = some (.int .i64 (f i).1) /\ W.cell? (a.add (i * 2 + 1)) = some (.string (f i).2) :=
   ⟨fun i => if h : i < m then Classical.choose (each i h) else (0, ByteArray.empty), fun i h => by simp only [dif_pos h]; exact Classical.choose_spec (each i h)⟩
  have hpl : ((List.range len).map f).length = len := by simp
  have hgd : ∀ i, i < len -> ((List.range len).map f).getD i (0, ByteArray.empty) = f i := fun i hi => by simp [List.getD, hi]
  refine ⟨some a, cap, (List.range len).map f, by rw [hpl]; exact hcs, fun hne => ?_, .inr ⟨_, _, by rw [hx], by simp⟩⟩
  obtain ⟨b, off, spot⟩ := a
  have h0 : 0 < len := by
   rcases Nat.eq_zero_or_pos len with e | e
   ·subst e; simp at hne
   ·exact e
  have hc0 := (hfs 0 (by omega)).1
  have hspot : spot = none := by simpa [Addr.add] using World.cell?_spot hc0
  subst hspot
  refine ⟨b, off, rfl, ?_, fun i hi => ?_⟩
  ·have := World.block_lt_of_cell? W _ hc0
   rw [add_none] at this
   exact this
  ·rw [hpl] at hi
   rw [hgd i hi]
   obtain ⟨e0, e1⟩ := hfs i (by omega)
   rw [add_none] at e0 e1
   exact ⟨e0, by rw [Nat.add_assoc]; exact e1⟩
set_option maxRecDepth 100000 in
theorem open_toks {base : Nat} {v : Value} {d : DataW H} {p : List MemPlace} (hv : Value.okWide Try.prog W .any base 38 v)
  (h : DataW.Trod enc Try.prog W 0 (fun _ => true) true 38 v d p) :
  ∃ (a : Option Addr) (cap : Nat) (l : List (Int × ByteArray)), v = .slice a l.length cap /\ TkRow W a l /\ True /\ LD l.length d := by
 obtain ⟨a0, len0, cap0, rfl⟩ := okWide_slice Try.underlying38 hv
 obtain ⟨fuel, hf⟩ := h
 obtain ⟨a, cap, l, hcs, h1, h2⟩ := otoks hf
 simp only [Value.cells, List.cons.injEq, and_true] at hcs
 exact ⟨a, cap, l, hcs, h1, trivial, h2⟩
end
set_option maxRecDepth 100000 in
theorem open_intsg {H : Type} {enc : TypeId × Value -> H} {W : World} {base : Nat} {v : Value} {d : DataW H} {p : List MemPlace} (hv : Value.okWide Try.prog W .any base 36 v)
  (h : DataW.Trod enc Try.prog W 0 (fun _ => true) true 36 v d p) :
  ∃ (a : Option Addr) (cap : Nat) (l : List Int), v = .slice a l.length cap /\ InRow W a l /\ l.length <= cap /\ LD l.length d /\ ∀ z ∈ l, -9223372036854775808 <= z /\ z <= 9223372036854775807 := by
 obtain ⟨a0, len0, cap0, rfl⟩ := okWide_slice Try.underlying36 hv
 obtain ⟨fuel, hf⟩ := h
 obtain ⟨a, cap, l, hcs, h1, h2, h3, h4⟩ := onums hf
 simp only [Value.cells, List.cons.injEq, and_true] at hcs
 exact ⟨a, cap, l, hcs, h1, h2, h3, h4⟩
end Go.Proofs.Ytccednepbkjajaa
