import Derived.Test.YtfckmbdcfeljiaaSArg
import Derived.Test.YtfckmbdcfeljiaaSIn
import Derived.Deep.Slices
namespace Go.Proofs.Ytfckmbdcfeljiaa
set_option linter.unusedVariables false
open Go.ChangeShapes Go.WideShapes Go.ChangeAt Go.RowKit

theorem cellsStrA : Try.prog.cellsOf 9 = 1 := by kernel_rfl
set_option maxRecDepth 100000 in
/-- Names that came in. -/
theorem open_strs {H : Type} {enc : TypeId × Value → H} {W : World} {base : Nat} {v : Value} {d : DataW H} {p : List MemPlace} (hv : Value.okWide Try.prog W .any base 23 v)
    (h : DataW.Trod enc Try.prog W 0 (fun _ => true) true 23 v d p) :
    ∃ (a : Option Addr) (n cap : Nat) (l : List ByteArray), v = .slice a n cap ∧ (n = l.length ∧ (∀ s ∈ l, s.size ≤ maxLen) ∧ StrRow W a l) ∧ ((d = .nil ∧ l = []) ∨ ∃ el spare, d = .slice el spare ∧ el.length = l.length) := by
  obtain ⟨a0, len0, cap0, rfl⟩ := okWide_slice Try.underlying23 hv
  obtain ⟨fuel, hf⟩ := h
  rcases Go.Deep.open_slice Try.underlying23 hf with ⟨hcs, hx⟩ | ⟨x, l, c, m, n, D, Pl, hcs, _, hl, _, hm, hx, hel⟩
  · simp [Value.cells] at hcs
    obtain ⟨rfl, rfl, rfl⟩ := hcs
    simp only [Prod.mk.injEq] at hx
    exact ⟨none, 0, 0, [], rfl, ⟨rfl, (fun o ho => by cases ho), fun h => absurd rfl h⟩, .inl ⟨hx.1, rfl⟩⟩
  · simp [Value.cells] at hcs
    obtain ⟨rfl, rfl, rfl⟩ := hcs
    simp only [Prod.mk.injEq] at hx
    have hm' : m = cap0 := by simpa using hm
    have each : ∀ i, i < m → ∃ s : ByteArray, W.cell? (x.add (i * 1)) = some (.string s) ∧ s.size ≤ maxLen := by
      intro i hi
      obtain ⟨cs', h1, h2⟩ := hel i hi
      rw [cellsStrA] at h1
      obtain ⟨hl1, _, hcell⟩ := World.cells?_some h1
      obtain ⟨s, hs, _, hsz⟩ := DataW.trod_string Try.underlying9 h2
      subst hs
      have e0 := hcell 0 (by omega)
      rw [Go.Deep.add_add] at e0
      exact ⟨s, by simpa using e0, hsz⟩
    obtain ⟨f, hfs⟩ : ∃ f : Nat → ByteArray, ∀ i, i < m → W.cell? (x.add (i * 1)) = some (.string (f i)) ∧ (f i).size ≤ maxLen :=
      ⟨fun i => if h : i < m then Classical.choose (each i h) else ByteArray.empty, fun i h => by simp only [dif_pos h]; exact Classical.choose_spec (each i h)⟩
    have hpl : ((List.range len0).map f).length = len0 := by simp
    have hgd : ∀ i, i < len0 → ((List.range len0).map f).getD i ByteArray.empty = f i := fun i hi => by simp [List.getD, hi]
    refine ⟨some x, len0, cap0, (List.range len0).map f, rfl, ⟨by rw [hpl], fun o ho => ?_, fun hne => ?_⟩, .inr ⟨_, _, hx.1, by simp⟩⟩
    · obtain ⟨i, hi, rfl⟩ := List.mem_map.1 ho
      exact (hfs i (by have := List.mem_range.1 hi; omega)).2
    · obtain ⟨b, off, spot⟩ := x
      have h0 : 0 < len0 := by
        rcases Nat.eq_zero_or_pos len0 with e | e
        · subst e; simp at hne
        · exact e
      have hc0 := (hfs 0 (by omega)).1
      have hspot : spot = none := by simpa [Addr.add] using World.cell?_spot hc0
      subst hspot
      refine ⟨b, off, rfl, ?_, fun i hi => ?_⟩
      · have := World.block_lt_of_cell? W _ hc0
        rw [add_none] at this
        exact this
      · rw [hpl] at hi
        rw [hgd i hi]
        have e0 := (hfs i (by omega)).1
        rw [add_none, Nat.mul_one] at e0
        exact e0
theorem strs_reach {H : Type} {ts : List TypeId} {ds : List (DataW H)} (hs : (DataW.weightsEach Try.prog ts ds).all (· ≤ reachBytes) = true) {j : Nat} {d : DataW H} {l : List ByteArray} (ht : ts[j]? = some 23) (hd : ds[j]? = some d)
    (h : (d = .nil ∧ l = []) ∨ ∃ el spare, d = .slice el spare ∧ el.length = l.length) : l.length ≤ 8796093022000 := by
  rcases h with ⟨_, rfl⟩ | ⟨el, spare, rfl, e⟩
  · simp
  · have := sized_slice hs ht hd Try.underlying23
    rw [show Try.prog.bytesOf 9 = 16 by kernel_rfl] at this
    simp [reachBytes] at this
    omega
end Go.Proofs.Ytfckmbdcfeljiaa
