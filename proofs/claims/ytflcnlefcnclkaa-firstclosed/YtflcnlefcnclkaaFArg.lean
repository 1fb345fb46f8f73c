import Derived.Test.YtflcnlefcnclkaaFChk6
import Derived.Test.YtflcnlefcnclkaaGArgToGInts
namespace Go.Proofs.Ytflcnlefcnclkaa
set_option linter.unusedVariables false
open Go.ChangeShapes Go.WideShapes Go.ChangeAt Go.RowKit

theorem gcellsBool : Try.prog.cellsOf 4 = 1 := by kernel_rfl
section
variable {H : Type} {enc : TypeId × Value → H} {W : World}
set_option maxRecDepth 100000 in
theorem obools {fuel : Nat} {cs : List Value} {x : DataW H × List MemPlace} (hf : DataW.trod enc Try.prog W 0 (fun _ => true) true fuel 27 cs = some x) :
    ∃ (a : Option Addr) (cap : Nat) (l : List Bool), cs = [.slice a l.length cap] ∧ BRow W a l ∧ l.length ≤ cap ∧ LD l.length x.1 := by
  rcases Go.Deep.open_slice Try.underlying27 hf with ⟨hcs, hx⟩ | ⟨a, len, cap, m, n, D, Pl, hcs, _, hl, _, hm, hx, hel⟩
  · exact ⟨none, 0, [], hcs, fun h => absurd rfl h, Nat.le_refl _, .inl ⟨by rw [hx], rfl⟩⟩
  · have hm' : m = cap := by simpa using hm
    have each : ∀ i, i < m → ∃ s : Bool, W.cell? (a.add (i * 1)) = some (.bool s) := by
      intro i hi
      obtain ⟨cs', h1, h2⟩ := hel i hi
      rw [gcellsBool] at h1
      obtain ⟨hl1, _, hcell⟩ := World.cells?_some h1
      obtain ⟨s, hs, _⟩ := DataW.trod_bool Try.underlying4 h2
      subst hs
      have e0 := hcell 0 (by omega)
      rw [Go.Deep.add_add] at e0
      exact ⟨s, by simpa using e0⟩
    obtain ⟨f, hfs⟩ : ∃ f : Nat → Bool, ∀ i, i < m → W.cell? (a.add (i * 1)) = some (.bool (f i)) :=
      ⟨fun i => if h : i < m then Classical.choose (each i h) else false, fun i h => by simp only [dif_pos h]; exact Classical.choose_spec (each i h)⟩
    have hpl : ((List.range len).map f).length = len := by simp
    have hgd : ∀ i, i < len → ((List.range len).map f).getD i false = f i := fun i hi => by simp [List.getD, hi]
    refine ⟨some a, cap, (List.range len).map f, by rw [hpl]; exact hcs, fun hne => ?_, by rw [hpl]; exact hl, .inr ⟨_, _, by rw [hx], by simp⟩⟩
    obtain ⟨b, off, spot⟩ := a
    have h0 : 0 < len := by
      rcases Nat.eq_zero_or_pos len with e | e
      · subst e; simp at hne
      · exact e
    have hc0 := hfs 0 (by omega)
    have hspot : spot = none := by simpa [Addr.add] using World.cell?_spot hc0
    subst hspot
    refine ⟨b, off, rfl, ?_, fun i hi => ?_⟩
    · have := World.block_lt_of_cell? W _ hc0
      rw [add_none] at this
      exact this
    · rw [hpl] at hi
      rw [hgd i hi]
      have e0 := hfs i (by omega)
      rw [add_none, Nat.mul_one] at e0
      exact e0
/-- A list of lists and its datum. -/
def LLD (L : List (List Int)) (d : DataW H) : Prop := (d = .nil ∧ L = []) ∨ ∃ el sp, d = .slice el sp ∧ el.length = L.length ∧ ∀ i, i < L.length → LD (L.getD i []).length (el.getD i .nil)
set_option maxRecDepth 100000 in
theorem olists {fuel : Nat} {cs : List Value} {x : DataW H × List MemPlace} (hf : DataW.trod enc Try.prog W 0 (fun _ => true) true fuel 28 cs = some x) :
    ∃ (a : Option Addr) (cap : Nat) (l : List (List Int)), cs = [.slice a l.length cap] ∧ LsRow W a l ∧ l.length ≤ cap ∧ LLD l x.1 := by
  rcases Go.Deep.open_slice Try.underlying28 hf with ⟨hcs, hx⟩ | ⟨a, len, cap, m, n, D, Pl, hcs, _, hl, _, hm, hx, hel⟩
  · exact ⟨none, 0, [], hcs, fun h => absurd rfl h, Nat.le_refl _, .inl ⟨by rw [hx], rfl⟩⟩
  · have hm' : m = cap := by simpa using hm
    have each : ∀ i, i < m → ∃ s : Option Addr × Nat × List Int, W.cell? (a.add (i * 1)) = some (.slice s.1 s.2.2.length s.2.1) ∧ InRow W s.1 s.2.2 ∧ LD s.2.2.length (D i) := by
      intro i hi
      obtain ⟨cs', h1, h2⟩ := hel i hi
      rw [gcellsInts] at h1
      obtain ⟨hl1, _, hcell⟩ := World.cells?_some h1
      obtain ⟨la, lc, l, hs, hr, _, hd, _⟩ := onums h2
      subst hs
      have e0 := hcell 0 (by omega)
      rw [Go.Deep.add_add] at e0
      exact ⟨(la, lc, l), by simpa using e0, hr, hd⟩
    obtain ⟨f, hfs⟩ : ∃ f : Nat → Option Addr × Nat × List Int, ∀ i, i < m → W.cell? (a.add (i * 1)) = some (.slice (f i).1 (f i).2.2.length (f i).2.1) ∧ InRow W (f i).1 (f i).2.2 ∧ LD (f i).2.2.length (D i) :=
      ⟨fun i => if h : i < m then Classical.choose (each i h) else (none, 0, []), fun i h => by simp only [dif_pos h]; exact Classical.choose_spec (each i h)⟩
    have hpl : ((List.range len).map fun i => (f i).2.2).length = len := by simp
    have hgd : ∀ i, i < len → ((List.range len).map fun i => (f i).2.2).getD i [] = (f i).2.2 := fun i hi => by simp [List.getD, hi]
    refine ⟨some a, cap, (List.range len).map fun i => (f i).2.2, by rw [hpl]; exact hcs, fun hne => ?_, by rw [hpl]; exact hl, .inr ⟨_, _, by rw [hx], by simp, fun i hi => ?_⟩⟩
    · obtain ⟨b, off, spot⟩ := a
      have h0 : 0 < len := by
        rcases Nat.eq_zero_or_pos len with e | e
        · subst e; simp at hne
        · exact e
      have hc0 := (hfs 0 (by omega)).1
      have hspot : spot = none := by simpa [Addr.add] using World.cell?_spot hc0
      subst hspot
      refine ⟨b, off, rfl, ?_, fun i hi => ?_⟩
      · have := World.block_lt_of_cell? W _ hc0
        rw [add_none] at this
        exact this
      · rw [hpl] at hi
        rw [hgd i hi]
        obtain ⟨e0, e1, _⟩ := hfs i (by omega)
        rw [add_none, Nat.mul_one] at e0
        exact ⟨_, _, e0, e1⟩
    · rw [hpl] at hi
      have := (hfs i (by omega)).2.2
      rw [hgd i hi]
      have e : ((List.range len).map D).getD i DataW.nil = D i := by simp [List.getD, hi]
      rw [e]
      exact this
set_option maxRecDepth 100000 in
theorem open_bools {base : Nat} {v : Value} {d : DataW H} {p : List MemPlace} (hv : Value.okWide Try.prog W .any base 27 v)
    (h : DataW.Trod enc Try.prog W 0 (fun _ => true) true 27 v d p) :
    ∃ (a : Option Addr) (cap : Nat) (l : List Bool), v = .slice a l.length cap ∧ BRow W a l ∧ l.length ≤ cap ∧ LD l.length d := by
  obtain ⟨a0, len0, cap0, rfl⟩ := okWide_slice Try.underlying27 hv
  obtain ⟨fuel, hf⟩ := h
  obtain ⟨a, cap, l, hcs, h1, h2, h3⟩ := obools hf
  simp only [Value.cells, List.cons.injEq, and_true] at hcs
  exact ⟨a, cap, l, hcs, h1, h2, h3⟩
set_option maxRecDepth 100000 in
theorem open_lists {base : Nat} {v : Value} {d : DataW H} {p : List MemPlace} (hv : Value.okWide Try.prog W .any base 28 v)
    (h : DataW.Trod enc Try.prog W 0 (fun _ => true) true 28 v d p) :
    ∃ (a : Option Addr) (cap : Nat) (l : List (List Int)), v = .slice a l.length cap ∧ LsRow W a l ∧ l.length ≤ cap ∧ LLD l d := by
  obtain ⟨a0, len0, cap0, rfl⟩ := okWide_slice Try.underlying28 hv
  obtain ⟨fuel, hf⟩ := h
  obtain ⟨a, cap, l, hcs, h1, h2, h3⟩ := olists hf
  simp only [Value.cells, List.cons.injEq, and_true] at hcs
  exact ⟨a, cap, l, hcs, h1, h2, h3⟩
set_option maxRecDepth 100000 in
theorem bools_reach {ts : List TypeId} {ds : List (DataW H)} (hs : (DataW.weightsEach Try.prog ts ds).all (· ≤ reachBytes) = true) {j : Nat} {d : DataW H} {n : Nat} (ht : ts[j]? = some 27) (hd : ds[j]? = some d) (h : LD n d) : n ≤ 140737488355328 := by
  refine ld_weight Try.underlying27 (by decide +kernel) h fun k hk => ?_
  have := List.all_eq_true.1 hs k (DataW.weights_mem_each ht hd k hk)
  simpa using this
set_option maxRecDepth 100000 in
theorem lists_reach {ts : List TypeId} {ds : List (DataW H)} (hs : (DataW.weightsEach Try.prog ts ds).all (· ≤ reachBytes) = true) {j : Nat} {d : DataW H} {L : List (List Int)} (ht : ts[j]? = some 28) (hd : ds[j]? = some d) (h : LLD L d) : L.length ≤ 140737488355328 ∧ ∀ l ∈ L, l.length ≤ 140737488355328 := by
  have hw : ∀ k ∈ d.weights Try.prog 28, k ≤ reachBytes := fun k hk => by
    have := List.all_eq_true.1 hs k (DataW.weights_mem_each ht hd k hk)
    simpa using this
  rcases h with ⟨rfl, rfl⟩ | ⟨el, sp, rfl, e, hE⟩
  · exact ⟨by simp, fun l hl => by cases hl⟩
  · obtain ⟨h1, h2⟩ := slice_weight Try.underlying28 (by decide +kernel) hw
    refine ⟨by omega, fun l hl => ?_⟩
    obtain ⟨i, hi, rfl⟩ := in_getD (d := []) hl
    exact ld_weight Try.underlying39 (by decide +kernel) (hE i hi) (h2 _ (getD_in (by omega)))
end
end Go.Proofs.Ytflcnlefcnclkaa
