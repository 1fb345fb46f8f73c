import Derived.Test.YtfckmbdcfeljiaaSExt
namespace Go.Proofs.Ytfckmbdcfeljiaa
set_option linter.unusedVariables false
open Go.RowKit

/-- A slice of texts that can be read in w. -/
def StrRow (w : World) (ao : Option Addr) (ss : List ByteArray) : Prop := ss ≠ [] → ∃ b off, ao = some ⟨b, off, none⟩ ∧ b < w.heap.size ∧ ∀ i, i < ss.length → w.cell? ⟨b, off + i, none⟩ = some (.string (ss.getD i ByteArray.empty))
theorem StrRow.later {w w' : World} {ao : Option Addr} {ss : List ByteArray} (h : StrRow w ao ss) (hb : Below w.heap.size w w') : StrRow w' ao ss := fun hn => by
  obtain ⟨b, off, rfl, hl, hc⟩ := h hn
  exact ⟨b, off, rfl, Nat.lt_of_lt_of_le hl hb.size, fun i hi => (hb.cell (p := ⟨b, off + i, none⟩) hl).trans (hc i hi)⟩
theorem GS.row {w : World} {v : Value} {ss : List ByteArray} (h : GS w v ss) : ∃ a c, v = .slice a ss.length c ∧ StrRow w a ss ∧ (a = none → c = 0) ∧ ss.length ≤ c := by
  rcases h.2 with ⟨rfl, h0⟩ | ⟨g, cap, cur, rfl, hb, hg, hle, hm, hs, ht⟩
  · have : ss = [] := List.eq_nil_of_length_eq_zero h0
    subst this
    exact ⟨none, 0, rfl, fun hn => absurd rfl hn, fun _ => rfl, Nat.le_refl _⟩
  · refine ⟨_, cap, rfl, fun hn => ⟨g, 0, rfl, lt_of_block hg, fun i hi => ?_⟩, (fun h => by cases h), hle⟩
    have := World.ownsRow.cells h (g := g) rfl i (.string (ss.getD i ByteArray.empty)) (by simp [List.getD, hi])
    rwa [add_none] at this
/-- The place of a name as the document's in tells it. -/
def inS (ss : List ByteArray) (s : ByteArray) : Int := match placeS ss s with | some i => (i : Int) | none => -1
theorem findIdx?_at {α : Type} (p : α → Bool) : ∀ (l : List α) (k : Nat) (h : k < l.length), (∀ j (hj : j < k), p (l[j]'(by omega)) = false) → p l[k] = true → l.findIdx? p = some k
  | [], k, h, _, _ => by simp at h
  | x :: l, 0, _, _, hk => by simp [List.findIdx?_cons, show p x = true from hk]
  | x :: l, k + 1, h, hn, hk => by
    have h0 : p x = false := hn 0 (by omega)
    have := findIdx?_at p l k (by simp at h; omega) (fun j hj => hn (j + 1) (by omega)) hk
    simp [List.findIdx?_cons, h0, this]
theorem placeS_at {ss : List ByteArray} {s : ByteArray} {k : Nat} (hk : k < ss.length) (hn : ∀ j, j < k → ss.getD j ByteArray.empty ≠ s) (h : ss.getD k ByteArray.empty = s) : placeS ss s = some k := by
  refine findIdx?_at _ ss k hk (fun j hj => ?_) ?_
  · have := hn j hj
    simp [List.getD, show j < ss.length by omega] at this
    simp [this]
  · simp [List.getD, hk] at h
    simp [h]
theorem placeS_none {ss : List ByteArray} {s : ByteArray} (hn : ∀ j, j < ss.length → ss.getD j ByteArray.empty ≠ s) : placeS ss s = none := by
  unfold placeS
  rw [List.findIdx?_eq_none_iff]
  intro x hx
  obtain ⟨j, hj, rfl⟩ := List.getElem_of_mem hx
  have := hn j hj
  simp [List.getD, hj] at this
  simp [this]
end Go.Proofs.Ytfckmbdcfeljiaa
