import Derived.Test.YtfckmbdcfeljiaaSUndoP
namespace Go.Proofs.Ytfckmbdcfeljiaa
set_option linter.unusedVariables false
open Go.RowKit Go.Maps

section
variable {B : Nat} {w w' : World} {p g b q : Nat} {T N T2 N2 T' N' : Value} {D D' : DataW Unit} {ts ns ts' ns' : List ByteArray}
/-- A box of another type is not touched by either. -/
theorem BFr.other {x : Nat} {C : Array Value} {t : TypeId} (h : BInv w p g b T N D ts ns) (hf : BFr w w' g b T N T' N') (h1 : t ≠ 9) (h2 : t ≠ 68) (hx : w.heap[x]? = some (.cells C t (0, 0))) : w'.heap[x]? = some (.cells C t (0, 0)) := by
  have hq : x ≠ g := by intro e; rw [e, h.hg] at hx; simp at hx; exact h2 hx.2.symm
  have hb : x ≠ b := by intro e; obtain ⟨es, c, hb⟩ := h.bmap; rw [e, hb] at hx; simp at hx
  exact (hf.block x (lt_of_block hx) hq hb (h.tn.ne hx h1) (h.nn.ne hx h1)).trans hx
theorem termF_fine {s : ByteArray} {n er : Int} (hF : Fine ts ns) (h : termF ts ns s = (n, er, ts')) : Fine ts' ns := by
  unfold termF at h
  split at h
  · simp at h; rw [← h.2.2]; exact hF
  · rename_i ht
    split at h
    · simp at h; rw [← h.2.2]; exact hF
    · simp at h; rw [← h.2.2]; exact hF
    · rename_i hf
      split at h
      · simp at h; rw [← h.2.2]; exact hF
      · simp at h; rw [← h.2.2]; exact hF.term hf (by simpa using ht)
theorem nonF_fine {s : ByteArray} {n er : Int} (hF : Fine ts ns) (h : nonF ts ns s = (n, er, ns')) : Fine ts ns' := by
  unfold nonF at h
  split at h
  · simp at h; rw [← h.2.2]; exact hF
  · rename_i ht
    split at h
    · simp at h; rw [← h.2.2]; exact hF
    · simp at h; rw [← h.2.2]; exact hF
    · rename_i hf
      split at h
      · simp at h; rw [← h.2.2]; exact hF
      · simp at h; rw [← h.2.2]; exact hF.non hf (by simpa using ht)
theorem Fine.apart (hF : Fine ts ns) : ∀ s i, placeS ns s = some i → placeS ts s = none := fun s i h => by
  obtain ⟨hi, e⟩ := placeS_spec h
  rw [placeS_notMem]
  intro hm
  exact (List.nodup_append.1 hF.nd).2.2 s hm s (by rw [← e]; simp [List.getD, hi]) rfl
end
theorem Fine.len {ts ns : List ByteArray} (h : Fine ts ns) : (∀ s ∈ ts, s.size ≤ maxLen) ∧ ∀ s ∈ ns, s.size ≤ maxLen := ⟨fun s hs => termS_len (h.ts s hs), fun s hs => wordS_len (h.ns s hs)⟩
end Go.Proofs.Ytfckmbdcfeljiaa
