import Derived.Test.YtcgghlaifmlpiaaGreatDoorBT12
namespace Go.Proofs.YtcgghlaifmlpiaaGreatDoor
set_option linter.unusedVariables false
open Go.RowKit Go.Shelf

/-- A list in memory, by where it lies. -/
abbrev SlV := Option Addr × Nat × Nat
def slCB (x : SlV) : List Value := [.slice x.1 x.2.1 x.2.2]
abbrev slV (x : SlV) : Value := .slice x.1 x.2.1 x.2.2
theorem rkSl : RK 46 24 1 slCB := by
  refine ⟨Tryz.underlying24, ?_, by decide, fun _ => rfl, fun x u hu => ?_⟩
  · have h : (Tryz.prog.info? 46).map (fun i => (i.zero, i.size, i.bytes)) = some (some (.slice none 0 0), 1, 24) := by kernel_rfl
    cases e : Tryz.prog.info? 46 with
    | none => rw [e] at h; cases h
    | some i =>
      rw [e] at h
      simp at h
      exact ⟨i, _, rfl, h.1, h.2.1, by rw [h.2.2]; decide, rfl⟩
  · simp [slCB] at hu
    rw [hu]
    rfl
abbrev SLo := RO 46 1 slCB
/-- Lists of numbers, each in a block of its own. -/
structure LsB (w0 : Nat) (v : Value) (V : List SlV) (L : List (List Nat)) (wr : World) : Prop where
  row : SLo wr v V
  own : ∀ j, v.ownBlock = some j → w0 ≤ j
  len : V.length = L.length
  il : ∀ (i : Nat) (x : SlV) (l : List Nat), V[i]? = some x → L[i]? = some l → IL wr (slV x) (nI l)
  lo : ∀ x ∈ V, ∀ j, (slV x).ownBlock = some j → w0 ≤ j
  ne : ∀ x ∈ V, ∀ j, (slV x).ownBlock = some j → v.ownBlock ≠ some j
  nd : ∀ (i i' : Nat) (x x' : SlV), V[i]? = some x → V[i']? = some x' → i ≠ i' → ∀ j, (slV x).ownBlock = some j → (slV x').ownBlock ≠ some j
theorem LsB.nil (w0 : Nat) (wr : World) : LsB w0 (.slice none 0 0) [] [] wr := ⟨RO.nil wr, fun j hj => by simp [Value.ownBlock] at hj, rfl, fun i x l hx => by simp at hx, fun x hx => (by cases hx), fun x hx => (by cases hx), fun i i' x x' hx => by simp at hx⟩
theorem LsB.frB {X : Nat → Prop} {w0 : Nat} {v : Value} {V : List SlV} {L : List (List Nat)} {wr w' : World} (h : LsB w0 v V L wr) (hf : FrB X wr w') (hX : ∀ j, X j → j < w0) : LsB w0 v V L w' :=
  ⟨h.row.kept (fun j hj => hf.block j (h.row.lt j hj) (fun q => by have := hX j q; have := h.own j hj; omega)), h.own, h.len, fun i x l hx hl => (h.il i x l hx hl).kept (fun j hj => hf.block j (World.ownsRow.lt (h.il i x l hx hl) j hj).2 (fun q => by have := hX j q; have := h.lo x (List.mem_of_getElem? hx) j hj; omega)), h.lo, h.ne, h.nd⟩
theorem LsB.later {w0 : Nat} {v : Value} {V : List SlV} {L : List (List Nat)} {wr w' : World} (h : LsB w0 v V L wr) (hb : Below wr.heap.size wr w') : LsB w0 v V L w' := h.frB (X := fun _ => False) (Below.frB hb) (fun _ q => q.elim)
theorem LsB.snoc {w0 : Nat} {v v' : Value} {V : List SlV} {L : List (List Nat)} {wr w2 w4 : World} {x : SlV} {l : List Nat} (h : LsB w0 v V L wr) (hx : IL wr (slV x) (nI l)) (hxo : ∀ j, (slV x).ownBlock = some j → w0 ≤ j) (hxn : ∀ j, (slV x).ownBlock = some j → v.ownBlock ≠ some j) (hxd : ∀ y ∈ V, ∀ j, (slV y).ownBlock = some j → (slV x).ownBlock ≠ some j)
    (hb : Below wr.heap.size wr w2) (hg : Grew w2 w4 v v') (hr : SLo w4 v' (V ++ [x])) (hw0 : w0 ≤ wr.heap.size) : LsB w0 v' (V ++ [x]) (L ++ [l]) w4 := by
  have hz := hb.size
  have hk : ∀ (y : SlV) (ly : List Nat), IL wr (slV y) (nI ly) → (∀ j, (slV y).ownBlock = some j → v.ownBlock ≠ some j) → IL w4 (slV y) (nI ly) := fun y ly hy hyn => hy.kept (fun j hj => by
    have hlt := (World.ownsRow.lt hy j hj).2
    rw [hg.grown.block j (by omega) (fun e => hyn j hj e.symm), hb.block j hlt])
  have old : ∀ j, v'.ownBlock = some j → v.ownBlock = some j ∨ w2.heap.size ≤ j := fun j hj => by
    rcases hg.moved with e | ⟨i, e, hi2⟩
    · exact .inl (by rw [← e]; exact hj)
    · rw [e] at hj
      simp at hj
      exact .inr (by omega)
  have hnew : ∀ (y : SlV) (ly : List Nat), IL wr (slV y) (nI ly) → (∀ j, (slV y).ownBlock = some j → v.ownBlock ≠ some j) → ∀ j, (slV y).ownBlock = some j → v'.ownBlock ≠ some j := fun y ly hy hyn j hj e => by
    rcases old j e with q | q
    · exact hyn j hj q
    · have := (World.ownsRow.lt hy j hj).2
      omega
  have get : ∀ (i : Nat) (y : SlV), (V ++ [x])[i]? = some y → V[i]? = some y ∨ (i = V.length ∧ y = x) := fun i y hy => by
    rcases Nat.lt_or_ge i V.length with q | q
    · rw [List.getElem?_append_left q] at hy; exact .inl hy
    · rw [List.getElem?_append_right q] at hy
      have : i - V.length = 0 := by
        have := (List.getElem?_eq_some_iff.1 hy).1
        simp at this
        omega
      rw [this] at hy
      simp at hy
      exact .inr ⟨by omega, hy.symm⟩
  refine ⟨hr, fun j hj => ?_, by simp [h.len], fun i y ly hy hl => ?_, fun y hy => ?_, fun y hy => ?_, fun i i' y y' hy hy' hne => ?_⟩
  · rcases old j hj with q | q
    · exact h.own j q
    · omega
  · rcases get i y hy with q | ⟨rfl, rfl⟩
    · have hlt := (List.getElem?_eq_some_iff.1 q).1
      rw [List.getElem?_append_left (by rw [← h.len]; exact hlt)] at hl
      exact hk y ly (h.il i y ly q hl) (h.ne y (List.mem_of_getElem? q))
    · rw [h.len, List.getElem?_append_right (Nat.le_refl _), Nat.sub_self] at hl
      simp at hl
      subst hl
      exact hk y l hx hxn
  · rcases List.mem_append.1 hy with q | q
    · exact h.lo y q
    · rw [List.mem_singleton.1 q]; exact hxo
  · rcases List.mem_append.1 hy with q | q
    · obtain ⟨i, hi⟩ := List.getElem?_of_mem q
      have hl : i < L.length := by rw [← h.len]; exact (List.getElem?_eq_some_iff.1 hi).1
      exact hnew y _ (h.il i y _ hi (List.getElem?_eq_getElem hl)) (h.ne y q)
    · rw [List.mem_singleton.1 q]; exact hnew x l hx hxn
  · rcases get i y hy with q | ⟨rfl, rfl⟩
    · rcases get i' y' hy' with q' | ⟨rfl, rfl⟩
      · exact h.nd i i' y y' q q' hne
      · exact hxd y (List.mem_of_getElem? q)
    · rcases get i' y' hy' with q' | ⟨rfl, rfl⟩
      · intro j hj hj2
        exact hxd y' (List.mem_of_getElem? q') j hj2 hj
      · exact absurd rfl hne
/-- A search from many roots. -/
def srU (Ns : List Nat) (n : Nat) : List Nat → List (List Nat) × Nat → List (List Nat) × Nat
  | [], s => s
  | r :: rs, s => if s.2.testBit r = true then srU Ns n rs s else srU Ns n rs (s.1 ++ [(lvU Ns n ⟨[r], [], addN s.2 r⟩).left], (lvU Ns n ⟨[r], [], addN s.2 r⟩).seen)
end Go.Proofs.YtcgghlaifmlpiaaGreatDoor
