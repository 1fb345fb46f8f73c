import Derived.Test.YtcgghlaifmlpiaaGreatDoorBT16
namespace Go.Proofs.YtcgghlaifmlpiaaGreatDoor
set_option linter.unusedVariables false
open Go.RowKit Go.Shelf

/-- Which may stand next; the list of numbers, each behind all that its row has. -/
def cdB (Ns : List Nat) (n P x : Nat) : Bool := !P.testBit x && decide (lkB (minusB (Ns.getD x 0) P) n = n)
def nxB (Ns : List Nat) (n P : Nat) : Option Nat := (List.range n).find? (cdB Ns n P)
def plcF (Ns : List Nat) (n : Nat) : Nat → List Nat × Nat → List Nat × Nat
  | 0, s => s
  | f + 1, s => match nxB Ns n s.2 with
    | none => s
    | some x => plcF Ns n f (s.1 ++ [x], addN s.2 x)
def placeU (Ns : List Nat) (n : Nat) : List Nat := (plcF Ns n n ([], 0)).1
theorem nxB_some {Ns : List Nat} {n P x : Nat} (hx : x < n) (hc : cdB Ns n P x = true) (hb : ∀ y, y < x → cdB Ns n P y = false) : nxB Ns n P = some x := by
  unfold nxB
  rw [List.find?_eq_some_iff_append]
  refine ⟨hc, List.range x, (List.range (n - (x + 1))).map (x + 1 + ·), ?_, fun y hy => by rw [hb y (List.mem_range.1 hy)]; rfl⟩
  have e : n = x + 1 + (n - (x + 1)) := by omega
  conv => lhs; rw [e]
  rw [List.range_add, List.range_succ, List.append_assoc]
  rfl
theorem nxB_none {Ns : List Nat} {n P : Nat} (hb : ∀ y, y < n → cdB Ns n P y = false) : nxB Ns n P = none := by
  unfold nxB
  rw [List.find?_eq_none]
  intro y hy
  rw [hb y (List.mem_range.1 hy)]
  decide
theorem lack_from {N P n a r : Nat} (h : LackR (minusB N P) n (64 * (a / 64)) r) (ha : ∀ j, j < a → N.testBit j = true → P.testBit j = true) : r = lkB (minusB N P) n := by
  refine LackR.uniq (a := 0) ⟨h.le, fun q => ⟨Nat.zero_le _, (h.is q).2⟩, fun j _ hj => ?_⟩ (lkB_is _ _)
  rcases Nat.lt_or_ge j (64 * (a / 64)) with q | q
  · rw [minusB_bit]
    cases e : N.testBit j with
    | false => rfl
    | true => rw [ha j (by omega) e]; rfl
  · exact h.none j q hj
theorem lk_all {N P n : Nat} : ∀ j, j < lkB (minusB N P) n → N.testBit j = true → P.testBit j = true := fun j hj hN => by
  have := (lkB_is (minusB N P) n).none j (Nat.zero_le _) hj
  rw [minusB_bit, hN, Bool.true_and] at this
  simpa using this
/-- What lasts while numbers are placed. -/
structure PlB (w : World) (n : Nat) (l : List Nat) (P : Nat) (K : List Nat) (v : Value) (wr : World) : Prop where
  il : IL wr v (nI l)
  own : ∀ j, v.ownBlock = some j → j = w.heap.size ∨ w.heap.size + 4 ≤ j
  sb : SB wr (w.heap.size + 1) n P
  kb : KbB wr (w.heap.size + 3) K
  kl : K.length = n
  bel : Below w.heap.size w wr
  sz : w.heap.size + 4 ≤ wr.heap.size
theorem PlB.any {w wr w' : World} {n P : Nat} {l K : List Nat} {v : Value} (h : PlB w n l P K v wr) (hb : Below wr.heap.size wr w') : PlB w n l P K v w' := ⟨h.il.later hb, h.own, h.sb.later hb, h.kb.later hb, h.kl, h.bel.trans (hb.mono h.bel.size), Nat.le_trans h.sz hb.size⟩
theorem PlB.seen {w wr w' : World} {n P P' : Nat} {l K : List Nat} {v : Value} (h : PlB w n l P K v wr) (hs : SB w' (w.heap.size + 1) n P') (hf : FrB (· = w.heap.size + 1) wr w') : PlB w n l P' K v w' := by
  have hsz := h.sz
  refine ⟨h.il.kept (fun j hj => hf.block j (World.ownsRow.lt h.il j hj).2 (fun e => ?_)), h.own, hs, h.kb.frB hf (by omega), h.kl, hf.below h.bel (by omega) (fun j q => by have q2 : j = w.heap.size + 1 := q; omega), Nat.le_trans h.sz hf.size⟩
  have e2 : j = w.heap.size + 1 := e
  have := h.own j hj
  omega
theorem PlB.wait {w wr : World} {n P : Nat} {l K : List Nat} {v : Value} (h : PlB w n l P K v wr) (x r : Nat) : PlB w n l P (K.set x r) v (wr.setCell ⟨w.heap.size + 3, x, none⟩ (.int .i64 (r : Int))) := by
  have hsz := h.sz
  have hf := frB_setCell wr (w.heap.size + 3) x (.int .i64 (r : Int))
  refine ⟨h.il.kept (fun j hj => hf.block j (World.ownsRow.lt h.il j hj).2 (fun e => ?_)), h.own, h.sb.frB hf (by omega) (by omega), h.kb.set x r, by rw [List.length_set]; exact h.kl, hf.below h.bel (by omega) (fun j q => by have q2 : j = w.heap.size + 3 := q; omega), Nat.le_trans h.sz hf.size⟩
  have e2 : j = w.heap.size + 3 := e
  have := h.own j hj
  omega
theorem PlB.app {w wr w2 w4 : World} {n P x : Nat} {l K : List Nat} {v v' : Value} (h : PlB w n l P K v wr) (hb : Below wr.heap.size wr w2) (hg : Grew w2 w4 v v') (hi : IL w4 v' (nI l ++ [(x : Int)])) : PlB w n (l ++ [x]) P K v' w4 := by
  have h2 := h.any hb
  have hsz := h2.sz
  have hf : FrB (fun j => v.ownBlock = some j) w2 w4 := ⟨hg.grown.os, hg.grown.tape, hg.grown.output, hg.grown.size, fun j hj hx => hg.grown.block j hj (fun e => hx e.symm)⟩
  refine ⟨by rw [nI_snoc]; exact hi, fun j hj => ?_, h2.sb.frB hf (fun q => ?_) (fun q => ?_), h2.kb.frB hf (fun q => ?_), h.kl, hf.below h2.bel (by omega) (fun j q => ?_), Nat.le_trans h2.sz hf.size⟩
  · rcases hg.moved with e | ⟨i, e, hi2⟩
    · exact h.own j (by rw [← e]; exact hj)
    · rw [e] at hj
      simp at hj
      omega
  · have := h.own _ q; omega
  · have := h.own _ q; omega
  · have := h.own _ q; omega
  · have := h.own _ q; omega
end Go.Proofs.YtcgghlaifmlpiaaGreatDoor
