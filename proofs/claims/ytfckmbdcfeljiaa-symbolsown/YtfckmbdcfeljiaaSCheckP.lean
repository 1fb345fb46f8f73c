import Derived.Test.YtfckmbdcfeljiaaSCheck
namespace Go.Proofs.Ytfckmbdcfeljiaa
set_option linter.unusedVariables false
open Go.RowKit Go.Maps

theorem gs_cnt {w : World} {a : Option Addr} {n c : Nat} {ss : List ByteArray} {y : ByteArray} (h : GS w (.slice a n c) (ss ++ [y])) : n = ss.length + 1 := by
  obtain ⟨a', c', e⟩ := gs_len h
  simp at e
  exact e.2.1
def okS (t : Bool) (s : ByteArray) : Bool := bif t then termS s else wordS s
/-- The document's CheckNames over all names, each with its kind. -/
def chk : List (Bool × ByteArray) → List ByteArray → Int × Int
  | [], all => (0, all.length)
  | (t, s) :: r, all => if okS t s = false then (21, all.length) else if inB all s = true then (6, all.length) else chk r (all ++ [s])
def kinds (ts ns : List ByteArray) : List (Bool × ByteArray) := ts.map (fun s => (true, s)) ++ ns.map (fun s => (false, s))
theorem chk_nons : ∀ (ns all : List ByteArray), chk (ns.map (fun s => (false, s))) all = if (formsF wordS ns all).1 ≠ 0 then ((formsF wordS ns all).1, (formsF wordS ns all).2.1) else (0, (formsF wordS ns all).2.2.length)
  | [], all => by simp [chk, formsF]
  | s :: r, all => by
    by_cases h : wordS s = false
    · simp [chk, formsF, okS, h]
    · by_cases h2 : inB all s = true
      · simp [chk, formsF, okS, h, h2]
      · simp only [List.map_cons, chk, formsF, okS, cond_false, if_neg h, if_neg h2]
        exact chk_nons r _
theorem chk_terms (R : List (Bool × ByteArray)) : ∀ (ts all : List ByteArray), chk (ts.map (fun s => (true, s)) ++ R) all = if (formsF termS ts all).1 ≠ 0 then ((formsF termS ts all).1, (formsF termS ts all).2.1) else chk R (formsF termS ts all).2.2
  | [], all => by simp [formsF]
  | s :: r, all => by
    by_cases h : termS s = false
    · simp [chk, formsF, okS, h]
    · by_cases h2 : inB all s = true
      · simp [chk, formsF, okS, h, h2]
      · simp only [List.map_cons, List.cons_append, chk, formsF, okS, cond_true, if_neg h, if_neg h2]
        exact chk_terms R r _
theorem chk_is {ts ns : List ByteArray} (h1 : ¬ 64 < ts.length) (h2 : ¬ 64 < ns.length) : chk (kinds ts ns) [] = checkF ts ns := by
  unfold kinds checkF
  rw [chk_terms, if_neg h1, if_neg h2]
  split
  · rfl
  · exact chk_nons ns _
theorem inB_place (ss : List ByteArray) (s : ByteArray) : inB ss s = (placeS ss s).isSome := by
  unfold inB placeS
  exact List.findIdx?_isSome.symm
theorem inS_in {ss : List ByteArray} {s : ByteArray} (h : inB ss s = true) : inS ss s ≥ 0 := by
  rw [inB_place] at h
  unfold inS
  cases e : placeS ss s with
  | none => rw [e] at h; cases h
  | some i => simp
theorem inS_out {ss : List ByteArray} {s : ByteArray} (h : inB ss s = false) : inS ss s = -1 := by
  rw [inB_place] at h
  unfold inS
  cases e : placeS ss s with
  | none => rfl
  | some i => rw [e] at h; cases h
theorem kinds_term {ts ns : List ByteArray} {k : Nat} (h : k < ts.length) : (kinds ts ns).drop k = (true, ts.getD k ByteArray.empty) :: (kinds ts ns).drop (k + 1) := by
  have hk : k < (kinds ts ns).length := by simp [kinds]; omega
  rw [List.drop_eq_getElem_cons hk]
  congr 1
  simp [kinds, List.getElem_append_left, h, List.getD]
theorem kinds_non {ts ns : List ByteArray} {k : Nat} (h : ts.length ≤ k) (h2 : k < ts.length + ns.length) : (kinds ts ns).drop k = (false, ns.getD (k - ts.length) ByteArray.empty) :: (kinds ts ns).drop (k + 1) := by
  have hk : k < (kinds ts ns).length := by simp [kinds]; omega
  rw [List.drop_eq_getElem_cons hk]
  congr 1
  have h3 : k - ts.length < ns.length := by omega
  simp [kinds, List.getElem_append_right, h, h3, List.getD]
theorem grew_below {w w1 w4 : World} {v v' : Value} (hb : Below w.heap.size w w1) (hv : ∀ k, v.ownBlock = some k → w.heap.size ≤ k) (g : Grew w1 w4 v v') : Below w.heap.size w w4 ∧ ∀ k, v'.ownBlock = some k → w.heap.size ≤ k := by
  refine ⟨⟨g.grown.os.trans hb.os, g.grown.tape.trans hb.tape, g.grown.output.trans hb.output, Nat.le_trans hb.size g.grown.size, fun k hk => (g.grown.block k (Nat.lt_of_lt_of_le hk hb.size) fun e => ?_).trans (hb.block k hk)⟩, fun k hk => ?_⟩
  · have := hv k e.symm; omega
  · rcases g.moved with e | ⟨j, e, hj⟩
    · exact hv k (by rw [← e]; exact hk)
    · rw [e] at hk; simp at hk; have := hb.size; omega
end Go.Proofs.Ytfckmbdcfeljiaa
