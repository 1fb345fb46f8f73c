import Derived.Test.YtfckmbdcfeljiaaSFine
import Derived.Test.YtfckmbdcfeljiaaSCheckN
import Derived.Test.YtfckmbdcfeljiaaSCheckP
import Derived.Test.YtfckmbdcfeljiaaSCall3
import Derived.Lib.Bytealg
namespace Go.Proofs.Ytfckmbdcfeljiaa
set_option linter.unusedVariables false
open Go.RowKit
open PlainAid (bt)

theorem mem_inB {ss : List ByteArray} {s : ByteArray} (h : inB ss s = false) : s ∉ ss := by
  rw [inB_place] at h
  rw [← placeS_notMem]
  cases e : placeS ss s with
  | none => rfl
  | some i => rw [e] at h; cases h
theorem chk_ok : ∀ (R : List (Bool × ByteArray)) (all : List ByteArray) (a : Int), all.Nodup → chk R all = (0, a) → (all ++ R.map Prod.snd).Nodup ∧ ∀ x ∈ R, okS x.1 x.2 = true
  | [], all, a, hn, _ => ⟨by simpa using hn, fun x hx => by cases hx⟩
  | (t, s) :: R, all, a, hn, h => by
    unfold chk at h
    split at h
    · cases h
    · rename_i h1
      split at h
      · cases h
      · rename_i h2
        have h2' : s ∉ all := mem_inB (by simpa using h2)
        have hn' : (all ++ [s]).Nodup := by
          rw [List.nodup_append]
          refine ⟨hn, by simp, fun x hx y hy e => ?_⟩
          simp at hy
          subst hy e
          exact h2' hx
        obtain ⟨q1, q2⟩ := chk_ok R (all ++ [s]) a hn' h
        refine ⟨by simpa using q1, fun x hx => ?_⟩
        rcases List.mem_cons.1 hx with rfl | hx
        · simpa using h1
        · exact q2 x hx
theorem check_ok {ts ns : List ByteArray} {a : Int} (h : checkF ts ns = (0, a)) : Fine ts ns ∧ ts.length ≤ 64 ∧ ns.length ≤ 64 := by
  have h1 : ¬ 64 < ts.length := fun q => by unfold checkF at h; rw [if_pos q] at h; cases h
  have h2 : ¬ 64 < ns.length := fun q => by unfold checkF at h; rw [if_neg h1, if_pos q] at h; cases h
  rw [← chk_is h1 h2] at h
  obtain ⟨q1, q2⟩ := chk_ok _ [] a (by simp) h
  have e : (kinds ts ns).map Prod.snd = ts ++ ns := by simp [kinds, Function.comp_def]
  rw [e] at q1
  refine ⟨⟨by simpa using q1, fun s hs => ?_, fun s hs => ?_⟩, by omega, by omega⟩
  · exact q2 (true, s) (by simp [kinds, hs])
  · exact q2 (false, s) (by simp [kinds, hs])
/-- Names one behind the other, a blank between. -/
def joinU : List (List UInt8) → List UInt8
  | [] => []
  | [x] => x
  | x :: y :: r => x ++ 32 :: joinU (y :: r)
theorem joinU_cons (x : List UInt8) (r : List (List UInt8)) (h : r ≠ []) : joinU (x :: r) = x ++ 32 :: joinU r := by
  cases r with
  | nil => exact absurd rfl h
  | cons y r => rfl
theorem joinU_snoc : ∀ (l : List (List UInt8)) (x : List UInt8), l ≠ [] → joinU (l ++ [x]) = joinU l ++ 32 :: x
  | [], _, h => absurd rfl h
  | [y], x, _ => rfl
  | y :: z :: r, x, _ => by
    have e : (y :: z :: r) ++ [x] = y :: ((z :: r) ++ [x]) := rfl
    rw [e, joinU_cons _ _ (by simp), joinU_snoc (z :: r) x (by simp), joinU_cons y (z :: r) (by simp)]
    simp
theorem joinU_len : ∀ (l : List (List UInt8)) (b : Nat), (∀ x ∈ l, x.length ≤ b) → (joinU l).length ≤ l.length * (b + 1)
  | [], _, _ => by simp [joinU]
  | [x], b, h => by have := h x (by simp); simp [joinU]; omega
  | x :: y :: r, b, h => by
    have h1 := h x (by simp)
    have h2 := joinU_len (y :: r) b fun z hz => h z (by simp [hz])
    rw [joinU_cons _ _ (by simp)]
    simp only [List.length_append, List.length_cons] at h2 ⊢
    have e : (r.length + 1 + 1) * (b + 1) = (r.length + 1) * (b + 1) + (b + 1) := by rw [Nat.succ_mul]
    omega
/-- Where the i-th name begins. -/
def offU (l : List (List UInt8)) (i : Nat) : Nat := ((l.take i).map fun x => x.length + 1).sum
theorem offU_zero (l : List (List UInt8)) : offU l 0 = 0 := by simp [offU]
theorem offU_succ (l : List (List UInt8)) (i : Nat) (h : i < l.length) : offU l (i + 1) = offU l i + l[i].length + 1 := by
  unfold offU
  rw [List.take_succ_eq_append_getElem h]
  simp only [List.map_append, List.map_cons, List.map_nil, List.sum_append, List.sum_cons, List.sum_nil]
  omega
theorem drop_off : ∀ (l : List (List UInt8)) (i : Nat), i ≤ l.length → (joinU l).drop (offU l i) = joinU (l.drop i)
  | l, 0, _ => by simp [offU_zero]
  | [], i + 1, h => by simp at h
  | [x], i + 1, h => by
    have : i = 0 := by simp at h; omega
    subst this
    simp [offU, joinU]
  | x :: y :: r, i + 1, h => by
    have e : offU (x :: y :: r) (i + 1) = x.length + 1 + offU (y :: r) i := by simp [offU]
    rw [e, joinU_cons _ _ (by simp), List.drop_succ_cons, ← drop_off (y :: r) i (by simpa using h), ← List.drop_drop]
    congr 1
    rw [show x ++ 32 :: joinU (y :: r) = (x ++ [32]) ++ joinU (y :: r) by simp]
    rw [List.drop_append_of_le_length (by simp)]
    simp
theorem index_none : ∀ (x : List UInt8) (c : UInt8), c ∉ x → Lib.indexByte x c = -1
  | [], c, _ => rfl
  | b :: l, c, h => by
    have h1 : ¬ b = c := fun e => h (by simp [e])
    have h2 := index_none l c fun q => h (by simp [q])
    simp [Lib.indexByte, h1, h2]
theorem index_at : ∀ (x r : List UInt8) (c : UInt8), c ∉ x → Lib.indexByte (x ++ c :: r) c = x.length
  | [], r, c, _ => by simp [Lib.indexByte]
  | b :: l, r, c, h => by
    have h1 : ¬ b = c := fun e => h (by simp [e])
    have h2 := index_at l r c fun q => h (by simp [q])
    have h3 : ¬ ((l.length : Int) = -1) := by omega
    simp [Lib.indexByte, h1, h2, h3]
theorem joinU_head (x : List UInt8) (r : List (List UInt8)) (hx : x ≠ []) : ∃ t, joinU (x :: r) = x.head hx :: t := by
  cases r with
  | nil => exact ⟨x.tail, by simp [joinU]⟩
  | cons y r => exact ⟨x.tail ++ 32 :: joinU (y :: r), by rw [joinU_cons _ _ (by simp)]; simp [← List.cons_append]⟩
theorem joinU_take (x : List UInt8) (r : List (List UInt8)) : (joinU (x :: r)).take x.length = x := by
  cases r with
  | nil => simp [joinU]
  | cons y r => rw [joinU_cons _ _ (by simp)]; simp
theorem wordC_blank {c : Int} (h : wordC c = true) : c ≠ 32 := by
  intro e; subst e; revert h; decide
theorem quoC_blank {c : Int} (h : quoC c = true) : c ≠ 32 := by
  intro e; subst e; revert h; decide
/-- No blank stands in it, and it is not empty. -/
def Solid (s : ByteArray) : Prop := s.size ≤ 32 ∧ s.data.toList ≠ [] ∧ (32 : UInt8) ∉ s.data.toList
theorem solid_of {s : ByteArray} (h0 : 1 ≤ s.size) (h1 : s.size ≤ 32) (h : ∀ i, i < s.size → bt s i ≠ 32) : Solid s := by
  refine ⟨h1, fun e => ?_, fun hm => ?_⟩
  · have : s.size = 0 := by show s.data.size = 0; rw [← Array.length_toList, e]; rfl
    omega
  · obtain ⟨i, hi, e⟩ := List.mem_iff_getElem.1 hm
    have hi' : i < s.size := by show i < s.data.size; rw [← Array.length_toList]; exact hi
    refine h i hi' ?_
    have e' : s.data[i]'hi' = 32 := by rw [← e]; exact (Array.getElem_toList _).symm
    unfold bt
    rw [dif_pos hi']
    show ((s.data[i]'hi').toNat : Int) = 32
    rw [e']
    rfl
theorem word_solid {s : ByteArray} (h : wordS s = true) : Solid s := by
  simp only [wordS, Bool.and_eq_true, decide_eq_true_eq, List.all_eq_true, List.mem_range] at h
  exact solid_of h.1.1.1 h.1.1.2 fun i hi => wordC_blank (h.2 i hi)
theorem quoted_solid {s : ByteArray} (h : quotedS s = true) : Solid s := by
  simp only [quotedS, Bool.and_eq_true, decide_eq_true_eq, List.all_eq_true, List.mem_range, beq_iff_eq] at h
  obtain ⟨⟨⟨⟨h0, h1⟩, h2⟩, h3⟩, h4⟩ := h
  refine solid_of (by omega) h1 fun i hi => ?_
  by_cases e0 : i = 0
  · subst e0; rw [h2]; decide
  by_cases e1 : i = s.size - 1
  · subst e1; rw [h3]; decide
  · have := quoC_blank (h4 (i - 1) (by omega))
    rwa [show i - 1 + 1 = i by omega] at this
theorem term_solid {s : ByteArray} (h : termS s = true) : Solid s := by
  rcases Bool.or_eq_true _ _ ▸ h with q | q
  · exact word_solid q
  · exact quoted_solid q
def dollar : ByteArray := ⟨#[36]⟩
theorem dollar_solid : Solid dollar := ⟨by decide, by decide, by decide⟩
theorem dollar_no : termS dollar = false := by decide
end Go.Proofs.Ytfckmbdcfeljiaa
