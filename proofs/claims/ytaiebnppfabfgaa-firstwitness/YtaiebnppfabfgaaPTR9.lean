import Derived.Test.YtaiebnppfabfgaaPTR8
import Derived.Test.YtaiebnppfabfgaaPFThyToFSame
namespace Go.Proofs.Ytaiebnppfabfgaa
set_option linter.unusedVariables false
set_option maxRecDepth 100000
set_option maxHeartbeats 16000000
open Go.RowKit
def corP (N : List Bool) (t : Int) (Q : Nat -> Prop) : List (Int × Int) -> Prop
 | [] => True
 | s :: r => if s.1 = 1 then s.2 ≠ t else Q s.2.toNat /\ (N.getD s.2.toNat false = true -> corP N t Q r)
theorem corP_mono {N : List Bool} {t : Int} {Q Q' : Nat -> Prop} (h : ∀ i, Q i -> Q' i) : ∀ l, corP N t Q l -> corP N t Q' l
 | [], _ => trivial
 | s :: r, hc => by
  unfold corP at hc ⊢
  split
  ·rename_i q; rw [if_pos q] at hc; exact hc
  ·rename_i q; rw [if_neg q] at hc; exact ⟨h _ hc.1, fun e => corP_mono h r (hc.2 e)⟩
def preP (N : List Bool) (Q : Nat -> Prop) (l : List (Int × Int)) : Prop := ∀ s ∈ l, s.1 ≠ 1 /\ Q s.2.toNat
theorem preP_cor {N : List Bool} {t : Int} {Q : Nat -> Prop} : ∀ (l r : List (Int × Int)), preP N Q l -> corP N t Q r -> corP N t Q (l ++ r)
 | [], _, _, h => h
 | s :: l, r, hp, h => by
  have hs := hp s (List.mem_cons_self ..)
  show corP N t Q (s :: (l ++ r))
  unfold corP
  rw [if_neg hs.1]
  exact ⟨hs.2, fun _ => preP_cor l r (fun x hx => hp x (List.mem_cons_of_mem _ hx)) h⟩
theorem cor_of {N : List Bool} {F : List BS} {t : Int} {Q : Nat -> Prop} (ht : 0 <= t /\ t < 128) (hF : ∀ i, Q i -> hasS (F.getD i (0, 0)) t.toNat = false) : ∀ l : List (Int × Int), (∀ s ∈ l, s.1 = 1 -> 0 <= s.2 /\ s.2 < 128) -> corP N t Q l -> hasS (ofS N F l (0, 0)) t.toNat = false
 | [], _, _ => hasS_zero _
 | s :: l, hs, hc => by
  have ih := cor_of (N := N) ht hF l (fun x hx => hs x (List.mem_cons_of_mem _ hx))
  have e : ofS N F (s :: l) (0, 0) = aheadS N F s (ofS N F l (0, 0)) := rfl
  rw [e]
  unfold corP at hc
  unfold aheadS
  by_cases h1 : s.1 = 1
  ·rw [if_pos h1] at hc ⊢
   have hb := hs s (List.mem_cons_self ..) h1
   cases q : hasS (setS [s.2]) t.toNat with
   | false => rfl
   | true =>
    exfalso
    have e2 : hasS (setS [s.2]) t.toNat = (hasS (0, 0) t.toNat || decide (s.2.toNat = t.toNat)) := hasS_add (0, 0) s.2.toNat t.toNat (by omega) (by omega)
    rw [e2, hasS_zero, Bool.false_or, decide_eq_true_eq] at q
    exact hc (by omega)
  ·rw [if_neg h1] at hc ⊢
   split
   ·rename_i h2
    rw [hasS_with, ih (hc.2 h2), hF _ hc.1]; rfl
   ·exact hF _ hc.1
theorem cor_step {N : List Bool} {F : List BS} {t : Int} {Q : Nat -> Prop} (ht : 0 <= t /\ t < 128) (hF : ∀ i, Q i -> hasS (F.getD i (0, 0)) t.toNat = false) {p : PV} (hs : ∀ s ∈ p.right, s.1 = 1 -> 0 <= s.2 /\ s.2 < 128) (hc : Q p.left.toNat -> corP N t Q p.right) : ∀ i, Q i -> hasS ((rStep N F p).getD i (0, 0)) t.toNat = false := fun i hi => by
 unfold rStep
 rw [getD_setS]
 split
 ·rename_i h
  rw [hasS_with, hF _ (by rw [h.1]; exact hi), cor_of ht hF _ hs (hc (by rw [h.1]; exact hi))]; rfl
 ·exact hF i hi
theorem cor_fold {N : List Bool} {t : Int} {Q : Nat -> Prop} (ht : 0 <= t /\ t < 128) : ∀ (ps : List PV) (F : List BS), (∀ p ∈ ps, ∀ s ∈ p.right, s.1 = 1 -> 0 <= s.2 /\ s.2 < 128) -> (∀ p ∈ ps, Q p.left.toNat -> corP N t Q p.right) -> (∀ i, Q i -> hasS (F.getD i (0, 0)) t.toNat = false) -> ∀ i, Q i -> hasS ((ps.foldl (rStep N) F).getD i (0, 0)) t.toNat = false
 | [], _, _, _, h => h
 | p :: ps, F, hs, hc, h => cor_fold ht ps _ (fun q hq => hs q (List.mem_cons_of_mem _ hq)) (fun q hq => hc q (List.mem_cons_of_mem _ hq)) (cor_step ht h (hs p (List.mem_cons_self ..)) (hc p (List.mem_cons_self ..)))
theorem cor_iter {N : List Bool} {t : Int} {Q : Nat -> Prop} (ht : 0 <= t /\ t < 128) {ps : List PV} {F : List BS} (hs : ∀ p ∈ ps, ∀ s ∈ p.right, s.1 = 1 -> 0 <= s.2 /\ s.2 < 128) (hc : ∀ p ∈ ps, Q p.left.toNat -> corP N t Q p.right) (h : ∀ i, Q i -> hasS (F.getD i (0, 0)) t.toNat = false) : ∀ k i, Q i -> hasS ((iterS N ps F k).getD i (0, 0)) t.toNat = false
 | 0 => h
 | k + 1 => cor_fold ht ps _ hs hc (cor_iter ht hs hc h k)
theorem LeastF.misses {g : GV} {F : List BS} {t : Int} {Q : Nat -> Prop} (hg : GP g) (h : LeastF g F) (ht : 0 <= t /\ t < 128) (hc : ∀ p ∈ g.ps, Q p.left.toNat -> corP (nullU g.ps g.ns.length) t Q p.right) {a : Nat} (ha : Q a) : hasS (F.getD a (0, 0)) t.toNat = false := by
 obtain ⟨k, rfl, _⟩ := h
 refine cor_iter ht (fun p hp s hs e => ?_) hc (fun i _ => by rw [rep_zero, hasS_zero]) k a ha
 have := hg.tl
 rcases hg.sym p hp s hs with q | q <;> omega
def QD (S : List Bool) (D : List Int) (i : Nat) : Prop := S.getD i false = true ∨ (i : Int) ∈ D
theorem QD.app {S : List Bool} {D : List Int} {i : Nat} (y : Int) (h : QD S D i) : QD S (D ++ [y]) i := h.imp id fun h => List.mem_append_left _ h
theorem QD.pop {S : List Bool} {D : List Int} {x i : Nat} (h : QD S (D ++ [(x : Int)]) i) (hx : S.getD x false = true) : QD S D i := by
 rcases h with h | h
 ·exact .inl h
 ·rcases List.mem_append.1 h with h | h
  ·exact .inr h
  ·simp at h
   obtain rfl : i = x := by omega
   exact .inl hx
theorem getD_setB (S : List Bool) (x i : Nat) (hx : x < S.length) : (S.set x true).getD i false = if i = x then true else S.getD i false := by
 simp only [List.getD, List.getElem?_set]
 by_cases h : x = i
 ·subst h; simp [hx]
 ·rw [if_neg h, if_neg (fun e => h e.symm)]
theorem QD.see {S : List Bool} {D : List Int} {x i : Nat} (h : QD S (D ++ [(x : Int)]) i) (hx : x < S.length) : QD (S.set x true) D i := by
 rcases h with h | h
 ·exact .inl (by rw [getD_setB _ _ _ hx]; split <;> simp_all)
 ·rcases List.mem_append.1 h with h | h
  ·exact .inr h
  ·simp at h
   obtain rfl : i = x := by omega
   exact .inl (by rw [getD_setB _ _ _ hx, if_pos rfl])
structure BI (g : GV) (t : Int) (a : Nat) (S : List Bool) (D : List Int) : Prop where
 cl : ∀ p ∈ g.ps, S.getD p.left.toNat false = true -> corP (nullU g.ps g.ns.length) t (QD S D) p.right
 at_ : QD S D a
 num : ∀ d ∈ D, 0 <= d /\ d < (g.ns.length : Int)
 sz : D.length + 5000 * falseU S <= 5000 * g.ns.length + 1
structure CI (g : GV) (t : Int) (a x : Nat) (S : List Bool) (L0 k e : Nat) (D : List Int) : Prop where
 cl : ∀ p ∈ g.ps, S.getD p.left.toNat false = true -> corP (nullU g.ps g.ns.length) t (QD (S.set x true) D) p.right
 cx : ∀ j, j < k -> (g.ps.getD j .none).left = (x : Int) -> corP (nullU g.ps g.ns.length) t (QD (S.set x true) D) (g.ps.getD j .none).right
 at_ : QD (S.set x true) D a
 num : ∀ d ∈ D, 0 <= d /\ d < (g.ns.length : Int)
 sz : D.length <= L0 + e
theorem BI.skip {g : GV} {t : Int} {a x : Nat} {S : List Bool} {D : List Int} (h : BI g t a S (D ++ [(x : Int)])) (hx : S.getD x false = true) : BI g t a S D :=
 ⟨fun p hp hl => corP_mono (fun _ q => q.pop hx) _ (h.cl p hp hl), h.at_.pop hx, fun d hd => h.num d (List.mem_append_left _ hd), by have := h.sz; simp at this; omega⟩
theorem BI.open {g : GV} {t : Int} {a x : Nat} {S : List Bool} {D : List Int} (h : BI g t a S (D ++ [(x : Int)])) (hx : x < S.length) : CI g t a x S D.length 0 0 D :=
 ⟨fun p hp hl => corP_mono (fun _ q => q.see hx) _ (h.cl p hp hl), fun j hj => absurd hj (Nat.not_lt_zero j), h.at_.see hx, fun d hd => h.num d (List.mem_append_left _ hd), by omega⟩
theorem CI.app {g : GV} {t : Int} {a x : Nat} {S : List Bool} {L0 k e : Nat} {D : List Int} (h : CI g t a x S L0 k e D) (y : Int) (hy : 0 <= y /\ y < (g.ns.length : Int)) : CI g t a x S L0 k (e + 1) (D ++ [y]) :=
 ⟨fun p hp hl => corP_mono (fun _ q => q.app y) _ (h.cl p hp hl), fun j hj hl => corP_mono (fun _ q => q.app y) _ (h.cx j hj hl), h.at_.app y, fun d hd => by
  rcases List.mem_append.1 hd with q | q
  ·exact h.num d q
  ·simp at q; rw [q]; exact hy, by have := h.sz; simp; omega⟩
theorem CI.next {g : GV} {t : Int} {a x : Nat} {S : List Bool} {L0 k e e' : Nat} {D : List Int} (h : CI g t a x S L0 k e D) (hc : (g.ps.getD k .none).left = (x : Int) -> corP (nullU g.ps g.ns.length) t (QD (S.set x true) D) (g.ps.getD k .none).right) (he : e <= e') : CI g t a x S L0 (k + 1) e' D :=
 ⟨h.cl, fun j hj hl => by
  by_cases q : j = k
  ·subst q; exact hc hl
  ·exact h.cx j (by omega) hl, h.at_, h.num, by have := h.sz; omega⟩
theorem CI.mono {g : GV} {t : Int} {a x : Nat} {S : List Bool} {L0 k e e' : Nat} {D : List Int} (h : CI g t a x S L0 k e D) (he : e <= e') : CI g t a x S L0 k e' D := ⟨h.cl, h.cx, h.at_, h.num, by have := h.sz; omega⟩
theorem CI.shut {g : GV} (hg : GP g) {t : Int} {a x : Nat} {S : List Bool} {L0 e : Nat} {D : List Int} (h : CI g t a x S L0 g.ps.length e D) (hx : x < S.length) (h0 : S.getD x false = false) (he : e <= 4096) (hL : L0 + 1 + 5000 * falseU S <= 5000 * g.ns.length + 1) : BI g t a (S.set x true) D :=
 ⟨fun p hp hl => by
  rw [getD_setB _ _ _ hx] at hl
  by_cases q : p.left.toNat = x
  ·obtain ⟨i, hi, rfl⟩ := List.getElem_of_mem hp
   have e2 : g.ps.getD i .none = g.ps[i] := by simp [List.getD, hi]
   have := h.cx i hi
   rw [e2] at this
   exact this (by have := hg.left _ (List.getElem_mem hi); omega)
  ·rw [if_neg q] at hl
   exact h.cl p hp hl, h.at_, h.num, by
  have := falseU_set S x hx h0
  have := h.sz
  omega⟩
theorem BI.misses {g : GV} {F : List BS} {t : Int} {a : Nat} {S : List Bool} (hg : GP g) (hF : LeastF g F) (ht : 0 <= t /\ t < 128) (h : BI g t a S []) : hasS (F.getD a (0, 0)) t.toNat = false :=
 hF.misses hg ht (fun p hp hl => h.cl p hp (hl.resolve_right (List.not_mem_nil))) h.at_
theorem falseU_rep : ∀ n : Nat, falseU (List.replicate n false) = n
 | 0 => rfl
 | n + 1 => by
  show (if false = true then 0 else 1) + falseU (List.replicate n false) = n + 1
  rw [falseU_rep n]
  simp
  omega
theorem BI.start {g : GV} {t : Int} {a : Nat} (ha : a < g.ns.length) : BI g t a (List.replicate g.ns.length false) [(a : Int)] := by
 refine ⟨fun p _ hl => ?_, Or.inr (by simp), fun d hd => ?_, ?_⟩
 ·have : (List.replicate g.ns.length false).getD p.left.toNat false = false := by simp [List.getD, List.getElem?_replicate]; split <;> rfl
  rw [this] at hl
  cases hl
 ·simp at hd
  omega
 ·rw [falseU_rep]
  simp
  omega
end Go.Proofs.Ytaiebnppfabfgaa
