import Derived.Test.YtccednepbkjajaaPTW8
import Derived.Test.YtccednepbkjajaaPTTH
namespace Go.Proofs.Ytccednepbkjajaa
set_option linter.unusedVariables false
open Go.RowKit
def msF (m : MS) (D : List EV) : MS := D.foldl msE m
theorem msF_app (m : MS) (D R : List EV) : msF m (D ++ R) = msF (msF m D) R := by simp [msF]
theorem msF_one (m : MS) (x : EV) : msF m [x] = msE m x := rfl
def GoesT (t : TV) : Prop := ∀ (p q : Nat) (m : MS), 0 <= m.cv -> (msF m (evT p q t)).dp = m.dp /\ (msF m (evT p q t)).cv = m.cv /\ (msF m (evT p q t)).ht = if m.cv = 0 /\ t.prod ≠ -1 then max m.ht (m.dp + (hgT t : Int)) else m.ht
theorem goesL (b o : Nat) : ∀ (l : List TV), (∀ k ∈ l, GoesT k) -> ∀ (i : Nat) (m : MS), 0 <= m.cv -> (m.cv = 0 -> m.dp <= m.ht) -> (msF m (evL (kidF b o i l))).dp = m.dp /\ (msF m (evL (kidF b o i l))).cv = m.cv /\ (msF m (evL (kidF b o i l))).ht = if m.cv = 0 then max m.ht (m.dp + (hgL l : Int)) else m.ht
 | [], _, _, m, _, h1 => by
  refine ⟨rfl, rfl, ?_⟩
  show m.ht = _
  have : (hgL [] : Int) = 0 := rfl
  rw [this]
  split
  ·have := h1 (by assumption)
   omega
  ·rfl
 | k :: l, h, i, m, h0, h1 => by
  rw [kidF, evL_cons, msF_app]
  obtain ⟨a1, a2, a3⟩ := h k List.mem_cons_self b (o + i * 4) m h0
  dsimp only
  generalize msF m (evT b (o + i * 4) k) = m1 at *
  obtain ⟨b1, b2, b3⟩ := goesL b o l (fun k' hk => h k' (List.mem_cons_of_mem _ hk)) (i + 1) m1 (by omega) (fun e => by
   rw [a2] at e
   have := h1 e
   rw [a1, a3]
   split <;> omega)
  refine ⟨b1.trans a1, b2.trans a2, ?_⟩
  rw [b3, a2, a3, a1]
  have e : (hgL (k :: l) : Int) = max (hgT k : Int) (hgL l : Int) := by
   show ((max (hgT k) (hgL l) : Nat) : Int) = _
   omega
  rw [e]
  by_cases hc : m.cv = 0
  ·have hd := h1 hc
   by_cases hp : k.prod = -1
   ·have hk : (hgT k : Int) = 0 := by rw [hgT_eq, if_pos hp]; rfl
    rw [if_pos hc, if_pos hc, if_neg (by simp [hp]), hk]
    omega
   ·rw [if_pos hc, if_pos hc, if_pos ⟨hc, hp⟩]
    omega
  ·rw [if_neg hc, if_neg hc, if_neg (fun q => hc q.1)]
theorem goes_all (t : TV) : GoesT t := by
 induction t using TV.ind with
 | _ t ih =>
  intro p q m h0
  rw [evT_eq, <- List.singleton_append, msF_app, msF_app, msF_one, msF_one]
  by_cases hp : t.prod = -1
  ·have e1 : msE m ⟨true, p, q, t⟩ = ⟨m.pl + 1, m.lf + 1, m.ht, m.dp + 1, m.cv + 1⟩ := by
    unfold msE
    rw [if_pos rfl, if_pos hp, if_neg (by omega)]
   rw [e1]
   obtain ⟨b1, b2, b3⟩ := goesL (kadr t).1 (kadr t).2 t.kids ih 0 ⟨m.pl + 1, m.lf + 1, m.ht, m.dp + 1, m.cv + 1⟩ (by show 0 <= m.cv + 1; omega) (fun e => by have : m.cv + 1 = 0 := e; omega)
   unfold kidsA
   generalize msF ⟨m.pl + 1, m.lf + 1, m.ht, m.dp + 1, m.cv + 1⟩ (evL (kidF (kadr t).1 (kadr t).2 0 t.kids)) = m2 at *
   have e2 : msE m2 ⟨false, p, q, t⟩ = ⟨m2.pl, m2.lf, m2.ht, m2.dp - 1, m2.cv - 1⟩ := by
    unfold msE
    rw [if_neg (by simp), if_pos hp]
   dsimp only at b1 b2 b3
   rw [if_neg (by omega)] at b3
   rw [e2]
   refine ⟨?_, ?_, ?_⟩
   ·show m2.dp - 1 = m.dp; omega
   ·show m2.cv - 1 = m.cv; omega
   ·show m2.ht = _
    rw [if_neg (fun x => x.2 hp), b3]
  ·have e1 : msE m ⟨true, p, q, t⟩ = ⟨m.pl + 1, m.lf, if m.cv = 0 then max m.ht (m.dp + 1) else m.ht, m.dp + 1, m.cv⟩ := by
    unfold msE
    rw [if_pos rfl, if_neg hp]
   rw [e1]
   obtain ⟨b1, b2, b3⟩ := goesL (kadr t).1 (kadr t).2 t.kids ih 0 ⟨m.pl + 1, m.lf, if m.cv = 0 then max m.ht (m.dp + 1) else m.ht, m.dp + 1, m.cv⟩ h0 (fun e => by
    have e : m.cv = 0 := e
    show m.dp + 1 <= if m.cv = 0 then max m.ht (m.dp + 1) else m.ht
    rw [if_pos e]
    omega)
   unfold kidsA
   generalize msF ⟨m.pl + 1, m.lf, if m.cv = 0 then max m.ht (m.dp + 1) else m.ht, m.dp + 1, m.cv⟩ (evL (kidF (kadr t).1 (kadr t).2 0 t.kids)) = m2 at *
   have e2 : msE m2 ⟨false, p, q, t⟩ = ⟨m2.pl, m2.lf, m2.ht, m2.dp - 1, m2.cv⟩ := by
    unfold msE
    rw [if_neg (by simp), if_neg hp]
   dsimp only at b1 b2 b3
   rw [e2]
   refine ⟨?_, b2, ?_⟩
   ·show m2.dp - 1 = m.dp; omega
   ·show m2.ht = _
    rw [b3]
    have hk : (hgT t : Int) = (hgL t.kids : Int) + 1 := by rw [hgT_eq, if_neg hp]; omega
    by_cases hc : m.cv = 0
    ·rw [if_pos hc, if_pos hc, if_pos ⟨hc, hp⟩, hk]
     omega
    ·rw [if_neg hc, if_neg hc, if_neg (fun x => hc x.1)]
theorem msU_ht (p q : Nat) (t : TV) : (msU (evT p q t)).ht = (hgT t : Int) := by
 obtain ⟨-, -, h⟩ := goes_all t p q ⟨0, 0, 0, 0, 0⟩ (Int.le_refl _)
 have e : msU (evT p q t) = msF ⟨0, 0, 0, 0, 0⟩ (evT p q t) := rfl
 rw [e, h]
 dsimp only
 by_cases hp : t.prod = -1
 ·rw [if_neg (fun x => x.2 hp), hgT_eq, if_pos hp]
  rfl
 ·rw [if_pos ⟨rfl, hp⟩]
  omega
end Go.Proofs.Ytccednepbkjajaa
