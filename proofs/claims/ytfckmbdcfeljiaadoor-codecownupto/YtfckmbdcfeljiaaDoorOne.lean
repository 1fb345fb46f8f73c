import Derived.Test.YtfckmbdcfeljiaaDoorTake
namespace Go.Proofs.YtfckmbdcfeljiaaDoor
set_option linter.unusedVariables false
open Go.RowKit

theorem takeS_err {xs : List Int} (hb : isBytes xs) {pos : Nat} (hpos : pos ≤ xs.length) {most n : Int} {p : Nat} {e : Int} (h : takeS xs pos 0 most = (n, p, e)) (he : e ≠ 0) : n = 0 ∧ pos = p ∧ e ≠ 12 := by
  rw [takeS, if_neg (by simp)] at h
  by_cases h1 : (peekS xs pos most).2.2 ≠ 0
  · rw [if_pos h1] at h
    simp only [Prod.mk.injEq] at h
    obtain ⟨rfl, rfl, rfl⟩ := h
    refine ⟨rfl, rfl, ?_⟩
    obtain ⟨n1, s1, e1, hp⟩ : ∃ n s e, parse (xs.drop pos) = (n, s, e) := ⟨_, _, _, rfl⟩
    obtain ⟨hf, _⟩ := parse_facts (xs.drop pos) (isBytes_drop hb pos) n1 s1 e1 hp
    rw [peekS, hp]
    by_cases q1 : e1 = 0
    · subst q1
      rw [if_neg (by simp)]
      by_cases q2 : most < n1
      · rw [if_pos q2]; simp
      · rw [if_neg q2]; simp
    · rw [if_pos q1]
      show e1 ≠ 12
      omega
  · rw [if_neg h1] at h
    simp only [Prod.mk.injEq] at h
    exact absurd h.2.2.symm he
/-- A number that is read: its bytes are its one form. -/
theorem takeS_ok {xs : List Int} (hb : isBytes xs) {pos : Nat} (hpos : pos ≤ xs.length) {most n : Int} {p : Nat} (h : takeS xs pos 0 most = (n, p, 0)) : 0 ≤ n ∧ n ≤ most ∧ n ≤ 18446744073709551615 ∧ pos < p ∧ p ≤ xs.length ∧ xs.take p = xs.take pos ++ enc 10 n := by
  rw [takeS, if_neg (by simp)] at h
  obtain ⟨n1, s1, e1, hp⟩ : ∃ n s e, peekS xs pos most = (n, s, e) := ⟨_, _, _, rfl⟩
  obtain ⟨_, f2⟩ := peekS_facts xs hb pos hpos most n1 s1 e1 hp
  rw [hp] at h
  by_cases h1 : e1 = 0
  · subst h1
    rw [if_neg (by simp)] at h
    simp only [Prod.mk.injEq, and_true] at h
    obtain ⟨rfl, rfl⟩ := h
    obtain ⟨g1, g2, g3, g4, g5, g6, g7⟩ := f2 rfl
    obtain ⟨_, _, r, hr, hs⟩ := parse_back (xs.drop pos) (isBytes_drop hb pos) n1 s1 g7
    refine ⟨g4, g5, by omega, by omega, by omega, ?_⟩
    have e : s1.toNat = (enc 10 n1).length := by omega
    rw [e, List.take_add, hr, List.take_left]
  · rw [if_pos h1] at h
    simp only [Prod.mk.injEq] at h
    exact absurd h.2.2 h1

theorem WInv.drewN {w : World} {p q : Nat} {v : Value} {xs : List Int} {err : Int} (h : WInv w p q v xs err) (n : Nat) : WInv (w.drewN n) p q v xs err := h.still fun _ => rfl
theorem rend_eq {w : World} {r : Nat} {ao : Option Addr} {N cap : Nat} {xs : List Int} {pos : Nat} {err : Int} (h : RInv w r ao N cap xs pos err) (a b : Int) (he : endS xs pos err = (a, b)) :
    Calls Tryd.prog 57 #[.pointer (some ⟨r, 0, none⟩)] w fun x w' => x = .returned (.tuple #[.int .i64 a, .int .i64 b]) ∧ ∃ n, w' = w.drewN n := by
  have := rend_any h
  rw [he] at this
  exact this
theorem drewN_below {w w1 : World} {B : Nat} (h : Below B w w1) (n : Nat) : Below B w (w1.drewN n) := below_drewN h n
theorem wgrew_own {w w' : World} {q B : Nat} {v v' : Value} (h : WGrew w w' q v v') (hv : ∀ k, v.ownBlock = some k → B ≤ k) (hB : B ≤ w.heap.size) : ∀ k, v'.ownBlock = some k → B ≤ k := by
  intro k hk
  rcases h.moved with e | ⟨k', e, hk'⟩
  · exact hv k (e ▸ hk)
  · rw [hk] at e; have := Option.some.inj e; omega

end Go.Proofs.YtfckmbdcfeljiaaDoor
