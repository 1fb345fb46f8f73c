import Derived.Test.YtfckmbdcfeljiaaDoorPuts
namespace Go.Proofs.YtfckmbdcfeljiaaDoor
set_option linter.unusedVariables false
open Go.RowKit

theorem putS_good (xs : List Int) (er : Int) (p : PutV) (h : ¬ (p.what = 1 ∧ p.N < 0)) : putS (xs, er) p = (if er = 0 then xs ++ item p else xs, er) := by
  unfold putS
  by_cases h1 : er = 0
  · subst h1; rw [if_neg (by simp), if_neg h, if_pos rfl]
  · rw [if_pos h1, if_neg h1]
theorem putS_bad (xs : List Int) (er : Int) (p : PutV) (h : p.what = 1 ∧ p.N < 0) : putS (xs, er) p = (xs, if er = 0 then 4 else er) := by
  unfold putS
  by_cases h1 : er = 0
  · subst h1; rw [if_neg (by simp), if_pos h, if_pos rfl]
  · rw [if_pos h1, if_neg h1]
theorem newwriter_at (w : World) : Calls Tryd.prog 5 #[] w fun e w' => ∃ p q, e = .returned (.pointer (some ⟨p, 0, none⟩)) ∧ WInv w' p q (.slice none 0 0) [] 0 ∧ w.heap.size ≤ q ∧ Below w.heap.size w w' :=
  (newwriter_any w).mono fun e w' ⟨h1, h2⟩ => ⟨_, _, h1, by rw [h2]; exact winv_new w, Nat.le_refl _, by rw [h2]; exact below_two w _ _⟩
/-- Bytes of a writer with an error. -/
theorem wbytes_err {w : World} {p q : Nat} {v : Value} {xs : List Int} {err : Int} (h : WInv w p q v xs err) (he : err ≠ 0) :
    Calls Tryd.prog 7 #[.pointer (some ⟨p, 0, none⟩)] w fun e w' => e = .returned (.tuple #[.slice none 0 0, .int .i64 err]) ∧ ∃ n, w' = w.drewN n := by
  have hp := h.cellp
  have hq1 := h.cell1
  have hb : (err != 0) = true := by simpa using he
  clear he
  go_enter Tryd.func7, Tryd.ntmps7
  go_wp2_with (go_at_call 26; refine (made_any h).mono ?_; rintro e w' ⟨rfl, rfl⟩)
  go_quiet (fail)
  go_wp2
  go_ret2
  exact ⟨rfl, _, rfl⟩
theorem takeS_enc (zs : List Int) (pos : Nat) (most n : Int) (t : List Int) (h : zs.drop pos = enc 10 n ++ t) (h0 : 0 ≤ n) (h1 : n < 18446744073709551616) (h2 : n ≤ most) : takeS zs pos 0 most = (n, pos + (enc 10 n).length, 0) := by
  have hp := parse_enc n t h0 h1
  have hk : peekS zs pos most = (n, ((enc 10 n).length : Int), 0) := by
    rw [peekS, h, hp, if_neg (by simp), if_neg (by simpa using h2)]
  rw [takeS, if_neg (by simp), hk, if_neg (by simp)]
  simp
theorem countS_enc (zs : List Int) (pos n : Nat) (most : Int) (u t : List Int) (h : zs.drop pos = enc 10 (n : Int) ++ (u ++ t)) (hu : u.length = n) (h1 : (n : Int) < 18446744073709551616) (h2 : (n : Int) ≤ most) : countS zs pos 1 most = ((n : Int), ((enc 10 (n : Int)).length : Int), 0) := by
  have hp := parse_enc n (u ++ t) (by omega) h1
  have hk : peekS zs pos most = ((n : Int), ((enc 10 (n : Int)).length : Int), 0) := by
    rw [peekS, h, hp, if_neg (by simp), if_neg (by simpa using h2)]
  have hl : zs.length - pos = (enc 10 (n : Int)).length + (n + t.length) := by
    have := congrArg List.length h
    simp [hu] at this
    omega
  have hne := enc_ne (n : Int)
  have hpos : 0 < (enc 10 (n : Int)).length := List.length_pos_iff.2 hne
  rw [countS, if_neg (by omega), hk, if_neg (by simp), if_neg]
  simp
  omega
theorem drop_pre (xs ys : List Int) : (xs ++ ys).drop xs.length = ys := List.drop_left
end Go.Proofs.YtfckmbdcfeljiaaDoor
