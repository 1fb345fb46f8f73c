import Derived.Test.YtgaoahifblifoaaDoorRefR
import Derived.Test.YtgaoahifblifoaaDoorRText
namespace Go.Proofs.YtgaoahifblifoaaDoor
set_option linter.unusedVariables false
open Go.RowKit

/-- The greatest bound against a smaller one. -/
theorem takeS_cut (xs : List Int) (hb : isBytes xs) (pos : Nat) (hpos : pos ≤ xs.length) (err m n1 e1 : Int) (p1 : Nat) (hm : m ≤ 18446744073709551615) (h : takeS xs pos err 18446744073709551615 = (n1, p1, e1)) :
    (e1 ≠ 0 → takeS xs pos err m = (0, pos, e1)) ∧ (e1 = 0 → 0 ≤ n1 ∧ n1 ≤ 18446744073709551615 ∧ takeS xs pos err m = if m < n1 then (0, pos, 4) else (n1, p1, 0)) := by
  unfold takeS at h ⊢
  by_cases he : err ≠ 0
  · rw [if_pos he] at h ⊢
    simp at h
    obtain ⟨rfl, rfl, rfl⟩ := h
    exact ⟨fun _ => rfl, fun z => absurd z he⟩
  · rw [if_neg he] at h ⊢
    obtain ⟨a, b, c, hk⟩ : ∃ a b c, parse (xs.drop pos) = (a, b, c) := ⟨_, _, _, rfl⟩
    obtain ⟨hc, hf⟩ := parse_facts (xs.drop pos) (isBytes_drop hb pos) a b c hk
    unfold peekS at h ⊢
    rw [hk] at h ⊢
    simp only at h ⊢
    by_cases z : c = 0
    · subst z
      obtain ⟨_, _, _, f1, f2⟩ := hf rfl
      have g : ¬ (18446744073709551615 : Int) < a := by omega
      simp [g] at h
      obtain ⟨rfl, rfl, rfl⟩ := h
      refine ⟨fun q => absurd rfl q, fun _ => ⟨f1, by omega, ?_⟩⟩
      by_cases k : m < a <;> simp [k]
    · simp [z] at h
      obtain ⟨rfl, rfl, rfl⟩ := h
      exact ⟨fun _ => by simp [z], fun q => absurd q z⟩

section
variable {w : World} {q : Nat} {ao : Option Addr} {cap : Nat} {xs : List Int} {pos : Nat} {err : Int}
set_option maxRecDepth 100000 in
set_option maxHeartbeats 1000000 in
theorem qsigned (most : Int) (h : QInv w q ao cap xs pos err) (hm : 0 ≤ most) (hm1 : most ≤ 9223372036854775807) (n : Int) (p : Nat) (e : Int) (ht : takeS xs pos err (foldS most) = (n, p, e)) :
    Calls Tryd.prog 65 #[.pointer (some ⟨q, 0, none⟩), .int .i64 most] w (QEnds q ao cap xs (.int .i64 (unfoldS n)) p e w) := by
  have hfm : foldS most = 2 * most := by simp [foldS]; omega
  rw [hfm] at ht
  obtain ⟨n1, p1, e1, h1⟩ : ∃ a b c, takeS xs pos err 18446744073709551615 = (a, b, c) := ⟨_, _, _, rfl⟩
  obtain ⟨u1, u2⟩ := takeS_cut xs h.row.1 pos h.pos_ err (2 * most) n1 e1 p1 (by omega) h1
  obtain ⟨tp1, tp2⟩ := takeS_pos xs h.row.1 pos h.pos_ err _ n1 e1 p1 h1
  have HT : Hid _ := h1
  clear h1 hfm
  by_cases z : e1 = 0
  · subst z
    obtain ⟨g0, g1, g2⟩ := u2 rfl
    rw [g2] at ht
    clear u1 u2 g2
    by_cases k : 2 * most < n1
    · rw [if_pos k] at ht; simp at ht; obtain ⟨rfl, rfl, rfl⟩ := ht
      have HNE : Hid ((4 : Int) ≠ 0) := by show _ ≠ _; decide
      go_enter Tryd.func65, Tryd.ntmps65
      go_wp2_with (first
        | (go_at_call 84; refine (qnumber0 18446744073709551615 h n1 p1 0 HT.out).mono ?_; rintro x w2 ⟨rfl, hq2, ho2⟩; have k2 := hq2.c2)
        | (go_at_call 85; refine (qfail_ok hq2 4 HNE.out).mono ?_; rintro x w3 ⟨rfl, hq3, ho3⟩))
      go_ret
      exact ⟨rfl, hq3, ho2.trans ho3⟩
    · rw [if_neg k] at ht; simp at ht; obtain ⟨rfl, rfl, rfl⟩ := ht
      by_cases par : n1 % 2 = 1
      · have pb : (n1 % 2 == 1) = true := by simp [par]
        have HU : Hid (unfoldS n1 = -(n1 / 2) - 1) := by show _ = _; simp [unfoldS, par]
        go_enter Tryd.func65, Tryd.ntmps65
        go_wp2_with (go_at_call 84; refine (qnumber0 18446744073709551615 h n1 p1 0 HT.out).mono ?_; rintro x w2 ⟨rfl, hq2, ho2⟩; have k2 := hq2.c2; have k1 := hq2.c1; have f1 := hq2.free 1)
        go_ret
        exact ⟨by rw [HU.out]; rfl, hq2.moved p1 tp1 (fun q => absurd rfl q), ho2.trans (ROnly.set _ _ _ _)⟩
      · have pb : (n1 % 2 == 1) = false := by simp [par]
        have HU : Hid (unfoldS n1 = n1 / 2) := by show _ = _; simp [unfoldS, par]
        go_enter Tryd.func65, Tryd.ntmps65
        go_wp2_with (go_at_call 84; refine (qnumber0 18446744073709551615 h n1 p1 0 HT.out).mono ?_; rintro x w2 ⟨rfl, hq2, ho2⟩; have k2 := hq2.c2; have k1 := hq2.c1; have f1 := hq2.free 1)
        go_ret
        exact ⟨by rw [HU.out]; rfl, hq2.moved p1 tp1 (fun q => absurd rfl q), ho2.trans (ROnly.set _ _ _ _)⟩
  · rw [u1 z] at ht; simp at ht; obtain ⟨rfl, rfl, rfl⟩ := ht
    have zb : (e1 != 0) = true := by simpa using z
    go_enter Tryd.func65, Tryd.ntmps65
    go_wp2_with (go_at_call 84; refine (qnumber0 18446744073709551615 h n1 p1 e1 HT.out).mono ?_; rintro x w2 ⟨rfl, hq2, ho2⟩; have k2 := hq2.c2)
    go_ret
    exact ⟨rfl, hq2, ho2⟩
end
end Go.Proofs.YtgaoahifblifoaaDoor
