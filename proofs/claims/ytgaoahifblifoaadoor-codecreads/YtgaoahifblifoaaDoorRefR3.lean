import Derived.Test.YtgaoahifblifoaaDoorRefR2
namespace Go.Proofs.YtgaoahifblifoaaDoor
set_option linter.unusedVariables false
open Go.RowKit

section
variable {w : World} {q : Nat} {ao : Option Addr} {cap : Nat} {xs : List Int} {pos : Nat} {err : Int}
set_option maxRecDepth 100000 in
theorem qcount_args (least most : Int) (h : QInv w q ao cap xs pos err) (hm : least < 1 ∨ most < 0) (err' : Int) (hx : err' = if err = 0 then 1 else err) :
    Calls Tryd.prog 70 #[.pointer (some ⟨q, 0, none⟩), .int .i64 least, .int .i64 most] w (QEnds q ao cap xs (.int .i64 0) pos err' w) := by
  have HX : Hid (err' = if err = 0 then 1 else err) := hx
  clear hx
  by_cases z : least < 1
  · clear hm
    go_enter Tryd.func70, Tryd.ntmps70
    go_wp2_with (go_at_call 85; refine (qfail h 1 (by decide) err' HX.out).mono ?_; rintro x w2 ⟨rfl, hq2, ho2⟩)
    go_ret
    exact ⟨rfl, hq2, ho2⟩
  · have z2 : most < 0 := hm.resolve_left z
    clear hm
    go_enter Tryd.func70, Tryd.ntmps70
    go_wp2_with (go_at_call 85; refine (qfail h 1 (by decide) err' HX.out).mono ?_; rintro x w2 ⟨rfl, hq2, ho2⟩)
    go_ret
    exact ⟨rfl, hq2, ho2⟩
set_option maxRecDepth 100000 in
set_option maxHeartbeats 1000000 in
theorem qcount (least most : Int) (h : QInv w q ao cap xs pos 0) (hl0 : 1 ≤ least) (hl1 : least ≤ 9223372036854775807) (hm0 : 0 ≤ most) (hm1 : most ≤ 9223372036854775807) (n s e : Int) (hc : countS xs pos least most = (n, s, e)) :
    Calls Tryd.prog 70 #[.pointer (some ⟨q, 0, none⟩), .int .i64 least, .int .i64 most] w (QEnds q ao cap xs (.int .i64 n) (pos + s.toNat) e w) := by
  rw [countS, if_neg (by omega)] at hc
  obtain ⟨a, b, c, hk⟩ : ∃ a b c, peekS xs pos most = (a, b, c) := ⟨_, _, _, rfl⟩
  have hf := peekS_facts xs h.row.1 pos h.pos_ most a b c hk
  have ht : takeS xs pos 0 most = if c ≠ 0 then (0, pos, c) else (a, pos + b.toNat, 0) := by rw [takeS, if_neg (by simp), hk]
  rw [hk] at hc
  simp only at hc
  have hlim := h.lim
  have hpos := h.pos_
  by_cases z : c = 0
  · subst z
    rw [if_neg (by simp)] at hc ht
    obtain ⟨g1, g2, g3, g4, g5, g6, g7⟩ := hf.2 rfl
    obtain ⟨b, rfl⟩ := Int.eq_ofNat_of_zero_le (show 0 ≤ b by omega)
    have HT : Hid _ := ht
    rw [show (xs.length : Int) - pos - b = xs.length - (pos + b) by omega] at hc
    have hq0 : 0 ≤ ((xs.length : Int) - (pos + b)) / least := Int.ediv_nonneg (by omega) (by omega)
    have hq1 : ((xs.length : Int) - (pos + b)) / least ≤ 140737488355328 := Int.le_trans (Int.ediv_le_self _ (by omega)) (by omega)
    clear hf g7 ht hk
    by_cases y : ((xs.length : Int) - (pos + b)) / least < a
    · rw [if_pos y] at hc; simp at hc; obtain ⟨rfl, rfl, rfl⟩ := hc
      have HNE : Hid ((11 : Int) ≠ 0) := by show _ ≠ _; decide
      go_enter Tryd.func70, Tryd.ntmps70
      go_wp2_with (first
        | (go_at_call 84; refine (qnumber0 most h a (pos + b) 0 HT.out).mono ?_; rintro x w2 ⟨rfl, hq2, ho2⟩; have k0 := hq2.c0; have k1 := hq2.c1; have k2 := hq2.c2; have f1 := hq2.free 1)
        | (go_at_call 85; refine (qfail_ok hq2 11 HNE.out).mono ?_; rintro x w3 ⟨rfl, hq3, ho3⟩))
      go_ret
      exact ⟨rfl, by simpa using hq3, ho2.trans ho3⟩
    · rw [if_neg y] at hc; simp at hc; obtain ⟨rfl, rfl, rfl⟩ := hc
      go_enter Tryd.func70, Tryd.ntmps70
      go_wp2_with (go_at_call 84; refine (qnumber0 most h a (pos + b) 0 HT.out).mono ?_; rintro x w2 ⟨rfl, hq2, ho2⟩; have k0 := hq2.c0; have k1 := hq2.c1; have k2 := hq2.c2; have f1 := hq2.free 1)
      go_ret
      exact ⟨rfl, hq2.moved (pos + b) (by omega) (fun q => absurd rfl q), ho2.trans (ROnly.set _ _ _ _)⟩
  · rw [if_pos z] at hc ht
    simp at hc
    obtain ⟨rfl, rfl, rfl⟩ := hc
    have HT : Hid _ := ht
    have zb : (c != 0) = true := by simpa using z
    clear ht hf hk
    go_enter Tryd.func70, Tryd.ntmps70
    go_wp2_with (go_at_call 84; refine (qnumber0 most h 0 pos c HT.out).mono ?_; rintro x w2 ⟨rfl, hq2, ho2⟩; have k2 := hq2.c2)
    go_ret
    exact ⟨rfl, by simpa using hq2, ho2⟩
set_option maxRecDepth 100000 in
theorem qcount_no (least most : Int) (h : QInv w q ao cap xs pos err) (he : err ≠ 0) (hl0 : 1 ≤ least) (hm0 : 0 ≤ most) (hm1 : most ≤ 9223372036854775807) :
    Calls Tryd.prog 70 #[.pointer (some ⟨q, 0, none⟩), .int .i64 least, .int .i64 most] w (QEnds q ao cap xs (.int .i64 0) pos err w) := by
  have HT : Hid (takeS xs pos err most = (0, pos, err)) := by show _ = _; rw [takeS, if_pos he]
  have zb : (err != 0) = true := by simpa using he
  clear he
  go_enter Tryd.func70, Tryd.ntmps70
  go_wp2_with (go_at_call 84; refine (qnumber0 most h 0 pos err HT.out).mono ?_; rintro x w2 ⟨rfl, hq2, ho2⟩; have k2 := hq2.c2)
  go_ret
  exact ⟨rfl, hq2, ho2⟩
set_option maxRecDepth 100000 in
theorem qtext_no (most : Int) (h : QInv w q ao cap xs pos err) (he : err ≠ 0) (hm0 : 0 ≤ most) (hm1 : most ≤ 9223372036854775807) :
    Calls Tryd.prog 68 #[.pointer (some ⟨q, 0, none⟩), .int .i64 most] w (QEnds q ao cap xs (.string .empty) pos err w) := by
  have HT : Hid (takeS xs pos err most = (0, pos, err)) := by show _ = _; rw [takeS, if_pos he]
  have zb : (err != 0) = true := by simpa using he
  clear he
  go_enter Tryd.func68, Tryd.ntmps68
  go_wp2_with (go_at_call 84; refine (qnumber0 most h 0 pos err HT.out).mono ?_; rintro x w2 ⟨rfl, hq2, ho2⟩; have k2 := hq2.c2)
  go_ret
  exact ⟨rfl, hq2, ho2⟩
set_option maxRecDepth 100000 in
theorem qtext_neg (most : Int) (h : QInv w q ao cap xs pos err) (hm : most < 0) (err' : Int) (hx : err' = if err = 0 then 1 else err) :
    Calls Tryd.prog 68 #[.pointer (some ⟨q, 0, none⟩), .int .i64 most] w (QEnds q ao cap xs (.string .empty) pos err' w) := by
  have HX : Hid (err' = if err = 0 then 1 else err) := hx
  clear hx
  go_enter Tryd.func68, Tryd.ntmps68
  go_wp2_with (go_at_call 85; refine (qfail h 1 (by decide) err' HX.out).mono ?_; rintro x w2 ⟨rfl, hq2, ho2⟩)
  go_ret
  exact ⟨rfl, hq2, ho2⟩
end
end Go.Proofs.YtgaoahifblifoaaDoor
