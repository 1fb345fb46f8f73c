import Derived.Test.YtfngoffkmlalaabDoorCount
namespace Go.Proofs.YtfngoffkmlalaabDoor
set_option linter.unusedVariables false
open Go.RowKit

theorem rend_eq {w : World} {r : Nat} {ao : Option Addr} {N cap : Nat} {xs : List Int} {pos : Nat} {err : Int} (h : RInv w r ao N cap xs pos err) (a b : Int) (he : endS xs pos err = (a, b)) :
    Calls Tryd.prog 10 #[.pointer (some ⟨r, 0, none⟩)] w fun x w' => x = .returned (.tuple #[.int .i64 a, .int .i64 b]) ∧ ∃ n, w' = w.drewN n := by
  have := rend_any h
  rw [he] at this
  exact this
theorem drewN_below {w w1 : World} {B : Nat} (h : Below B w w1) (n : Nat) : Below B w (w1.drewN n) := below_drewN h n

set_option maxRecDepth 100000 in
set_option maxHeartbeats 800000 in
/-- The count is read. -/
theorem counts_ok (bo : Option Addr) (cb : Nat) (ys : List Int) (least most : Int) (w : World) (hm : Magic w) (hy : ys.length ≤ 140737488351232) (hs : RowAt w bo ys) (hnb : bo = none → cb = 0)
    (hm0 : -9223372036854775808 ≤ most) (hm1 : most ≤ 9223372036854775807) (hl0 : -9223372036854775808 ≤ least) (hl1 : least ≤ 9223372036854775807) (n : Int) (s : Nat) (hc : countS ys 0 least most = (n, (s : Int), 0)) :
    Calls Tryd.prog 4 #[.slice bo ys.length cb, .int .i64 least, .int .i64 most] w fun e w' => e = .returned (.bool true) ∧ Below w.heap.size w w' := by
  obtain ⟨_, f2⟩ := countS_facts ys hs.1 0 (Nat.zero_le _) least most n s 0 hc
  obtain ⟨g0, g1, g2, g3, g4, g5, g6, g7⟩ := f2 rfl
  have HC : Hid _ := hc
  have HY : Hid (ys.length ≤ 140737488355328) := by show _ ≤ _; omega
  have hsy : s ≤ ys.length := by omega
  have hn6 : n ≤ ((ys.length : Int) - s) / least := by simpa using g6
  obtain ⟨a, b, hend, hab⟩ : ∃ a b, endS ys (0 + s) 0 = (a, b) ∧ (a = 0 ∨ a = 12) := by
    rw [endS, if_neg (by simp)]
    by_cases hp : 0 + s < ys.length
    · rw [if_pos hp]; exact ⟨_, _, rfl, .inr rfl⟩
    · rw [if_neg hp]; exact ⟨_, _, rfl, .inl rfl⟩
  have HE : Hid _ := hend
  have hlm := hs.1
  have HQ : Hid (∀ N : Nat, N = ys.length → n ≤ ((N : Int) - s) / least ∧ 0 ≤ ((N : Int) - s) / least ∧ ((N : Int) - s) / least ≤ 140737488355328 ∧ s ≤ N ∧ N ≤ 140737488355328) := by
    intro N hN
    subst hN
    exact ⟨hn6, Int.ediv_nonneg (by omega) (by omega), Int.le_trans (Int.ediv_le_self _ (by omega)) (by omega), hsy, by omega⟩
  clear hc f2 g1 g2 g3 g6 g7 hend hlm hn6 hsy
  rcases hab with rfl | rfl
  · go_enter Tryd.func4, Tryd.ntmps4
    go_wp2_with (first
      | (go_at_call 6; refine (alive_any w hm).mono ?_; rintro e w1 ⟨rfl, hb1⟩; have hs1 := hs.later hb1)
      | (go_at_call 8; refine (newreader_any bo ys.length cb ys w1 rfl HY.out hs1 hnb).mono ?_; rintro e w2 ⟨r, ao2, N2, c2, rfl, hR2, hr2, hb2⟩; have hb2' := hb1.trans (hb2.mono hb1.size); have hrr := Nat.le_trans hb1.size hr2; obtain ⟨q1, q2, q3, q4, q5⟩ := HQ.out N2 hR2.len)
      | (go_at_call 9; refine (count_ok least most hR2 hm0 hm1 hl1 n s HC.out).mono ?_; rintro e w3 ⟨rfl, hR3, hO3⟩; have hb3 := hb2'.trans (hO3.below hrr hb2'.size))
      | (go_at_call 10; refine (rend_eq hR3 0 b HE.out).mono ?_; rintro e w4 ⟨rfl, m4, rfl⟩)
      | (go_at_call 11; refine (num_any _ _).mono ?_; rintro e w' ⟨rfl, rfl⟩)
      | (go_at_call 13; refine (rleft_any (hR3.drewN m4)).mono ?_; rintro e w5 ⟨rfl, m5, rfl⟩))
    go_ret
    exact ⟨by first | rfl | simp, drewN_below hb3 _⟩
  · go_enter Tryd.func4, Tryd.ntmps4
    go_wp2_with (first
      | (go_at_call 6; refine (alive_any w hm).mono ?_; rintro e w1 ⟨rfl, hb1⟩; have hs1 := hs.later hb1)
      | (go_at_call 8; refine (newreader_any bo ys.length cb ys w1 rfl HY.out hs1 hnb).mono ?_; rintro e w2 ⟨r, ao2, N2, c2, rfl, hR2, hr2, hb2⟩; have hb2' := hb1.trans (hb2.mono hb1.size); have hrr := Nat.le_trans hb1.size hr2; obtain ⟨q1, q2, q3, q4, q5⟩ := HQ.out N2 hR2.len)
      | (go_at_call 9; refine (count_ok least most hR2 hm0 hm1 hl1 n s HC.out).mono ?_; rintro e w3 ⟨rfl, hR3, hO3⟩; have hb3 := hb2'.trans (hO3.below hrr hb2'.size))
      | (go_at_call 10; refine (rend_eq hR3 12 b HE.out).mono ?_; rintro e w4 ⟨rfl, m4, rfl⟩)
      | (go_at_call 11; refine (num_any _ _).mono ?_; rintro e w' ⟨rfl, rfl⟩)
      | (go_at_call 13; refine (rleft_any (hR3.drewN m4)).mono ?_; rintro e w5 ⟨rfl, m5, rfl⟩))
    go_ret
    exact ⟨by first | rfl | simp, drewN_below hb3 _⟩

set_option maxRecDepth 100000 in
set_option maxHeartbeats 800000 in
/-- The count is refused. -/
theorem counts_err (bo : Option Addr) (cb : Nat) (ys : List Int) (least most : Int) (w : World) (hm : Magic w) (hy : ys.length ≤ 140737488351232) (hs : RowAt w bo ys) (hnb : bo = none → cb = 0)
    (hm0 : -9223372036854775808 ≤ most) (hm1 : most ≤ 9223372036854775807) (hl0 : -9223372036854775808 ≤ least) (hl1 : least ≤ 9223372036854775807) (e0 : Int) (he : e0 ≠ 0) (he12 : e0 ≠ 12) (hc : countS ys 0 least most = (0, 0, e0)) :
    Calls Tryd.prog 4 #[.slice bo ys.length cb, .int .i64 least, .int .i64 most] w fun e w' => e = .returned (.bool true) ∧ Below w.heap.size w w' := by
  have HC : Hid _ := hc
  have HY : Hid (ys.length ≤ 140737488355328) := by show _ ≤ _; omega
  have HE : Hid (endS ys 0 e0 = (e0, 0)) := by show _ = _; rw [endS, if_pos he]; rfl
  have hb0 : (e0 != 0) = true := by simpa using he
  have hb12 : (e0 != 12) = true := by simpa using he12
  clear hc he he12
  go_enter Tryd.func4, Tryd.ntmps4
  go_wp2_with (first
    | (go_at_call 6; refine (alive_any w hm).mono ?_; rintro e w1 ⟨rfl, hb1⟩; have hs1 := hs.later hb1)
    | (go_at_call 8; refine (newreader_any bo ys.length cb ys w1 rfl HY.out hs1 hnb).mono ?_; rintro e w2 ⟨r, ao2, N2, c2, rfl, hR2, hr2, hb2⟩; have hb2' := hb1.trans (hb2.mono hb1.size); have hrr := Nat.le_trans hb1.size hr2)
    | (go_at_call 9; refine (count_err least most hR2 hm0 hm1 hl1 e0 HC.out).mono ?_; rintro e w3 ⟨rfl, hR3, hO3⟩; have hb3 := hb2'.trans (hO3.below hrr hb2'.size))
    | (go_at_call 10; refine (rend_eq hR3 e0 0 HE.out).mono ?_; rintro e w4 ⟨rfl, m4, rfl⟩)
    | (go_at_call 11; refine (num_any _ _).mono ?_; rintro e w' ⟨rfl, rfl⟩)
    | (go_at_call 12; refine (rat_any (hR3.drewN m4)).mono ?_; rintro e w5 ⟨rfl, rfl⟩))
  go_ret
  exact ⟨rfl, drewN_below hb3 _⟩

theorem countS_codes (xs : List Int) (hb : isBytes xs) (least most n s e : Int) (h : countS xs 0 least most = (n, s, e)) : e ≠ 12 := by
  rw [countS] at h
  by_cases hbad : least < 1 ∨ most < 0
  · rw [if_pos hbad] at h; simp at h; omega
  · rw [if_neg hbad] at h
    obtain ⟨n1, s1, e1, hp⟩ : ∃ n s e, parse (xs.drop 0) = (n, s, e) := ⟨_, _, _, rfl⟩
    obtain ⟨hf, _⟩ := parse_facts (xs.drop 0) (isBytes_drop hb 0) n1 s1 e1 hp
    have hpk : (peekS xs 0 most).2.2 ≠ 12 := by
      rw [peekS, hp]
      by_cases q1 : e1 = 0
      · subst q1
        rw [if_neg (by simp)]
        by_cases q2 : most < n1
        · rw [if_pos q2]; simp
        · rw [if_neg q2]; simp
      · rw [if_pos q1]
        show e1 ≠ 12
        omega
    by_cases h1 : (peekS xs 0 most).2.2 ≠ 0
    · rw [if_pos h1] at h
      simp only [Prod.mk.injEq] at h
      rw [← h.2.2]; exact hpk
    · rw [if_neg h1] at h
      by_cases h2 : ((xs.length : Int) - (0 : Nat) - (peekS xs 0 most).2.1) / least < (peekS xs 0 most).1
      · rw [if_pos h2] at h; simp at h; omega
      · rw [if_neg h2] at h; simp at h; omega

theorem counts_walk (bo : Option Addr) (cb : Nat) (ys : List Int) (least most : Int) (w : World) (hm : Magic w) (hy : ys.length ≤ 140737488351232) (hs : RowAt w bo ys) (hnb : bo = none → cb = 0)
    (hm0 : -9223372036854775808 ≤ most) (hm1 : most ≤ 9223372036854775807) (hl0 : -9223372036854775808 ≤ least) (hl1 : least ≤ 9223372036854775807) :
    Calls Tryd.prog 4 #[.slice bo ys.length cb, .int .i64 least, .int .i64 most] w fun e w' => e = .returned (.bool true) ∧ Below w.heap.size w w' := by
  obtain ⟨n, s, e, hc⟩ : ∃ n s e, countS ys 0 least most = (n, s, e) := ⟨_, _, _, rfl⟩
  obtain ⟨f1, f2⟩ := countS_facts ys hs.1 0 (Nat.zero_le _) least most n s e hc
  by_cases he : e = 0
  · subst he
    have := f2 rfl
    obtain ⟨s', rfl⟩ := Int.eq_ofNat_of_zero_le (show 0 ≤ s by omega)
    exact counts_ok bo cb ys least most w hm hy hs hnb hm0 hm1 hl0 hl1 n s' hc
  · obtain ⟨rfl, rfl⟩ := f1 he
    exact counts_err bo cb ys least most w hm hy hs hnb hm0 hm1 hl0 hl1 e he (countS_codes ys hs.1 least most 0 0 e hc) hc
end Go.Proofs.YtfngoffkmlalaabDoor
