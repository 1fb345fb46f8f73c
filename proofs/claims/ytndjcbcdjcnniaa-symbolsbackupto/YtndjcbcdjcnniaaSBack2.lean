import Derived.Test.YtndjcbcdjcnniaaSBack
namespace Go.Proofs.Ytndjcbcdjcnniaa
set_option linter.unusedVariables false
open Go.RowKit Go.Maps

set_option maxRecDepth 100000 in
set_option maxHeartbeats 8000000 in
theorem back_all (a0 a1 a2 : Option Addr) (c0 c1 c2 : Nat) (ts ns : List ByteArray) (l : List (Int × Int)) (n : Int) (w : World) (h : BIn a0 a1 a2 ts ns l w) (at_ : Int) (hc : Hid (checkF ts ns = (0, at_))) (hn : -9223372036854775808 ≤ n) (hn' : n ≤ 9223372036854775807) (hall : Hid (∀ q ∈ l, okN ts ns q = true)) :
    Calls Try.prog 5 #[.slice a0 ts.length c0, .slice a1 ns.length c1, .slice a2 l.length c2, .int .i64 n] w fun e w' => e = .returned (.bool true) ∧ Below w.heap.size w w' := by
  obtain ⟨hF', l1, l2⟩ := check_ok hc.out
  have hF : Hid (Fine ts ns) := hF'
  clear hF'
  have HS : Hid _ := sparse_cases l1 l2 n
  have ll := h.l3
  go_enter Try.func5, Try.ntmps5
  go_wp2_with (first
    | (go_at_call 13; refine (works_any _).mono ?_; rintro e w1 ⟨rfl, hb1⟩; have h1 := h.later hb1)
    | (go_at_call 8; refine (cnb_at a0 a1 c0 c1 ts ns _ 0 at_ hc.out h1.z1 h1.z2 h1.r1 h1.r2).mono ?_; rintro e w2 ⟨rfl, hb2⟩; have B2 := hb1.trans (hb2.mono hb1.size); have h2 := h1.later hb2; clear hb2 h1)
    | (go_at_call 14; refine (spell_all a0 a1 a2 c0 c1 c2 ts ns l _ l1 l2 hF.out h2.r1 h2.r2 h2.r3 ll hall.out).mono ?_; rintro e w3 ⟨rfl, hb3⟩; have B3 := B2.trans (hb3.mono B2.size); have h3 := h2.later hb3; clear hb3 h2 B2)
    | (go_at_call 17; refine (read_spelled a0 a1 c0 c1 ts ns l _ l1 l2 hF.out h3.r1 h3.r2 ll hall.out).mono ?_; rintro e w4 ⟨xa, xc, rfl, hS4, hb4⟩; have B4 := (B3.trans (hb4.mono B3.size)); have h4 := h3.later hb4; clear hb4 h3 B3)
    | (go_at_call 19; refine (samesyms_eq xa a2 xc c2 l _ (by omega) hS4.row h4.r3).mono ?_; rintro e w5 ⟨rfl, hb5⟩; have B5' := B4.trans (hb5.mono B4.size); have h5' := h4.later hb5; have B5 : Hid _ := B5'; have h5 : Hid _ := h5'; clear hb5 h4 B4 hS4 B5' h5'))
  go_loopw [15] (fun i wr => ∃ k : Nat, k ≤ l.length ∧ i = .int .i64 k ∧ Below w5.heap.size w5 wr) (fun i _ => l.length - (intOf i).toNat)
  case atStart => exact ⟨0, Nat.zero_le _, rfl, Below.refl _ _⟩
  case round =>
    obtain ⟨k, hk, rfl, hB⟩ := hrel
    by_cases hlt : k < l.length
    · obtain ⟨b, off, rfl, hbl, hcc⟩ := (h5.out.later hB).r3 (by intro e; subst e; simp at hlt)
      obtain ⟨d0, d1⟩ := hcc k hlt
      have hmem : l.getD k (0, 0) ∈ l := by simp [List.getD, hlt]
      obtain ⟨d, hd', hs', dl, dh, nl, nh⟩ := dense_ok (k := (l.getD k (0, 0)).1) (n := (l.getD k (0, 0)).2) l1 l2 (hall.out _ hmem)
      have hd : Hid _ := hd'
      have hs : Hid _ := hs'
      clear hcc hd' hs' hmem
      generalize l.getD k (0, 0) = q at *
      obtain ⟨q1, q2⟩ := q
      simp only at d0 d1 nl nh
      have e1 : (q1 == q1) = true := by simp
      have e2 : (q2 == q2) = true := by simp
      have AF : Hid (∀ w6 w7, Below wr.heap.size wr w6 → Below w6.heap.size w6 w7 → (w7.alloc (.cells #[.int .i64 q1, .int .i64 q2] 61)).cell? ⟨b, off + k * 2, none⟩ = some (.int .i64 q1) ∧ (w7.alloc (.cells #[.int .i64 q1, .int .i64 q2] 61)).cell? ⟨b, off + k * 2 + 1, none⟩ = some (.int .i64 q2) ∧ b < w7.heap.size ∧ Below w5.heap.size w5 (w7.alloc (.cells #[.int .i64 q1, .int .i64 q2] 61))) := fun w6 w7 p1 p2 => by
        have p3 : Below wr.heap.size wr (w7.alloc (.cells #[.int .i64 q1, .int .i64 q2] 61)) := (p1.trans (p2.mono p1.size)).alloc (Nat.le_trans p1.size p2.size) _
        exact ⟨(p3.cell (p := ⟨b, off + k * 2, none⟩) hbl).trans d0, (p3.cell (p := ⟨b, off + k * 2 + 1, none⟩) hbl).trans d1, Nat.lt_of_lt_of_le hbl (Nat.le_trans p1.size p2.size), hB.trans (p3.mono hB.size)⟩
      go_wp2_with (first
        | (go_at_call 20; refine (dense_at _ (by omega) (by omega) hd.out).mono ?_; rintro e w6 ⟨rfl, hb6⟩)
        | (go_at_call 21; refine (sparse_at _ (by omega) (by omega) hs.out).mono ?_; rintro e w7 ⟨rfl, hb7⟩; obtain ⟨f0, f1, f2, f3'⟩ := AF.out w6 w7 hb6 hb7; have f3 : Hid _ := f3'; clear f3'))
      go_quiet (fail)
      go_wp2
      go_roundw
      case rel => exact ⟨k + 1, by omega, by go_num, below_drewN f3.out _⟩
      case measure => simp [intOf]; omega
    · have BB : Below w.heap.size w wr := B5.out.trans (hB.mono B5.out.size)
      rcases HS.out with ⟨s1, hs'⟩ | ⟨s1, s2, hs'⟩ | ⟨kk, ii, hs', hd', hi0, hi1⟩
      all_goals
        have hs : Hid _ := hs'
        clear hs' HS
      case' inr.inr =>
        have hd : Hid _ := hd'
        have e1 : (n == n) = true := by simp
        clear hd'
      all_goals
        go_wp2_with (first
          | (go_at_call 21; refine (sparse_at _ hn hn' hs.out).mono ?_; rintro e w8 ⟨rfl, hb8⟩; have B8 := (BB.trans (hb8.mono BB.size)); clear hb8)
          | (go_at_call 20; refine (dense_at _ (by omega) (by omega) hd.out).mono ?_; rintro e w9 ⟨rfl, hb9⟩))
        go_ret
        first
          | exact ⟨rfl, B8.trans ((below_alloc w8 _).mono B8.size)⟩
          | exact ⟨rfl, (B8.trans ((below_alloc w8 _).mono B8.size)).trans (hb9.mono (by have := B8.size; simp; omega))⟩
theorem back_walk (a0 a1 a2 : Option Addr) (c0 c1 c2 N1 N2 N3 : Nat) (ts ns : List ByteArray) (l : List (Int × Int)) (n : Int) (w : World) (e1 : N1 = ts.length) (e2 : N2 = ns.length) (e3 : N3 = l.length) (h : BIn a0 a1 a2 ts ns l w) (hn : -9223372036854775808 ≤ n ∧ n ≤ 9223372036854775807) :
    Calls Try.prog 5 #[.slice a0 N1 c0, .slice a1 N2 c1, .slice a2 N3 c2, .int .i64 n] w fun e w' => e = .returned (.bool true) ∧ Below w.heap.size w w' := by
  subst e1 e2 e3
  obtain ⟨er, at_, hc⟩ : ∃ er at_, checkF ts ns = (er, at_) := ⟨_, _, rfl⟩
  by_cases h0 : er = 0
  · subst h0
    by_cases ha : ∀ q ∈ l, okN ts ns q = true
    · exact back_all a0 a1 a2 c0 c1 c2 ts ns l n w h at_ hc hn.1 hn.2 ha
    · exact back_no a0 a1 a2 c0 c1 c2 ts ns l n w h at_ hc hn.1 hn.2 ha
  · exact back_bad a0 a1 a2 c0 c1 c2 ts ns l n w h er at_ hc (by simp [h0])
end Go.Proofs.Ytndjcbcdjcnniaa
