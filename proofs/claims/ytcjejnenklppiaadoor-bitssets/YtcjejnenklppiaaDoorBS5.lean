import Derived.Test.YtcjejnenklppiaaDoorBArgSToBS4
namespace Go.Proofs.YtcjejnenklppiaaDoor
set_option linter.unusedVariables false
open Go.RowKit Go.Shelf

theorem new_ok (m : Int) (h0 : 0 ≤ m) (h1 : m ≤ 4096) (w : World) : Calls Tryd.prog 5 #[.int .i64 m] w fun e w' => e = .returned (.tuple #[.pointer (some ⟨w.heap.size + 1, 0, none⟩), .int .i64 0]) ∧ SB w' w.heap.size m.toNat 0 ∧ Below w.heap.size w w' := by
  have := newset_SB m.toNat (by omega) w
  rwa [show (m.toNat : Int) = m by omega] at this
set_option maxRecDepth 100000 in
set_option maxHeartbeats 8000000 in
theorem sets_neg_neg {w : World} (m n : Int) (l : Value) (hm : m < 0) (hn : n < 0) : Calls Tryd.prog 3 #[.int .i64 m, .int .i64 n, l] w fun e w' => e = .returned (.bool true) ∧ Below w.heap.size w w' := by
  have CM : Hid (∀ w1 : World, Calls Tryd.prog 5 #[.int .i64 m] w1 fun e w' => e = .returned (.tuple #[.pointer none, .int .i64 4]) ∧ Below w1.heap.size w1 w') := fun w1 => (newset_no m (by rw [decide_eq_false (show ¬ 0 ≤ m by omega)]; rfl) w1).mono fun e w' ⟨q1, q2⟩ => ⟨q1, by rw [q2]; exact Below.refl _ _⟩
  have hm2 : ¬ 0 ≤ m := by omega
  have CN : Hid (∀ w1 : World, Calls Tryd.prog 5 #[.int .i64 n] w1 fun e w' => e = .returned (.tuple #[.pointer none, .int .i64 4]) ∧ Below w1.heap.size w1 w') := fun w1 => (newset_no n (by rw [decide_eq_false (show ¬ 0 ≤ n by omega)]; rfl) w1).mono fun e w' ⟨q1, q2⟩ => ⟨q1, by rw [q2]; exact Below.refl _ _⟩
  have hn2 : ¬ 0 ≤ n := by omega
  have NU : Hid (∀ (e : Int) (w : World), Calls Tryd.prog 6 #[.int .i64 e] w fun x w' => x = .returned (.int .i64 e) ∧ w' = w) := num_SB
  go_enter Tryd.func3, Tryd.ntmps3
  go_wp2_with (go_at_call 5; refine (CM.out _).mono ?_; rintro e w1 ⟨rfl, b1⟩; have B1 : Hid (Below w.heap.size w w1) := b1; clear b1 CM)
  go_wp2_with (first
    | (go_at_call 5; refine (CN.out _).mono ?_; rintro e w2 ⟨rfl, b2⟩; have B2 : Hid (Below w1.heap.size w1 w2) := b2; clear b2)
    | (go_at_call 6; refine (NU.out _ _).mono ?_; rintro e wz ⟨rfl, hz⟩; rw [hz]; clear hz wz))
  go_ret
  exact ⟨rfl, B1.out.trans (B2.out.mono B1.out.size)⟩
set_option maxRecDepth 100000 in
set_option maxHeartbeats 8000000 in
theorem sets_neg_big {w : World} (m n : Int) (l : Value) (hm : m < 0) (hn : 4096 < n) : Calls Tryd.prog 3 #[.int .i64 m, .int .i64 n, l] w fun e w' => e = .returned (.bool true) ∧ Below w.heap.size w w' := by
  have CM : Hid (∀ w1 : World, Calls Tryd.prog 5 #[.int .i64 m] w1 fun e w' => e = .returned (.tuple #[.pointer none, .int .i64 4]) ∧ Below w1.heap.size w1 w') := fun w1 => (newset_no m (by rw [decide_eq_false (show ¬ 0 ≤ m by omega)]; rfl) w1).mono fun e w' ⟨q1, q2⟩ => ⟨q1, by rw [q2]; exact Below.refl _ _⟩
  have hm2 : ¬ 0 ≤ m := by omega
  have CN : Hid (∀ w1 : World, Calls Tryd.prog 5 #[.int .i64 n] w1 fun e w' => e = .returned (.tuple #[.pointer none, .int .i64 4]) ∧ Below w1.heap.size w1 w') := fun w1 => (newset_no n (by rw [decide_eq_false (show ¬ n ≤ 4096 by omega), Bool.and_false]) w1).mono fun e w' ⟨q1, q2⟩ => ⟨q1, by rw [q2]; exact Below.refl _ _⟩
  have hn2 : ¬ n ≤ 4096 := by omega
  have hn3 : 0 ≤ n := by omega
  have NU : Hid (∀ (e : Int) (w : World), Calls Tryd.prog 6 #[.int .i64 e] w fun x w' => x = .returned (.int .i64 e) ∧ w' = w) := num_SB
  go_enter Tryd.func3, Tryd.ntmps3
  go_wp2_with (go_at_call 5; refine (CM.out _).mono ?_; rintro e w1 ⟨rfl, b1⟩; have B1 : Hid (Below w.heap.size w w1) := b1; clear b1 CM)
  go_wp2_with (first
    | (go_at_call 5; refine (CN.out _).mono ?_; rintro e w2 ⟨rfl, b2⟩; have B2 : Hid (Below w1.heap.size w1 w2) := b2; clear b2)
    | (go_at_call 6; refine (NU.out _ _).mono ?_; rintro e wz ⟨rfl, hz⟩; rw [hz]; clear hz wz))
  go_ret
  exact ⟨rfl, B1.out.trans (B2.out.mono B1.out.size)⟩
set_option maxRecDepth 100000 in
set_option maxHeartbeats 8000000 in
theorem sets_neg_ok {w : World} (m n : Int) (l : Value) (hm : m < 0) (hn0 : 0 ≤ n) (hn1 : n ≤ 4096) : Calls Tryd.prog 3 #[.int .i64 m, .int .i64 n, l] w fun e w' => e = .returned (.bool true) ∧ Below w.heap.size w w' := by
  have CM : Hid (∀ w1 : World, Calls Tryd.prog 5 #[.int .i64 m] w1 fun e w' => e = .returned (.tuple #[.pointer none, .int .i64 4]) ∧ Below w1.heap.size w1 w') := fun w1 => (newset_no m (by rw [decide_eq_false (show ¬ 0 ≤ m by omega)]; rfl) w1).mono fun e w' ⟨q1, q2⟩ => ⟨q1, by rw [q2]; exact Below.refl _ _⟩
  have hm2 : ¬ 0 ≤ m := by omega
  have CN : Hid (∀ w1 : World, Calls Tryd.prog 5 #[.int .i64 n] w1 fun e w' => e = .returned (.tuple #[.pointer (some ⟨w1.heap.size + 1, 0, none⟩), .int .i64 0]) ∧ Below w1.heap.size w1 w') := fun w1 => (new_ok n hn0 hn1 w1).mono fun e w' ⟨q1, _, q3⟩ => ⟨q1, q3⟩
  have NU : Hid (∀ (e : Int) (w : World), Calls Tryd.prog 6 #[.int .i64 e] w fun x w' => x = .returned (.int .i64 e) ∧ w' = w) := num_SB
  go_enter Tryd.func3, Tryd.ntmps3
  go_wp2_with (go_at_call 5; refine (CM.out _).mono ?_; rintro e w1 ⟨rfl, b1⟩; have B1 : Hid (Below w.heap.size w w1) := b1; clear b1 CM)
  go_wp2_with (first
    | (go_at_call 5; refine (CN.out _).mono ?_; rintro e w2 ⟨rfl, b2⟩; have B2 : Hid (Below w1.heap.size w1 w2) := b2; clear b2)
    | (go_at_call 6; refine (NU.out _ _).mono ?_; rintro e wz ⟨rfl, hz⟩; rw [hz]; clear hz wz))
  go_ret
  exact ⟨rfl, B1.out.trans (B2.out.mono B1.out.size)⟩
set_option maxRecDepth 100000 in
set_option maxHeartbeats 8000000 in
theorem sets_big_neg {w : World} (m n : Int) (l : Value) (hm : 4096 < m) (hn : n < 0) : Calls Tryd.prog 3 #[.int .i64 m, .int .i64 n, l] w fun e w' => e = .returned (.bool true) ∧ Below w.heap.size w w' := by
  have CM : Hid (∀ w1 : World, Calls Tryd.prog 5 #[.int .i64 m] w1 fun e w' => e = .returned (.tuple #[.pointer none, .int .i64 4]) ∧ Below w1.heap.size w1 w') := fun w1 => (newset_no m (by rw [decide_eq_false (show ¬ m ≤ 4096 by omega), Bool.and_false]) w1).mono fun e w' ⟨q1, q2⟩ => ⟨q1, by rw [q2]; exact Below.refl _ _⟩
  have hm2 : ¬ m ≤ 4096 := by omega
  have hm3 : 0 ≤ m := by omega
  have CN : Hid (∀ w1 : World, Calls Tryd.prog 5 #[.int .i64 n] w1 fun e w' => e = .returned (.tuple #[.pointer none, .int .i64 4]) ∧ Below w1.heap.size w1 w') := fun w1 => (newset_no n (by rw [decide_eq_false (show ¬ 0 ≤ n by omega)]; rfl) w1).mono fun e w' ⟨q1, q2⟩ => ⟨q1, by rw [q2]; exact Below.refl _ _⟩
  have hn2 : ¬ 0 ≤ n := by omega
  have NU : Hid (∀ (e : Int) (w : World), Calls Tryd.prog 6 #[.int .i64 e] w fun x w' => x = .returned (.int .i64 e) ∧ w' = w) := num_SB
  go_enter Tryd.func3, Tryd.ntmps3
  go_wp2_with (go_at_call 5; refine (CM.out _).mono ?_; rintro e w1 ⟨rfl, b1⟩; have B1 : Hid (Below w.heap.size w w1) := b1; clear b1 CM)
  go_wp2_with (first
    | (go_at_call 5; refine (CN.out _).mono ?_; rintro e w2 ⟨rfl, b2⟩; have B2 : Hid (Below w1.heap.size w1 w2) := b2; clear b2)
    | (go_at_call 6; refine (NU.out _ _).mono ?_; rintro e wz ⟨rfl, hz⟩; rw [hz]; clear hz wz))
  go_ret
  exact ⟨rfl, B1.out.trans (B2.out.mono B1.out.size)⟩
set_option maxRecDepth 100000 in
set_option maxHeartbeats 8000000 in
theorem sets_big_big {w : World} (m n : Int) (l : Value) (hm : 4096 < m) (hn : 4096 < n) : Calls Tryd.prog 3 #[.int .i64 m, .int .i64 n, l] w fun e w' => e = .returned (.bool true) ∧ Below w.heap.size w w' := by
  have CM : Hid (∀ w1 : World, Calls Tryd.prog 5 #[.int .i64 m] w1 fun e w' => e = .returned (.tuple #[.pointer none, .int .i64 4]) ∧ Below w1.heap.size w1 w') := fun w1 => (newset_no m (by rw [decide_eq_false (show ¬ m ≤ 4096 by omega), Bool.and_false]) w1).mono fun e w' ⟨q1, q2⟩ => ⟨q1, by rw [q2]; exact Below.refl _ _⟩
  have hm2 : ¬ m ≤ 4096 := by omega
  have hm3 : 0 ≤ m := by omega
  have CN : Hid (∀ w1 : World, Calls Tryd.prog 5 #[.int .i64 n] w1 fun e w' => e = .returned (.tuple #[.pointer none, .int .i64 4]) ∧ Below w1.heap.size w1 w') := fun w1 => (newset_no n (by rw [decide_eq_false (show ¬ n ≤ 4096 by omega), Bool.and_false]) w1).mono fun e w' ⟨q1, q2⟩ => ⟨q1, by rw [q2]; exact Below.refl _ _⟩
  have hn2 : ¬ n ≤ 4096 := by omega
  have hn3 : 0 ≤ n := by omega
  have NU : Hid (∀ (e : Int) (w : World), Calls Tryd.prog 6 #[.int .i64 e] w fun x w' => x = .returned (.int .i64 e) ∧ w' = w) := num_SB
  go_enter Tryd.func3, Tryd.ntmps3
  go_wp2_with (go_at_call 5; refine (CM.out _).mono ?_; rintro e w1 ⟨rfl, b1⟩; have B1 : Hid (Below w.heap.size w w1) := b1; clear b1 CM)
  go_wp2_with (first
    | (go_at_call 5; refine (CN.out _).mono ?_; rintro e w2 ⟨rfl, b2⟩; have B2 : Hid (Below w1.heap.size w1 w2) := b2; clear b2)
    | (go_at_call 6; refine (NU.out _ _).mono ?_; rintro e wz ⟨rfl, hz⟩; rw [hz]; clear hz wz))
  go_ret
  exact ⟨rfl, B1.out.trans (B2.out.mono B1.out.size)⟩
set_option maxRecDepth 100000 in
set_option maxHeartbeats 8000000 in
theorem sets_big_ok {w : World} (m n : Int) (l : Value) (hm : 4096 < m) (hn0 : 0 ≤ n) (hn1 : n ≤ 4096) : Calls Tryd.prog 3 #[.int .i64 m, .int .i64 n, l] w fun e w' => e = .returned (.bool true) ∧ Below w.heap.size w w' := by
  have CM : Hid (∀ w1 : World, Calls Tryd.prog 5 #[.int .i64 m] w1 fun e w' => e = .returned (.tuple #[.pointer none, .int .i64 4]) ∧ Below w1.heap.size w1 w') := fun w1 => (newset_no m (by rw [decide_eq_false (show ¬ m ≤ 4096 by omega), Bool.and_false]) w1).mono fun e w' ⟨q1, q2⟩ => ⟨q1, by rw [q2]; exact Below.refl _ _⟩
  have hm2 : ¬ m ≤ 4096 := by omega
  have hm3 : 0 ≤ m := by omega
  have CN : Hid (∀ w1 : World, Calls Tryd.prog 5 #[.int .i64 n] w1 fun e w' => e = .returned (.tuple #[.pointer (some ⟨w1.heap.size + 1, 0, none⟩), .int .i64 0]) ∧ Below w1.heap.size w1 w') := fun w1 => (new_ok n hn0 hn1 w1).mono fun e w' ⟨q1, _, q3⟩ => ⟨q1, q3⟩
  have NU : Hid (∀ (e : Int) (w : World), Calls Tryd.prog 6 #[.int .i64 e] w fun x w' => x = .returned (.int .i64 e) ∧ w' = w) := num_SB
  go_enter Tryd.func3, Tryd.ntmps3
  go_wp2_with (go_at_call 5; refine (CM.out _).mono ?_; rintro e w1 ⟨rfl, b1⟩; have B1 : Hid (Below w.heap.size w w1) := b1; clear b1 CM)
  go_wp2_with (first
    | (go_at_call 5; refine (CN.out _).mono ?_; rintro e w2 ⟨rfl, b2⟩; have B2 : Hid (Below w1.heap.size w1 w2) := b2; clear b2)
    | (go_at_call 6; refine (NU.out _ _).mono ?_; rintro e wz ⟨rfl, hz⟩; rw [hz]; clear hz wz))
  go_ret
  exact ⟨rfl, B1.out.trans (B2.out.mono B1.out.size)⟩
set_option maxRecDepth 100000 in
set_option maxHeartbeats 8000000 in
theorem sets_ok_neg {w : World} (m n : Int) (l : Value) (hm0 : 0 ≤ m) (hm1 : m ≤ 4096) (hn : n < 0) : Calls Tryd.prog 3 #[.int .i64 m, .int .i64 n, l] w fun e w' => e = .returned (.bool true) ∧ Below w.heap.size w w' := by
  have CM : Hid (∀ w1 : World, Calls Tryd.prog 5 #[.int .i64 m] w1 fun e w' => e = .returned (.tuple #[.pointer (some ⟨w1.heap.size + 1, 0, none⟩), .int .i64 0]) ∧ Below w1.heap.size w1 w') := fun w1 => (new_ok m hm0 hm1 w1).mono fun e w' ⟨q1, _, q3⟩ => ⟨q1, q3⟩
  have CN : Hid (∀ w1 : World, Calls Tryd.prog 5 #[.int .i64 n] w1 fun e w' => e = .returned (.tuple #[.pointer none, .int .i64 4]) ∧ Below w1.heap.size w1 w') := fun w1 => (newset_no n (by rw [decide_eq_false (show ¬ 0 ≤ n by omega)]; rfl) w1).mono fun e w' ⟨q1, q2⟩ => ⟨q1, by rw [q2]; exact Below.refl _ _⟩
  have hn2 : ¬ 0 ≤ n := by omega
  have NU : Hid (∀ (e : Int) (w : World), Calls Tryd.prog 6 #[.int .i64 e] w fun x w' => x = .returned (.int .i64 e) ∧ w' = w) := num_SB
  go_enter Tryd.func3, Tryd.ntmps3
  go_wp2_with (go_at_call 5; refine (CM.out _).mono ?_; rintro e w1 ⟨rfl, b1⟩; have B1 : Hid (Below w.heap.size w w1) := b1; clear b1 CM)
  go_wp2_with (first
    | (go_at_call 5; refine (CN.out _).mono ?_; rintro e w2 ⟨rfl, b2⟩; have B2 : Hid (Below w1.heap.size w1 w2) := b2; clear b2)
    | (go_at_call 6; refine (NU.out _ _).mono ?_; rintro e wz ⟨rfl, hz⟩; rw [hz]; clear hz wz))
  go_ret
  exact ⟨rfl, B1.out.trans (B2.out.mono B1.out.size)⟩
set_option maxRecDepth 100000 in
set_option maxHeartbeats 8000000 in
theorem sets_ok_big {w : World} (m n : Int) (l : Value) (hm0 : 0 ≤ m) (hm1 : m ≤ 4096) (hn : 4096 < n) : Calls Tryd.prog 3 #[.int .i64 m, .int .i64 n, l] w fun e w' => e = .returned (.bool true) ∧ Below w.heap.size w w' := by
  have CM : Hid (∀ w1 : World, Calls Tryd.prog 5 #[.int .i64 m] w1 fun e w' => e = .returned (.tuple #[.pointer (some ⟨w1.heap.size + 1, 0, none⟩), .int .i64 0]) ∧ Below w1.heap.size w1 w') := fun w1 => (new_ok m hm0 hm1 w1).mono fun e w' ⟨q1, _, q3⟩ => ⟨q1, q3⟩
  have CN : Hid (∀ w1 : World, Calls Tryd.prog 5 #[.int .i64 n] w1 fun e w' => e = .returned (.tuple #[.pointer none, .int .i64 4]) ∧ Below w1.heap.size w1 w') := fun w1 => (newset_no n (by rw [decide_eq_false (show ¬ n ≤ 4096 by omega), Bool.and_false]) w1).mono fun e w' ⟨q1, q2⟩ => ⟨q1, by rw [q2]; exact Below.refl _ _⟩
  have hn2 : ¬ n ≤ 4096 := by omega
  have hn3 : 0 ≤ n := by omega
  have NU : Hid (∀ (e : Int) (w : World), Calls Tryd.prog 6 #[.int .i64 e] w fun x w' => x = .returned (.int .i64 e) ∧ w' = w) := num_SB
  go_enter Tryd.func3, Tryd.ntmps3
  go_wp2_with (go_at_call 5; refine (CM.out _).mono ?_; rintro e w1 ⟨rfl, b1⟩; have B1 : Hid (Below w.heap.size w w1) := b1; clear b1 CM)
  go_wp2_with (first
    | (go_at_call 5; refine (CN.out _).mono ?_; rintro e w2 ⟨rfl, b2⟩; have B2 : Hid (Below w1.heap.size w1 w2) := b2; clear b2)
    | (go_at_call 6; refine (NU.out _ _).mono ?_; rintro e wz ⟨rfl, hz⟩; rw [hz]; clear hz wz))
  go_ret
  exact ⟨rfl, B1.out.trans (B2.out.mono B1.out.size)⟩
theorem sets_no {w : World} (m n : Int) (l : Value) (h : ¬ ((0 ≤ m ∧ m ≤ 4096) ∧ 0 ≤ n ∧ n ≤ 4096)) : Calls Tryd.prog 3 #[.int .i64 m, .int .i64 n, l] w fun e w' => e = .returned (.bool true) ∧ Below w.heap.size w w' := by
  by_cases a : m < 0
  · by_cases c : n < 0
    · exact sets_neg_neg m n l a c
    · by_cases d : 4096 < n
      · exact sets_neg_big m n l a d
      · exact sets_neg_ok m n l a (by omega) (by omega)
  · by_cases b : 4096 < m
    · by_cases c : n < 0
      · exact sets_big_neg m n l b c
      · by_cases d : 4096 < n
        · exact sets_big_big m n l b d
        · exact sets_big_ok m n l b (by omega) (by omega)
    · by_cases c : n < 0
      · exact sets_ok_neg m n l (by omega) (by omega) c
      · exact sets_ok_big m n l (by omega) (by omega) (by omega)
end Go.Proofs.YtcjejnenklppiaaDoor
