import Derived.Test.YtfngoffkmlalaabDoorSums0
namespace Go.Proofs.YtfngoffkmlalaabDoor
set_option linter.unusedVariables false
open Go.RowKit

theorem own_lens {w : World} {a : Option Addr} {N c : Nat} {xs ys : List Int} (h : Own w (.slice a N c) (xs ++ ys)) : N ≤ xs.length + ys.length ∧ xs.length + ys.length ≤ N := by
  have := (own_len h).1
  simp at this
  omega

set_option maxRecDepth 100000 in
set_option maxHeartbeats 400000 in
theorem sums_below (ao bo : Option Addr) (ca cb : Nat) (xs ys : List Int) (at' mask : Int) (w : World) (hm : Magic w) (hx : xs.length ≤ 2000000) (hy : ys.length ≤ 2000000) (hr : RowAt w ao xs) (hs : RowAt w bo ys) (hna : ao = none → ca = 0) (hnb : bo = none → cb = 0)
    (hat0 : -9223372036854775808 ≤ at') (hat1 : at' ≤ 9223372036854775807) (hm0 : 0 ≤ mask) (hm1 : mask ≤ 255) (h : at' < 0) :
    Calls Tryd.prog 3 #[.slice ao xs.length ca, .slice bo ys.length cb, .int .i64 at', .int .u8 mask] w fun e w' => e = .returned (.bool true) ∧ Below w.heap.size w w' := by
  have H1 : Hid (([] : List Int).length + xs.length ≤ 140737488355328) := by show _ ≤ _; simp; omega
  have H2 : Hid (xs.length + ys.length ≤ 140737488355328) := by show _ ≤ _; omega
  have H3 : Hid ((xs ++ ys).length ≤ 140737488355328) := by show _ ≤ _; simp; omega
  have H4 : Hid (xs.length ≤ 140737488355328) := by show _ ≤ _; omega
  have H5 : Hid (ys.length ≤ 140737488355328) := by show _ ≤ _; omega
  have bx := adler_bd xs
  have by' := adler_bd ys
  have bz := adler_bd (xs ++ ys)
  have lx : adler xs % 65536 ≤ 65520 := by rw [adler_lo]; have := lo_bd xs; omega
  have ly : adler ys % 65536 ≤ 65520 := by rw [adler_lo]; have := lo_bd ys; omega
  have hP0 : 0 ≤ (ys.length : Int) % 65521 * ((adler xs % 65536 + 65521 - 1) % 65521) := Int.mul_nonneg (by omega) (by omega)
  have hP1 : (ys.length : Int) % 65521 * ((adler xs % 65536 + 65521 - 1) % 65521) ≤ 65520 * 65520 := Int.mul_le_mul (by omega) (by omega) (by omega) (by omega)
  have t1 : (adler (xs ++ ys) % 65536 != (adler xs % 65536 + adler ys % 65536 + 65521 - 1) % 65521) = false := by rw [lawLow]; simp
  have t2 : (adler (xs ++ ys) / 65536 != (adler xs / 65536 + adler ys / 65536 + (ys.length : Int) % 65521 * ((adler xs % 65536 + 65521 - 1) % 65521)) % 65521) = false := by rw [lawHigh]; simp
  go_enter Tryd.func3, Tryd.ntmps3
  go_wp2_with (first
    | (go_at_call 6; refine (alive_any w hm).mono ?_; rintro e w1 ⟨rfl, hb1⟩; have hr1 := hr.later hb1)
    | (at_builtin; refine wpList_own_append rfl (.tmp 17) (.tmp 18) rfl _ [] rfl (Own.nil w1) ao ca xs rfl hr1 hna H1.out ?_; intro v2 w2 ho2 hg2 hn2; change Own w2 v2 xs at ho2; obtain ⟨q1, q2⟩ := grew_new hb1 (nil_own _) hg2; have hs2 := hs.later q1; clear hn2 hg2 hb1 hr1)
    | (at_builtin; refine wpList_own_append rfl (.tmp 20) (.tmp 21) rfl _ xs rfl ho2 bo cb ys rfl hs2 hnb H2.out ?_; intro v3 w3 ho3 hg3 hn3; obtain ⟨q3, q4⟩ := grew_new q1 q2 hg3; obtain ⟨a3, N3, c3, rfl⟩ := own_slice ho3; have OL : Hid _ := own_len ho3; have hr3 := hr.later q3; have hs3 := hs.later q3; obtain ⟨hN1, hN2⟩ := own_lens ho3; clear hn3 hg3 q1 q2 ho2 hs2)
    | (go_at_call 7; with_reducible refine (sum_at ao xs.length ca xs w3 rfl H4.out hr3).mono ?_; rintro e w' ⟨rfl, rfl⟩)
    | (go_at_call 7; with_reducible refine (sum_at bo ys.length cb ys w3 rfl H5.out hs3).mono ?_; rintro e w' ⟨rfl, rfl⟩)
    | (go_at_call 7; with_reducible refine (sum_at _ N3 c3 (xs ++ ys) w3 OL.out.1 H3.out OL.out.2.1).mono ?_; rintro e w' ⟨rfl, rfl⟩))
  go_ret
  exact ⟨rfl, q3⟩

set_option maxRecDepth 100000 in
set_option maxHeartbeats 400000 in
theorem sums_above (ao bo : Option Addr) (ca cb : Nat) (xs ys : List Int) (at' mask : Int) (w : World) (hm : Magic w) (hx : xs.length ≤ 2000000) (hy : ys.length ≤ 2000000) (hr : RowAt w ao xs) (hs : RowAt w bo ys) (hna : ao = none → ca = 0) (hnb : bo = none → cb = 0)
    (hat0 : -9223372036854775808 ≤ at') (hat1 : at' ≤ 9223372036854775807) (hm0 : 0 ≤ mask) (hm1 : mask ≤ 255) (h0 : 0 ≤ at') (h : (xs.length : Int) + ys.length ≤ at') :
    Calls Tryd.prog 3 #[.slice ao xs.length ca, .slice bo ys.length cb, .int .i64 at', .int .u8 mask] w fun e w' => e = .returned (.bool true) ∧ Below w.heap.size w w' := by
  have H1 : Hid (([] : List Int).length + xs.length ≤ 140737488355328) := by show _ ≤ _; simp; omega
  have H2 : Hid (xs.length + ys.length ≤ 140737488355328) := by show _ ≤ _; omega
  have H3 : Hid ((xs ++ ys).length ≤ 140737488355328) := by show _ ≤ _; simp; omega
  have H4 : Hid (xs.length ≤ 140737488355328) := by show _ ≤ _; omega
  have H5 : Hid (ys.length ≤ 140737488355328) := by show _ ≤ _; omega
  have bx := adler_bd xs
  have by' := adler_bd ys
  have bz := adler_bd (xs ++ ys)
  have lx : adler xs % 65536 ≤ 65520 := by rw [adler_lo]; have := lo_bd xs; omega
  have ly : adler ys % 65536 ≤ 65520 := by rw [adler_lo]; have := lo_bd ys; omega
  have hP0 : 0 ≤ (ys.length : Int) % 65521 * ((adler xs % 65536 + 65521 - 1) % 65521) := Int.mul_nonneg (by omega) (by omega)
  have hP1 : (ys.length : Int) % 65521 * ((adler xs % 65536 + 65521 - 1) % 65521) ≤ 65520 * 65520 := Int.mul_le_mul (by omega) (by omega) (by omega) (by omega)
  have t1 : (adler (xs ++ ys) % 65536 != (adler xs % 65536 + adler ys % 65536 + 65521 - 1) % 65521) = false := by rw [lawLow]; simp
  have t2 : (adler (xs ++ ys) / 65536 != (adler xs / 65536 + adler ys / 65536 + (ys.length : Int) % 65521 * ((adler xs % 65536 + 65521 - 1) % 65521)) % 65521) = false := by rw [lawHigh]; simp
  go_enter Tryd.func3, Tryd.ntmps3
  go_wp2_with (first
    | (go_at_call 6; refine (alive_any w hm).mono ?_; rintro e w1 ⟨rfl, hb1⟩; have hr1 := hr.later hb1)
    | (at_builtin; refine wpList_own_append rfl (.tmp 17) (.tmp 18) rfl _ [] rfl (Own.nil w1) ao ca xs rfl hr1 hna H1.out ?_; intro v2 w2 ho2 hg2 hn2; change Own w2 v2 xs at ho2; obtain ⟨q1, q2⟩ := grew_new hb1 (nil_own _) hg2; have hs2 := hs.later q1; clear hn2 hg2 hb1 hr1)
    | (at_builtin; refine wpList_own_append rfl (.tmp 20) (.tmp 21) rfl _ xs rfl ho2 bo cb ys rfl hs2 hnb H2.out ?_; intro v3 w3 ho3 hg3 hn3; obtain ⟨q3, q4⟩ := grew_new q1 q2 hg3; obtain ⟨a3, N3, c3, rfl⟩ := own_slice ho3; have OL : Hid _ := own_len ho3; have hr3 := hr.later q3; have hs3 := hs.later q3; obtain ⟨hN1, hN2⟩ := own_lens ho3; clear hn3 hg3 q1 q2 ho2 hs2)
    | (go_at_call 7; with_reducible refine (sum_at ao xs.length ca xs w3 rfl H4.out hr3).mono ?_; rintro e w' ⟨rfl, rfl⟩)
    | (go_at_call 7; with_reducible refine (sum_at bo ys.length cb ys w3 rfl H5.out hs3).mono ?_; rintro e w' ⟨rfl, rfl⟩)
    | (go_at_call 7; with_reducible refine (sum_at _ N3 c3 (xs ++ ys) w3 OL.out.1 H3.out OL.out.2.1).mono ?_; rintro e w' ⟨rfl, rfl⟩))
  go_ret
  exact ⟨rfl, q3⟩

set_option maxRecDepth 100000 in
set_option maxHeartbeats 400000 in
theorem sums_zero (ao bo : Option Addr) (ca cb : Nat) (xs ys : List Int) (at' mask : Int) (w : World) (hm : Magic w) (hx : xs.length ≤ 2000000) (hy : ys.length ≤ 2000000) (hr : RowAt w ao xs) (hs : RowAt w bo ys) (hna : ao = none → ca = 0) (hnb : bo = none → cb = 0)
    (hat0 : -9223372036854775808 ≤ at') (hat1 : at' ≤ 9223372036854775807) (hm0 : 0 ≤ mask) (hm1 : mask ≤ 255) (h0 : 0 ≤ at') (h1 : at' < (xs.length : Int) + ys.length) (h : (mask == 0) = true) :
    Calls Tryd.prog 3 #[.slice ao xs.length ca, .slice bo ys.length cb, .int .i64 at', .int .u8 mask] w fun e w' => e = .returned (.bool true) ∧ Below w.heap.size w w' := by
  have H1 : Hid (([] : List Int).length + xs.length ≤ 140737488355328) := by show _ ≤ _; simp; omega
  have H2 : Hid (xs.length + ys.length ≤ 140737488355328) := by show _ ≤ _; omega
  have H3 : Hid ((xs ++ ys).length ≤ 140737488355328) := by show _ ≤ _; simp; omega
  have H4 : Hid (xs.length ≤ 140737488355328) := by show _ ≤ _; omega
  have H5 : Hid (ys.length ≤ 140737488355328) := by show _ ≤ _; omega
  have bx := adler_bd xs
  have by' := adler_bd ys
  have bz := adler_bd (xs ++ ys)
  have lx : adler xs % 65536 ≤ 65520 := by rw [adler_lo]; have := lo_bd xs; omega
  have ly : adler ys % 65536 ≤ 65520 := by rw [adler_lo]; have := lo_bd ys; omega
  have hP0 : 0 ≤ (ys.length : Int) % 65521 * ((adler xs % 65536 + 65521 - 1) % 65521) := Int.mul_nonneg (by omega) (by omega)
  have hP1 : (ys.length : Int) % 65521 * ((adler xs % 65536 + 65521 - 1) % 65521) ≤ 65520 * 65520 := Int.mul_le_mul (by omega) (by omega) (by omega) (by omega)
  have t1 : (adler (xs ++ ys) % 65536 != (adler xs % 65536 + adler ys % 65536 + 65521 - 1) % 65521) = false := by rw [lawLow]; simp
  have t2 : (adler (xs ++ ys) / 65536 != (adler xs / 65536 + adler ys / 65536 + (ys.length : Int) % 65521 * ((adler xs % 65536 + 65521 - 1) % 65521)) % 65521) = false := by rw [lawHigh]; simp
  go_enter Tryd.func3, Tryd.ntmps3
  go_wp2_with (first
    | (go_at_call 6; refine (alive_any w hm).mono ?_; rintro e w1 ⟨rfl, hb1⟩; have hr1 := hr.later hb1)
    | (at_builtin; refine wpList_own_append rfl (.tmp 17) (.tmp 18) rfl _ [] rfl (Own.nil w1) ao ca xs rfl hr1 hna H1.out ?_; intro v2 w2 ho2 hg2 hn2; change Own w2 v2 xs at ho2; obtain ⟨q1, q2⟩ := grew_new hb1 (nil_own _) hg2; have hs2 := hs.later q1; clear hn2 hg2 hb1 hr1)
    | (at_builtin; refine wpList_own_append rfl (.tmp 20) (.tmp 21) rfl _ xs rfl ho2 bo cb ys rfl hs2 hnb H2.out ?_; intro v3 w3 ho3 hg3 hn3; obtain ⟨q3, q4⟩ := grew_new q1 q2 hg3; obtain ⟨a3, N3, c3, rfl⟩ := own_slice ho3; have OL : Hid _ := own_len ho3; have hr3 := hr.later q3; have hs3 := hs.later q3; obtain ⟨hN1, hN2⟩ := own_lens ho3; clear hn3 hg3 q1 q2 ho2 hs2)
    | (go_at_call 7; with_reducible refine (sum_at ao xs.length ca xs w3 rfl H4.out hr3).mono ?_; rintro e w' ⟨rfl, rfl⟩)
    | (go_at_call 7; with_reducible refine (sum_at bo ys.length cb ys w3 rfl H5.out hs3).mono ?_; rintro e w' ⟨rfl, rfl⟩)
    | (go_at_call 7; with_reducible refine (sum_at _ N3 c3 (xs ++ ys) w3 OL.out.1 H3.out OL.out.2.1).mono ?_; rintro e w' ⟨rfl, rfl⟩))
  go_ret
  exact ⟨rfl, q3⟩

set_option maxRecDepth 100000 in
set_option maxHeartbeats 800000 in
theorem sums_turn (ao bo : Option Addr) (ca cb : Nat) (xs ys : List Int) (i : Nat) (mask : Int) (w : World) (hm : Magic w) (hx : xs.length ≤ 2000000) (hy : ys.length ≤ 2000000) (hr : RowAt w ao xs) (hs : RowAt w bo ys) (hna : ao = none → ca = 0) (hnb : bo = none → cb = 0)
    (hm0 : 0 ≤ mask) (hm1 : mask ≤ 255) (h1 : i < xs.length + ys.length) (h : mask ≠ 0) :
    Calls Tryd.prog 3 #[.slice ao xs.length ca, .slice bo ys.length cb, .int .i64 i, .int .u8 mask] w fun e w' => e = .returned (.bool true) ∧ Below w.heap.size w w' := by
  have H1 : Hid (([] : List Int).length + xs.length ≤ 140737488355328) := by show _ ≤ _; simp; omega
  have H2 : Hid (xs.length + ys.length ≤ 140737488355328) := by show _ ≤ _; omega
  have H3 : Hid ((xs ++ ys).length ≤ 140737488355328) := by show _ ≤ _; simp; omega
  have H4 : Hid (xs.length ≤ 140737488355328) := by show _ ≤ _; omega
  have H5 : Hid (ys.length ≤ 140737488355328) := by show _ ≤ _; omega
  have bx := adler_bd xs
  have by' := adler_bd ys
  have bz := adler_bd (xs ++ ys)
  have lx : adler xs % 65536 ≤ 65520 := by rw [adler_lo]; have := lo_bd xs; omega
  have ly : adler ys % 65536 ≤ 65520 := by rw [adler_lo]; have := lo_bd ys; omega
  have hP0 : 0 ≤ (ys.length : Int) % 65521 * ((adler xs % 65536 + 65521 - 1) % 65521) := Int.mul_nonneg (by omega) (by omega)
  have hP1 : (ys.length : Int) % 65521 * ((adler xs % 65536 + 65521 - 1) % 65521) ≤ 65520 * 65520 := Int.mul_le_mul (by omega) (by omega) (by omega) (by omega)
  have t1 : (adler (xs ++ ys) % 65536 != (adler xs % 65536 + adler ys % 65536 + 65521 - 1) % 65521) = false := by rw [lawLow]; simp
  have t2 : (adler (xs ++ ys) / 65536 != (adler xs / 65536 + adler ys / 65536 + (ys.length : Int) % 65521 * ((adler xs % 65536 + 65521 - 1) % 65521)) % 65521) = false := by rw [lawHigh]; simp
  have hm' : (mask == 0) = false := by simp [h]
  have hby : isBytes (xs ++ ys) := isBytes_append hr.1 hs.1
  have hil : i < (xs ++ ys).length := by simp; omega
  have HIL : Hid (i < (xs ++ ys).length) := hil
  have HNE : Hid (xs ++ ys ≠ []) := fun e => by rw [e] at hil; simp at hil
  have hxb := hby.at i
  obtain ⟨u0, u1, u2⟩ := xor_byte ((xs ++ ys).getD i 0) mask hxb.1 hxb.2 hm0 hm1
  have t3 : (adler ((xs ++ ys).set i (bits .xor .u8 ((xs ++ ys).getD i 0) mask)) != adler (xs ++ ys)) = true := by
    have := lo_set (xs ++ ys) i hil _ u0 u1 hby (u2 h)
    simpa using this
  have H6 : Hid (((xs ++ ys).set i (bits .xor .u8 ((xs ++ ys).getD i 0) mask)).length ≤ 140737488355328) := by show _ ≤ _; simp; omega
  have HC : Hid (∀ (w : World) (g N c : Nat), Own w (.slice (some ⟨g, 0, none⟩) N c) (xs ++ ys) → w.cell? ⟨g, i, none⟩ = some (.int .u8 ((xs ++ ys).getD i 0)) ∧ w.frozen? ⟨g, i, none⟩ = false) := fun w g N c h => own_cell h i hil
  have HS : Hid (∀ (w : World) (g N c : Nat), Own w (.slice (some ⟨g, 0, none⟩) N c) (xs ++ ys) → Own (w.setCell ⟨g, i, none⟩ (.int .u8 (bits .xor .u8 ((xs ++ ys).getD i 0) mask))) (.slice (some ⟨g, 0, none⟩) N c) ((xs ++ ys).set i (bits .xor .u8 ((xs ++ ys).getD i 0) mask))) := fun w g N c h => own_set h i hil _ u0 u1
  clear u2 hby hil h
  generalize (xs ++ ys).set i (bits .xor .u8 ((xs ++ ys).getD i 0) mask) = zs at *
  generalize (xs ++ ys).getD i 0 = x at *
  go_enter Tryd.func3, Tryd.ntmps3
  go_wp2_with (first
    | (go_at_call 6; refine (alive_any w hm).mono ?_; rintro e w1 ⟨rfl, hb1⟩; have hr1 := hr.later hb1)
    | (at_builtin; refine wpList_own_append rfl (.tmp 17) (.tmp 18) rfl _ [] rfl (Own.nil w1) ao ca xs rfl hr1 hna H1.out ?_; intro v2 w2 ho2 hg2 hn2; change Own w2 v2 xs at ho2; obtain ⟨q1, q2⟩ := grew_new hb1 (nil_own _) hg2; have hs2 := hs.later q1; clear hn2 hg2 hb1 hr1)
    | (at_builtin; refine wpList_own_append rfl (.tmp 20) (.tmp 21) rfl _ xs rfl ho2 bo cb ys rfl hs2 hnb H2.out ?_; intro v3 w3 ho3 hg3 hn3; obtain ⟨q3, q4⟩ := grew_new q1 q2 hg3; obtain ⟨g3, N3, c3, rfl⟩ := own_some ho3 HNE.out; have OL : Hid _ := own_len ho3; have hr3 := hr.later q3; have hs3 := hs.later q3; obtain ⟨hN1, hN2⟩ := own_lens ho3; obtain ⟨hc3, hf3⟩ := HC.out w3 g3 N3 c3 ho3; have ho4 := HS.out w3 g3 N3 c3 ho3; clear hn3 hg3 q1 q2 ho2 hs2)
    | (go_at_call 7; with_reducible refine (sum_at ao xs.length ca xs w3 rfl H4.out hr3).mono ?_; rintro e w' ⟨rfl, rfl⟩)
    | (go_at_call 7; with_reducible refine (sum_at bo ys.length cb ys w3 rfl H5.out hs3).mono ?_; rintro e w' ⟨rfl, rfl⟩)
    | (go_at_call 7; with_reducible refine (sum_at _ N3 c3 (xs ++ ys) w3 OL.out.1 H3.out OL.out.2.1).mono ?_; rintro e w' ⟨rfl, rfl⟩)
    | (go_at_call 7; with_reducible refine (sum_at _ N3 c3 zs _ (own_len ho4).1 H6.out (own_len ho4).2.1).mono ?_; rintro e w' ⟨rfl, rfl⟩))
  go_ret
  exact ⟨rfl, q3.setCell (p := ⟨g3, i, none⟩) (q4 g3 rfl) _⟩
end Go.Proofs.YtfngoffkmlalaabDoor
