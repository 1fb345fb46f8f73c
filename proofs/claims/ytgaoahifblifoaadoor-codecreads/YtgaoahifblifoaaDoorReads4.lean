import Derived.Test.YtgaoahifblifoaaDoorReads3
namespace Go.Proofs.YtgaoahifblifoaaDoor
set_option linter.unusedVariables false
open Go.RowKit

section
variable {B : Nat} {w0 w : World} {r q : Nat} {ro : Option Addr} {N rc : Nat} {qo : Option Addr} {qc : Nat} {xs : List Int} {p0 : Nat} {er : Int} {mo le co : Int}
set_option maxRecDepth 100000 in
set_option maxHeartbeats 4000000 in
theorem reads_signed (h : Pair2 w r q ro N rc qo qc xs p0 p0 er er) (hb : Below B w0 w) (hlo : B ≤ r ∧ B ≤ q ∧ B ≤ w.heap.size) (hm0 : -9223372036854775808 ≤ mo) (hm1 : mo ≤ 9223372036854775807) :
    Calls Tryd.prog 23 #[.pointer (some ⟨r, 0, none⟩), .pointer (some ⟨q, 0, none⟩), .agg #[.int .i64 2, .int .i64 mo, .int .i64 le, .int .i64 co]] w (Read2 B w0 r q w.heap.size ro N rc qo qc xs 2 mo le co) := by
  obtain ⟨n, p, e, cR, cQ⟩ := signed_both (r := r) (q := q) (ro := ro) (N := N) (rc := rc) (qo := qo) (qc := qc) (er := er) h.R.row.1 h.R.pos mo hm1
  obtain ⟨ee, aa, HEN⟩ : ∃ ee aa, Hid (endS xs p e = (ee, aa)) := ⟨_, _, rfl⟩
  have MA := mid_new (wh := 2) (mo := mo) (le := le) (co := co) h hb hlo
  have M0 := MA.later (Below.refl _ _).drew
  obtain ⟨z0, z1, z2, z3, zl⟩ := MA.cells
  obtain ⟨y0, y1, y2, y3, yl⟩ := M0.cells
  have e0 : (n == n) = true := by simp
  have s3 : (ee == ee) = true := by simp
  have s4 : (aa == aa) = true := by simp
  clear h hb hlo
  go_enter Tryd.func23, Tryd.ntmps23
  go_wp2
  go_region_held3 (fun w' => w'.cell? ⟨w.heap.size, 1, none⟩ = some (.int .i64 mo)) (first | assumption | go_keep)
    (first
      | (go_at_call 31; (with_reducible refine (cR _ M0.P.R).mono ?_); rintro x w1 ⟨rfl, h1, o1⟩; have M1 := M0.stepR h1 o1; obtain ⟨u0, u1, u2, u3, ul⟩ := M1.cells)
      | (go_at_call 65; (with_reducible refine (cQ _ M1.P.Q).mono ?_); rintro x w2 ⟨rfl, h2, o2⟩; have M2 := M1.stepQ h2 o2; obtain ⟨v0, v1, v2, v3, vl⟩ := M2.cells)
      | (go_at_call 65; (with_reducible refine (cQ _ M0.P.Q).mono ?_); rintro x w1 ⟨rfl, h1, o1⟩; have M1' := M0.stepQ h1 o1; obtain ⟨u0, u1, u2, u3, ul⟩ := M1'.cells)
      | (go_at_call 31; (with_reducible refine (cR _ M1'.P.R).mono ?_); rintro x w2 ⟨rfl, h2, o2⟩; have M2 := M1'.stepR h2 o2; obtain ⟨v0, v1, v2, v3, vl⟩ := M2.cells))
  all_goals go_wp2_with (first
    | (go_at_call 33; refine (rend_eq2 M2.P.R HEN.out).mono ?_; rintro x w3 ⟨rfl, m3, rfl⟩)
    | (go_at_call 73; refine (qend (M2.P.Q.drewN _) ee aa HEN.out).mono ?_; rintro x w4 ⟨rfl, m4, rfl⟩))
  all_goals
    refine wp_at (fun V => Mid2 B w0 V r q w.heap.size ro N rc qo qc xs p p e e 2 mo le co) (M2.later (by first | exact below_drewN (Below.refl _ _) _ | exact below_drewN (below_drewN (Below.refl _ _) _) _)) ?_
    intro V MV
    have hlen := MV.P.R.len
    have k0 := MV.P.Q.c0
    have k1 := MV.P.Q.c1
    have hps := MV.P.R.pos
    have hlm := MV.P.R.lim
    have s2 : (((N : Int) - (p : Int)) == ((xs.length : Int) - (p : Int))) = true := by rw [hlen]; simp
    have s5 : (p : Int) ≤ xs.length := by omega
    clear hlen hps
    go_quiet (first
      | (go_at_call 74; exact Calls.quiet_of_same (rat_q MV.P.R _))
      | (go_at_call 34; exact Calls.quiet_of (rleft_any (MV.P.R.drewN _)))
      | (go_at_call 17; exact Calls.quiet_of_same (num_q _ _)))
    go_wp2
    go_ret
    exact ⟨rfl, _, _, MV.later (below_drewN (Below.refl _ _) _)⟩
set_option maxRecDepth 100000 in
set_option maxHeartbeats 4000000 in
theorem reads_text (h : Pair2 w r q ro N rc qo qc xs p0 p0 er er) (hb : Below B w0 w) (hlo : B ≤ r ∧ B ≤ q ∧ B ≤ w.heap.size) (hm0 : -9223372036854775808 ≤ mo) (hm1 : mo ≤ 9223372036854775807) :
    Calls Tryd.prog 23 #[.pointer (some ⟨r, 0, none⟩), .pointer (some ⟨q, 0, none⟩), .agg #[.int .i64 4, .int .i64 mo, .int .i64 le, .int .i64 co]] w (Read2 B w0 r q w.heap.size ro N rc qo qc xs 4 mo le co) := by
  obtain ⟨n, p, e, cR, cQ⟩ := text_both (r := r) (q := q) (ro := ro) (N := N) (rc := rc) (qo := qo) (qc := qc) (er := er) h.R.row.1 h.R.pos h.qcap mo hm0 hm1
  obtain ⟨ee, aa, HEN⟩ : ∃ ee aa, Hid (endS xs p e = (ee, aa)) := ⟨_, _, rfl⟩
  have MA := mid_new (wh := 4) (mo := mo) (le := le) (co := co) h hb hlo
  have M0 := MA.later (Below.refl _ _).drew
  obtain ⟨z0, z1, z2, z3, zl⟩ := MA.cells
  obtain ⟨y0, y1, y2, y3, yl⟩ := M0.cells
  have e0 : (n.toList == n.toList) = true := by simp
  have s3 : (ee == ee) = true := by simp
  have s4 : (aa == aa) = true := by simp
  clear h hb hlo
  go_enter Tryd.func23, Tryd.ntmps23
  go_wp2
  go_region_held3 (fun w' => w'.cell? ⟨w.heap.size, 1, none⟩ = some (.int .i64 mo)) (first | assumption | go_keep)
    (first
      | (go_at_call 32; (with_reducible refine (cR _ M0.P.R).mono ?_); rintro x w1 ⟨rfl, h1, o1⟩; have M1 := M0.stepR h1 o1; obtain ⟨u0, u1, u2, u3, ul⟩ := M1.cells)
      | (go_at_call 68; (with_reducible refine (cQ _ M1.P.Q).mono ?_); rintro x w2 ⟨rfl, h2, o2⟩; have M2 := M1.stepQ h2 o2; obtain ⟨v0, v1, v2, v3, vl⟩ := M2.cells)
      | (go_at_call 68; (with_reducible refine (cQ _ M0.P.Q).mono ?_); rintro x w1 ⟨rfl, h1, o1⟩; have M1' := M0.stepQ h1 o1; obtain ⟨u0, u1, u2, u3, ul⟩ := M1'.cells)
      | (go_at_call 32; (with_reducible refine (cR _ M1'.P.R).mono ?_); rintro x w2 ⟨rfl, h2, o2⟩; have M2 := M1'.stepR h2 o2; obtain ⟨v0, v1, v2, v3, vl⟩ := M2.cells))
  all_goals go_wp2_with (first
    | (go_at_call 33; refine (rend_eq2 M2.P.R HEN.out).mono ?_; rintro x w3 ⟨rfl, m3, rfl⟩)
    | (go_at_call 73; refine (qend (M2.P.Q.drewN _) ee aa HEN.out).mono ?_; rintro x w4 ⟨rfl, m4, rfl⟩))
  all_goals
    refine wp_at (fun V => Mid2 B w0 V r q w.heap.size ro N rc qo qc xs p p e e 4 mo le co) (M2.later (by first | exact below_drewN (Below.refl _ _) _ | exact below_drewN (below_drewN (Below.refl _ _) _) _)) ?_
    intro V MV
    have hlen := MV.P.R.len
    have k0 := MV.P.Q.c0
    have k1 := MV.P.Q.c1
    have hps := MV.P.R.pos
    have hlm := MV.P.R.lim
    have s2 : (((N : Int) - (p : Int)) == ((xs.length : Int) - (p : Int))) = true := by rw [hlen]; simp
    have s5 : (p : Int) ≤ xs.length := by omega
    clear hlen hps
    go_quiet (first
      | (go_at_call 74; exact Calls.quiet_of_same (rat_q MV.P.R _))
      | (go_at_call 34; exact Calls.quiet_of (rleft_any (MV.P.R.drewN _)))
      | (go_at_call 17; exact Calls.quiet_of_same (num_q _ _)))
    go_wp2
    go_ret
    exact ⟨rfl, _, _, MV.later (below_drewN (Below.refl _ _) _)⟩
set_option maxRecDepth 100000 in
set_option maxHeartbeats 4000000 in
theorem reads_count (h : Pair2 w r q ro N rc qo qc xs p0 p0 er er) (hb : Below B w0 w) (hlo : B ≤ r ∧ B ≤ q ∧ B ≤ w.heap.size) (hm0 : -9223372036854775808 ≤ mo) (hm1 : mo ≤ 9223372036854775807) (hl1 : le ≤ 9223372036854775807) :
    Calls Tryd.prog 23 #[.pointer (some ⟨r, 0, none⟩), .pointer (some ⟨q, 0, none⟩), .agg #[.int .i64 5, .int .i64 mo, .int .i64 le, .int .i64 co]] w (Read2 B w0 r q w.heap.size ro N rc qo qc xs 5 mo le co) := by
  obtain ⟨n, p, e, cR, cQ⟩ := count_both (r := r) (q := q) (ro := ro) (N := N) (rc := rc) (qo := qo) (qc := qc) (er := er) h.R.row.1 h.R.pos le mo hm0 hm1 hl1
  obtain ⟨ee, aa, HEN⟩ : ∃ ee aa, Hid (endS xs p e = (ee, aa)) := ⟨_, _, rfl⟩
  have MA := mid_new (wh := 5) (mo := mo) (le := le) (co := co) h hb hlo
  have M0 := MA.later (Below.refl _ _).drew
  obtain ⟨z0, z1, z2, z3, zl⟩ := MA.cells
  obtain ⟨y0, y1, y2, y3, yl⟩ := M0.cells
  have e0 : (n == n) = true := by simp
  have s3 : (ee == ee) = true := by simp
  have s4 : (aa == aa) = true := by simp
  clear h hb hlo
  go_enter Tryd.func23, Tryd.ntmps23
  go_wp2
  go_region_held3 (fun w' => w'.cell? ⟨w.heap.size, 1, none⟩ = some (.int .i64 mo) ∧ w'.cell? ⟨w.heap.size, 2, none⟩ = some (.int .i64 le)) (first | assumption | go_keep)
    (first
      | (go_at_call 69; (with_reducible refine (cR _ M0.P.R).mono ?_); rintro x w1 ⟨rfl, h1, o1⟩; have M1 := M0.stepR h1 o1; obtain ⟨u0, u1, u2, u3, ul⟩ := M1.cells)
      | (go_at_call 70; (with_reducible refine (cQ _ M1.P.Q).mono ?_); rintro x w2 ⟨rfl, h2, o2⟩; have M2 := M1.stepQ h2 o2; obtain ⟨v0, v1, v2, v3, vl⟩ := M2.cells)
      | (go_at_call 70; (with_reducible refine (cQ _ M0.P.Q).mono ?_); rintro x w1 ⟨rfl, h1, o1⟩; have M1' := M0.stepQ h1 o1; obtain ⟨u0, u1, u2, u3, ul⟩ := M1'.cells)
      | (go_at_call 69; (with_reducible refine (cR _ M1'.P.R).mono ?_); rintro x w2 ⟨rfl, h2, o2⟩; have M2 := M1'.stepR h2 o2; obtain ⟨v0, v1, v2, v3, vl⟩ := M2.cells))
  all_goals go_wp2_with (first
    | (go_at_call 33; refine (rend_eq2 M2.P.R HEN.out).mono ?_; rintro x w3 ⟨rfl, m3, rfl⟩)
    | (go_at_call 73; refine (qend (M2.P.Q.drewN _) ee aa HEN.out).mono ?_; rintro x w4 ⟨rfl, m4, rfl⟩))
  all_goals
    refine wp_at (fun V => Mid2 B w0 V r q w.heap.size ro N rc qo qc xs p p e e 5 mo le co) (M2.later (by first | exact below_drewN (Below.refl _ _) _ | exact below_drewN (below_drewN (Below.refl _ _) _) _)) ?_
    intro V MV
    have hlen := MV.P.R.len
    have k0 := MV.P.Q.c0
    have k1 := MV.P.Q.c1
    have hps := MV.P.R.pos
    have hlm := MV.P.R.lim
    have s2 : (((N : Int) - (p : Int)) == ((xs.length : Int) - (p : Int))) = true := by rw [hlen]; simp
    have s5 : (p : Int) ≤ xs.length := by omega
    clear hlen hps
    go_quiet (first
      | (go_at_call 74; exact Calls.quiet_of_same (rat_q MV.P.R _))
      | (go_at_call 34; exact Calls.quiet_of (rleft_any (MV.P.R.drewN _)))
      | (go_at_call 17; exact Calls.quiet_of_same (num_q _ _)))
    go_wp2
    go_ret
    exact ⟨rfl, _, _, MV.later (below_drewN (Below.refl _ _) _)⟩
set_option maxRecDepth 100000 in
set_option maxHeartbeats 4000000 in
theorem reads_other (h : Pair2 w r q ro N rc qo qc xs p0 p0 er er) (hb : Below B w0 w) (hlo : B ≤ r ∧ B ≤ q ∧ B ≤ w.heap.size) (wh : Int) (hk : wh ≠ 0 ∧ wh ≠ 1 ∧ wh ≠ 2 ∧ wh ≠ 3 ∧ wh ≠ 4 ∧ wh ≠ 5 ∧ wh ≠ 6) :
    Calls Tryd.prog 23 #[.pointer (some ⟨r, 0, none⟩), .pointer (some ⟨q, 0, none⟩), .agg #[.int .i64 wh, .int .i64 mo, .int .i64 le, .int .i64 co]] w (Read2 B w0 r q w.heap.size ro N rc qo qc xs wh mo le co) := by
  obtain ⟨ee, aa, HEN⟩ : ∃ ee aa, Hid (endS xs p0 er = (ee, aa)) := ⟨_, _, rfl⟩
  have M2 := mid_new (wh := wh) (mo := mo) (le := le) (co := co) h hb hlo
  obtain ⟨z0, z1, z2, z3, zl⟩ := M2.cells
  have k0 : (wh == 0) = false := by simp [hk.1]
  have k1 : (wh == 1) = false := by simp [hk.2.1]
  have k2 : (wh == 2) = false := by simp [hk.2.2.1]
  have k3 : (wh == 3) = false := by simp [hk.2.2.2.1]
  have k4 : (wh == 4) = false := by simp [hk.2.2.2.2.1]
  have k5 : (wh == 5) = false := by simp [hk.2.2.2.2.2.1]
  have k6 : (wh == 6) = false := by simp [hk.2.2.2.2.2.2]
  have s3 : (ee == ee) = true := by simp
  have s4 : (aa == aa) = true := by simp
  clear h hb hlo hk
  go_enter Tryd.func23, Tryd.ntmps23
  go_wp2_with (first
    | (go_at_call 33; refine (rend_eq2 M2.P.R HEN.out).mono ?_; rintro x w3 ⟨rfl, m3, rfl⟩)
    | (go_at_call 73; refine (qend (M2.P.Q.drewN _) ee aa HEN.out).mono ?_; rintro x w4 ⟨rfl, m4, rfl⟩))
  refine wp_at (fun V => Mid2 B w0 V r q w.heap.size ro N rc qo qc xs p0 p0 er er wh mo le co) (M2.later (by first | exact below_drewN (Below.refl _ _) _ | exact below_drewN (below_drewN (Below.refl _ _) _) _)) ?_
  intro V MV
  have hlen := MV.P.R.len
  have kk0 := MV.P.Q.c0
  have kk1 := MV.P.Q.c1
  have hps := MV.P.R.pos
  have hlm := MV.P.R.lim
  have s2 : (((N : Int) - (p0 : Int)) == ((xs.length : Int) - (p0 : Int))) = true := by rw [hlen]; simp
  have s5 : (p0 : Int) ≤ xs.length := by omega
  clear hlen hps
  go_quiet (first
    | (go_at_call 74; exact Calls.quiet_of_same (rat_q MV.P.R _))
    | (go_at_call 34; exact Calls.quiet_of (rleft_any (MV.P.R.drewN _)))
    | (go_at_call 17; exact Calls.quiet_of_same (num_q _ _)))
  go_wp2
  go_ret
  exact ⟨rfl, _, _, MV.later (below_drewN (Below.refl _ _) _)⟩
theorem reads_any (h : Pair2 w r q ro N rc qo qc xs p0 p0 er er) (hb : Below B w0 w) (hlo : B ≤ r ∧ B ≤ q ∧ B ≤ w.heap.size) (wh : Int) (hm0 : -9223372036854775808 ≤ mo) (hm1 : mo ≤ 9223372036854775807) (hl1 : le ≤ 9223372036854775807) :
    Calls Tryd.prog 23 #[.pointer (some ⟨r, 0, none⟩), .pointer (some ⟨q, 0, none⟩), .agg #[.int .i64 wh, .int .i64 mo, .int .i64 le, .int .i64 co]] w (Read2 B w0 r q w.heap.size ro N rc qo qc xs wh mo le co) := by
  by_cases h0 : wh = 0
  · subst h0; exact reads_number h hb hlo
  by_cases h1 : wh = 1
  · subst h1
    by_cases hn : mo < 0
    · exact reads_int_neg h hb hlo hn
    · exact reads_int h hb hlo (by omega) hm1
  by_cases h2 : wh = 2
  · subst h2; exact reads_signed h hb hlo hm0 hm1
  by_cases h3 : wh = 3
  · subst h3; exact reads_flag h hb hlo
  by_cases h4 : wh = 4
  · subst h4; exact reads_text h hb hlo hm0 hm1
  by_cases h5 : wh = 5
  · subst h5; exact reads_count h hb hlo hm0 hm1 hl1
  by_cases h6 : wh = 6
  · subst h6; exact reads_fail h hb hlo
  exact reads_other h hb hlo wh ⟨h0, h1, h2, h3, h4, h5, h6⟩
end
end Go.Proofs.YtgaoahifblifoaaDoor
