import Derived.Test.YtgaoahifblifoaaDoorReads1
namespace Go.Proofs.YtgaoahifblifoaaDoor
set_option linter.unusedVariables false
open Go.RowKit

section
variable {B : Nat} {w0 w : World} {r q : Nat} {ro : Option Addr} {N rc : Nat} {qo : Option Addr} {qc : Nat} {xs : List Int} {p0 : Nat} {er : Int} {mo le co : Int}
theorem takeS_bd (hb : isBytes xs) (pos : Nat) (hpos : pos ≤ xs.length) (err most n e : Int) (p : Nat) (hm : 0 ≤ most) (h : takeS xs pos err most = (n, p, e)) : 0 ≤ n ∧ n ≤ most := by
  rw [takeS] at h
  split at h
  · simp at h; omega
  · obtain ⟨a, b, c, hk⟩ : ∃ a b c, peekS xs pos most = (a, b, c) := ⟨_, _, _, rfl⟩
    have hf := peekS_facts xs hb pos hpos most a b c hk
    rw [hk] at h
    split at h
    · simp at h; omega
    · rename_i hz
      simp at h hz
      have := hf.2 hz
      omega
set_option maxRecDepth 100000 in
set_option maxHeartbeats 4000000 in
theorem reads_int (h : Pair2 w r q ro N rc qo qc xs p0 p0 er er) (hb : Below B w0 w) (hlo : B ≤ r ∧ B ≤ q ∧ B ≤ w.heap.size) (hm0 : 0 ≤ mo) (hm1 : mo ≤ 9223372036854775807) :
    Calls Tryd.prog 23 #[.pointer (some ⟨r, 0, none⟩), .pointer (some ⟨q, 0, none⟩), .agg #[.int .i64 1, .int .i64 mo, .int .i64 le, .int .i64 co]] w (Read2 B w0 r q w.heap.size ro N rc qo qc xs 1 mo le co) := by
  obtain ⟨n, p, e, HT⟩ : ∃ n p e, Hid (takeS xs p0 er mo = (n, p, e)) := ⟨_, _, _, rfl⟩
  obtain ⟨n0, n1⟩ := takeS_bd h.R.row.1 p0 h.R.pos er mo n e p hm0 HT.out
  have n2 : n ≤ 9223372036854775807 := by omega
  obtain ⟨ee, aa, HEN⟩ : ∃ ee aa, Hid (endS xs p e = (ee, aa)) := ⟨_, _, rfl⟩
  have MA := mid_new (wh := 1) (mo := mo) (le := le) (co := co) h hb hlo
  have M0 := MA.later (Below.refl _ _).drew
  obtain ⟨z0, z1, z2, z3, zl⟩ := MA.cells
  obtain ⟨y0, y1, y2, y3, yl⟩ := M0.cells
  have e0 : (n == n) = true := by simp
  have s3 : (ee == ee) = true := by simp
  have s4 : (aa == aa) = true := by simp
  clear h hb hlo
  go_enter Tryd.func23, Tryd.ntmps23
  go_wp2
  go_region_held3 (fun w' => w'.cell? ⟨w.heap.size, 1, none⟩ = some (.int .i64 mo)) (first | assumption | go_keep)
    (first
      | (go_at_call 30; (with_reducible refine (rint_any mo M0.P.R hm0 hm1 n p e HT.out n0 n2).mono ?_); rintro x w1 ⟨rfl, h1, o1⟩; have M1 := M0.stepR h1 o1; obtain ⟨u0, u1, u2, u3, ul⟩ := M1.cells)
      | (go_at_call 64; (with_reducible refine (qint mo M1.P.Q hm0 hm1 n p e HT.out n0 n2).mono ?_); rintro x w2 ⟨rfl, h2, o2⟩; have M2 := M1.stepQ h2 o2; obtain ⟨v0, v1, v2, v3, vl⟩ := M2.cells)
      | (go_at_call 64; (with_reducible refine (qint mo M0.P.Q hm0 hm1 n p e HT.out n0 n2).mono ?_); rintro x w1 ⟨rfl, h1, o1⟩; have M1' := M0.stepQ h1 o1; obtain ⟨u0, u1, u2, u3, ul⟩ := M1'.cells)
      | (go_at_call 30; (with_reducible refine (rint_any mo M1'.P.R hm0 hm1 n p e HT.out n0 n2).mono ?_); rintro x w2 ⟨rfl, h2, o2⟩; have M2 := M1'.stepR h2 o2; obtain ⟨v0, v1, v2, v3, vl⟩ := M2.cells))
  all_goals go_wp2_with (first
    | (go_at_call 33; refine (rend_eq2 M2.P.R HEN.out).mono ?_; rintro x w3 ⟨rfl, m3, rfl⟩)
    | (go_at_call 73; refine (qend (M2.P.Q.drewN _) ee aa HEN.out).mono ?_; rintro x w4 ⟨rfl, m4, rfl⟩))
  all_goals
    refine wp_at (fun V => Mid2 B w0 V r q w.heap.size ro N rc qo qc xs p p e e 1 mo le co) (M2.later (by first | exact below_drewN (Below.refl _ _) _ | exact below_drewN (below_drewN (Below.refl _ _) _) _)) ?_
    intro V MV
    have hlen := MV.P.R.len
    have k0 := MV.P.Q.c0
    have k1 := MV.P.Q.c1
    have hps := MV.P.R.pos
    have hlm := MV.P.R.lim
    have s2 : (((N : Int) - (p : Int)) == ((xs.length : Int) - (p : Int))) = true := by rw [hlen]; simp
    have s5 : (p : Int) ≤ xs.length := by omega
    clear hlen hps
    go_quiet (first
      | (go_at_call 74; exact Calls.quiet_of_same (rat_q MV.P.R _))
      | (go_at_call 34; exact Calls.quiet_of (rleft_any (MV.P.R.drewN _)))
      | (go_at_call 17; exact Calls.quiet_of_same (num_q _ _)))
    go_wp2
    go_ret
    exact ⟨rfl, _, _, MV.later (below_drewN (Below.refl _ _) _)⟩
set_option maxRecDepth 100000 in
set_option maxHeartbeats 4000000 in
theorem reads_int_neg (h : Pair2 w r q ro N rc qo qc xs p0 p0 er er) (hb : Below B w0 w) (hlo : B ≤ r ∧ B ≤ q ∧ B ≤ w.heap.size) (hm0 : mo < 0) :
    Calls Tryd.prog 23 #[.pointer (some ⟨r, 0, none⟩), .pointer (some ⟨q, 0, none⟩), .agg #[.int .i64 1, .int .i64 mo, .int .i64 le, .int .i64 co]] w (Read2 B w0 r q w.heap.size ro N rc qo qc xs 1 mo le co) := by
  obtain ⟨e, HT⟩ : ∃ e, Hid (e = if er = 0 then 1 else er) := ⟨_, rfl⟩
  obtain ⟨ee, aa, HEN⟩ : ∃ ee aa, Hid (endS xs p0 e = (ee, aa)) := ⟨_, _, rfl⟩
  have MA := mid_new (wh := 1) (mo := mo) (le := le) (co := co) h hb hlo
  have M0 := MA.later (Below.refl _ _).drew
  obtain ⟨z0, z1, z2, z3, zl⟩ := MA.cells
  obtain ⟨y0, y1, y2, y3, yl⟩ := M0.cells
  have s3 : (ee == ee) = true := by simp
  have s4 : (aa == aa) = true := by simp
  clear h hb hlo
  go_enter Tryd.func23, Tryd.ntmps23
  go_wp2
  go_region_held3 (fun w' => w'.cell? ⟨w.heap.size, 1, none⟩ = some (.int .i64 mo)) (first | assumption | go_keep)
    (first
      | (go_at_call 30; (with_reducible refine (rint_neg mo M0.P.R hm0 e HT.out).mono ?_); rintro x w1 ⟨rfl, h1, o1⟩; have M1 := M0.stepR h1 o1; obtain ⟨u0, u1, u2, u3, ul⟩ := M1.cells)
      | (go_at_call 64; (with_reducible refine (qint_neg mo M1.P.Q hm0 e HT.out).mono ?_); rintro x w2 ⟨rfl, h2, o2⟩; have M2 := M1.stepQ h2 o2; obtain ⟨v0, v1, v2, v3, vl⟩ := M2.cells)
      | (go_at_call 64; (with_reducible refine (qint_neg mo M0.P.Q hm0 e HT.out).mono ?_); rintro x w1 ⟨rfl, h1, o1⟩; have M1' := M0.stepQ h1 o1; obtain ⟨u0, u1, u2, u3, ul⟩ := M1'.cells)
      | (go_at_call 30; (with_reducible refine (rint_neg mo M1'.P.R hm0 e HT.out).mono ?_); rintro x w2 ⟨rfl, h2, o2⟩; have M2 := M1'.stepR h2 o2; obtain ⟨v0, v1, v2, v3, vl⟩ := M2.cells))
  all_goals go_wp2_with (first
    | (go_at_call 33; refine (rend_eq2 M2.P.R HEN.out).mono ?_; rintro x w3 ⟨rfl, m3, rfl⟩)
    | (go_at_call 73; refine (qend (M2.P.Q.drewN _) ee aa HEN.out).mono ?_; rintro x w4 ⟨rfl, m4, rfl⟩))
  all_goals
    refine wp_at (fun V => Mid2 B w0 V r q w.heap.size ro N rc qo qc xs p0 p0 e e 1 mo le co) (M2.later (by first | exact below_drewN (Below.refl _ _) _ | exact below_drewN (below_drewN (Below.refl _ _) _) _)) ?_
    intro V MV
    have hlen := MV.P.R.len
    have k0 := MV.P.Q.c0
    have k1 := MV.P.Q.c1
    have hps := MV.P.R.pos
    have hlm := MV.P.R.lim
    have s2 : (((N : Int) - (p0 : Int)) == ((xs.length : Int) - (p0 : Int))) = true := by rw [hlen]; simp
    have s5 : (p0 : Int) ≤ xs.length := by omega
    clear hlen hps
    go_quiet (first
      | (go_at_call 74; exact Calls.quiet_of_same (rat_q MV.P.R _))
      | (go_at_call 34; exact Calls.quiet_of (rleft_any (MV.P.R.drewN _)))
      | (go_at_call 17; exact Calls.quiet_of_same (num_q _ _)))
    go_wp2
    go_ret
    exact ⟨rfl, _, _, MV.later (below_drewN (Below.refl _ _) _)⟩
end
end Go.Proofs.YtgaoahifblifoaaDoor
