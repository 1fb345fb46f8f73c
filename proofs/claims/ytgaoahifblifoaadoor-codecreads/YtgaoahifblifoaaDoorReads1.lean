import Derived.Test.YtgaoahifblifoaaDoorReads0
namespace Go.Proofs.YtgaoahifblifoaaDoor
set_option linter.unusedVariables false
open Go.RowKit

theorem rend_eq2 {w : World} {r : Nat} {ao : Option Addr} {N cap : Nat} {xs : List Int} {pos : Nat} {err ee aa : Int} (h : RInv w r ao N cap xs pos err) (he : endS xs pos err = (ee, aa)) :
    Calls Tryd.prog 33 #[.pointer (some ⟨r, 0, none⟩)] w fun x w' => x = .returned (.tuple #[.int .i64 ee, .int .i64 aa]) ∧ ∃ n, w' = w.drewN n := by
  have := rend_any h
  rw [he] at this
  exact this
theorem rat_q {w : World} {r : Nat} {ao : Option Addr} {N cap : Nat} {xs : List Int} {pos : Nat} {err : Int} (h : RInv w r ao N cap xs pos err) (m : Nat) : Calls Tryd.prog 74 #[.pointer (some ⟨r, 0, none⟩)] (w.drewN m) fun e w' => e = .returned (.int .i64 pos) ∧ w' = w.drewN m :=
  (rat_any (h.drewN m)).mono fun _ _ ⟨a, b⟩ => ⟨a, b.symm⟩
theorem num_q (x : Int) (w : World) : Calls Tryd.prog 17 #[.int .i64 x] w fun e w' => e = .returned (.int .i64 x) ∧ w' = w := (num_any x w).mono fun _ _ ⟨a, b⟩ => ⟨a, b.symm⟩
/-- What one reading by both leaves. -/
def Read2 (B : Nat) (w0 : World) (r q z : Nat) (ro : Option Addr) (N rc : Nat) (qo : Option Addr) (qc : Nat) (xs : List Int) (wh mo le co : Int) (x : Ending) (w' : World) : Prop :=
  x = .returned (.bool true) ∧ ∃ p e, Mid2 B w0 w' r q z ro N rc qo qc xs p p e e wh mo le co
section
variable {B : Nat} {w0 w : World} {r q : Nat} {ro : Option Addr} {N rc : Nat} {qo : Option Addr} {qc : Nat} {xs : List Int} {p0 : Nat} {er : Int} {mo le co : Int}
theorem mid_new {wh : Int} (h : Pair2 w r q ro N rc qo qc xs p0 p0 er er) (hb : Below B w0 w) (hlo : B ≤ r ∧ B ≤ q ∧ B ≤ w.heap.size) : Mid2 B w0 (w.alloc (.cells #[.int .i64 wh, .int .i64 mo, .int .i64 le, .int .i64 co] 68)) r q w.heap.size ro N rc qo qc xs p0 p0 er er wh mo le co :=
  ⟨h.later (below_alloc w _), heap_alloc_new w _, hb.alloc hlo.2.2 _, ⟨hlo.1, hlo.2.1, by simp; omega⟩⟩
set_option maxRecDepth 100000 in
set_option maxHeartbeats 4000000 in
theorem reads_number (h : Pair2 w r q ro N rc qo qc xs p0 p0 er er) (hb : Below B w0 w) (hlo : B ≤ r ∧ B ≤ q ∧ B ≤ w.heap.size) :
    Calls Tryd.prog 23 #[.pointer (some ⟨r, 0, none⟩), .pointer (some ⟨q, 0, none⟩), .agg #[.int .i64 0, .int .i64 mo, .int .i64 le, .int .i64 co]] w (Read2 B w0 r q w.heap.size ro N rc qo qc xs 0 mo le co) := by
  obtain ⟨n, p, e, HT⟩ : ∃ n p e, Hid (takeS xs p0 er 18446744073709551615 = (n, p, e)) := ⟨_, _, _, rfl⟩
  obtain ⟨ee, aa, HEN⟩ : ∃ ee aa, Hid (endS xs p e = (ee, aa)) := ⟨_, _, rfl⟩
  have M0 := mid_new (wh := 0) (mo := mo) (le := le) (co := co) h hb hlo
  obtain ⟨z0, z1, z2, z3, zl⟩ := M0.cells
  have e0 : (n == n) = true := by simp
  have s3 : (ee == ee) = true := by simp
  have s4 : (aa == aa) = true := by simp
  clear h hb hlo
  go_enter Tryd.func23, Tryd.ntmps23
  go_wp2_with (first
    | (go_at_call 29; refine (rnumber_any M0.P.R n p e HT.out).mono ?_; rintro x w1 ⟨rfl, h1, o1⟩; have M1 := M0.stepR h1 o1)
    | (go_at_call 63; refine (qnumber M1.P.Q n p e HT.out).mono ?_; rintro x w2 ⟨rfl, h2, o2⟩; have M2 := M1.stepQ h2 o2)
    | (go_at_call 33; refine (rend_eq2 M2.P.R HEN.out).mono ?_; rintro x w3 ⟨rfl, m3, rfl⟩)
    | (go_at_call 73; refine (qend (M2.P.Q.drewN _) ee aa HEN.out).mono ?_; rintro x w4 ⟨rfl, m4, rfl⟩))
  refine wp_at (fun V => Mid2 B w0 V r q w.heap.size ro N rc qo qc xs p p e e 0 mo le co) (M2.later (by first | exact below_drewN (Below.refl _ _) _ | exact below_drewN (below_drewN (Below.refl _ _) _) _)) ?_
  intro V MV
  have hlen := MV.P.R.len
  have k0 := MV.P.Q.c0
  have k1 := MV.P.Q.c1
  have hps := MV.P.R.pos
  have hlm := MV.P.R.lim
  have s2 : (((N : Int) - (p : Int)) == ((xs.length : Int) - (p : Int))) = true := by rw [hlen]; simp
  have s5 : (p : Int) ≤ xs.length := by omega
  clear hlen hps
  go_quiet (first
    | (go_at_call 74; exact Calls.quiet_of_same (rat_q MV.P.R _))
    | (go_at_call 34; exact Calls.quiet_of (rleft_any (MV.P.R.drewN _)))
    | (go_at_call 17; exact Calls.quiet_of_same (num_q _ _)))
  go_wp2
  go_ret
  exact ⟨rfl, _, _, MV.later (below_drewN (Below.refl _ _) _)⟩
set_option maxRecDepth 100000 in
set_option maxHeartbeats 4000000 in
theorem reads_flag (h : Pair2 w r q ro N rc qo qc xs p0 p0 er er) (hb : Below B w0 w) (hlo : B ≤ r ∧ B ≤ q ∧ B ≤ w.heap.size) :
    Calls Tryd.prog 23 #[.pointer (some ⟨r, 0, none⟩), .pointer (some ⟨q, 0, none⟩), .agg #[.int .i64 3, .int .i64 mo, .int .i64 le, .int .i64 co]] w (Read2 B w0 r q w.heap.size ro N rc qo qc xs 3 mo le co) := by
  obtain ⟨n, p, e, HT⟩ : ∃ n p e, Hid (takeS xs p0 er 1 = (n, p, e)) := ⟨_, _, _, rfl⟩
  obtain ⟨ee, aa, HEN⟩ : ∃ ee aa, Hid (endS xs p e = (ee, aa)) := ⟨_, _, rfl⟩
  have M0 := mid_new (wh := 3) (mo := mo) (le := le) (co := co) h hb hlo
  obtain ⟨z0, z1, z2, z3, zl⟩ := M0.cells
  have e0 : ((n == 1) == (n == 1)) = true := by simp
  have s3 : (ee == ee) = true := by simp
  have s4 : (aa == aa) = true := by simp
  clear h hb hlo
  go_enter Tryd.func23, Tryd.ntmps23
  go_wp2_with (first
    | (go_at_call 66; refine (rflag M0.P.R n p e HT.out).mono ?_; rintro x w1 ⟨rfl, h1, o1⟩; have M1 := M0.stepR h1 o1)
    | (go_at_call 67; refine (qflag M1.P.Q n p e HT.out).mono ?_; rintro x w2 ⟨rfl, h2, o2⟩; have M2 := M1.stepQ h2 o2)
    | (go_at_call 33; refine (rend_eq2 M2.P.R HEN.out).mono ?_; rintro x w3 ⟨rfl, m3, rfl⟩)
    | (go_at_call 73; refine (qend (M2.P.Q.drewN _) ee aa HEN.out).mono ?_; rintro x w4 ⟨rfl, m4, rfl⟩))
  refine wp_at (fun V => Mid2 B w0 V r q w.heap.size ro N rc qo qc xs p p e e 3 mo le co) (M2.later (by first | exact below_drewN (Below.refl _ _) _ | exact below_drewN (below_drewN (Below.refl _ _) _) _)) ?_
  intro V MV
  have hlen := MV.P.R.len
  have k0 := MV.P.Q.c0
  have k1 := MV.P.Q.c1
  have hps := MV.P.R.pos
  have hlm := MV.P.R.lim
  have s2 : (((N : Int) - (p : Int)) == ((xs.length : Int) - (p : Int))) = true := by rw [hlen]; simp
  have s5 : (p : Int) ≤ xs.length := by omega
  clear hlen hps
  go_quiet (first
    | (go_at_call 74; exact Calls.quiet_of_same (rat_q MV.P.R _))
    | (go_at_call 34; exact Calls.quiet_of (rleft_any (MV.P.R.drewN _)))
    | (go_at_call 17; exact Calls.quiet_of_same (num_q _ _)))
  go_wp2
  go_ret
  exact ⟨rfl, _, _, MV.later (below_drewN (Below.refl _ _) _)⟩
set_option maxRecDepth 100000 in
set_option maxHeartbeats 4000000 in
theorem reads_fail (h : Pair2 w r q ro N rc qo qc xs p0 p0 er er) (hb : Below B w0 w) (hlo : B ≤ r ∧ B ≤ q ∧ B ≤ w.heap.size) :
    Calls Tryd.prog 23 #[.pointer (some ⟨r, 0, none⟩), .pointer (some ⟨q, 0, none⟩), .agg #[.int .i64 6, .int .i64 mo, .int .i64 le, .int .i64 co]] w (Read2 B w0 r q w.heap.size ro N rc qo qc xs 6 mo le co) := by
  obtain ⟨e, HT⟩ : ∃ e, Hid (e = if er = 0 then co else er) := ⟨_, rfl⟩
  obtain ⟨ee, aa, HEN⟩ : ∃ ee aa, Hid (endS xs p0 e = (ee, aa)) := ⟨_, _, rfl⟩
  have M0 := mid_new (wh := 6) (mo := mo) (le := le) (co := co) h hb hlo
  obtain ⟨z0, z1, z2, z3, zl⟩ := M0.cells
  have s3 : (ee == ee) = true := by simp
  have s4 : (aa == aa) = true := by simp
  clear h hb hlo
  go_enter Tryd.func23, Tryd.ntmps23
  go_wp2_with (first
    | (go_at_call 71; refine (rfail M0.P.R co e HT.out).mono ?_; rintro x w1 ⟨rfl, h1, o1⟩; have M1 := M0.stepR h1 o1; obtain ⟨y0, y1, y2, y3, yl⟩ := M1.cells)
    | (go_at_call 72; refine (qfailE co M1.P.Q e HT.out).mono ?_; rintro x w2 ⟨rfl, h2, o2⟩; have M2 := M1.stepQ h2 o2)
    | (go_at_call 33; refine (rend_eq2 M2.P.R HEN.out).mono ?_; rintro x w3 ⟨rfl, m3, rfl⟩)
    | (go_at_call 73; refine (qend (M2.P.Q.drewN _) ee aa HEN.out).mono ?_; rintro x w4 ⟨rfl, m4, rfl⟩))
  refine wp_at (fun V => Mid2 B w0 V r q w.heap.size ro N rc qo qc xs p0 p0 e e 6 mo le co) (M2.later (by first | exact below_drewN (Below.refl _ _) _ | exact below_drewN (below_drewN (Below.refl _ _) _) _)) ?_
  intro V MV
  have hlen := MV.P.R.len
  have k0 := MV.P.Q.c0
  have k1 := MV.P.Q.c1
  have hps := MV.P.R.pos
  have hlm := MV.P.R.lim
  have s2 : (((N : Int) - (p0 : Int)) == ((xs.length : Int) - (p0 : Int))) = true := by rw [hlen]; simp
  have s5 : (p0 : Int) ≤ xs.length := by omega
  clear hlen hps
  go_quiet (first
    | (go_at_call 74; exact Calls.quiet_of_same (rat_q MV.P.R _))
    | (go_at_call 34; exact Calls.quiet_of (rleft_any (MV.P.R.drewN _)))
    | (go_at_call 17; exact Calls.quiet_of_same (num_q _ _)))
  go_wp2
  go_ret
  exact ⟨rfl, _, _, MV.later (below_drewN (Below.refl _ _) _)⟩
end
end Go.Proofs.YtgaoahifblifoaaDoor
