import Derived.Test.YteciabdjkaackaaGreatPTCm
import Derived.Test.YteciabdjkaackaaGreatPGCheckCToGCheckD
namespace Go.Proofs.YteciabdjkaackaaGreat
set_option linter.unusedVariables false
open Go.RowKit
theorem kst_leave {w0 : World} {g : GV} {p0 q0 : Nat} {t0 : TV} {b : Nat} {D R2 : List EV} {p q : Nat} {t : TV} {w : World} (h : KSt w0 g p0 q0 t0 b D w) (hD : D ++ ⟨false, p, q, t⟩ :: R2 = evT p0 q0 t0) : KSt w0 g p0 q0 t0 b (D ++ [⟨false, p, q, t⟩]) w := by
 obtain ⟨R, P, v, a1, a2, a3, a4, a4', a5, a6, a7⟩ := h.th
 have e : R = ⟨false, p, q, t⟩ :: R2 := List.append_cancel_left (a1.trans hD.symm)
 have hE : enE (D ++ [⟨false, p, q, t⟩]) = enE D := by rw [enE_app, enE_out, List.append_nil]
 rw [e, <- List.singleton_append, enE_app, enE_out, List.nil_append] at a2
 exact ⟨h.bel, h.yn, h.gb, h.eb, by rw [hE]; exact h.pb, R2, P, v, by rw [<- hD]; simp, a2, a3, a4, by rw [hE]; exact a4', by rw [hE]; exact a5, a6, a7⟩
theorem kst_end {w0 : World} {g : GV} {p0 q0 : Nat} {t0 : TV} {b : Nat} {w : World} (h : KSt w0 g p0 q0 t0 b (evT p0 q0 t0) w) : KFn w0 g t0 b w := by
 obtain ⟨R, P, v, a1, a2, a3, a4, a4', a5, a6, a7⟩ := h.th
 have e : R = [] := by
  have := congrArg List.length a1
  rw [List.length_append] at this
  exact List.eq_nil_of_length_eq_zero (by omega)
 have hP : P = [] := by
  rw [e] at a2
  cases P with
  | nil => rfl
  | cons x P =>
   rw [List.flatMap_cons, preT_eq] at a2
   simp [enE] at a2
 rw [hP] at a5
 exact ⟨h.bel, 0, _, a5.symm, h.eb, h.pb⟩
set_option linter.unusedSimpArgs false in
set_option maxRecDepth 100000 in
set_option maxHeartbeats 4000000 in
theorem check_W (g : GV) (p0 q0 : Nat) (t : TV) (w : World) (hg : GAt 140737488355328 w g) (hb : TBx w p0 q0 t) (ht : TAt w t) (hsz : szT t <= 100000000) : Calls Tryz.prog 80 #[g.val, .pointer (some ⟨p0, q0, none⟩)] w fun e w' => e = .returned (.tuple #[.int .i64 (runU g (ckT g (0, 0) false t) 0).1, .int .i64 ((runU g (ckT g (0, 0) false t) 0).2 : Int)]) /\ Below w.heap.size w w' := by
 have S0 : Hid (KSt w g p0 q0 t w.heap.size [] ((((w.alloc (gBox g)).alloc (eBox 0)).alloc (iBox 0)).alloc (.cells #[.slice none 0 0] 100))) := by
  have k : ∀ (j : Nat) (o o' : Obj) (v : World), v.heap[j]? = some o -> (v.alloc o').heap[j]? = some o := fun j o o' v h => ((below_alloc v o').block j (lt_of_block h)).trans h
  have e : ∀ (v : World) (o : Obj), (v.alloc o).heap.size = v.heap.size + 1 := fun v o => by simp
  have bl : ∀ (v : World) (o : Obj), Below w.heap.size w v -> Below w.heap.size w (v.alloc o) := fun v o h => h.trans ((below_alloc v o).mono h.size)
  refine ⟨bl _ _ (bl _ _ (bl _ _ (bl _ _ (Below.refl _ _)))), Nat.le_refl _, k _ _ _ _ (k _ _ _ _ (k _ _ _ _ (heap_alloc_new _ _))), ?_, ?_, evT p0 q0 t, [⟨t, 0, (0, 0), false⟩], .slice none 0 0, rfl, ?_, ?_, ?_, ?_, ?_, ?_, ?_⟩
  ·have := heap_alloc_new (w.alloc (gBox g)) (eBox 0)
   rw [e] at this
   exact k _ _ _ _ (k _ _ _ _ this)
  ·have := heap_alloc_new ((w.alloc (gBox g)).alloc (eBox 0)) (iBox 0)
   rw [e, e] at this
   exact k _ _ _ _ this
  ·rw [ev_pre]; simp
  ·intro x hx
   simp only [List.mem_cons, List.not_mem_nil, or_false] at hx
   rw [hx]
  ·intro x hx
   simp at hx
  ·intro x hx
   simp only [List.head?_cons, Option.mem_def, Option.some.injEq] at hx
   rw [<- hx]
   rfl
  ·unfold ckP
   simp [enE]
  ·have := heap_alloc_new (((w.alloc (gBox g)).alloc (eBox 0)).alloc (iBox 0)) (.cells #[.slice none 0 0] 100)
   rw [e, e, e] at this
   exact this
  ·exact World.ownsRow_nil _ _ _ _
 have CW : Hid (∀ w1, KSt w g p0 q0 t w.heap.size [] w1 -> Calls Tryz.prog 44 #[.pointer (some ⟨p0, q0, none⟩), fnV 103 #[.pointer (some ⟨w.heap.size, 0, none⟩), .pointer (some ⟨w.heap.size + 1, 0, none⟩), .pointer (some ⟨w.heap.size + 1 + 1, 0, none⟩), .pointer (some ⟨w.heap.size + 1 + 1 + 1, 0, none⟩)]] w1 fun e w' => e = .returned (.tuple #[]) /\ Below w.heap.size w w' /\ w'.cell? ⟨w.heap.size + 1, 0, none⟩ = some (.int .i64 (runU g (ckT g (0, 0) false t) 0).1) /\ w'.cell? ⟨w.heap.size + 1 + 1, 0, none⟩ = some (.int .i64 ((runU g (ckT g (0, 0) false t) 0).2 : Int))) := fun w1 h1 => by
  refine (walk_R (St := KSt w g p0 q0 t w.heap.size) (Fin := KFn w g t w.heap.size) ⟨ent_check1, hb, ht, hsz, fun D w w' h hn => h.still hn, fun D w h => h.bel, fun D p q t' R hD hT w1 h1 => ?_, fun D p q t' R w1 hD h1 => kst_leave h1 hD⟩ _ h1).mono ?_
  ·exact check1_W w g p0 q0 t w.heap.size D R p q t' w1 h1 hD hT hg hsz
  ·rintro e w' ⟨e1, e2⟩
   have hf : KFn w g t w.heap.size w' := by
    rcases e2 with e2 | e2
    ·exact kst_end e2
    ·exact e2
   obtain ⟨er, n, a1, a2, a3⟩ := hf.fa
   rw [a1]
   exact ⟨e1, hf.bel, (cellq_any a2).trans rfl, (cellq_any a3).trans rfl⟩
 clear hg hb ht hsz
 generalize (runU g (ckT g (0, 0) false t) 0).1 = er at *
 generalize ((runU g (ckT g (0, 0) false t) 0).2 : Int) = n at *
 go_enter Tryz.func80, Tryz.ntmps80
 go_upto_region 3 with fail
 refine wp_world (fun w' => KSt w g p0 q0 t w.heap.size [] w') S0.out fun w1 h1 => ?_
 have H1 : Hid (KSt w g p0 q0 t w.heap.size [] w1) := h1
 clear h1 S0
 go_wp2_with (go_at_call 44; refine (CW.out _ H1.out).mono ?_; rintro e w2 ⟨rfl, b2, c1, c2⟩; have R : Hid (Below w.heap.size w w2) := b2; clear b2)
 go_quiet (fail)
 go_wp2
 refine bodyPost_ret (results_tmp2 rfl _ _ _) rfl ?_
 exact ⟨rfl, R.out.trans ((below_drewN (Below.refl _ _) _).mono R.out.size)⟩
set_option linter.unusedSimpArgs false in
set_option maxRecDepth 100000 in
set_option maxHeartbeats 4000000 in
theorem Check_W (g : GV) (t : TV) (w : World) (h : GAt 140737488355328 w g) (hpc : g.ps.length <= g.pc) (er at_ : Int) (hE : checkG g (checkF g.ts g.ns) = (er, at_)) (ht : TAt w t) (hsz : szT t <= 100000000) : Calls Tryz.prog 62 #[g.val, t.val] w fun e w' => e = .returned (.tuple #[.int .i64 (if er = 0 then (runU g (ckT g (0, 0) false t) 0).1 else er), .int .i64 (if er = 0 then ((runU g (ckT g (0, 0) false t) 0).2 : Int) else 0)]) /\ Below w.heap.size w w' := by
 have X0 : Hid (Below w.heap.size w ((w.alloc (gBox g)).alloc (tBox t)) /\ ((w.alloc (gBox g)).alloc (tBox t)).heap[w.heap.size]? = some (gBox g) /\ ((w.alloc (gBox g)).alloc (tBox t)).heap[w.heap.size + 1]? = some (tBox t)) := by
  have h1 := below_alloc w (gBox g)
  have h2 := below_alloc (w.alloc (gBox g)) (tBox t)
  refine ⟨h1.trans (h2.mono h1.size), (h2.block _ (by simp)).trans (heap_alloc_new _ _), ?_⟩
  have := heap_alloc_new (w.alloc (gBox g)) (tBox t)
  rwa [show (w.alloc (gBox g)).heap.size = w.heap.size + 1 by simp] at this
 have CK : Hid (∀ w', Below w.heap.size w w' -> Calls Tryz.prog 79 #[g.val] w' fun e w'' => e = .returned (.tuple #[.int .i64 er, .int .i64 at_]) /\ Below w'.heap.size w' w'') := fun w' hb => check_G g w' (h.later hb) hpc er at_ hE
 have CC : Hid (∀ w', Below w.heap.size w w' -> w'.heap[w.heap.size + 1]? = some (tBox t) -> Calls Tryz.prog 80 #[g.val, .pointer (some ⟨w.heap.size + 1, 0, none⟩)] w' fun e w'' => e = .returned (.tuple #[.int .i64 (runU g (ckT g (0, 0) false t) 0).1, .int .i64 ((runU g (ckT g (0, 0) false t) 0).2 : Int)]) /\ Below w'.heap.size w' w'') := fun w' hb hx => by
  obtain ⟨a0, a1, a2, a3⟩ := tb_cells hx
  exact check_W g _ 0 t w' (h.later hb) ⟨lt_of_block hx, a0, a1, a2, a3⟩ (ht.later hb) hsz
 clear h hE ht hsz
 generalize (runU g (ckT g (0, 0) false t) 0).1 = e1 at *
 generalize ((runU g (ckT g (0, 0) false t) 0).2 : Int) = n1 at *
 obtain ⟨x0, x1, x2, x3, x4⟩ := gbx_cells X0.out.2.1
 by_cases h0 : er = 0
 ·subst h0
  rw [if_pos rfl, if_pos rfl]
  have t1 : ((0 : Int) != 0) = false := by decide
  go_enter Tryz.func62, Tryz.ntmps62
  go_wp2_with (first
   | (go_at_call 79; refine (CK.out _ X0.out.1).mono ?_; rintro e w2 ⟨rfl, b2⟩; have B2 : Hid (Below w.heap.size w w2 /\ w2.heap[w.heap.size]? = some (gBox g) /\ w2.heap[w.heap.size + 1]? = some (tBox t)) := ⟨X0.out.1.trans (b2.mono X0.out.1.size), (b2.block _ (lt_of_block X0.out.2.1)).trans X0.out.2.1, (b2.block _ (lt_of_block X0.out.2.2)).trans X0.out.2.2⟩; clear b2 x0 x1 x2 x3 x4; obtain ⟨x0, x1, x2, x3, x4⟩ := gbx_cells B2.out.2.1)
   | (go_at_call 80; refine (CC.out _ B2.out.1 B2.out.2.2).mono ?_; rintro e w3 ⟨rfl, b3⟩; have R : Hid (Below w.heap.size w w3) := B2.out.1.trans (b3.mono B2.out.1.size); clear b3))
  refine bodyPost_ret (results_tmp2 rfl _ _ _) rfl ?_
  exact ⟨rfl, R.out⟩
 ·rw [if_neg h0, if_neg h0]
  have t1 : (er != 0) = true := by simpa using h0
  clear h0
  go_enter Tryz.func62, Tryz.ntmps62
  go_wp2_with (go_at_call 79; refine (CK.out _ X0.out.1).mono ?_; rintro e w2 ⟨rfl, b2⟩; have R : Hid (Below w.heap.size w w2) := X0.out.1.trans (b2.mono X0.out.1.size); clear b2)
  refine bodyPost_ret (results_tmp2 rfl _ _ _) rfl ?_
  exact ⟨rfl, R.out⟩
end Go.Proofs.YteciabdjkaackaaGreat
