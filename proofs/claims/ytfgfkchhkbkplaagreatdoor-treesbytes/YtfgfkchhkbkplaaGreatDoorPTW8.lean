import Derived.Test.YtfgfkchhkbkplaaGreatDoorPTBkToTW7
namespace Go.Proofs.YtfgfkchhkbkplaaGreatDoor
set_option linter.unusedVariables false
open Go.RowKit
theorem ms_new (w : World) {n : Nat} (hz : w.heap.size = n) : MSt w n [] (((((w.alloc (iBox 0)).alloc (iBox 0)).alloc (iBox 0)).alloc (iBox 0)).alloc (iBox 0)) := by
 subst hz
 have k : ∀ (j : Nat) (o o' : Obj) (v : World), v.heap[j]? = some o -> (v.alloc o').heap[j]? = some o := fun j o o' v h => ((below_alloc v o').block j (lt_of_block h)).trans h
 have e : ∀ (v : World) (o : Obj), (v.alloc o).heap.size = v.heap.size + 1 := fun v o => by simp
 have bl : ∀ (v : World) (o : Obj), Below w.heap.size w v -> Below w.heap.size w (v.alloc o) := fun v o h => h.trans ((below_alloc v o).mono h.size)
 refine ⟨bl _ _ (bl _ _ (bl _ _ (bl _ _ (bl _ _ (Below.refl _ _))))), Nat.le_refl _, ?_, ?_, ?_, ?_, ?_⟩
 ·exact k _ _ _ _ (k _ _ _ _ (k _ _ _ _ (k _ _ _ _ (heap_alloc_new w (iBox 0)))))
 ·have := heap_alloc_new (w.alloc (iBox 0)) (iBox 0)
  rw [e] at this
  exact k _ _ _ _ (k _ _ _ _ (k _ _ _ _ this))
 ·have := heap_alloc_new ((w.alloc (iBox 0)).alloc (iBox 0)) (iBox 0)
  rw [e, e] at this
  exact k _ _ _ _ (k _ _ _ _ this)
 ·have := heap_alloc_new (((w.alloc (iBox 0)).alloc (iBox 0)).alloc (iBox 0)) (iBox 0)
  rw [e, e, e] at this
  exact k _ _ _ _ this
 ·have := heap_alloc_new ((((w.alloc (iBox 0)).alloc (iBox 0)).alloc (iBox 0)).alloc (iBox 0)) (iBox 0)
  rw [e, e, e, e] at this
  exact this
set_option linter.unusedSimpArgs false in
set_option maxRecDepth 100000 in
set_option maxHeartbeats 4000000 in
theorem measure_W (t : TV) (w : World) (ht : TAt w t) (hsz : szT t <= 100000000) : Calls Tryz.prog 10 #[t.val] w fun e w' => e = .returned (.tuple #[.int .i64 (szT t : Int), .int .i64 ((leafT (preT t)).length : Int), .int .i64 (msU (evT w.heap.size 0 t)).ht]) /\ Below w.heap.size w w' := by
 have hz : (w.alloc (tBox t)).heap.size = w.heap.size + 1 := by simp
 have hba : Below w.heap.size w (w.alloc (tBox t)) := below_alloc _ _
 have CW : Hid (∀ w1, MSt (w.alloc (tBox t)) (w.heap.size + 1) [] w1 -> Calls Tryz.prog 46 #[.pointer (some ⟨w.heap.size, 0, none⟩), fnV 47 #[.pointer (some ⟨w.heap.size + 1, 0, none⟩), .pointer (some ⟨w.heap.size + 1 + 1 + 1 + 1, 0, none⟩), .pointer (some ⟨w.heap.size + 1 + 1, 0, none⟩), .pointer (some ⟨w.heap.size + 1 + 1 + 1 + 1 + 1, 0, none⟩), .pointer (some ⟨w.heap.size + 1 + 1 + 1, 0, none⟩)], fnV 49 #[.pointer (some ⟨w.heap.size + 1 + 1 + 1 + 1, 0, none⟩), .pointer (some ⟨w.heap.size + 1 + 1 + 1 + 1 + 1, 0, none⟩)]] w1 fun e w' => e = .returned (.tuple #[]) /\ MSt (w.alloc (tBox t)) (w.heap.size + 1) (evT w.heap.size 0 t) w') := fun w1 h1 => by
  refine (walkAround_R (St := MSt (w.alloc (tBox t)) (w.heap.size + 1)) (Fin := fun _ => False) ⟨ent_measure1, ent_measure2, tbx_new w t, ht.later hba, hsz, fun D w w' h hn => h.still hn, fun D w h => h.bel, fun D p q t' R hD hT w1 h1 => ?_, fun D p q t' R hD hT w1 h1 => ?_⟩ _ h1).mono ?_
  ·exact (measure1_W _ _ D p q t' w1 h1 hT (by have := ev_bound hD hsz; omega)).mono fun e w' ⟨e1, e2, e3⟩ => ⟨true, e1, e2, fun _ => e3, fun q => by cases q⟩
  ·exact measure2_W _ _ D p q t' w1 h1 hT (by have := ev_bound hD hsz; omega)
  ·rintro e w' ⟨e1, e2 | e2⟩
   ·exact ⟨e1, e2⟩
   ·exact e2.elim
 have HE : Hid (∀ w', MSt (w.alloc (tBox t)) (w.heap.size + 1) (evT w.heap.size 0 t) w' -> w'.cell? ⟨w.heap.size + 1, 0, none⟩ = some (.int .i64 (szT t : Int)) /\ w'.cell? ⟨w.heap.size + 1 + 1, 0, none⟩ = some (.int .i64 ((leafT (preT t)).length : Int)) /\ w'.cell? ⟨w.heap.size + 1 + 1 + 1, 0, none⟩ = some (.int .i64 (msU (evT w.heap.size 0 t)).ht) /\ Below w.heap.size w w') := fun w' h => by
  obtain ⟨q1, q2⟩ := msU_pl (evT w.heap.size 0 t)
  rw [ev_pre] at q1 q2
  rw [preT_len] at q1
  refine ⟨?_, ?_, (ib_cell h.ht).1, hba.trans (h.bel.mono hba.size)⟩
  ·rw [<- q1]; exact (ib_cell h.pl).1
  ·rw [<- q2]; exact (ib_cell h.lf).1
 clear ht hsz
 generalize (msU (evT w.heap.size 0 t)).ht = hh at *
 generalize (leafT (preT t)).length = nl at *
 generalize szT t = np at *
 go_enter Tryz.func10, Tryz.ntmps10
 go_upto_region 3 with fail
 refine wp_world (fun w' => MSt (w.alloc (tBox t)) (w.heap.size + 1) [] w') (ms_new (w.alloc (tBox t)) hz) fun w1 h1 => ?_
 have H1 : Hid (MSt (w.alloc (tBox t)) (w.heap.size + 1) [] w1) := h1
 clear h1 hz hba
 go_wp2_with (go_at_call 46; refine (CW.out _ H1.out).mono ?_; rintro e w2 ⟨rfl, h2⟩; obtain ⟨c0, c1, c2, bl⟩ := HE.out w2 h2; have R : Hid (Below w.heap.size w w2) := bl; clear h2 bl)
 go_quiet (fail)
 go_wp2
 refine bodyPost_ret (results_tmp3 rfl _ _ _) rfl ?_
 exact ⟨rfl, R.out.trans ((below_drewN (Below.refl _ _) _).mono R.out.size)⟩
end Go.Proofs.YtfgfkchhkbkplaaGreatDoor
