import Derived.Test.YtcihjkmaadkfcaaPTW5ToTW6
namespace Go.Proofs.Ytcihjkmaadkfcaa
set_option linter.unusedVariables false
open Go.RowKit
theorem ent_measure1 : EntW 18 := fun _ _ => by kernel_rfl
theorem ent_measure2 : EntW 20 := fun _ _ => by kernel_rfl
theorem ib_cell {w : World} {b : Nat} {x : Int} (h : w.heap[b]? = some (iBox x)) : w.cell? ⟨b, 0, none⟩ = some (.int .i64 x) /\ w.frozen? ⟨b, 0, none⟩ = false := ⟨(cellq_any h).trans rfl, by simp [World.frozen?, h]⟩
theorem ib_set {w : World} {b : Nat} {x : Int} (h : w.heap[b]? = some (iBox x)) (y : Int) : (w.setCell ⟨b, 0, none⟩ (.int .i64 y)).heap[b]? = some (iBox y) := heap_setCell_same w b 0 _ _ _ h
theorem ib_ne {w : World} {b c : Nat} {o : Obj} (h : w.heap[c]? = some o) (hn : c ≠ b) (v : Value) : (w.setCell ⟨b, 0, none⟩ v).heap[c]? = some o := (Below.heap_setCell _ _ _ _ hn).trans h
structure FB5 (N : Nat) (b : Nat) (m : MS) (w0 wb w : World) : Prop where
 bel : Below N w0 w
 yn : N <= b
 pl : w.heap[b]? = some (iBox m.pl)
 lf : w.heap[b + 1]? = some (iBox m.lf)
 ht : w.heap[b + 2]? = some (iBox m.ht)
 dp : w.heap[b + 3]? = some (iBox m.dp)
 cv : w.heap[b + 4]? = some (iBox m.cv)
 on : OnStp N wb w
theorem onStp_set {N : Nat} {wb w : World} {b : Nat} {x y : Int} (h : OnStp N wb w) (hb : w.heap[b]? = some (iBox x)) : OnStp N wb (w.setCell ⟨b, 0, none⟩ (.int .i64 y)) := by
 refine ⟨?_, fun j o hj hN hs => ?_⟩
 ·have h3 : (w.setCell ⟨b, 0, none⟩ (.int .i64 y)).heap.size = w.heap.size := by simp [World.setCell]
  have := h.size
  omega
 ·have h1 := h.keep j o hj hN hs
  rw [Below.heap_setCell _ _ _ _ (show j ≠ b from fun e => ?_), h1]
  subst e
  rw [hb] at h1
  cases h1
  exact not_stp (by decide) hs
section
variable {N b : Nat} {m : MS} {w0 wb w : World}
theorem FB5.setPl (h : FB5 N b m w0 wb w) (y : Int) : FB5 N b ⟨y, m.lf, m.ht, m.dp, m.cv⟩ w0 wb (w.setCell ⟨b, 0, none⟩ (.int .i64 y)) :=
 ⟨h.bel.setCell (p := ⟨b, 0, none⟩) h.yn _, h.yn, ib_set h.pl y, ib_ne h.lf (by omega) _, ib_ne h.ht (by omega) _, ib_ne h.dp (by omega) _, ib_ne h.cv (by omega) _, onStp_set h.on h.pl⟩
theorem FB5.setLf (h : FB5 N b m w0 wb w) (y : Int) : FB5 N b ⟨m.pl, y, m.ht, m.dp, m.cv⟩ w0 wb (w.setCell ⟨b + 1, 0, none⟩ (.int .i64 y)) :=
 ⟨h.bel.setCell (p := ⟨b + 1, 0, none⟩) (Nat.le_succ_of_le h.yn) _, h.yn, ib_ne h.pl (by omega) _, ib_set h.lf y, ib_ne h.ht (by omega) _, ib_ne h.dp (by omega) _, ib_ne h.cv (by omega) _, onStp_set h.on h.lf⟩
theorem FB5.setHt (h : FB5 N b m w0 wb w) (y : Int) : FB5 N b ⟨m.pl, m.lf, y, m.dp, m.cv⟩ w0 wb (w.setCell ⟨b + 2, 0, none⟩ (.int .i64 y)) :=
 ⟨h.bel.setCell (p := ⟨b + 2, 0, none⟩) (Nat.le_trans h.yn (Nat.le_add_right _ _)) _, h.yn, ib_ne h.pl (by omega) _, ib_ne h.lf (by omega) _, ib_set h.ht y, ib_ne h.dp (by omega) _, ib_ne h.cv (by omega) _, onStp_set h.on h.ht⟩
theorem FB5.setDp (h : FB5 N b m w0 wb w) (y : Int) : FB5 N b ⟨m.pl, m.lf, m.ht, y, m.cv⟩ w0 wb (w.setCell ⟨b + 3, 0, none⟩ (.int .i64 y)) :=
 ⟨h.bel.setCell (p := ⟨b + 3, 0, none⟩) (Nat.le_trans h.yn (Nat.le_add_right _ _)) _, h.yn, ib_ne h.pl (by omega) _, ib_ne h.lf (by omega) _, ib_ne h.ht (by omega) _, ib_set h.dp y, ib_ne h.cv (by omega) _, onStp_set h.on h.dp⟩
theorem FB5.setCv (h : FB5 N b m w0 wb w) (y : Int) : FB5 N b ⟨m.pl, m.lf, m.ht, m.dp, y⟩ w0 wb (w.setCell ⟨b + 4, 0, none⟩ (.int .i64 y)) :=
 ⟨h.bel.setCell (p := ⟨b + 4, 0, none⟩) (Nat.le_trans h.yn (Nat.le_add_right _ _)) _, h.yn, ib_ne h.pl (by omega) _, ib_ne h.lf (by omega) _, ib_ne h.ht (by omega) _, ib_ne h.dp (by omega) _, ib_set h.cv y, onStp_set h.on h.cv⟩
end
set_option linter.unusedSimpArgs false in
set_option maxRecDepth 100000 in
set_option maxHeartbeats 4000000 in
theorem measure1_W (w0 : World) (b : Nat) (D : List EV) (p q : Nat) (t : TV) (w : World) (h : MSt w0 b D w) (ht : TBx w0 p q t) (hl : D.length <= 200000000) :
  Calls Try.prog 18 #[.pointer (some ⟨p, q, none⟩), .pointer (some ⟨b, 0, none⟩), .pointer (some ⟨b + 3, 0, none⟩), .pointer (some ⟨b + 1, 0, none⟩), .pointer (some ⟨b + 4, 0, none⟩), .pointer (some ⟨b + 2, 0, none⟩)] w fun e w' => e = .returned (.bool true) /\ OnStp w0.heap.size w w' /\ MSt w0 b (D ++ [⟨true, p, q, t⟩]) w' := by
 have hbd := msU_bd D
 have HR : Hid (∀ w', FB5 w0.heap.size b (msE (msU D) ⟨true, p, q, t⟩) w0 w w' -> OnStp w0.heap.size w w' /\ MSt w0 b (D ++ [⟨true, p, q, t⟩]) w') := fun w' f => ⟨f.on, f.bel, f.yn, by rw [msU_app]; exact f.pl, by rw [msU_app]; exact f.lf, by rw [msU_app]; exact f.ht, by rw [msU_app]; exact f.dp, by rw [msU_app]; exact f.cv⟩
 have f0 : FB5 w0.heap.size b (msU D) w0 w w := ⟨h.bel, h.yn, h.pl, h.lf, h.ht, h.dp, h.cv, OnStp.refl _ _⟩
 have CI : Hid (∀ w', Below w0.heap.size w0 w' -> Calls Try.prog 19 #[.pointer (some ⟨p, q, none⟩)] w' fun e w'' => e = .returned (.bool (t.prod == -1)) /\ w'' = w') := fun w' hb => isLeaf_W p q t w' (ht.later hb)
 obtain ⟨m, hm⟩ : ∃ m, msU D = m := ⟨_, rfl⟩
 rw [hm] at hbd HR f0
 obtain ⟨pl, lf, hh, dp, cv⟩ := m
 dsimp only at hbd
 obtain ⟨b0, b1, b2, b3, b4, b5, b6, b7, b8, b9⟩ := hbd
 have n0 : pl <= 200000000 := by omega
 have n1 : lf <= 200000000 := by omega
 have n2 : -200000000 <= dp := by omega
 have n3 : dp <= 200000000 := by omega
 have n4 : -200000000 <= cv := by omega
 have n5 : cv <= 200000000 := by omega
 have n6 : -200000000 <= hh := by omega
 have n7 : hh <= 200000000 := by omega
 clear h hm b1 b3 b4 b5 b6 b7 b8 b9 ht hl
 have F0 : Hid (FB5 w0.heap.size b ⟨pl, lf, hh, dp, cv⟩ w0 w w) := f0
 obtain ⟨c0, c1⟩ := ib_cell f0.pl
 clear f0
 go_enter Try.func18, Try.ntmps18
 go_upto_region 2 with fail
 refine wp_world (fun w' => FB5 w0.heap.size b ⟨pl + 1, lf, hh, dp, cv⟩ w0 w w') (F0.out.setPl _) fun w2 f2 => ?_
 have F2 : Hid (FB5 w0.heap.size b ⟨pl + 1, lf, hh, dp, cv⟩ w0 w w2) := f2
 clear c0 c1 F0
 obtain ⟨c0, c1⟩ := ib_cell f2.dp
 clear f2
 dsimp only at c0
 go_upto_region 3 with fail
 refine wp_world (fun w' => FB5 w0.heap.size b ⟨pl + 1, lf, hh, dp + 1, cv⟩ w0 w w') (F2.out.setDp _) fun w3 f3 => ?_
 have F3 : Hid (FB5 w0.heap.size b ⟨pl + 1, lf, hh, dp + 1, cv⟩ w0 w w3) := f3
 clear c0 c1 F2 f3
 by_cases hp : t.prod = -1
 ·have t1 : (t.prod == -1) = true := by simpa using hp
  rw [t1] at CI
  obtain ⟨c0, c1⟩ := ib_cell F3.out.lf
  dsimp only at c0
  clear t1
  go_upto_region 5 with (go_at_call 19; refine (CI.out _ F3.out.bel).mono ?_; rintro e w4 ⟨rfl, rfl⟩)
  refine wp_world (fun w' => FB5 w0.heap.size b ⟨pl + 1, lf + 1, hh, dp + 1, cv⟩ w0 w w') (F3.out.setLf _) fun w5 f5 => ?_
  have F5 : Hid (FB5 w0.heap.size b ⟨pl + 1, lf + 1, hh, dp + 1, cv⟩ w0 w w5) := f5
  clear c0 c1 F3 f5
  obtain ⟨c0, c1⟩ := ib_cell F5.out.cv
  dsimp only at c0
  go_upto_region 6 with fail
  refine wp_world (fun w' => FB5 w0.heap.size b ⟨pl + 1, lf + 1, hh, dp + 1, cv + 1⟩ w0 w w') (F5.out.setCv _) fun w6 f6 => ?_
  have F6 : Hid (FB5 w0.heap.size b ⟨pl + 1, lf + 1, hh, dp + 1, cv + 1⟩ w0 w w6) := f6
  clear c0 c1 F5 f6
  obtain ⟨c0, -⟩ := ib_cell F6.out.cv
  dsimp only at c0
  by_cases hz : cv + 1 = 0
  ·obtain rfl : cv = -1 := by omega
   obtain ⟨d0, d1⟩ := ib_cell F6.out.ht
   obtain ⟨e0, -⟩ := ib_cell F6.out.dp
   dsimp only at d0 e0
   have c2 : w6.cell? ⟨b + 4, 0, none⟩ = some (.int .i64 0) := c0
   clear c0
   by_cases hmx : dp + 1 <= hh
   ·have R : Hid (FB5 w0.heap.size b ⟨pl + 1, lf + 1, max hh (dp + 1), dp + 1, -1 + 1⟩ w0 w (w6.setCell ⟨b + 2, 0, none⟩ (.int .i64 hh))) := by
     have := F6.out.setHt (max hh (dp + 1))
     rwa [show max hh (dp + 1) = hh by omega] at this ⊢
    go_wp2
    go_ret
    exact ⟨rfl, HR.out _ (by unfold msE; simp only [hp, if_true]; exact R.out)⟩
   ·have R : Hid (FB5 w0.heap.size b ⟨pl + 1, lf + 1, max hh (dp + 1), dp + 1, -1 + 1⟩ w0 w (w6.setCell ⟨b + 2, 0, none⟩ (.int .i64 (dp + 1)))) := by
     have := F6.out.setHt (max hh (dp + 1))
     rwa [show max hh (dp + 1) = dp + 1 by omega] at this ⊢
    go_wp2
    go_ret
    exact ⟨rfl, HR.out _ (by unfold msE; simp only [hp, if_true]; exact R.out)⟩
  ·have t2 : (cv + 1 == 0) = false := by simpa using hz
   go_wp2
   go_ret
   exact ⟨rfl, HR.out _ (by unfold msE; simp [hp, hz]; exact F6.out)⟩
 ·have t1 : (t.prod == -1) = false := by simpa using hp
  rw [t1] at CI
  obtain ⟨c0, -⟩ := ib_cell F3.out.cv
  dsimp only at c0
  clear t1
  by_cases hz : cv = 0
  ·subst hz
   obtain ⟨d0, d1⟩ := ib_cell F3.out.ht
   obtain ⟨e0, -⟩ := ib_cell F3.out.dp
   dsimp only at d0 e0
   by_cases hmx : dp + 1 <= hh
   ·have R : Hid (FB5 w0.heap.size b ⟨pl + 1, lf, max hh (dp + 1), dp + 1, 0⟩ w0 w (w3.setCell ⟨b + 2, 0, none⟩ (.int .i64 hh))) := by
     have := F3.out.setHt (max hh (dp + 1))
     rwa [show max hh (dp + 1) = hh by omega] at this ⊢
    go_wp2_with (go_at_call 19; refine (CI.out _ F3.out.bel).mono ?_; rintro e w4 ⟨rfl, rfl⟩)
    go_ret
    exact ⟨rfl, HR.out _ (by unfold msE; simp only [hp, if_true, if_false]; exact R.out)⟩
   ·have R : Hid (FB5 w0.heap.size b ⟨pl + 1, lf, max hh (dp + 1), dp + 1, 0⟩ w0 w (w3.setCell ⟨b + 2, 0, none⟩ (.int .i64 (dp + 1)))) := by
     have := F3.out.setHt (max hh (dp + 1))
     rwa [show max hh (dp + 1) = dp + 1 by omega] at this ⊢
    go_wp2_with (go_at_call 19; refine (CI.out _ F3.out.bel).mono ?_; rintro e w4 ⟨rfl, rfl⟩)
    go_ret
    exact ⟨rfl, HR.out _ (by unfold msE; simp only [hp, if_true, if_false]; exact R.out)⟩
  ·have t2 : (cv == 0) = false := by simpa using hz
   go_wp2_with (go_at_call 19; refine (CI.out _ F3.out.bel).mono ?_; rintro e w4 ⟨rfl, rfl⟩)
   go_ret
   exact ⟨rfl, HR.out _ (by unfold msE; simp only [hp, hz, if_true, if_false]; exact F3.out)⟩
set_option linter.unusedSimpArgs false in
set_option maxRecDepth 100000 in
set_option maxHeartbeats 4000000 in
theorem measure2_W (w0 : World) (b : Nat) (D : List EV) (p q : Nat) (t : TV) (w : World) (h : MSt w0 b D w) (ht : TBx w0 p q t) (hl : D.length <= 200000000) :
  Calls Try.prog 20 #[.pointer (some ⟨p, q, none⟩), .pointer (some ⟨b + 3, 0, none⟩), .pointer (some ⟨b + 4, 0, none⟩)] w fun e w' => e = .returned (.tuple #[]) /\ OnStp w0.heap.size w w' /\ MSt w0 b (D ++ [⟨false, p, q, t⟩]) w' := by
 have hbd := msU_bd D
 have HR : Hid (∀ w', FB5 w0.heap.size b (msE (msU D) ⟨false, p, q, t⟩) w0 w w' -> OnStp w0.heap.size w w' /\ MSt w0 b (D ++ [⟨false, p, q, t⟩]) w') := fun w' f => ⟨f.on, f.bel, f.yn, by rw [msU_app]; exact f.pl, by rw [msU_app]; exact f.lf, by rw [msU_app]; exact f.ht, by rw [msU_app]; exact f.dp, by rw [msU_app]; exact f.cv⟩
 have f0 : FB5 w0.heap.size b (msU D) w0 w w := ⟨h.bel, h.yn, h.pl, h.lf, h.ht, h.dp, h.cv, OnStp.refl _ _⟩
 have CI : Hid (∀ w', Below w0.heap.size w0 w' -> Calls Try.prog 19 #[.pointer (some ⟨p, q, none⟩)] w' fun e w'' => e = .returned (.bool (t.prod == -1)) /\ w'' = w') := fun w' hb => isLeaf_W p q t w' (ht.later hb)
 obtain ⟨m, hm⟩ : ∃ m, msU D = m := ⟨_, rfl⟩
 rw [hm] at hbd HR f0
 obtain ⟨pl, lf, hh, dp, cv⟩ := m
 dsimp only at hbd
 obtain ⟨b0, b1, b2, b3, b4, b5, b6, b7, b8, b9⟩ := hbd
 have n2 : -200000000 <= dp := by omega
 have n3 : dp <= 200000000 := by omega
 have n4 : -200000000 <= cv := by omega
 have n5 : cv <= 200000000 := by omega
 clear h hm b0 b1 b2 b3 b4 b5 b6 b7 b8 b9 ht hl
 have F0 : Hid (FB5 w0.heap.size b ⟨pl, lf, hh, dp, cv⟩ w0 w w) := f0
 obtain ⟨c0, c1⟩ := ib_cell f0.dp
 dsimp only at c0
 clear f0
 go_enter Try.func20, Try.ntmps20
 go_upto_region 1 with fail
 refine wp_world (fun w' => FB5 w0.heap.size b ⟨pl, lf, hh, dp - 1, cv⟩ w0 w w') (F0.out.setDp _) fun w2 f2 => ?_
 have F2 : Hid (FB5 w0.heap.size b ⟨pl, lf, hh, dp - 1, cv⟩ w0 w w2) := f2
 clear c0 c1 F0 f2
 by_cases hp : t.prod = -1
 ·have t1 : (t.prod == -1) = true := by simpa using hp
  rw [t1] at CI
  clear t1
  obtain ⟨c0, c1⟩ := ib_cell F2.out.cv
  dsimp only at c0
  have R : Hid (FB5 w0.heap.size b ⟨pl, lf, hh, dp - 1, cv - 1⟩ w0 w (w2.setCell ⟨b + 4, 0, none⟩ (.int .i64 (cv - 1)))) := F2.out.setCv _
  go_wp2_with (go_at_call 19; refine (CI.out _ F2.out.bel).mono ?_; rintro e w4 ⟨rfl, rfl⟩)
  refine bodyPost_end (results_none rfl _ _ _) rfl ?_
  exact ⟨rfl, HR.out _ (by unfold msE; simp only [hp, if_true]; exact R.out)⟩
 ·have t1 : (t.prod == -1) = false := by simpa using hp
  rw [t1] at CI
  clear t1
  go_wp2_with (go_at_call 19; refine (CI.out _ F2.out.bel).mono ?_; rintro e w4 ⟨rfl, rfl⟩)
  refine bodyPost_end (results_none rfl _ _ _) rfl ?_
  exact ⟨rfl, HR.out _ (by unfold msE; simp only [hp, if_false]; exact F2.out)⟩
end Go.Proofs.Ytcihjkmaadkfcaa
