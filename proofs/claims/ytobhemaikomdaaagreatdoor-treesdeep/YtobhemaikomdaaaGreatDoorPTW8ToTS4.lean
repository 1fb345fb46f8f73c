import Derived.Test.YtobhemaikomdaaaGreatDoorPTBkToTW7
import Derived.Test.YtobhemaikomdaaaGreatDoorPTTPToRegS
namespace Go.Proofs.YtobhemaikomdaaaGreatDoor
set_option linter.unusedVariables false
open Go.RowKit
theorem ms_new (w : World) {n : Nat} (hz : w.heap.size = n) : MSt w n [] (((((w.alloc (iBox 0)).alloc (iBox 0)).alloc (iBox 0)).alloc (iBox 0)).alloc (iBox 0)) := by
 subst hz
 have k : ∀ (j : Nat) (o o' : Obj) (v : World), v.heap[j]? = some o -> (v.alloc o').heap[j]? = some o := fun j o o' v h => ((below_alloc v o').block j (lt_of_block h)).trans h
 have e : ∀ (v : World) (o : Obj), (v.alloc o).heap.size = v.heap.size + 1 := fun v o => by simp
 have bl : ∀ (v : World) (o : Obj), Below w.heap.size w v -> Below w.heap.size w (v.alloc o) := fun v o h => h.trans ((below_alloc v o).mono h.size)
 refine ⟨bl _ _ (bl _ _ (bl _ _ (bl _ _ (bl _ _ (Below.refl _ _))))), Nat.le_refl _, ?_, ?_, ?_, ?_, ?_⟩
 ·exact k _ _ _ _ (k _ _ _ _ (k _ _ _ _ (k _ _ _ _ (heap_alloc_new w (iBox 0)))))
 ·have := heap_alloc_new (w.alloc (iBox 0)) (iBox 0)
  rw [e] at this
  exact k _ _ _ _ (k _ _ _ _ (k _ _ _ _ this))
 ·have := heap_alloc_new ((w.alloc (iBox 0)).alloc (iBox 0)) (iBox 0)
  rw [e, e] at this
  exact k _ _ _ _ (k _ _ _ _ this)
 ·have := heap_alloc_new (((w.alloc (iBox 0)).alloc (iBox 0)).alloc (iBox 0)) (iBox 0)
  rw [e, e, e] at this
  exact k _ _ _ _ this
 ·have := heap_alloc_new ((((w.alloc (iBox 0)).alloc (iBox 0)).alloc (iBox 0)).alloc (iBox 0)) (iBox 0)
  rw [e, e, e, e] at this
  exact this
set_option linter.unusedSimpArgs false in
set_option maxRecDepth 100000 in
set_option maxHeartbeats 4000000 in
theorem measure_W (t : TV) (w : World) (ht : TAt w t) (hsz : szT t <= 100000000) : Calls Tryz.prog 7 #[t.val] w fun e w' => e = .returned (.tuple #[.int .i64 (szT t : Int), .int .i64 ((leafT (preT t)).length : Int), .int .i64 (msU (evT w.heap.size 0 t)).ht]) /\ Below w.heap.size w w' := by
 have hz : (w.alloc (tBox t)).heap.size = w.heap.size + 1 := by simp
 have hba : Below w.heap.size w (w.alloc (tBox t)) := below_alloc _ _
 have CW : Hid (∀ w1, MSt (w.alloc (tBox t)) (w.heap.size + 1) [] w1 -> Calls Tryz.prog 19 #[.pointer (some ⟨w.heap.size, 0, none⟩), fnV 20 #[.pointer (some ⟨w.heap.size + 1, 0, none⟩), .pointer (some ⟨w.heap.size + 1 + 1 + 1 + 1, 0, none⟩), .pointer (some ⟨w.heap.size + 1 + 1, 0, none⟩), .pointer (some ⟨w.heap.size + 1 + 1 + 1 + 1 + 1, 0, none⟩), .pointer (some ⟨w.heap.size + 1 + 1 + 1, 0, none⟩)], fnV 22 #[.pointer (some ⟨w.heap.size + 1 + 1 + 1 + 1, 0, none⟩), .pointer (some ⟨w.heap.size + 1 + 1 + 1 + 1 + 1, 0, none⟩)]] w1 fun e w' => e = .returned (.tuple #[]) /\ MSt (w.alloc (tBox t)) (w.heap.size + 1) (evT w.heap.size 0 t) w') := fun w1 h1 => by
  refine (walkAround_R (St := MSt (w.alloc (tBox t)) (w.heap.size + 1)) (Fin := fun _ => False) ⟨ent_measure1, ent_measure2, tbx_new w t, ht.later hba, hsz, fun D w w' h hn => h.still hn, fun D w h => h.bel, fun D p q t' R hD hT w1 h1 => ?_, fun D p q t' R hD hT w1 h1 => ?_⟩ _ h1).mono ?_
  ·exact (measure1_W _ _ D p q t' w1 h1 hT (by have := ev_bound hD hsz; omega)).mono fun e w' ⟨e1, e2, e3⟩ => ⟨true, e1, e2, fun _ => e3, fun q => by cases q⟩
  ·exact measure2_W _ _ D p q t' w1 h1 hT (by have := ev_bound hD hsz; omega)
  ·rintro e w' ⟨e1, e2 | e2⟩
   ·exact ⟨e1, e2⟩
   ·exact e2.elim
 have HE : Hid (∀ w', MSt (w.alloc (tBox t)) (w.heap.size + 1) (evT w.heap.size 0 t) w' -> w'.cell? ⟨w.heap.size + 1, 0, none⟩ = some (.int .i64 (szT t : Int)) /\ w'.cell? ⟨w.heap.size + 1 + 1, 0, none⟩ = some (.int .i64 ((leafT (preT t)).length : Int)) /\ w'.cell? ⟨w.heap.size + 1 + 1 + 1, 0, none⟩ = some (.int .i64 (msU (evT w.heap.size 0 t)).ht) /\ Below w.heap.size w w') := fun w' h => by
  obtain ⟨q1, q2⟩ := msU_pl (evT w.heap.size 0 t)
  rw [ev_pre] at q1 q2
  rw [preT_len] at q1
  refine ⟨?_, ?_, (ib_cell h.ht).1, hba.trans (h.bel.mono hba.size)⟩
  ·rw [<- q1]; exact (ib_cell h.pl).1
  ·rw [<- q2]; exact (ib_cell h.lf).1
 clear ht hsz
 generalize (msU (evT w.heap.size 0 t)).ht = hh at *
 generalize (leafT (preT t)).length = nl at *
 generalize szT t = np at *
 go_enter Tryz.func7, Tryz.ntmps7
 go_upto_region 3 with fail
 refine wp_world (fun w' => MSt (w.alloc (tBox t)) (w.heap.size + 1) [] w') (ms_new (w.alloc (tBox t)) hz) fun w1 h1 => ?_
 have H1 : Hid (MSt (w.alloc (tBox t)) (w.heap.size + 1) [] w1) := h1
 clear h1 hz hba
 go_wp2_with (go_at_call 19; refine (CW.out _ H1.out).mono ?_; rintro e w2 ⟨rfl, h2⟩; obtain ⟨c0, c1, c2, bl⟩ := HE.out w2 h2; have R : Hid (Below w.heap.size w w2) := bl; clear h2 bl)
 go_quiet (fail)
 go_wp2
 refine bodyPost_ret (results_tmp3 rfl _ _ _) rfl ?_
 exact ⟨rfl, R.out.trans ((below_drewN (Below.refl _ _) _).mono R.out.size)⟩
def maxU : List Nat -> Nat
 | [] => 0
 | n :: l => max n (maxU l)
def hgF : Nat -> TV -> Nat
 | 0, _ => 0
 | n + 1, t => if t.prod = -1 then 0 else maxU (t.kids.map (hgF n)) + 1
def hgT (t : TV) : Nat := hgF (tsz t) t
def hgL (l : List TV) : Nat := maxU (l.map hgT)
theorem map_congr' {α β : Type} {f f' : α -> β} : ∀ (l : List α), (∀ x ∈ l, f x = f' x) -> l.map f = l.map f'
 | [], _ => rfl
 | x :: l, h => by rw [List.map_cons, List.map_cons, h x (List.mem_cons_self ..), map_congr' l (fun y hy => h y (List.mem_cons_of_mem _ hy))]
theorem hgF_any : ∀ (n m : Nat) (t : TV), tsz t <= n -> tsz t <= m -> hgF n t = hgF m t
 | 0, _, t, h, _ => by have := tsz_pos t; omega
 | _ + 1, 0, t, _, h => by have := tsz_pos t; omega
 | n + 1, m + 1, t, h, h' => by
  rw [hgF, hgF, map_congr' t.kids (fun k hk => hgF_any n m k (by have := kid_lt hk; omega) (by have := kid_lt hk; omega))]
theorem hgT_eq (t : TV) : hgT t = if t.prod = -1 then 0 else hgL t.kids + 1 := by
 obtain ⟨n, hn⟩ : ∃ n, tsz t = n + 1 := ⟨tsz t - 1, by have := tsz_pos t; omega⟩
 unfold hgT hgL
 rw [hn, hgF, map_congr' t.kids (fun k hk => hgF_any n (tsz k) k (by have := kid_lt hk; omega) (Nat.le_refl _))]
 rfl
def msF (m : MS) (D : List EV) : MS := D.foldl msE m
theorem msF_app (m : MS) (D R : List EV) : msF m (D ++ R) = msF (msF m D) R := by simp [msF]
theorem msF_one (m : MS) (x : EV) : msF m [x] = msE m x := rfl
def GoesT (t : TV) : Prop := ∀ (p q : Nat) (m : MS), 0 <= m.cv -> (msF m (evT p q t)).dp = m.dp /\ (msF m (evT p q t)).cv = m.cv /\ (msF m (evT p q t)).ht = if m.cv = 0 /\ t.prod ≠ -1 then max m.ht (m.dp + (hgT t : Int)) else m.ht
theorem goesL (b o : Nat) : ∀ (l : List TV), (∀ k ∈ l, GoesT k) -> ∀ (i : Nat) (m : MS), 0 <= m.cv -> (m.cv = 0 -> m.dp <= m.ht) -> (msF m (evL (kidF b o i l))).dp = m.dp /\ (msF m (evL (kidF b o i l))).cv = m.cv /\ (msF m (evL (kidF b o i l))).ht = if m.cv = 0 then max m.ht (m.dp + (hgL l : Int)) else m.ht
 | [], _, _, m, _, h1 => by
  refine ⟨rfl, rfl, ?_⟩
  show m.ht = _
  have : (hgL [] : Int) = 0 := rfl
  rw [this]
  split
  ·have := h1 (by assumption)
   omega
  ·rfl
 | k :: l, h, i, m, h0, h1 => by
  rw [kidF, evL_cons, msF_app]
  obtain ⟨a1, a2, a3⟩ := h k List.mem_cons_self b (o + i * 4) m h0
  dsimp only
  generalize msF m (evT b (o + i * 4) k) = m1 at *
  obtain ⟨b1, b2, b3⟩ := goesL b o l (fun k' hk => h k' (List.mem_cons_of_mem _ hk)) (i + 1) m1 (by omega) (fun e => by
   rw [a2] at e
   have := h1 e
   rw [a1, a3]
   split <;> omega)
  refine ⟨b1.trans a1, b2.trans a2, ?_⟩
  rw [b3, a2, a3, a1]
  have e : (hgL (k :: l) : Int) = max (hgT k : Int) (hgL l : Int) := by
   show ((max (hgT k) (hgL l) : Nat) : Int) = _
   omega
  rw [e]
  by_cases hc : m.cv = 0
  ·have hd := h1 hc
   by_cases hp : k.prod = -1
   ·have hk : (hgT k : Int) = 0 := by rw [hgT_eq, if_pos hp]; rfl
    rw [if_pos hc, if_pos hc, if_neg (by simp [hp]), hk]
    omega
   ·rw [if_pos hc, if_pos hc, if_pos ⟨hc, hp⟩]
    omega
  ·rw [if_neg hc, if_neg hc, if_neg (fun q => hc q.1)]
theorem goes_all (t : TV) : GoesT t := by
 induction t using TV.ind with
 | _ t ih =>
  intro p q m h0
  rw [evT_eq, <- List.singleton_append, msF_app, msF_app, msF_one, msF_one]
  by_cases hp : t.prod = -1
  ·have e1 : msE m ⟨true, p, q, t⟩ = ⟨m.pl + 1, m.lf + 1, m.ht, m.dp + 1, m.cv + 1⟩ := by
    unfold msE
    rw [if_pos rfl, if_pos hp, if_neg (by omega)]
   rw [e1]
   obtain ⟨b1, b2, b3⟩ := goesL (kadr t).1 (kadr t).2 t.kids ih 0 ⟨m.pl + 1, m.lf + 1, m.ht, m.dp + 1, m.cv + 1⟩ (by show 0 <= m.cv + 1; omega) (fun e => by have : m.cv + 1 = 0 := e; omega)
   unfold kidsA
   generalize msF ⟨m.pl + 1, m.lf + 1, m.ht, m.dp + 1, m.cv + 1⟩ (evL (kidF (kadr t).1 (kadr t).2 0 t.kids)) = m2 at *
   have e2 : msE m2 ⟨false, p, q, t⟩ = ⟨m2.pl, m2.lf, m2.ht, m2.dp - 1, m2.cv - 1⟩ := by
    unfold msE
    rw [if_neg (by simp), if_pos hp]
   dsimp only at b1 b2 b3
   rw [if_neg (by omega)] at b3
   rw [e2]
   refine ⟨?_, ?_, ?_⟩
   ·show m2.dp - 1 = m.dp; omega
   ·show m2.cv - 1 = m.cv; omega
   ·show m2.ht = _
    rw [if_neg (fun x => x.2 hp), b3]
  ·have e1 : msE m ⟨true, p, q, t⟩ = ⟨m.pl + 1, m.lf, if m.cv = 0 then max m.ht (m.dp + 1) else m.ht, m.dp + 1, m.cv⟩ := by
    unfold msE
    rw [if_pos rfl, if_neg hp]
   rw [e1]
   obtain ⟨b1, b2, b3⟩ := goesL (kadr t).1 (kadr t).2 t.kids ih 0 ⟨m.pl + 1, m.lf, if m.cv = 0 then max m.ht (m.dp + 1) else m.ht, m.dp + 1, m.cv⟩ h0 (fun e => by
    have e : m.cv = 0 := e
    show m.dp + 1 <= if m.cv = 0 then max m.ht (m.dp + 1) else m.ht
    rw [if_pos e]
    omega)
   unfold kidsA
   generalize msF ⟨m.pl + 1, m.lf, if m.cv = 0 then max m.ht (m.dp + 1) else m.ht, m.dp + 1, m.cv⟩ (evL (kidF (kadr t).1 (kadr t).2 0 t.kids)) = m2 at *
   have e2 : msE m2 ⟨false, p, q, t⟩ = ⟨m2.pl, m2.lf, m2.ht, m2.dp - 1, m2.cv⟩ := by
    unfold msE
    rw [if_neg (by simp), if_neg hp]
   dsimp only at b1 b2 b3
   rw [e2]
   refine ⟨?_, b2, ?_⟩
   ·show m2.dp - 1 = m.dp; omega
   ·show m2.ht = _
    rw [b3]
    have hk : (hgT t : Int) = (hgL t.kids : Int) + 1 := by rw [hgT_eq, if_neg hp]; omega
    by_cases hc : m.cv = 0
    ·rw [if_pos hc, if_pos hc, if_pos ⟨hc, hp⟩, hk]
     omega
    ·rw [if_neg hc, if_neg hc, if_neg (fun x => hc x.1)]
theorem msU_ht (p q : Nat) (t : TV) : (msU (evT p q t)).ht = (hgT t : Int) := by
 obtain ⟨-, -, h⟩ := goes_all t p q ⟨0, 0, 0, 0, 0⟩ (Int.le_refl _)
 have e : msU (evT p q t) = msF ⟨0, 0, 0, 0, 0⟩ (evT p q t) := rfl
 rw [e, h]
 dsimp only
 by_cases hp : t.prod = -1
 ·rw [if_neg (fun x => x.2 hp), hgT_eq, if_pos hp]
  rfl
 ·rw [if_pos ⟨rfl, hp⟩]
  omega
end Go.Proofs.YtobhemaikomdaaaGreatDoor
