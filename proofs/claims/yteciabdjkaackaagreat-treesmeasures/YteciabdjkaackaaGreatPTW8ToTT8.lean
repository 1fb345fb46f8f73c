import Derived.Test.YteciabdjkaackaaGreatPTBkToTW7
import Derived.Test.YteciabdjkaackaaGreatPFSetToTT6
import Derived.Test.YteciabdjkaackaaGreatPTTPToRegS
namespace Go.Proofs.YteciabdjkaackaaGreat
set_option linter.unusedVariables false
open Go.RowKit
theorem ms_new (w : World) {n : Nat} (hz : w.heap.size = n) : MSt w n [] (((((w.alloc (iBox 0)).alloc (iBox 0)).alloc (iBox 0)).alloc (iBox 0)).alloc (iBox 0)) := by
 subst hz
 have k : ∀ (j : Nat) (o o' : Obj) (v : World), v.heap[j]? = some o -> (v.alloc o').heap[j]? = some o := fun j o o' v h => ((below_alloc v o').block j (lt_of_block h)).trans h
 have e : ∀ (v : World) (o : Obj), (v.alloc o).heap.size = v.heap.size + 1 := fun v o => by simp
 have bl : ∀ (v : World) (o : Obj), Below w.heap.size w v -> Below w.heap.size w (v.alloc o) := fun v o h => h.trans ((below_alloc v o).mono h.size)
 refine ⟨bl _ _ (bl _ _ (bl _ _ (bl _ _ (bl _ _ (Below.refl _ _))))), Nat.le_refl _, ?_, ?_, ?_, ?_, ?_⟩
 ·exact k _ _ _ _ (k _ _ _ _ (k _ _ _ _ (k _ _ _ _ (heap_alloc_new w (iBox 0)))))
 ·have := heap_alloc_new (w.alloc (iBox 0)) (iBox 0)
  rw [e] at this
  exact k _ _ _ _ (k _ _ _ _ (k _ _ _ _ this))
 ·have := heap_alloc_new ((w.alloc (iBox 0)).alloc (iBox 0)) (iBox 0)
  rw [e, e] at this
  exact k _ _ _ _ (k _ _ _ _ this)
 ·have := heap_alloc_new (((w.alloc (iBox 0)).alloc (iBox 0)).alloc (iBox 0)) (iBox 0)
  rw [e, e, e] at this
  exact k _ _ _ _ this
 ·have := heap_alloc_new ((((w.alloc (iBox 0)).alloc (iBox 0)).alloc (iBox 0)).alloc (iBox 0)) (iBox 0)
  rw [e, e, e, e] at this
  exact this
set_option linter.unusedSimpArgs false in
set_option maxRecDepth 100000 in
set_option maxHeartbeats 4000000 in
theorem measure_W (t : TV) (w : World) (ht : TAt w t) (hsz : szT t <= 100000000) : Calls Tryz.prog 6 #[t.val] w fun e w' => e = .returned (.tuple #[.int .i64 (szT t : Int), .int .i64 ((leafT (preT t)).length : Int), .int .i64 (msU (evT w.heap.size 0 t)).ht]) /\ Below w.heap.size w w' := by
 have hz : (w.alloc (tBox t)).heap.size = w.heap.size + 1 := by simp
 have hba : Below w.heap.size w (w.alloc (tBox t)) := below_alloc _ _
 have CW : Hid (∀ w1, MSt (w.alloc (tBox t)) (w.heap.size + 1) [] w1 -> Calls Tryz.prog 34 #[.pointer (some ⟨w.heap.size, 0, none⟩), fnV 35 #[.pointer (some ⟨w.heap.size + 1, 0, none⟩), .pointer (some ⟨w.heap.size + 1 + 1 + 1 + 1, 0, none⟩), .pointer (some ⟨w.heap.size + 1 + 1, 0, none⟩), .pointer (some ⟨w.heap.size + 1 + 1 + 1 + 1 + 1, 0, none⟩), .pointer (some ⟨w.heap.size + 1 + 1 + 1, 0, none⟩)], fnV 37 #[.pointer (some ⟨w.heap.size + 1 + 1 + 1 + 1, 0, none⟩), .pointer (some ⟨w.heap.size + 1 + 1 + 1 + 1 + 1, 0, none⟩)]] w1 fun e w' => e = .returned (.tuple #[]) /\ MSt (w.alloc (tBox t)) (w.heap.size + 1) (evT w.heap.size 0 t) w') := fun w1 h1 => by
  refine (walkAround_R (St := MSt (w.alloc (tBox t)) (w.heap.size + 1)) (Fin := fun _ => False) ⟨ent_measure1, ent_measure2, tbx_new w t, ht.later hba, hsz, fun D w w' h hn => h.still hn, fun D w h => h.bel, fun D p q t' R hD hT w1 h1 => ?_, fun D p q t' R hD hT w1 h1 => ?_⟩ _ h1).mono ?_
  ·exact (measure1_W _ _ D p q t' w1 h1 hT (by have := ev_bound hD hsz; omega)).mono fun e w' ⟨e1, e2, e3⟩ => ⟨true, e1, e2, fun _ => e3, fun q => by cases q⟩
  ·exact measure2_W _ _ D p q t' w1 h1 hT (by have := ev_bound hD hsz; omega)
  ·rintro e w' ⟨e1, e2 | e2⟩
   ·exact ⟨e1, e2⟩
   ·exact e2.elim
 have HE : Hid (∀ w', MSt (w.alloc (tBox t)) (w.heap.size + 1) (evT w.heap.size 0 t) w' -> w'.cell? ⟨w.heap.size + 1, 0, none⟩ = some (.int .i64 (szT t : Int)) /\ w'.cell? ⟨w.heap.size + 1 + 1, 0, none⟩ = some (.int .i64 ((leafT (preT t)).length : Int)) /\ w'.cell? ⟨w.heap.size + 1 + 1 + 1, 0, none⟩ = some (.int .i64 (msU (evT w.heap.size 0 t)).ht) /\ Below w.heap.size w w') := fun w' h => by
  obtain ⟨q1, q2⟩ := msU_pl (evT w.heap.size 0 t)
  rw [ev_pre] at q1 q2
  rw [preT_len] at q1
  refine ⟨?_, ?_, (ib_cell h.ht).1, hba.trans (h.bel.mono hba.size)⟩
  ·rw [<- q1]; exact (ib_cell h.pl).1
  ·rw [<- q2]; exact (ib_cell h.lf).1
 clear ht hsz
 generalize (msU (evT w.heap.size 0 t)).ht = hh at *
 generalize (leafT (preT t)).length = nl at *
 generalize szT t = np at *
 go_enter Tryz.func6, Tryz.ntmps6
 go_upto_region 3 with fail
 refine wp_world (fun w' => MSt (w.alloc (tBox t)) (w.heap.size + 1) [] w') (ms_new (w.alloc (tBox t)) hz) fun w1 h1 => ?_
 have H1 : Hid (MSt (w.alloc (tBox t)) (w.heap.size + 1) [] w1) := h1
 clear h1 hz hba
 go_wp2_with (go_at_call 34; refine (CW.out _ H1.out).mono ?_; rintro e w2 ⟨rfl, h2⟩; obtain ⟨c0, c1, c2, bl⟩ := HE.out w2 h2; have R : Hid (Below w.heap.size w w2) := bl; clear h2 bl)
 go_quiet (fail)
 go_wp2
 refine bodyPost_ret (results_tmp3 rfl _ _ _) rfl ?_
 exact ⟨rfl, R.out.trans ((below_drewN (Below.refl _ _) _).mono R.out.size)⟩
def msF (m : MS) (D : List EV) : MS := D.foldl msE m
theorem msF_app (m : MS) (D R : List EV) : msF m (D ++ R) = msF (msF m D) R := by simp [msF]
theorem msF_one (m : MS) (x : EV) : msF m [x] = msE m x := rfl
def GoesT (t : TV) : Prop := ∀ (p q : Nat) (m : MS), 0 <= m.cv -> (msF m (evT p q t)).dp = m.dp /\ (msF m (evT p q t)).cv = m.cv /\ (msF m (evT p q t)).ht = if m.cv = 0 /\ t.prod ≠ -1 then max m.ht (m.dp + (hgT t : Int)) else m.ht
theorem goesL (b o : Nat) : ∀ (l : List TV), (∀ k ∈ l, GoesT k) -> ∀ (i : Nat) (m : MS), 0 <= m.cv -> (m.cv = 0 -> m.dp <= m.ht) -> (msF m (evL (kidF b o i l))).dp = m.dp /\ (msF m (evL (kidF b o i l))).cv = m.cv /\ (msF m (evL (kidF b o i l))).ht = if m.cv = 0 then max m.ht (m.dp + (hgL l : Int)) else m.ht
 | [], _, _, m, _, h1 => by
  refine ⟨rfl, rfl, ?_⟩
  show m.ht = _
  have : (hgL [] : Int) = 0 := rfl
  rw [this]
  split
  ·have := h1 (by assumption)
   omega
  ·rfl
 | k :: l, h, i, m, h0, h1 => by
  rw [kidF, evL_cons, msF_app]
  obtain ⟨a1, a2, a3⟩ := h k List.mem_cons_self b (o + i * 4) m h0
  dsimp only
  generalize msF m (evT b (o + i * 4) k) = m1 at *
  obtain ⟨b1, b2, b3⟩ := goesL b o l (fun k' hk => h k' (List.mem_cons_of_mem _ hk)) (i + 1) m1 (by omega) (fun e => by
   rw [a2] at e
   have := h1 e
   rw [a1, a3]
   split <;> omega)
  refine ⟨b1.trans a1, b2.trans a2, ?_⟩
  rw [b3, a2, a3, a1]
  have e : (hgL (k :: l) : Int) = max (hgT k : Int) (hgL l : Int) := by
   show ((max (hgT k) (hgL l) : Nat) : Int) = _
   omega
  rw [e]
  by_cases hc : m.cv = 0
  ·have hd := h1 hc
   by_cases hp : k.prod = -1
   ·have hk : (hgT k : Int) = 0 := by rw [hgT_eq, if_pos hp]; rfl
    rw [if_pos hc, if_pos hc, if_neg (by simp [hp]), hk]
    omega
   ·rw [if_pos hc, if_pos hc, if_pos ⟨hc, hp⟩]
    omega
  ·rw [if_neg hc, if_neg hc, if_neg (fun q => hc q.1)]
theorem goes_all (t : TV) : GoesT t := by
 induction t using TV.ind with
 | _ t ih =>
  intro p q m h0
  rw [evT_eq, <- List.singleton_append, msF_app, msF_app, msF_one, msF_one]
  by_cases hp : t.prod = -1
  ·have e1 : msE m ⟨true, p, q, t⟩ = ⟨m.pl + 1, m.lf + 1, m.ht, m.dp + 1, m.cv + 1⟩ := by
    unfold msE
    rw [if_pos rfl, if_pos hp, if_neg (by omega)]
   rw [e1]
   obtain ⟨b1, b2, b3⟩ := goesL (kadr t).1 (kadr t).2 t.kids ih 0 ⟨m.pl + 1, m.lf + 1, m.ht, m.dp + 1, m.cv + 1⟩ (by show 0 <= m.cv + 1; omega) (fun e => by have : m.cv + 1 = 0 := e; omega)
   unfold kidsA
   generalize msF ⟨m.pl + 1, m.lf + 1, m.ht, m.dp + 1, m.cv + 1⟩ (evL (kidF (kadr t).1 (kadr t).2 0 t.kids)) = m2 at *
   have e2 : msE m2 ⟨false, p, q, t⟩ = ⟨m2.pl, m2.lf, m2.ht, m2.dp - 1, m2.cv - 1⟩ := by
    unfold msE
    rw [if_neg (by simp), if_pos hp]
   dsimp only at b1 b2 b3
   rw [if_neg (by omega)] at b3
   rw [e2]
   refine ⟨?_, ?_, ?_⟩
   ·show m2.dp - 1 = m.dp; omega
   ·show m2.cv - 1 = m.cv; omega
   ·show m2.ht = _
    rw [if_neg (fun x => x.2 hp), b3]
  ·have e1 : msE m ⟨true, p, q, t⟩ = ⟨m.pl + 1, m.lf, if m.cv = 0 then max m.ht (m.dp + 1) else m.ht, m.dp + 1, m.cv⟩ := by
    unfold msE
    rw [if_pos rfl, if_neg hp]
   rw [e1]
   obtain ⟨b1, b2, b3⟩ := goesL (kadr t).1 (kadr t).2 t.kids ih 0 ⟨m.pl + 1, m.lf, if m.cv = 0 then max m.ht (m.dp + 1) else m.ht, m.dp + 1, m.cv⟩ h0 (fun e => by
    have e : m.cv = 0 := e
    show m.dp + 1 <= if m.cv = 0 then max m.ht (m.dp + 1) else m.ht
    rw [if_pos e]
    omega)
   unfold kidsA
   generalize msF ⟨m.pl + 1, m.lf, if m.cv = 0 then max m.ht (m.dp + 1) else m.ht, m.dp + 1, m.cv⟩ (evL (kidF (kadr t).1 (kadr t).2 0 t.kids)) = m2 at *
   have e2 : msE m2 ⟨false, p, q, t⟩ = ⟨m2.pl, m2.lf, m2.ht, m2.dp - 1, m2.cv⟩ := by
    unfold msE
    rw [if_neg (by simp), if_neg hp]
   dsimp only at b1 b2 b3
   rw [e2]
   refine ⟨?_, b2, ?_⟩
   ·show m2.dp - 1 = m.dp; omega
   ·show m2.ht = _
    rw [b3]
    have hk : (hgT t : Int) = (hgL t.kids : Int) + 1 := by rw [hgT_eq, if_neg hp]; omega
    by_cases hc : m.cv = 0
    ·rw [if_pos hc, if_pos hc, if_pos ⟨hc, hp⟩, hk]
     omega
    ·rw [if_neg hc, if_neg hc, if_neg (fun x => hc x.1)]
theorem msU_ht (p q : Nat) (t : TV) : (msU (evT p q t)).ht = (hgT t : Int) := by
 obtain ⟨-, -, h⟩ := goes_all t p q ⟨0, 0, 0, 0, 0⟩ (Int.le_refl _)
 have e : msU (evT p q t) = msF ⟨0, 0, 0, 0, 0⟩ (evT p q t) := rfl
 rw [e, h]
 dsimp only
 by_cases hp : t.prod = -1
 ·rw [if_neg (fun x => x.2 hp), hgT_eq, if_pos hp]
  rfl
 ·rw [if_pos ⟨rfl, hp⟩]
  omega
def upU (P : List SP) (H : List Int) (k t : Nat) : List Int := if (P.getD t .none).t.prod ≠ -1 /\ H.getD t 0 < H.getD k 0 + 1 then H.set t (H.getD k 0 + 1) else H
def paU (P : List SP) (H : List Int) (k : Nat) : List Nat -> List Int
 | [] => H
 | t :: _ => upU P H k t
def clU (P : List SP) (d : Int) : List Nat -> List Int -> List Nat × List Int
 | [], H => ([], H)
 | k :: op, H => if d <= (P.getD k .none).d then clU P d op (paU P H k op) else (k :: op, H)
theorem clU_cons (P : List SP) (d : Int) (k : Nat) (op : List Nat) (H : List Int) : clU P d (k :: op) H = if d <= (P.getD k .none).d then clU P d op (paU P H k op) else (k :: op, H) := rfl
def stU (P : List SP) (S : List Nat × List Int) (i : Nat) : List Nat × List Int := (i :: (clU P (P.getD i .none).d S.1 S.2).1, (clU P (P.getD i .none).d S.1 S.2).2)
def foU (P : List SP) : Nat -> Nat -> List Nat × List Int -> List Nat × List Int
 | 0, _, S => S
 | n + 1, i, S => foU P n (i + 1) (stU P S i)
theorem foU_add (P : List SP) : ∀ (a b i : Nat) (S : List Nat × List Int), foU P (a + b) i S = foU P b (i + a) (foU P a i S)
 | 0, b, i, S => by rw [Nat.zero_add]; rfl
 | a + 1, b, i, S => by
  rw [show a + 1 + b = (a + b) + 1 by omega]
  show foU P (a + b) (i + 1) (stU P S i) = foU P b (i + (a + 1)) (foU P a (i + 1) (stU P S i))
  rw [foU_add P a b (i + 1), show i + 1 + a = i + (a + 1) by omega]
theorem cl_cl (P : List SP) {d d' : Int} (h : d <= d') : ∀ (op : List Nat) (H : List Int), clU P d (clU P d' op H).1 (clU P d' op H).2 = clU P d op H
 | [], H => rfl
 | k :: op, H => by
  by_cases q : d' <= (P.getD k .none).d
  ·rw [clU_cons, if_pos q, cl_cl P h op _]
   conv => rhs; rw [clU_cons, if_pos (Int.le_trans h q)]
  ·conv => lhs; rw [clU_cons, if_neg q]
theorem st_cl (P : List SP) (S : List Nat × List Int) (i : Nat) {d : Int} (h : (P.getD i .none).d <= d) : stU P (clU P d S.1 S.2) i = stU P S i := by
 unfold stU
 rw [cl_cl P h]
theorem up_len (P : List SP) (H : List Int) (k t : Nat) : (upU P H k t).length = H.length := by
 unfold upU
 split
 ·simp
 ·rfl
def Ran (P : List SP) (i : Nat) (op : List Nat) (H : List Int) (x : TV) (d : Int) (S : List Nat × List Int) : Prop :=
 ∃ H', clU P (d + 1) S.1 S.2 = (i :: op, H') /\ H'.length = H.length /\ H'.getD i 0 = (hgT x : Int) /\ ∀ j, j < i ∨ i + (plT d x).length <= j -> H'.getD j 0 = H.getD j 0
def iniU (P : List SP) (j : Nat) : Int := if (P.getD j .none).t.prod = -1 then 0 else 1
theorem getD_setI {H : List Int} {i j : Nat} {v : Int} : (H.set i v).getD j 0 = if i = j /\ j < H.length then v else H.getD j 0 := by
 simp only [List.getD, List.getElem?_set]
 by_cases h1 : i = j
 ·subst h1
  by_cases h2 : i < H.length
  ·simp [h2]
  ·simp [h2]
 ·simp [h1]
theorem ran_kids {P : List SP} {i : Nat} {op : List Nat} {x : TV} {d : Int} (hxi : P[i]? = some ⟨x, d, (0, 0), false⟩) :
  ∀ (ks : List TV), (∀ k ∈ ks, ∀ (i : Nat) (op : List Nat) (H : List Int) (d : Int) (rest : List SP), P.drop i = plT d k ++ rest -> H.length = P.length -> (∀ o op', op = o :: op' -> (P.getD o .none).d < d) -> (∀ j, i <= j -> j < P.length -> H.getD j 0 = iniU P j) -> Ran P i op H k d (foU P (plT d k).length i (op, H))) ->
  ∀ (j : Nat) (H : List Int) (m : Nat) (rest : List SP) (S : List Nat × List Int), P.drop j = plL (d + 1) ks ++ rest -> i < j -> H.length = P.length -> clU P (d + 1) S.1 S.2 = (i :: op, H) -> H.getD i 0 = (if x.prod = -1 then 0 else (m : Int) + 1) -> (∀ q, j <= q -> q < P.length -> H.getD q 0 = iniU P q) ->
  ∃ H', clU P (d + 1) (foU P (plL (d + 1) ks).length j S).1 (foU P (plL (d + 1) ks).length j S).2 = (i :: op, H') /\ H'.length = H.length /\ H'.getD i 0 = (if x.prod = -1 then 0 else ((max m (hgL ks) : Nat) : Int) + 1) /\ ∀ q, q < i ∨ j + (plL (d + 1) ks).length <= q -> H'.getD q 0 = H.getD q 0
 | [], _, j, H, m, rest, S, _, _, _, hS, hH, _ => by
  rw [plL_nil]
  refine ⟨H, hS, rfl, ?_, fun _ _ => rfl⟩
  rw [hH]
  show _ = if x.prod = -1 then 0 else ((max m 0 : Nat) : Int) + 1
  rw [Nat.max_zero]
 | k :: ks, hk, j, H, m, rest, S, hdr, hij, hl, hS, hH, hini => by
  have hgi : P.getD i .none = ⟨x, d, (0, 0), false⟩ := by simp [List.getD, hxi]
  have hil : i < P.length := (List.getElem?_eq_some_iff.1 hxi).1
  rw [plL_cons] at hdr ⊢
  rw [List.append_assoc] at hdr
  have hd0 := hdr
  rw [plT_eq] at hd0
  have hPj : P[j]? = some ⟨k, d + 1, (0, 0), false⟩ := by
   have hj : j < P.length := by
    rcases Nat.lt_or_ge j P.length with q | q
    ·exact q
    ·rw [List.drop_eq_nil_of_le q] at hd0; cases hd0
   have e := List.drop_eq_getElem_cons hj
   rw [hd0] at e
   rw [List.getElem?_eq_getElem hj, <- (List.cons.inj e).1]
  have hgj : P.getD j .none = ⟨k, d + 1, (0, 0), false⟩ := by simp [List.getD, hPj]
  have hjl : j < P.length := (List.getElem?_eq_some_iff.1 hPj).1
  -- the kid, begun where its parent lies open
  have e1 : foU P (plT (d + 1) k).length j S = foU P (plT (d + 1) k).length j (i :: op, H) := by
   obtain ⟨n, hn⟩ : ∃ n, (plT (d + 1) k).length = n + 1 := ⟨(plL (d + 1 + 1) k.kids).length, by rw [plT_eq]; rfl⟩
   rw [hn]
   show foU P n (j + 1) (stU P S j) = foU P n (j + 1) (stU P (i :: op, H) j)
   rw [<- hS, st_cl P S j (by rw [hgj]; exact Int.le_refl _)]
  obtain ⟨H1, a1, a2, a3, a4⟩ := hk k (List.mem_cons_self ..) j (i :: op) H (d + 1) _ hdr hl (fun o op' e => by
   obtain ⟨rfl, _⟩ := List.cons.inj e
   rw [hgi]
   show d < d + 1
   omega) hini
  -- the kid closed
  have c1 : clU P (d + 1) (foU P (plT (d + 1) k).length j S).1 (foU P (plT (d + 1) k).length j S).2 = (i :: op, upU P H1 j i) := by
   rw [e1, <- cl_cl P (show d + 1 <= d + 1 + 1 by omega), a1, clU_cons, if_pos (by rw [hgj]; exact Int.le_refl _)]
   show clU P (d + 1) (i :: op) (upU P H1 j i) = _
   rw [clU_cons, if_neg (by rw [hgi]; show ¬ d + 1 <= d; omega)]
  have hH1i : H1.getD i 0 = H.getD i 0 := a4 i (.inl hij)
  have hup : (upU P H1 j i).getD i 0 = (if x.prod = -1 then 0 else ((max m (hgT k) : Nat) : Int) + 1) := by
   unfold upU
   rw [hgi, hH1i, hH, a3]
   by_cases q : x.prod = -1
   ·rw [if_neg (by rintro ⟨z, _⟩; exact z q), hH1i, hH]
    simp [q]
   ·simp only [q, if_false]
    by_cases z : m < hgT k
    ·rw [if_pos ⟨q, by omega⟩, getD_setI, if_pos ⟨rfl, by omega⟩]
     omega
    ·rw [if_neg (by rintro ⟨_, y⟩; omega), hH1i, hH]
     simp only [q, if_false]
     omega
  have hupq : ∀ q, q ≠ i -> (upU P H1 j i).getD q 0 = H1.getD q 0 := fun q hq => by
   unfold upU
   split
   ·rw [getD_setI, if_neg (by rintro ⟨z, _⟩; exact hq z.symm)]
   ·rfl
  have hdr2 : P.drop (j + (plT (d + 1) k).length) = plL (d + 1) ks ++ rest := by
   rw [<- List.drop_drop, hdr, List.drop_left]
  obtain ⟨H2, b1, b2, b3, b4⟩ := ran_kids hxi ks (fun k' hk' => hk k' (List.mem_cons_of_mem _ hk')) (j + (plT (d + 1) k).length) (upU P H1 j i) (max m (hgT k)) rest _ hdr2 (by omega) (by rw [up_len, a2, hl]) c1 hup (fun q h1 h2 => by
   rw [hupq q (by omega), a4 q (.inr h1)]
   exact hini q (by omega) h2)
  refine ⟨H2, ?_, by rw [b2, up_len, a2], ?_, fun q hq => ?_⟩
  ·rw [List.length_append, foU_add]
   exact b1
  ·rw [b3]
   show _ = if x.prod = -1 then 0 else ((max m (max (hgT k) (hgL ks)) : Nat) : Int) + 1
   rw [Nat.max_assoc]
  ·rw [List.length_append] at hq
   rw [b4 q (by omega), hupq q (by rcases hq with z | z <;> omega), a4 q (by omega)]
theorem ran_tree {P : List SP} (x : TV) : ∀ (i : Nat) (op : List Nat) (H : List Int) (d : Int) (rest : List SP), P.drop i = plT d x ++ rest -> H.length = P.length -> (∀ o op', op = o :: op' -> (P.getD o .none).d < d) -> (∀ j, i <= j -> j < P.length -> H.getD j 0 = iniU P j) -> Ran P i op H x d (foU P (plT d x).length i (op, H)) := by
 induction x using TV.ind with
 | h x ih =>
  intro i op H d rest hdr hl hop hini
  have hd0 := hdr
  rw [plT_eq] at hd0
  have hi : i < P.length := by
   rcases Nat.lt_or_ge i P.length with q | q
   ·exact q
   ·rw [List.drop_eq_nil_of_le q] at hd0; cases hd0
  have e := List.drop_eq_getElem_cons hi
  rw [hd0] at e
  obtain ⟨e1, e2⟩ := List.cons.inj e
  have hPi : P[i]? = some ⟨x, d, (0, 0), false⟩ := by rw [List.getElem?_eq_getElem hi, <- e1]
  have hgi : P.getD i .none = ⟨x, d, (0, 0), false⟩ := by simp [List.getD, hPi]
  have hcl : clU P d op H = (op, H) := by
   cases op with
   | nil => rfl
   | cons o op' => rw [clU_cons, if_neg (by have := hop o op' rfl; omega)]
  have hst : stU P (op, H) i = (i :: op, H) := by
   unfold stU
   rw [hgi]
   show (i :: (clU P d op H).1, (clU P d op H).2) = _
   rw [hcl]
  have hini0 : H.getD i 0 = (if x.prod = -1 then 0 else ((0 : Nat) : Int) + 1) := by
   rw [hini i (Nat.le_refl _) hi]
   unfold iniU
   rw [hgi]
   rfl
  obtain ⟨H', b1, b2, b3, b4⟩ := ran_kids hPi x.kids ih (i + 1) H 0 rest (i :: op, H) e2.symm (by omega) hl (by
   rw [clU_cons, if_neg (by rw [hgi]; show ¬ d + 1 <= d; omega)]) hini0 (fun q h1 h2 => hini q (by omega) h2)
  have hn : (plT d x).length = (plL (d + 1) x.kids).length + 1 := by rw [plT_eq]; rfl
  refine ⟨H', ?_, b2, ?_, fun q hq => ?_⟩
  ·rw [hn]
   show clU P (d + 1) (foU P (plL (d + 1) x.kids).length (i + 1) (stU P (op, H) i)).1 (foU P (plL (d + 1) x.kids).length (i + 1) (stU P (op, H) i)).2 = _
   rw [hst]
   exact b1
  ·rw [b3, hgT_eq]
   split
   ·rfl
   ·rw [Nat.zero_max]
    omega
  ·rw [hn] at hq
   exact b4 q (by omega)
structure MWs (w : World) (P : List SP) (vp : Value) (hb : Nat) (H : List Int) (wr : World) : Prop where
 p : SPo wr vp P
 po : ∀ j, vp.ownBlock = some j -> w.heap.size < j /\ j < hb
 k : KB wr hb H
 big : w.heap.size < hb
 len : H.length = P.length
 bel : Below w.heap.size w wr
theorem MWs.any {w wr w' : World} {P : List SP} {vp : Value} {hb : Nat} {H : List Int} (h : MWs w P vp hb H wr) (hb' : Below wr.heap.size wr w') : MWs w P vp hb H w' :=
 ⟨h.p.later hb', h.po, h.k.later hb', h.big, h.len, h.bel.trans (hb'.mono h.bel.size)⟩
theorem MWs.set {w wr : World} {P : List SP} {vp : Value} {hb : Nat} {H : List Int} (h : MWs w P vp hb H wr) (i : Nat) (v : Int) : MWs w P vp hb (H.set i v) (wr.setCell ⟨hb, i, none⟩ (.int .i64 v)) :=
 ⟨h.p.kept (fun j hj => Below.heap_setCell _ _ _ _ (by have := (h.po j hj).2; show j ≠ hb; omega)), h.po, h.k.set i v, h.big, by simpa using h.len, h.bel.setCell (p := ⟨hb, i, none⟩) (by have := h.big; show w.heap.size <= hb; omega) _⟩
theorem MWs.grow {w wr w1 w4 : World} {P : List SP} {vp v v' : Value} {hb : Nat} {H : List Int} (h : MWs w P vp hb H wr) (hb1 : Below wr.heap.size wr w1) (hg : Grew w1 w4 v v') (hv : ∀ j, v.ownBlock = some j -> hb < j) : MWs w P vp hb H w4 := by
 have h1 := h.any hb1
 have hbig := h.big
 refine ⟨h1.p.kept (fun j hj => hg.grown.block j (h1.p.lt j hj) (fun e => by have := hv j e.symm; have := (h.po j hj).2; omega)), h.po, h1.k.kept (hg.grown.block _ h1.k.lt (fun e => by have := hv _ e.symm; omega)), h.big, h.len, hg.below h1.bel (Nat.le_refl _) (fun j hj => by have := hv j hj; omega)⟩
theorem MWs.at {w wr : World} {P : List SP} {pa : Option Addr} {pc : Nat} {hb : Nat} {H : List Int} (h : MWs w P (.slice pa P.length pc) hb H wr) {b : Nat} (hpa : pa = some ⟨b, 0, none⟩) {k : Nat} {x : SP} (hk : P[k]? = some x) : wr.cell? ⟨b, k * 8, none⟩ = some (.int .i64 x.t.prod) /\ wr.cell? ⟨b, k * 8 + 4, none⟩ = some (.int .i64 x.d) := by
 obtain ⟨hlt, hx⟩ := List.getElem?_eq_some_iff.1 hk
 obtain ⟨b', c', hv, -, hc⟩ := RO.cell (f := spCells) (fun _ => rfl) h.p hlt
 simp only [Value.slice.injEq, true_and] at hv
 obtain ⟨e, -⟩ := hv
 rw [hpa] at e
 simp only [Option.some.injEq, Addr.mk.injEq, and_true] at e
 subst e
 rw [hx] at hc
 have c0 := hc 0 (by omega)
 have c4 := hc 4 (by omega)
 simp only [spCells, List.getElem?_cons_zero, List.getElem?_cons_succ, Nat.add_zero] at c0 c4
 exact ⟨c0, c4⟩
def opL (op : List Nat) : List Int := op.reverse.map fun (n : Nat) => (n : Int)
theorem opL_cons (k : Nat) (op : List Nat) : opL (k :: op) = opL op ++ [(k : Int)] := by simp [opL]
theorem opL_len (op : List Nat) : (opL op).length = op.length := by simp [opL]
theorem IL.popT {wr : World} {v : Value} {D : List Int} {x : Int} (h : IL wr v (D ++ [x])) : ∃ b c, v = .slice (some ⟨b, 0, none⟩) (D.length + 1) c /\ D.length + 1 <= c /\ wr.cell? ⟨b, D.length, none⟩ = some (.int .i64 x) /\ IL wr (.slice (some ⟨b, 0, none⟩) D.length c) D := by
 unfold IL at h
 rw [show (D ++ [x]).length = D.length + 1 by simp] at h
 rcases h.2 with ⟨_, h0⟩ | ⟨b, cap, cur, rfl, h1, h2, h3, h4, h5, h6⟩
 ·omega
 ·refine ⟨b, cap, rfl, h3, ?_, ⟨by simp, .inr ⟨b, cap, cur, rfl, h1, h2, by omega, h4, h5, ?_⟩⟩⟩
  ·rw [World.ownsRow.cellAt h D.length (by omega)]
   simp
  ·have e : cur.toList.take (D.length * 1) = (cur.toList.take ((D.length + 1) * 1)).take D.length := by rw [List.take_take]; congr 1; omega
   rw [e, h6]
   simp
theorem slice_toT (b lc len i : Nat) (hi : i <= lc) (w : World) : (Instr.slice 55 (.slice (some ⟨b, 0, none⟩) len lc) none (some (.int .i64 (i : Int))) none).run Tryz.prog w = .ok (.slice (some ⟨b, 0, none⟩) i lc) w := by
 obtain ⟨i0, hinf, _, hz1, _⟩ := infoInt_parts
 have hu : Tryz.prog.underlying 55 = some (.slice (Tryz.prog.elem 55)) := by kernel_rfl
 have he : Tryz.prog.elem 55 = 3 := by kernel_rfl
 have := run_slice_h (P := Tryz.prog) (w := w) 55 (some ⟨b, 0, none⟩) len lc hu .i64 (i : Int) (by omega) (by omega)
 rw [this, he]
 simp [sizeOf, typeInfo, hinf, hz1]
 unfold sliced
 split <;> simp [add_none]
def lenT : Value -> Nat
 | .slice _ n _ => n
 | _ => 0
theorem pw_len : ∀ (op : List Nat) (n : Nat), op.Pairwise (· > ·) -> (∀ k ∈ op, k < n) -> op.length <= n
 | [], _, _, _ => Nat.zero_le _
 | k :: op, n, h, hl => by
  have h1 := pw_len op k (List.pairwise_cons.1 h).2 (fun j hj => (List.pairwise_cons.1 h).1 j hj)
  have h2 := hl k (List.mem_cons_self ..)
  rw [List.length_cons]
  omega
structure OWs (w : World) (P : List SP) (vp : Value) (hb : Nat) (i : Nat) (op : List Nat) (H : List Int) (vo : Value) (wr : World) : Prop where
 m : MWs w P vp hb H wr
 o : IL wr vo (opL op)
 own : ∀ j, vo.ownBlock = some j -> hb < j
 lt : ∀ k ∈ op, k < i /\ k < P.length
 dn : op.Pairwise (· > ·)
 hh : ∀ j, j < P.length -> 0 <= H.getD j 0 /\ H.getD j 0 + (j : Int) <= P.length
theorem OWs.any {w wr w' : World} {P : List SP} {vp vo : Value} {hb i : Nat} {op : List Nat} {H : List Int} (h : OWs w P vp hb i op H vo wr) (hb' : Below wr.heap.size wr w') : OWs w P vp hb i op H vo w' :=
 ⟨h.m.any hb', h.o.later hb', h.own, h.lt, h.dn, h.hh⟩
theorem OWs.up {w wr : World} {P : List SP} {vp vo : Value} {hb i : Nat} {op : List Nat} {H : List Int} (h : OWs w P vp hb i op H vo wr) (t : Nat) (v : Int) (hv : t < P.length -> 0 <= v /\ v + (t : Int) <= P.length) : OWs w P vp hb i op (H.set t v) vo (wr.setCell ⟨hb, t, none⟩ (.int .i64 v)) := by
 refine ⟨h.m.set t v, h.o.kept (fun j hj => Below.heap_setCell _ _ _ _ (by have := h.own j hj; show j ≠ hb; omega)), h.own, h.lt, h.dn, fun j hj => ?_⟩
 rw [getD_setI]
 by_cases e : t = j
 ·subst e
  rw [if_pos ⟨rfl, by rw [h.m.len]; exact hj⟩]
  exact hv hj
 ·rw [if_neg (fun z => e z.1)]
  exact h.hh j hj
theorem OWs.push {w wr w1 w4 : World} {P : List SP} {vp vo v' : Value} {hb i : Nat} {op : List Nat} {H : List Int} (h : OWs w P vp hb i op H vo wr) (hb1 : Below wr.heap.size wr w1) (hg : Grew w1 w4 vo v') (hi : IL w4 v' (opL op ++ [(i : Int)])) (hil : i < P.length) : OWs w P vp hb (i + 1) (i :: op) H v' w4 := by
 refine ⟨h.m.grow hb1 hg h.own, by rw [opL_cons]; exact hi, fun j hj => hg.own (n := hb + 1) (by have := (h.m.any hb1).k.lt; omega) h.own j hj, fun k hk => ?_, List.pairwise_cons.2 ⟨fun k hk => (h.lt k hk).1, h.dn⟩, h.hh⟩
 rcases List.mem_cons.1 hk with rfl | hk
 ·exact ⟨Nat.lt_succ_self _, hil⟩
 ·exact ⟨Nat.lt_succ_of_lt (h.lt k hk).1, (h.lt k hk).2⟩
theorem OWs.mono {w wr : World} {P : List SP} {vp vo : Value} {hb i : Nat} {op : List Nat} {H : List Int} (h : OWs w P vp hb i op H vo wr) : OWs w P vp hb (i + 1) op H vo wr := ⟨h.m, h.o, h.own, fun k hk => ⟨Nat.lt_succ_of_lt (h.lt k hk).1, (h.lt k hk).2⟩, h.dn, h.hh⟩
theorem OWs.pop {w wr : World} {P : List SP} {vp vo : Value} {hb i k : Nat} {op : List Nat} {H : List Int} (h : OWs w P vp hb i (k :: op) H vo wr) : ∃ b c, vo = .slice (some ⟨b, 0, none⟩) (op.length + 1) c /\ op.length + 1 <= c /\ wr.cell? ⟨b, op.length, none⟩ = some (.int .i64 (k : Int)) /\ OWs w P vp hb i op H (.slice (some ⟨b, 0, none⟩) op.length c) wr := by
 have ho := h.o
 rw [opL_cons] at ho
 obtain ⟨b, c, rfl, h1, h2, h3⟩ := IL.popT ho
 rw [opL_len] at h1 h2 h3 ⊢
 exact ⟨b, c, rfl, h1, h2, h.m, h3, h.own, fun j hj => h.lt j (List.mem_cons_of_mem _ hj), (List.pairwise_cons.1 h.dn).2, h.hh⟩
theorem OWs.top {w wr : World} {P : List SP} {vp : Value} {hb i k b n c : Nat} {op : List Nat} {H : List Int} (h : OWs w P vp hb i (k :: op) H (.slice (some ⟨b, 0, none⟩) n c) wr) : wr.cell? ⟨b, op.length, none⟩ = some (.int .i64 (k : Int)) := by
 obtain ⟨b', c', e, _, h2, _⟩ := h.pop
 simp only [Value.slice.injEq, Option.some.injEq, Addr.mk.injEq] at e
 obtain ⟨⟨rfl, _⟩, _⟩ := e
 exact h2
theorem pl_pos (d : Int) (t : TV) : 0 < (plT d t).length := by rw [plT_eq]; simp
set_option linter.unusedSimpArgs false in
set_option maxRecDepth 100000 in
set_option maxHeartbeats 8000000 in
theorem measure_S (t : TV) (w : World) (ht : TAt w t) (hsz : (plT 0 t).length <= 1048576) : Calls Tryz.prog 7 #[t.val] w fun e w' => e = .returned (.tuple #[.int .i64 ((plT 0 t).length : Int), .int .i64 ((leafs (plT 0 t)).length : Int), .int .i64 (hgT t : Int)]) /\ Below w.heap.size w w' := by
 have PC : Hid (Calls Tryz.prog 38 #[t.val] (w.alloc (tBox t)) fun e w' => ∃ a c, e = .returned (.slice a (plT 0 t).length c) /\ SPo w' (.slice a (plT 0 t).length c) (plT 0 t) /\ (∀ j, (Value.slice a (plT 0 t).length c).ownBlock = some j -> (w.alloc (tBox t)).heap.size < j) /\ Below (w.alloc (tBox t)).heap.size (w.alloc (tBox t)) w') := places_S t _ (ht.later (below_alloc _ _)) (by omega)
 have BA : Hid (Below w.heap.size w (w.alloc (tBox t))) := below_alloc _ _
 have HZ : Hid ((w.alloc (tBox t)).heap.size = w.heap.size + 1) := by simp [Hid]
 have hmk := make_intF (plT 0 t).length hsz
 have HRAN : Hid (∀ H : List Int, H.length = (plT 0 t).length -> (∀ j, j < (plT 0 t).length -> H.getD j 0 = iniU (plT 0 t) j) -> (clU (plT 0 t) 0 (foU (plT 0 t) (plT 0 t).length 0 ([], H)).1 (foU (plT 0 t) (plT 0 t).length 0 ([], H)).2).2.getD 0 0 = (hgT t : Int)) := fun H h1 h2 => by
  obtain ⟨H', a1, a2, a3, a4⟩ := ran_tree (P := plT 0 t) t 0 [] H 0 [] (by rw [List.append_nil]; rfl) h1 (fun o op' e => by cases e) (fun j _ hj => h2 j hj)
  rw [<- cl_cl (plT 0 t) (show (0 : Int) <= 0 + 1 by omega), a1, clU_cons, if_pos (by rw [plT_eq]; exact Int.le_refl _)]
  exact a3
 have hpos := pl_pos 0 t
 have HSZ : Hid ((plT 0 t).length <= 1048576) := hsz
 generalize plT 0 t = P at *
 clear ht
 go_enter Tryz.func7, Tryz.ntmps7
 go_wp2_with (go_at_call 38; refine PC.out.mono ?_; rintro e w1 ⟨pa, pc, rfl, hp1, ho1, b1⟩; have W1 : Hid (MWs w P (.slice pa P.length pc) w1.heap.size (List.replicate P.length 0) (w1.alloc (.cells (madeCells #[.int .i64 0] P.length) 3))) := ⟨hp1.later (below_alloc _ _), fun j hj => ⟨by have := ho1 j hj; have := HZ.out; omega, hp1.lt j hj⟩, KB.made w1 P.length, by have := b1.size; have := HZ.out; omega, by simp, (BA.out.trans (b1.mono BA.out.size)).trans ((below_alloc _ _).mono (BA.out.trans (b1.mono BA.out.size)).size)⟩; clear hp1 ho1 b1)
 clear PC BA HZ hmk
 obtain ⟨pb, hpb⟩ : ∃ pb, pa = some ⟨pb, 0, none⟩ := by
  obtain ⟨b, c, hv, -, -⟩ := RO.cell (f := spCells) (fun _ => rfl) W1.out.p hpos
  simp only [Value.slice.injEq, true_and] at hv
  exact ⟨b, hv.1⟩
 subst hpb
 obtain ⟨hb, hhb⟩ : ∃ hb, w1.heap.size = hb := ⟨_, rfl⟩
 rw [hhb] at W1 ⊢
 generalize w1.alloc (.cells (madeCells #[.int .i64 0] P.length) 3) = w2 at *
 clear hhb
 go_loopw [6, 8] (fun z6 z8 wr => ∃ k : Nat, k <= P.length /\ z8 = .int .i64 (k : Int) /\ z6 = .int .i64 ((leafs (P.take k)).length : Int) /\ MWs w P (.slice (some ⟨pb, 0, none⟩) P.length pc) hb (List.replicate P.length 0) wr) (fun _ z _ => P.length - (intOf z).toNat)
 case atStart => exact ⟨0, Nat.zero_le _, rfl, by rw [List.take_zero]; rfl, W1.out⟩
 case round =>
  clear W1
  obtain ⟨k, hk, rfl, rfl, hM⟩ := hrel
  have hll : (leafs (P.take k)).length <= P.length := by
   have h1 := List.length_filter_le (fun x : SP => decide (x.t.prod = -1)) (P.take k)
   rw [List.length_take] at h1
   show (List.filter _ _).length <= _
   omega
  by_cases hlt : k < P.length
  ·have klt : (k : Int) < (P.length : Int) := by omega
   obtain ⟨x, hx⟩ : ∃ x, P[k]? = some x := ⟨_, List.getElem?_eq_getElem hlt⟩
   obtain ⟨c0, -⟩ := hM.at rfl hx
   have HT := leafs_take hx
   have HM : Hid (MWs w P (.slice (some ⟨pb, 0, none⟩) P.length pc) hb (List.replicate P.length 0) wr) := hM
   by_cases hp : x.t.prod = -1
   ·have e0 : (x.t.prod == -1) = true := by simpa using hp
    rw [if_pos hp] at HT
    have HT2 : Hid ((leafs (P.take (k + 1))).length = (leafs (P.take k)).length + 1) := by show _ = _; rw [HT]; simp
    clear hp hx HT hM
    generalize (leafs (P.take k)).length = n at *
    go_wp2
    go_roundw
    case rel => exact ⟨k + 1, by omega, by go_num, by rw [HT2.out]; go_num, HM.out⟩
    case measure => simp [intOf]; omega
   ·have e0 : (x.t.prod == -1) = false := by simpa using hp
    rw [if_neg hp, List.append_nil] at HT
    have HT2 : Hid ((leafs (P.take (k + 1))).length = (leafs (P.take k)).length) := by show _ = _; rw [HT]
    clear hp hx HT hM
    generalize (leafs (P.take k)).length = n at *
    go_wp2
    go_roundw
    case rel => exact ⟨k + 1, by omega, by go_num, by rw [HT2.out], HM.out⟩
    case measure => simp [intOf]; omega
  ·obtain rfl : k = P.length := by omega
   have klt : ¬ (P.length : Int) < (P.length : Int) := by omega
   rw [List.take_length] at hll ⊢
   have HM : Hid (MWs w P (.slice (some ⟨pb, 0, none⟩) P.length pc) hb (List.replicate P.length 0) wr) := hM
   clear hM
   obtain ⟨nl, hnl⟩ : ∃ nl, (leafs P).length = nl := ⟨_, rfl⟩
   rw [hnl] at hll ⊢
   have HNL : Hid ((leafs P).length = nl) := hnl
   clear hnl
   obtain ⟨wz, rfl⟩ : ∃ wz : World, wz = wr := ⟨_, rfl⟩
   go_wp2
   go_loopw [9] (fun z wr => ∃ (m : Nat) (H : List Int), m <= P.length /\ z = .int .i64 ((m : Int) - 1) /\ MWs w P (.slice (some ⟨pb, 0, none⟩) P.length pc) hb H wr /\ (∀ j, m <= j -> j < P.length -> H.getD j 0 = iniU P j) /\ ∀ j, j < m -> H.getD j 0 = 0) (fun z _ => (intOf z + 1).toNat)
   case atStart => exact ⟨P.length, _, Nat.le_refl _, by go_num, HM.out, fun j h1 h2 => by omega, fun j hj => by simp [List.getD, hj]⟩
   case round =>
    clear HM
    obtain ⟨m, H, hm, rfl, hM, hI, hZ⟩ := hrel
    rcases Nat.eq_zero_or_pos m with rfl | hmp
    ·have HM : Hid (MWs w P (.slice (some ⟨pb, 0, none⟩) P.length pc) hb H wr) := hM
     have HI : Hid (∀ j, j < P.length -> H.getD j 0 = iniU P j) := fun j hj => hI j (Nat.zero_le _) hj
     clear hM hI hZ
     obtain ⟨q9, h9⟩ : ∃ q9 : Int, ((0 : Nat) : Int) - 1 = q9 := ⟨_, rfl⟩
     have n9 : ¬ (0 : Int) <= q9 := by omega
     rw [h9]
     clear h9
     obtain ⟨wv, rfl⟩ : ∃ wv : World, wv = wr := ⟨_, rfl⟩
     go_wp2
     have HO0 : Hid (OWs w P (.slice (some ⟨pb, 0, none⟩) P.length pc) hb 0 [] H (.slice none 0 0) wv) := ⟨HM.out, IL.nil _, fun j hj => by simp [Value.ownBlock] at hj, fun k hk => (by cases hk), List.Pairwise.nil, fun j hj => (by
      rw [HI.out j hj]
      unfold iniU
      split
      ·omega
      ·omega)⟩
     have HFIN : Hid ((clU P 0 (foU P P.length 0 ([], H)).1 (foU P P.length 0 ([], H)).2).2.getD 0 0 = (hgT t : Int)) := HRAN.out H HM.out.len HI.out
     clear HM HI HRAN
     obtain ⟨H0, hH0⟩ : ∃ H0, H = H0 := ⟨_, rfl⟩
     rw [hH0] at HO0 HFIN
     clear hH0
     go_loopw [10, 11] (fun vo z wr => ∃ (i : Nat) (op : List Nat) (H : List Int), i <= P.length + 1 /\ z = .int .i64 (i : Int) /\ OWs w P (.slice (some ⟨pb, 0, none⟩) P.length pc) hb i op H vo wr /\ ((i <= P.length /\ foU P i 0 ([], H0) = (op, H)) ∨ (i = P.length + 1 /\ H.getD 0 0 = (hgT t : Int)))) (fun _ z _ => P.length + 1 - (intOf z).toNat)
     case atStart => exact ⟨0, [], H0, Nat.zero_le _, rfl, HO0.out, .inl ⟨Nat.zero_le _, rfl⟩⟩
     case round =>
      clear HO0
      obtain ⟨i, op, H, hi, rfl, hO, hst⟩ := hrel
      obtain ⟨va, vc, rfl⟩ := il_len hO.o
      rw [opL_len] at hO ⊢
      rcases hst with ⟨hil, hfo⟩ | ⟨rfl, hfin⟩
      ·have ile : (i : Int) <= (P.length : Int) := by omega
       obtain ⟨dd, hdd⟩ : ∃ dd : Int, (if i < P.length then (P.getD i .none).d else 0) = dd := ⟨_, rfl⟩
       have HDD : Hid ((if i < P.length then (P.getD i .none).d else 0) = dd) := hdd
       have HFO : Hid (foU P i 0 ([], H0) = (op, H)) := hfo
       have HO : Hid (OWs w P (.slice (some ⟨pb, 0, none⟩) P.length pc) hb i op H (.slice va op.length vc) wr) := hO
       have hol : op.length <= 1048576 := by
        have h1 := HSZ.out
        have h2 : op.length <= P.length := pw_len op P.length hO.dn (fun k hk => (hO.lt k hk).2)
        omega
       clear hfo
       obtain ⟨wu, rfl⟩ : ∃ wu : World, wu = wr := ⟨_, rfl⟩
       by_cases hip : i < P.length
       ·have HIP : Hid (i < P.length) := hip
        have ilt : (i : Int) < (P.length : Int) := by omega
        rw [if_pos hip] at hdd
        obtain ⟨x, hx⟩ : ∃ x, P[i]? = some x := ⟨_, List.getElem?_eq_getElem hip⟩
        have hgx : P.getD i .none = x := by simp [List.getD, hx]
        rw [hgx] at hdd
        obtain ⟨-, c4⟩ := hO.m.at rfl hx
        rw [hdd] at c4
        clear hO hx hgx hdd
        go_wp2
        clear c4
        go_loopw [10] (fun vo wr => ∃ (op' : List Nat) (H' : List Int), OWs w P (.slice (some ⟨pb, 0, none⟩) P.length pc) hb i op' H' vo wr /\ clU P dd op' H' = clU P dd op H) (fun v _ => lenT v)
        case atStart => exact ⟨op, H, HO.out, rfl⟩
        case round =>
         clear HO
         obtain ⟨op', H', hO, hcl⟩ := hrel
         have HCL : Hid (clU P dd op' H' = clU P dd op H) := hcl
         clear hcl
         rcases op' with _ | ⟨kk, op2⟩
         ·obtain ⟨va2, vc2, rfl⟩ := il_len hO.o
          change OWs w P _ hb i [] H' (.slice va2 0 vc2) wr at hO
          have HOX : Hid (OWs w P (.slice (some ⟨pb, 0, none⟩) P.length pc) hb i [] H' (.slice va2 0 vc2) wr) := hO
          have HX : Hid (clU P dd op H = ([], H')) := HCL.out.symm
          have hox : ([] : List Nat).length <= 1048576 := Nat.zero_le _
          clear hO HCL
          have HST : Hid (foU P (i + 1) 0 ([], H0) = (i :: [], H')) := by
           show _ = _
           rw [foU_add P i 1 0, HFO.out, Nat.zero_add]
           show stU P (op, H) i = _
           have e := HDD.out
           rw [if_pos HIP.out] at e
           unfold stU
           rw [e]
           show (i :: (clU P dd op H).1, (clU P dd op H).2) = _
           rw [HX.out]
          have HLL : Hid ((opL []).length <= 2000000) := by show _ <= _; rw [opL_len]; omega
          have il2 : (i : Int) < (P.length : Int) := by have := HIP.out; omega
          go_wp2_with (at_builtin; refine wpList_il_append rfl _ _ rfl (.slice va2 0 vc2) (opL []) rfl (HOX.out.o.later (below_alloc _ _)) wr.heap.size 1 (i : Int) rfl (by simp) HLL.out ?_; intro a4 n4 c4 w4 ho4 hg4; have W4 : Hid (OWs w P (.slice (some ⟨pb, 0, none⟩) P.length pc) hb (i + 1) (i :: []) H' (.slice a4 n4 c4) w4) := HOX.out.push (below_alloc _ _) hg4 ho4 HIP.out; clear ho4 hg4)
          go_roundw
          case rel => exact ⟨i + 1, i :: [], H', by omega, by go_num, W4.out, .inl ⟨HIP.out, HST.out⟩⟩
          case measure => simp [intOf]; omega
         ·have hkk := hO.lt kk (List.mem_cons_self ..)
          obtain ⟨ob, oc, rfl, hoc, ck, hO2⟩ := hO.pop
          obtain ⟨y, hy⟩ : ∃ y, P[kk]? = some y := ⟨_, List.getElem?_eq_getElem hkk.2⟩
          have hgy : P.getD kk .none = y := by simp [List.getD, hy]
          obtain ⟨-, c4⟩ := hO.m.at rfl hy
          have hox : (kk :: op2).length <= 1048576 := by
           have h1 := HSZ.out
           have h2 := pw_len (kk :: op2) P.length hO.dn (fun k hk => (hO.lt k hk).2)
           omega
          have hol2 : op2.length <= 1048576 := by rw [List.length_cons] at hox; omega
          have klt : (kk : Int) < (P.length : Int) := by omega
          have hs1 := slice_toT ob oc (op2.length + 1) op2.length (by omega)
          by_cases hd : dd <= y.d
          ·have HNX : Hid (clU P dd op2 (paU P H' kk op2) = clU P dd op H) := by
            show _ = _
            rw [<- HCL.out, clU_cons, if_pos (by rw [hgy]; exact hd)]
           have d1 : decide (dd <= y.d) = true := decide_eq_true hd
           have HO2 : Hid (OWs w P (.slice (some ⟨pb, 0, none⟩) P.length pc) hb i op2 H' (.slice (some ⟨ob, 0, none⟩) op2.length oc) wr) := hO2
           have hkv := hO.m.k.cell (i := kk) (by rw [hO.m.len]; exact hkk.2)
           have hkb := hO.hh kk hkk.2
           rcases op2 with _ | ⟨tt, op3⟩
           ·obtain ⟨hk, hhk⟩ : ∃ hk, H'.getD kk 0 = hk := ⟨_, rfl⟩
            rw [hhk] at hkv hkb
            clear hO hO2 hy hgy hd HCL hhk
            simp only [List.length_nil, Nat.zero_add] at ck hs1 hoc HO2 ⊢
            go_wp2
            go_quiet (fail)
            go_wp2
            go_roundw
            case rel => exact ⟨[], H', HO2.out.any (below_drewN (Below.refl _ _) _), HNX.out⟩
            case measure => simp [lenT]
           ·have htt := hO2.lt tt (List.mem_cons_self ..)
            obtain ⟨z, hz⟩ : ∃ z, P[tt]? = some z := ⟨_, List.getElem?_eq_getElem htt.2⟩
            have hgz : P.getD tt .none = z := by simp [List.getD, hz]
            obtain ⟨p0, -⟩ := hO.m.at rfl hz
            have ct := hO2.top
            have htv := hO.m.k.cell (i := tt) (by rw [hO.m.len]; exact htt.2)
            have htb := hO.hh tt htt.2
            have tlt : (tt : Int) < (P.length : Int) := by omega
            have ol3 : ((op3.length + 1 : Nat) : Int) - 1 = (op3.length : Int) := by omega
            have hol3 : op3.length <= 1048576 := by rw [List.length_cons] at hol2; omega
            obtain ⟨hk, hhk⟩ : ∃ hk, H'.getD kk 0 = hk := ⟨_, rfl⟩
            obtain ⟨ht, hht⟩ : ∃ ht, H'.getD tt 0 = ht := ⟨_, rfl⟩
            have HPA : Hid (paU P H' kk (tt :: op3) = if z.t.prod ≠ -1 /\ ht < hk + 1 then H'.set tt (hk + 1) else H') := by
             show upU P H' kk tt = _
             unfold upU
             rw [hgz, hhk, hht]
            rw [hhk] at hkv hkb
            rw [hht] at htv htb
            have hPl := HSZ.out
            have fm := hO.m.k.free tt
            have hk2 : kk ≠ tt := by have := (List.pairwise_cons.1 hO.dn).1 tt (List.mem_cons_self ..); omega
            have hkt : tt < kk := (List.pairwise_cons.1 hO.dn).1 tt (List.mem_cons_self ..)
            by_cases hp : z.t.prod = -1
            ·have e9 : (z.t.prod != -1) = false := by simpa using hp
             have HPB : Hid (paU P H' kk (tt :: op3) = H') := by
              show _ = _
              rw [HPA.out, if_neg (fun q => q.1 hp)]
             clear hO hO2 hy hgy hz hgz hd HCL hhk hht HPA hp
             simp only [List.length_cons] at ck ct hs1 hoc HO2 ⊢
             go_wp2
             go_quiet (fail)
             go_wp2
             go_roundw
             case rel => exact ⟨tt :: op3, H', HO2.out.any (below_drewN (Below.refl _ _) _), by rw [<- HNX.out, HPB.out]⟩
             case measure => simp [lenT]
            ·have e9 : (z.t.prod != -1) = true := by simpa using hp
             have hk0 : 0 <= hk := hkb.1
             have hk1 : hk <= 1048576 := by omega
             have ht0 : 0 <= ht := htb.1
             by_cases hl2 : ht < hk + 1
             ·have HPB : Hid (paU P H' kk (tt :: op3) = H'.set tt (hk + 1)) := by
               show _ = _
               rw [HPA.out, if_pos ⟨hp, hl2⟩]
              have d2 : decide (ht < hk + 1) = true := decide_eq_true hl2
              have HBD : Hid (tt < P.length -> 0 <= hk + 1 /\ hk + 1 + (tt : Int) <= P.length) := fun _ => ⟨by omega, by omega⟩
              clear hO hO2 hy hgy hz hgz hd HCL hhk hht HPA hp
              simp only [List.length_cons] at ck ct hs1 hoc HO2 ⊢
              go_wp2
              go_quiet (fail)
              go_wp2
              obtain ⟨wd, hwd⟩ : ∃ wd : World, wd = (wr.drewN nq).drew := ⟨_, rfl⟩
              have BD : Hid (Below wr.heap.size wr wd) := by rw [hwd]; exact (below_drewN (Below.refl _ _) _).drew
              have cc : ∀ p : Addr, wd.cell? p = wr.cell? p := fun p => by rw [hwd]; rfl
              have ct2 := (cc _).trans ct
              have hkv2 := (cc _).trans hkv
              have htv2 := (cc _).trans htv
              have fm2 : ∀ (v : Value), wd.setCell ⟨hb, tt, none⟩ v = wd.setCell ⟨hb, tt, none⟩ v := fun _ => rfl
              refine wp_region_tail_d 13 (by kernel_rfl) (by kernel_rfl) wd hwd ?_
              clear cc hwd
              have SU : Hid (OWs w P (.slice (some ⟨pb, 0, none⟩) P.length pc) hb i (tt :: op3) (H'.set tt (hk + 1)) (.slice (some ⟨ob, 0, none⟩) (op3.length + 1) oc) (wd.setCell ⟨hb, tt, none⟩ (.int .i64 (hk + 1)))) := (HO2.out.any BD.out).up tt (hk + 1) HBD.out
              have fz : wd.frozen? ⟨hb, tt, none⟩ = false := (HO2.out.any BD.out).m.k.free tt
              simp only [List.take_succ_cons, List.take_zero, List.drop_succ_cons, List.drop_zero]
              have wo3 : IntKind.i64.wrap (op3.length : Int) = (op3.length : Int) := wrap_i64 (by omega) (by omega)
              have l33 : (op3.length : Int) < (op3.length : Int) + 1 := by omega
              have wk3 : IntKind.i64.wrap (hk + 1) = hk + 1 := wrap_i64 (by omega) (by omega)
              iterate 13 (refine wpStill_step (fun K hK => ?_); go_simp; refine hK _ ?_; clear hK K)
              refine wpStill_nil ?_
              go_wp2
              go_roundw
              case rel => exact ⟨tt :: op3, _, SU.out, by rw [<- HNX.out, HPB.out]⟩
              case measure => simp [lenT]
             ·have HPB : Hid (paU P H' kk (tt :: op3) = H') := by
               show _ = _
               rw [HPA.out, if_neg (fun q => hl2 q.2)]
              have d2 : decide (ht < hk + 1) = false := decide_eq_false hl2
              clear hO hO2 hy hgy hz hgz hd HCL hhk hht HPA hp
              simp only [List.length_cons] at ck ct hs1 hoc HO2 ⊢
              go_wp2
              go_quiet (fail)
              go_wp2
              go_roundw
              case rel => exact ⟨tt :: op3, H', HO2.out.any (below_drewN (Below.refl _ _) _), by rw [<- HNX.out, HPB.out]⟩
              case measure => simp [lenT]
          ·have HX : Hid (clU P dd op H = (kk :: op2, H')) := by
            show _ = _
            rw [<- HCL.out, clU_cons, if_neg (by rw [hgy]; exact hd)]
           have d1 : decide (dd <= y.d) = false := decide_eq_false hd
           have HOX : Hid (OWs w P (.slice (some ⟨pb, 0, none⟩) P.length pc) hb i (kk :: op2) H' (.slice (some ⟨ob, 0, none⟩) (op2.length + 1) oc) wr) := hO
           clear hO hO2 hy hgy hd HCL hs1
           have HST : Hid (foU P (i + 1) 0 ([], H0) = (i :: (kk :: op2), H')) := by
            show _ = _
            rw [foU_add P i 1 0, HFO.out, Nat.zero_add]
            show stU P (op, H) i = _
            have e := HDD.out
            rw [if_pos HIP.out] at e
            unfold stU
            rw [e]
            show (i :: (clU P dd op H).1, (clU P dd op H).2) = _
            rw [HX.out]
           have HLL : Hid ((opL (kk :: op2)).length <= 2000000) := by show _ <= _; rw [opL_len]; omega
           have il2 : (i : Int) < (P.length : Int) := by have := HIP.out; omega
           go_wp2_with (at_builtin; refine wpList_il_append rfl _ _ rfl (.slice (some ⟨ob, 0, none⟩) (op2.length + 1) oc) (opL (kk :: op2)) rfl (HOX.out.o.later (below_alloc _ _)) wr.heap.size 1 (i : Int) rfl (by simp) HLL.out ?_; intro a4 n4 c4 w4 ho4 hg4; have W4 : Hid (OWs w P (.slice (some ⟨pb, 0, none⟩) P.length pc) hb (i + 1) (i :: (kk :: op2)) H' (.slice a4 n4 c4) w4) := HOX.out.push (below_alloc _ _) hg4 ho4 HIP.out; clear ho4 hg4)
           go_roundw
           case rel => exact ⟨i + 1, i :: (kk :: op2), H', by omega, by go_num, W4.out, .inl ⟨HIP.out, HST.out⟩⟩
           case measure => simp [intOf]; omega
       ·have HIP : Hid (¬ i < P.length) := hip
        have ilt : ¬ (i : Int) < (P.length : Int) := by omega
        rw [if_neg hip] at hdd
        obtain rfl := hdd
        clear hO
        go_wp2
        go_loopw [10] (fun vo wr => ∃ (op' : List Nat) (H' : List Int), OWs w P (.slice (some ⟨pb, 0, none⟩) P.length pc) hb i op' H' vo wr /\ clU P 0 op' H' = clU P 0 op H) (fun v _ => lenT v)
        case atStart => exact ⟨op, H, HO.out, rfl⟩
        case round =>
         clear HO
         obtain ⟨op', H', hO, hcl⟩ := hrel
         have HCL : Hid (clU P 0 op' H' = clU P 0 op H) := hcl
         clear hcl
         rcases op' with _ | ⟨kk, op2⟩
         ·obtain ⟨va2, vc2, rfl⟩ := il_len hO.o
          change OWs w P _ hb i [] H' (.slice va2 0 vc2) wr at hO
          have HOX : Hid (OWs w P (.slice (some ⟨pb, 0, none⟩) P.length pc) hb i [] H' (.slice va2 0 vc2) wr) := hO
          have HX : Hid (clU P 0 op H = ([], H')) := HCL.out.symm
          have hox : ([] : List Nat).length <= 1048576 := Nat.zero_le _
          clear hO HCL
          have HFI : Hid (H'.getD 0 0 = (hgT t : Int)) := by
           have e := HFIN.out
           have ei : i = P.length := by have := HIP.out; omega
           rw [<- ei, HFO.out] at e
           change (clU P 0 op H).2.getD 0 0 = _ at e
           rw [HX.out] at e
           exact e
          have il2 : ¬ (i : Int) < (P.length : Int) := by have := HIP.out; omega
          have HEI : Hid (i = P.length) := by have := HIP.out; show _ = _; omega
          go_wp2
          go_roundw
          case rel => exact ⟨i + 1, [], H', by omega, by go_num, HOX.out.mono, .inr ⟨by rw [HEI.out], HFI.out⟩⟩
          case measure => simp [intOf]; omega
         ·have hkk := hO.lt kk (List.mem_cons_self ..)
          obtain ⟨ob, oc, rfl, hoc, ck, hO2⟩ := hO.pop
          obtain ⟨y, hy⟩ : ∃ y, P[kk]? = some y := ⟨_, List.getElem?_eq_getElem hkk.2⟩
          have hgy : P.getD kk .none = y := by simp [List.getD, hy]
          obtain ⟨-, c4⟩ := hO.m.at rfl hy
          have hox : (kk :: op2).length <= 1048576 := by
           have h1 := HSZ.out
           have h2 := pw_len (kk :: op2) P.length hO.dn (fun k hk => (hO.lt k hk).2)
           omega
          have hol2 : op2.length <= 1048576 := by rw [List.length_cons] at hox; omega
          have klt : (kk : Int) < (P.length : Int) := by omega
          have hs1 := slice_toT ob oc (op2.length + 1) op2.length (by omega)
          by_cases hd : 0 <= y.d
          ·have HNX : Hid (clU P 0 op2 (paU P H' kk op2) = clU P 0 op H) := by
            show _ = _
            rw [<- HCL.out, clU_cons, if_pos (by rw [hgy]; exact hd)]
           have d1 : decide (0 <= y.d) = true := decide_eq_true hd
           have HO2 : Hid (OWs w P (.slice (some ⟨pb, 0, none⟩) P.length pc) hb i op2 H' (.slice (some ⟨ob, 0, none⟩) op2.length oc) wr) := hO2
           have hkv := hO.m.k.cell (i := kk) (by rw [hO.m.len]; exact hkk.2)
           have hkb := hO.hh kk hkk.2
           rcases op2 with _ | ⟨tt, op3⟩
           ·obtain ⟨hk, hhk⟩ : ∃ hk, H'.getD kk 0 = hk := ⟨_, rfl⟩
            rw [hhk] at hkv hkb
            clear hO hO2 hy hgy hd HCL hhk
            simp only [List.length_nil, Nat.zero_add] at ck hs1 hoc HO2 ⊢
            go_wp2
            go_quiet (fail)
            go_wp2
            go_roundw
            case rel => exact ⟨[], H', HO2.out.any (below_drewN (Below.refl _ _) _), HNX.out⟩
            case measure => simp [lenT]
           ·have htt := hO2.lt tt (List.mem_cons_self ..)
            obtain ⟨z, hz⟩ : ∃ z, P[tt]? = some z := ⟨_, List.getElem?_eq_getElem htt.2⟩
            have hgz : P.getD tt .none = z := by simp [List.getD, hz]
            obtain ⟨p0, -⟩ := hO.m.at rfl hz
            have ct := hO2.top
            have htv := hO.m.k.cell (i := tt) (by rw [hO.m.len]; exact htt.2)
            have htb := hO.hh tt htt.2
            have tlt : (tt : Int) < (P.length : Int) := by omega
            have ol3 : ((op3.length + 1 : Nat) : Int) - 1 = (op3.length : Int) := by omega
            have hol3 : op3.length <= 1048576 := by rw [List.length_cons] at hol2; omega
            obtain ⟨hk, hhk⟩ : ∃ hk, H'.getD kk 0 = hk := ⟨_, rfl⟩
            obtain ⟨ht, hht⟩ : ∃ ht, H'.getD tt 0 = ht := ⟨_, rfl⟩
            have HPA : Hid (paU P H' kk (tt :: op3) = if z.t.prod ≠ -1 /\ ht < hk + 1 then H'.set tt (hk + 1) else H') := by
             show upU P H' kk tt = _
             unfold upU
             rw [hgz, hhk, hht]
            rw [hhk] at hkv hkb
            rw [hht] at htv htb
            have hPl := HSZ.out
            have fm := hO.m.k.free tt
            have hk2 : kk ≠ tt := by have := (List.pairwise_cons.1 hO.dn).1 tt (List.mem_cons_self ..); omega
            have hkt : tt < kk := (List.pairwise_cons.1 hO.dn).1 tt (List.mem_cons_self ..)
            by_cases hp : z.t.prod = -1
            ·have e9 : (z.t.prod != -1) = false := by simpa using hp
             have HPB : Hid (paU P H' kk (tt :: op3) = H') := by
              show _ = _
              rw [HPA.out, if_neg (fun q => q.1 hp)]
             clear hO hO2 hy hgy hz hgz hd HCL hhk hht HPA hp
             simp only [List.length_cons] at ck ct hs1 hoc HO2 ⊢
             go_wp2
             go_quiet (fail)
             go_wp2
             go_roundw
             case rel => exact ⟨tt :: op3, H', HO2.out.any (below_drewN (Below.refl _ _) _), by rw [<- HNX.out, HPB.out]⟩
             case measure => simp [lenT]
            ·have e9 : (z.t.prod != -1) = true := by simpa using hp
             have hk0 : 0 <= hk := hkb.1
             have hk1 : hk <= 1048576 := by omega
             have ht0 : 0 <= ht := htb.1
             by_cases hl2 : ht < hk + 1
             ·have HPB : Hid (paU P H' kk (tt :: op3) = H'.set tt (hk + 1)) := by
               show _ = _
               rw [HPA.out, if_pos ⟨hp, hl2⟩]
              have d2 : decide (ht < hk + 1) = true := decide_eq_true hl2
              have HBD : Hid (tt < P.length -> 0 <= hk + 1 /\ hk + 1 + (tt : Int) <= P.length) := fun _ => ⟨by omega, by omega⟩
              clear hO hO2 hy hgy hz hgz hd HCL hhk hht HPA hp
              simp only [List.length_cons] at ck ct hs1 hoc HO2 ⊢
              go_wp2
              go_quiet (fail)
              go_wp2
              obtain ⟨wd, hwd⟩ : ∃ wd : World, wd = (wr.drewN nq).drew := ⟨_, rfl⟩
              have BD : Hid (Below wr.heap.size wr wd) := by rw [hwd]; exact (below_drewN (Below.refl _ _) _).drew
              have cc : ∀ p : Addr, wd.cell? p = wr.cell? p := fun p => by rw [hwd]; rfl
              have ct2 := (cc _).trans ct
              have hkv2 := (cc _).trans hkv
              have htv2 := (cc _).trans htv
              have fm2 : ∀ (v : Value), wd.setCell ⟨hb, tt, none⟩ v = wd.setCell ⟨hb, tt, none⟩ v := fun _ => rfl
              refine wp_region_tail_d 13 (by kernel_rfl) (by kernel_rfl) wd hwd ?_
              clear cc hwd
              have SU : Hid (OWs w P (.slice (some ⟨pb, 0, none⟩) P.length pc) hb i (tt :: op3) (H'.set tt (hk + 1)) (.slice (some ⟨ob, 0, none⟩) (op3.length + 1) oc) (wd.setCell ⟨hb, tt, none⟩ (.int .i64 (hk + 1)))) := (HO2.out.any BD.out).up tt (hk + 1) HBD.out
              have fz : wd.frozen? ⟨hb, tt, none⟩ = false := (HO2.out.any BD.out).m.k.free tt
              simp only [List.take_succ_cons, List.take_zero, List.drop_succ_cons, List.drop_zero]
              have wo3 : IntKind.i64.wrap (op3.length : Int) = (op3.length : Int) := wrap_i64 (by omega) (by omega)
              have l33 : (op3.length : Int) < (op3.length : Int) + 1 := by omega
              have wk3 : IntKind.i64.wrap (hk + 1) = hk + 1 := wrap_i64 (by omega) (by omega)
              iterate 13 (refine wpStill_step (fun K hK => ?_); go_simp; refine hK _ ?_; clear hK K)
              refine wpStill_nil ?_
              go_wp2
              go_roundw
              case rel => exact ⟨tt :: op3, _, SU.out, by rw [<- HNX.out, HPB.out]⟩
              case measure => simp [lenT]
             ·have HPB : Hid (paU P H' kk (tt :: op3) = H') := by
               show _ = _
               rw [HPA.out, if_neg (fun q => hl2 q.2)]
              have d2 : decide (ht < hk + 1) = false := decide_eq_false hl2
              clear hO hO2 hy hgy hz hgz hd HCL hhk hht HPA hp
              simp only [List.length_cons] at ck ct hs1 hoc HO2 ⊢
              go_wp2
              go_quiet (fail)
              go_wp2
              go_roundw
              case rel => exact ⟨tt :: op3, H', HO2.out.any (below_drewN (Below.refl _ _) _), by rw [<- HNX.out, HPB.out]⟩
              case measure => simp [lenT]
          ·have HX : Hid (clU P 0 op H = (kk :: op2, H')) := by
            show _ = _
            rw [<- HCL.out, clU_cons, if_neg (by rw [hgy]; exact hd)]
           have d1 : decide (0 <= y.d) = false := decide_eq_false hd
           have HOX : Hid (OWs w P (.slice (some ⟨pb, 0, none⟩) P.length pc) hb i (kk :: op2) H' (.slice (some ⟨ob, 0, none⟩) (op2.length + 1) oc) wr) := hO
           clear hO hO2 hy hgy hd HCL hs1
           have HFI : Hid (H'.getD 0 0 = (hgT t : Int)) := by
            have e := HFIN.out
            have ei : i = P.length := by have := HIP.out; omega
            rw [<- ei, HFO.out] at e
            change (clU P 0 op H).2.getD 0 0 = _ at e
            rw [HX.out] at e
            exact e
           have il2 : ¬ (i : Int) < (P.length : Int) := by have := HIP.out; omega
           have HEI : Hid (i = P.length) := by have := HIP.out; show _ = _; omega
           go_wp2
           go_roundw
           case rel => exact ⟨i + 1, (kk :: op2), H', by omega, by go_num, HOX.out.mono, .inr ⟨by rw [HEI.out], HFI.out⟩⟩
           case measure => simp [intOf]; omega
      ·have ile : ¬ ((P.length + 1 : Nat) : Int) <= (P.length : Int) := by omega
       have HB : Hid (Below w.heap.size w wr) := hO.m.bel
       have HNL2 : Hid ((leafs P).length = nl) := HNL.out
       have c0 := hO.m.k.cell (i := 0) (by rw [hO.m.len]; exact hpos)
       rw [hfin] at c0
       have pl0 : (0 : Int) < (P.length : Int) := by omega
       clear hO hfin
       go_wp2
       go_quiet (fail)
       go_wp2
       refine bodyPost_ret (v := .tuple #[.int .i64 (P.length : Int), .int .i64 (nl : Int), .int .i64 (hgT t : Int)]) (by simp [results, Tryz.results7, go_sem]) rfl ?_
       rw [HNL2.out]
       exact ⟨rfl, HB.out.trans (below_drewN (Below.refl _ _) _)⟩
    ·obtain ⟨q, rfl⟩ : ∃ q, m = q + 1 := ⟨m - 1, by omega⟩
     have hql : q < P.length := by omega
     have qlt : (q : Int) < (P.length : Int) := by omega
     obtain ⟨x, hx⟩ : ∃ x, P[q]? = some x := ⟨_, List.getElem?_eq_getElem hql⟩
     have hgx : P.getD q .none = x := by simp [List.getD, hx]
     obtain ⟨c0, -⟩ := hM.at rfl hx
     have HM : Hid (MWs w P (.slice (some ⟨pb, 0, none⟩) P.length pc) hb H wr) := hM
     have e6 : ((q + 1 : Nat) : Int) - 1 = (q : Int) := by omega
     rw [e6]
     by_cases hp : x.t.prod = -1
     ·have e0 : (x.t.prod == -1) = true := by simpa using hp
      have HI2 : Hid (∀ j, q <= j -> j < P.length -> H.getD j 0 = iniU P j) := fun j h1 h2 => by
       by_cases e : j = q
       ·subst e
        rw [hZ j (by omega)]
        unfold iniU
        rw [hgx, if_pos hp]
       ·exact hI j (by omega) h2
      have HZ2 : Hid (∀ j, j < q -> H.getD j 0 = 0) := fun j hj => hZ j (by omega)
      clear hp hx hgx hM hI hZ e6
      go_wp2
      go_roundw
      case rel => exact ⟨q, H, by omega, by go_num, HM.out, HI2.out, HZ2.out⟩
      case measure => simp [intOf]
     ·have e0 : (x.t.prod == -1) = false := by simpa using hp
      have SM : Hid (MWs w P (.slice (some ⟨pb, 0, none⟩) P.length pc) hb (H.set q 1) (wr.setCell ⟨hb, q, none⟩ (.int .i64 1))) := hM.set q 1
      have fm := hM.k.free q
      have cm := hM.k.cell (i := q) (by rw [hM.len]; exact hql)
      have HI2 : Hid (∀ j, q <= j -> j < P.length -> (H.set q 1).getD j 0 = iniU P j) := fun j h1 h2 => by
       rw [getD_setI]
       by_cases e : q = j
       ·subst e
        rw [if_pos ⟨rfl, by rw [hM.len]; exact h2⟩]
        unfold iniU
        rw [hgx, if_neg hp]
       ·rw [if_neg (fun z => e z.1)]
        exact hI j (by omega) h2
      have HZ2 : Hid (∀ j, j < q -> (H.set q 1).getD j 0 = 0) := fun j hj => by
       rw [getD_setI, if_neg (by rintro ⟨z, _⟩; omega)]
       exact hZ j (by omega)
      clear hp hx hgx hM hI hZ e6
      go_wp2
      go_roundw
      case rel => exact ⟨q, H.set q 1, by omega, by go_num, SM.out, HI2.out, HZ2.out⟩
      case measure => simp [intOf]
end Go.Proofs.YteciabdjkaackaaGreat
