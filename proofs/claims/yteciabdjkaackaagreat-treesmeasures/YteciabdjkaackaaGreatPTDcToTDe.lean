import Derived.Test.YteciabdjkaackaaGreatPTDgToTD5
namespace Go.Proofs.YteciabdjkaackaaGreat
set_option linter.unusedVariables false
open Go.RowKit
def lsA (p q : Nat) (t : TV) : List ((Nat × Nat) × Nat × Nat) := (adsT p q t).zip ((preT t).map frO)
theorem lsA_at {π : List Nat} {t : TV} (hok : okP π t) (p q : Nat) : (adP π p q t, frO (getAt π t)) ∈ lsA p q t := by
 have h1 := ads_nu hok p q
 obtain ⟨A, B, g1, g2, _⟩ := pre_setF frO frO_sk π t hok
 have h2 : ((preT t).map frO)[nuP π t]? = some (frO (getAt π t)) := by
  rw [g2, <- g1, preT_eq]
  simp
 exact List.mem_of_getElem? (i := nuP π t) (by unfold lsA; rw [List.getElem?_zip_eq_some]; exact ⟨h1, h2⟩)
theorem lsA_ads {p q : Nat} {t : TV} {x : (Nat × Nat) × Nat × Nat} (h : x ∈ lsA p q t) : x.1 ∈ adsT p q t := (List.of_mem_zip h).1
theorem lsA_fst (p q : Nat) (t : TV) : (lsA p q t).map (·.1) = adsT p q t := by
 unfold lsA
 exact List.map_fst_zip (by rw [adsT_len, List.length_map, preT_len]; exact Nat.le_refl _)
theorem fil_row (f : Nat × Nat -> Bool) (b o : Nat) : ∀ (l : List TV) (s : Nat), ((adsL (kidF b o s l)).filter f).length = ((rowA b o s l.length).filter f).length + ((inL l).filter f).length
 | [], s => by simp [kidF, adsL, rowA, inL]
 | k :: l, s => by
  have ih := fil_row f b o l (s + 1)
  have e1 : rowA b o s (k :: l).length = (b, o + s * 4) :: rowA b o (s + 1) l.length := by simp [rowA, List.range'_succ]
  have e2 : inL (k :: l) = adsL (kidsA k) ++ inL l := by simp [inL]
  rw [kidF, adsL_cons, List.filter_append, List.length_append, ih, adsT_eq, e1, e2, List.filter_append, List.length_append, List.filter_cons, List.filter_cons]
  dsimp only
  split
  ·simp only [List.length_cons]; omega
  ·omega
def lsR (b o : Nat) : Nat -> List TV -> List ((Nat × Nat) × Nat × Nat)
 | _, [] => []
 | i, k :: l => lsA b (o + i * 4) k ++ lsR b o (i + 1) l
theorem lsR_eq (b o : Nat) : ∀ (l : List TV) (i : Nat), lsR b o i l = (adsL (kidF b o i l)).zip ((preL l).map frO)
 | [], _ => rfl
 | k :: l, i => by
  have c : preL (k :: l) = preT k ++ preL l := by simp [preL]
  rw [lsR, lsR_eq b o l (i + 1), kidF, adsL_cons, c, List.map_append, List.zip_append (by rw [adsT_len, List.length_map, preT_len]), lsA]
theorem lsA_eq (p q : Nat) (t : TV) : lsA p q t = ((p, q), frO t) :: lsR (kadr t).1 (kadr t).2 0 t.kids := by
 rw [lsR_eq, lsA, adsT_eq, preT_eq, List.map_cons, List.zip_cons_cons]
 rfl
theorem lsR_mem {b o : Nat} {x : (Nat × Nat) × Nat × Nat} : ∀ {l : List TV} {i : Nat}, x ∈ lsR b o i l -> (∃ j k, i <= j /\ j < i + l.length /\ k ∈ l /\ x = ((b, o + j * 4), frO k)) ∨ (∀ b' o', x ∈ lsR b' o' i l)
 | [], _, h => by cases h
 | k :: l, i, h => by
  rw [lsR] at h
  rcases List.mem_append.1 h with h | h
  ·rw [lsA_eq] at h
   rcases List.mem_cons.1 h with rfl | h
   ·exact .inl ⟨i, k, Nat.le_refl _, by simp, List.mem_cons_self, rfl⟩
   ·refine .inr fun b' o' => ?_
    rw [lsR]
    exact List.mem_append_left _ (by rw [lsA_eq]; exact List.mem_cons_of_mem _ h)
  ·rcases lsR_mem h with ⟨j, k', h1, h0, h2, h3⟩ | h'
   ·exact .inl ⟨j, k', by omega, by rw [List.length_cons]; omega, List.mem_cons_of_mem _ h2, h3⟩
   ·refine .inr fun b' o' => ?_
    rw [lsR]
    exact List.mem_append_right _ (h' b' o')
theorem lsR_root {b o : Nat} {k : TV} : ∀ {l : List TV} {i : Nat}, k ∈ l -> ∃ j, i <= j /\ ((b, o + j * 4), frO k) ∈ lsR b o i l
 | [], _, h => by cases h
 | a :: l, i, h => by
  rcases List.mem_cons.1 h with rfl | h
  ·exact ⟨i, Nat.le_refl _, by rw [lsR, lsA_eq]; simp⟩
  ·obtain ⟨j, h1, h2⟩ := lsR_root (b := b) (o := o) (i := i + 1) h
   exact ⟨j, by omega, by rw [lsR]; exact List.mem_append_right _ h2⟩
theorem lsA_set {π : List Nat} {t : TV} (hok : okP π t) (p q : Nat) : ∃ A B, lsA p q t = A ++ lsA (adP π p q t).1 (adP π p q t).2 (getAt π t) ++ B /\ ∀ u, lsA p q (setAt π t u) = A ++ lsA (adP π p q t).1 (adP π p q t).2 u ++ B := by
 obtain ⟨A, B, a1, a2, a3⟩ := ads_set π p q t hok
 obtain ⟨C, D, c1, c2, c3⟩ := pre_setF frO frO_sk π t hok
 have z : ∀ u : TV, ∀ p q, (adsT p q u).length = ((preT u).map frO).length := fun u p q => by rw [adsT_len, List.length_map, preT_len]
 refine ⟨A.zip C, B.zip D, ?_, fun u => ?_⟩
 ·unfold lsA
  rw [a2, c2, List.zip_append (by rw [List.length_append, List.length_append, a1, c1, z]), List.zip_append (by rw [a1, c1])]
 ·unfold lsA
  rw [a3, c3, List.zip_append (by rw [List.length_append, List.length_append, a1, c1, z]), List.zip_append (by rw [a1, c1])]
structure CpP (r : Nat) (ob : Obj) (N : Nat) (w0 : World) (p0 q0 : Nat) (t : TV) (T : TV) (P : List (Nat × Nat)) (w : World) : Prop where
 bel : Below N w0 w
 nz : N <= w.heap.size
 sz : szT t <= 100000000
 tb : TBx w p0 q0 T
 ta : TAt w T
 sam : samV t T
 cn : ∀ a, N <= a.1 -> (adsT p0 q0 T).count a <= 1
 ty : ∀ a ∈ adsT p0 q0 T, N <= a.1 -> a.2 % 4 = 0 /\ ∃ cs, w.heap[a.1]? = some (.cells cs 26)
 rb : w.heap[r]? = some ob
 rn : ∀ a ∈ adsT p0 q0 T, a.1 ≠ r
 f1 : ∀ x ∈ lsA p0 q0 T, x.2.2 ≠ 0 -> N <= x.2.1 ∨ x.1 ∈ P ∨ x.1.1 < N
 f2 : ∀ x ∈ lsA p0 q0 T, x.1 ∈ P -> x.2.2 ≠ 0 -> x.2.1 < N
 f3 : ∀ x ∈ lsA p0 q0 T, x.1.1 < N -> x.2.2 ≠ 0 -> x.2.1 < N
 pm : ∀ a ∈ P, a ∈ adsT p0 q0 T /\ N <= a.1
 pc : ∀ a, P.count a <= 1
 me : ((adsT p0 q0 T).filter fun a => decide (a.1 < N)).length + P.length <= szT t
theorem CpP.kept {r : Nat} {ob : Obj} {N : Nat} {w0 : World} {p0 q0 : Nat} {t T : TV} {P : List (Nat × Nat)} {w w' : World} (h : CpP r ob N w0 p0 q0 t T P w) (hb : Below N w0 w') (hs : w.heap.size <= w'.heap.size) (hk : ∀ a ∈ adsT p0 q0 T, w'.heap[a.1]? = w.heap[a.1]?) (hr : w'.heap[r]? = w.heap[r]?) : CpP r ob N w0 p0 q0 t T P w' := by
 have hc : ∀ a ∈ adsT p0 q0 T, C4 w w' a := fun a ha => ⟨Nat.lt_of_lt_of_le (ads_lt h.tb h.ta ha) hs, fun j _ => World.cell?_of_block (hk a ha)⟩
 exact ⟨hb, Nat.le_trans h.nz hs, h.sz, (hc _ (adsT_root _ _ _)).tbx h.tb, keep_at T p0 q0 h.ta fun a ha => hc a (by rw [adsT_eq]; exact List.mem_cons_of_mem _ ha), h.sam, h.cn, fun a ha hN => by rw [hk a ha]; exact h.ty a ha hN, hr.trans h.rb, h.rn, h.f1, h.f2, h.f3, h.pm, h.pc, h.me⟩
set_option maxHeartbeats 1000000 in
theorem CpP.step {r : Nat} {ob : Obj} {N : Nat} {w0 : World} {p0 q0 : Nat} {t T : TV} {P' : List (Nat × Nat)} {w : World} (π : List Nat) (h : CpP r ob N w0 p0 q0 t T (adP π p0 q0 T :: P') w) (hok : okP π T)
  (a' : Option Addr) (c' : Nat) (w1 : World) (hrow : (getAt π T).kids ≠ [] -> w1.ownsRow w.heap.size 26 4 (.slice a' (getAt π T).kids.length c') (getAt π T).kids.length ((getAt π T).kids.flatMap trCells) /\ ∃ b, a' = some ⟨b, 0, none⟩ /\ w.heap.size <= b) (hB : Below w.heap.size w w1) :
  CpP r ob N w0 p0 q0 t (setAt π T ((getAt π T).rk a' c')) (P' ++ rowA (kadr ((getAt π T).rk a' c')).1 (kadr ((getAt π T).rk a' c')).2 0 (getAt π T).kids.length) (w1.setCell ⟨(adP π p0 q0 T).1, (adP π p0 q0 T).2 + 3, none⟩ (.slice a' (getAt π T).kids.length c')) /\
  ((adsT p0 q0 (setAt π T ((getAt π T).rk a' c'))).filter fun a => decide (a.1 < N)).length + (getAt π T).kids.length = ((adsT p0 q0 T).filter fun a => decide (a.1 < N)).length := by
 obtain ⟨hb, ha⟩ := at_path π p0 q0 T h.tb h.ta hok
 have hmem := adP_mem π p0 q0 T w h.ta hok
 have hN : N <= (adP π p0 q0 T).1 := (h.pm _ List.mem_cons_self).2
 obtain ⟨hal, cs, hty⟩ := h.ty _ hmem hN
 have hcn := h.cn _ hN
 obtain ⟨LA, LB, hL2, hL3⟩ := lsA_set hok p0 q0
 have hf2a : (frO (getAt π T)).2 ≠ 0 -> (frO (getAt π T)).1 < N := h.f2 _ (lsA_at hok p0 q0) List.mem_cons_self
 obtain ⟨A, B, hA1, hA2, hA3⟩ := ads_set π p0 q0 T hok
 generalize hk : getAt π T = k at *
 generalize hP : (adP π p0 q0 T).1 = P at *
 generalize hQ : (adP π p0 q0 T).2 = Q at *
 have hPQ : adP π p0 q0 T = (P, Q) := by rw [<- hP, <- hQ]
 rw [hPQ] at hmem hcn
 have hPl : P < w.heap.size := hb.lt
 have hty1 : w1.heap[P]? = some (.cells cs 26) := by rw [hB.block P hPl]; exact hty
 generalize hv : Value.slice a' k.kids.length c' = v at *
 have hsz' : (w1.setCell ⟨P, Q + 3, none⟩ v).heap.size = w1.heap.size := by simp [World.setCell]
 have hother : ∀ x : Nat, x ≠ P -> (w1.setCell ⟨P, Q + 3, none⟩ v).heap[x]? = w1.heap[x]? := fun x hx => Below.heap_setCell _ _ _ _ hx
 have htyP : ∃ cs, (w1.setCell ⟨P, Q + 3, none⟩ v).heap[P]? = some (.cells cs 26) := ⟨_, heap_setCell_same w1 P (Q + 3) _ _ v hty1⟩
 have hcell : ∀ x : Addr, x.block < w.heap.size -> x ≠ ⟨P, Q + 3, none⟩ -> (w1.setCell ⟨P, Q + 3, none⟩ v).cell? x = w.cell? x := fun x hx hne => by
  rw [World.cell?_setCell_other _ _ _ _ (fun e => hne e.symm)]
  exact hB.cell hx
 have hC4 : ∀ a ∈ adsT p0 q0 T, a ≠ (P, Q) -> C4 w (w1.setCell ⟨P, Q + 3, none⟩ v) a := fun a hma hne => by
  have hl := ads_lt h.tb h.ta hma
  refine ⟨by rw [hsz']; exact Nat.lt_of_lt_of_le hl hB.size, fun j hj => hcell _ hl fun e => ?_⟩
  simp only [Addr.mk.injEq, and_true] at e
  have h1 := (h.ty a hma (by omega)).1
  exact hne (Prod.ext e.1 (by show a.2 = Q; omega))
 have hin : ∀ a ∈ inL k.kids, a ∈ adsT p0 q0 T /\ a ≠ (P, Q) := fun a hma => by
  have hc : ∀ x : Nat × Nat, (adsT p0 q0 T).count x = A.count x + ((if ((P, Q) == x) = true then 1 else 0) + ((rowA (kadr k).1 (kadr k).2 0 k.kids.length).count x + (inL k.kids).count x)) + B.count x := fun x => by
   rw [hA2, List.count_append, List.count_append, adsT_eq, List.count_cons, kidsA, cnt_row]; omega
  have hpos : 0 < (inL k.kids).count a := List.count_pos_iff.2 hma
  refine ⟨List.count_pos_iff.1 (by rw [hc]; omega), fun e => ?_⟩
  subst e
  rw [hc, if_pos (beq_self_eq_true _)] at hcn
  omega
 have hv3 : (w1.setCell ⟨P, Q + 3, none⟩ v).cell? ⟨P, Q + 3, none⟩ = some v := World.cell?_setCell_same _ _ _ ((hB.cell (p := ⟨P, Q + 3, none⟩) hPl).trans hb.c3)
 have hu : TBx (w1.setCell ⟨P, Q + 3, none⟩ v) P Q (k.rk a' c') := by
  refine ⟨by rw [hsz']; exact Nat.lt_of_lt_of_le hPl hB.size, ?_, ?_, ?_, ?_⟩
  ·rw [hcell _ hPl (by simp)]; exact hb.c0
  ·rw [hcell _ hPl (by simp)]; exact hb.c1
  ·rw [hcell _ hPl (by simp)]; exact hb.c2
  ·rw [hv3, <- hv]; rfl
 have hrk : k.kids ≠ [] -> ∃ b, a' = some ⟨b, 0, none⟩ /\ w.heap.size <= b /\ KRow (w1.setCell ⟨P, Q + 3, none⟩ v) a' k.kids /\ ∃ cs, (w1.setCell ⟨P, Q + 3, none⟩ v).heap[b]? = some (.cells cs 26) := fun hne => by
  obtain ⟨hown, b, rfl, hbl⟩ := hrow hne
  rw [<- hv] at hown
  obtain ⟨r1, r2⟩ := row_krow hown hne (hother b (by omega)) (by rw [hsz']; exact Nat.le_refl _)
  exact ⟨b, rfl, hbl, r1, r2⟩
 have hU : TAt (w1.setCell ⟨P, Q + 3, none⟩ v) (k.rk a' c') := by
  refine TAt.mk _ (fun hne => ?_) fun x hx => ?_
  ·obtain ⟨b, _, _, hkr, _⟩ := hrk hne
   exact hkr hne
  ·refine keep_at x 0 0 (ha.kid x hx) fun a hma => ?_
   obtain ⟨i1, i2⟩ := hin a (List.mem_flatMap.2 ⟨x, hx, hma⟩)
   exact hC4 a i1 i2
 obtain ⟨u1, u2⟩ := upd_at (w := w) (w' := w1.setCell ⟨P, Q + 3, none⟩ v) (u := k.rk a' c') π p0 q0 T h.tb h.ta hok (by rw [hPQ]; exact hcn) (by rw [hPQ]; exact hC4) (by rw [hPQ]; exact hu) hU
 have hads : adsT p0 q0 (setAt π T (k.rk a' c')) = A ++ adsT P Q (k.rk a' c') ++ B := hA3 _
 have hcT : ∀ x : Nat × Nat, (adsT p0 q0 T).count x = A.count x + ((if ((P, Q) == x) = true then 1 else 0) + ((rowA (kadr k).1 (kadr k).2 0 k.kids.length).count x + (inL k.kids).count x)) + B.count x := fun x => by
  rw [hA2, List.count_append, List.count_append, adsT_eq, List.count_cons, kidsA, cnt_row]; omega
 have hcU : ∀ x : Nat × Nat, (adsT p0 q0 (setAt π T (k.rk a' c'))).count x = A.count x + ((if ((P, Q) == x) = true then 1 else 0) + ((rowA (kadr (k.rk a' c')).1 (kadr (k.rk a' c')).2 0 k.kids.length).count x + (inL k.kids).count x)) + B.count x := fun x => by
  rw [hads, List.count_append, List.count_append, adsT_eq, List.count_cons, kidsA, cnt_row]
  have e : (k.rk a' c').kids = k.kids := rfl
  rw [e]; omega
 have hnew : ∀ x, 0 < (rowA (kadr (k.rk a' c')).1 (kadr (k.rk a' c')).2 0 k.kids.length).count x -> w.heap.size <= x.1 /\ x.2 % 4 = 0 /\ ∃ cs, (w1.setCell ⟨P, Q + 3, none⟩ v).heap[x.1]? = some (.cells cs 26) := fun x hx => by
  have hxm := List.count_pos_iff.1 hx
  have hne : k.kids ≠ [] := fun e => by rw [e] at hxm; simp [rowA] at hxm
  obtain ⟨b, rfl, hbl, _, hcs⟩ := hrk hne
  have ek : kadr (k.rk (some ⟨b, 0, none⟩) c') = (b, 0) := rfl
  rw [ek] at hxm
  obtain ⟨x1, i, _, x2⟩ := row_mem hxm
  simp only at x1 x2
  refine ⟨by rw [x1]; exact hbl, by rw [x2]; omega, by rw [x1]; exact hcs⟩
 have hold : ∀ x, x ∈ adsT p0 q0 T -> x.1 < w.heap.size := fun x hx => ads_lt h.tb h.ta hx
 have hLT : ∀ x, x ∈ lsA p0 q0 T ↔ x ∈ LA ∨ x = ((P, Q), frO k) ∨ x ∈ lsR (kadr k).1 (kadr k).2 0 k.kids ∨ x ∈ LB := fun x => by
  rw [hL2, lsA_eq]; simp only [List.mem_append, List.mem_cons, or_assoc]
 have hLU : ∀ x, x ∈ lsA p0 q0 (setAt π T (k.rk a' c')) ↔ x ∈ LA ∨ x = ((P, Q), frO (k.rk a' c')) ∨ x ∈ lsR (kadr (k.rk a' c')).1 (kadr (k.rk a' c')).2 0 k.kids ∨ x ∈ LB := fun x => by
  rw [hL3, lsA_eq]
  have e : (k.rk a' c').kids = k.kids := rfl
  rw [e]; simp only [List.mem_append, List.mem_cons, or_assoc]
 have hfrk : (frO (k.rk a' c')).2 = k.kids.length := rfl
 have hnr : ∀ x ∈ rowA (kadr (k.rk a' c')).1 (kadr (k.rk a' c')).2 0 k.kids.length, w.heap.size <= x.1 := fun x hx => (hnew x (List.count_pos_iff.2 hx)).1
 rw [hPQ] at h
 have hPold : ∀ x ∈ P', x ∈ adsT p0 q0 T /\ N <= x.1 := fun x hx => h.pm x (List.mem_cons_of_mem _ hx)
 have hPa : (P, Q) ∉ P' := fun hm => by
  have := h.pc (P, Q)
  rw [List.count_cons_self] at this
  have := List.count_pos_iff.2 hm
  omega
 have hne : ∀ x, x ∈ LA ∨ x ∈ lsR (kadr k).1 (kadr k).2 0 k.kids ∨ x ∈ LB -> x ∈ lsA p0 q0 T /\ x.1 ≠ (P, Q) := fun x hx => by
  refine ⟨(hLT x).2 (by rcases hx with q | q | q <;> simp [q]), fun e => ?_⟩
  have h1 : (adsT p0 q0 T).count (P, Q) = (LA.map (·.1)).count (P, Q) + (1 + ((lsR (kadr k).1 (kadr k).2 0 k.kids).map (·.1)).count (P, Q)) + (LB.map (·.1)).count (P, Q) := by
   rw [<- lsA_fst p0 q0 T, hL2, lsA_eq, List.map_append, List.map_append, List.map_cons, List.count_append, List.count_append, List.count_cons_self]; omega
  have h2 : ∀ l : List ((Nat × Nat) × Nat × Nat), x ∈ l -> 0 < (l.map (·.1)).count (P, Q) := fun l hl => List.count_pos_iff.2 (List.mem_map.2 ⟨x, hl, e⟩)
  rcases hx with q | q | q
  ·have := h2 _ q; omega
  ·have := h2 _ q; omega
  ·have := h2 _ q; omega
 -- the place itself, a root of its row, or what stood there already
 have hrest : ∀ x, x ∈ lsA p0 q0 (setAt π T (k.rk a' c')) -> x = ((P, Q), frO (k.rk a' c')) ∨ (∃ k', k' ∈ k.kids /\ x.1 ∈ rowA (kadr (k.rk a' c')).1 (kadr (k.rk a' c')).2 0 k.kids.length /\ x.2 = frO k') ∨ (x ∈ lsA p0 q0 T /\ x.1 ≠ (P, Q)) := fun x hx => by
  rcases (hLU x).1 hx with q | q | q | q
  ·exact .inr (.inr (hne x (.inl q)))
  ·exact .inl q
  ·rcases lsR_mem q with ⟨j, k', h1, h2, h3, h4⟩ | h'
   ·refine .inr (.inl ⟨k', h3, ?_, by rw [h4]⟩)
    rw [h4]
    exact List.mem_map.2 ⟨j, List.mem_range'_1.2 ⟨by omega, by omega⟩, rfl⟩
   ·exact .inr (.inr (hne x (.inr (.inl (h' _ _)))))
  ·exact .inr (.inr (hne x (.inr (.inr q))))
 have hkl : k.kids ≠ [] -> k.kids.length ≠ 0 := fun e e' => e (List.eq_nil_of_length_eq_zero e')
 have hlk : k.kids.length ≠ 0 -> k.kids ≠ [] := fun e e' => e (by rw [e']; rfl)
 have hsf : szT t = szT t := rfl
 have hfil : ((adsT p0 q0 (setAt π T (k.rk a' c'))).filter fun a => decide (a.1 < N)).length + k.kids.length = ((adsT p0 q0 T).filter fun a => decide (a.1 < N)).length := by
  have e : (k.rk a' c').kids = k.kids := rfl
  have r1 : ((rowA (kadr k).1 (kadr k).2 0 k.kids.length).filter fun a => decide (a.1 < N)).length = k.kids.length := by
   by_cases h0 : k.kids.length = 0
   ·rw [h0]; rfl
   ·rw [List.filter_eq_self.2 fun x hx => ?_]
    ·simp [rowA]
    ·have := (row_mem hx).1
     have := hf2a h0
     have e3 : (frO k).1 = (kadr k).1 := rfl
     simp only [decide_eq_true_eq]
     omega
  have r2 : ((rowA (kadr (k.rk a' c')).1 (kadr (k.rk a' c')).2 0 k.kids.length).filter fun a => decide (a.1 < N)).length = 0 := by
   rw [List.filter_eq_nil_iff.2 fun x hx => ?_]
   ·rfl
   ·have := hnr x hx
    have := h.nz
    simp only [decide_eq_true_eq]
    omega
  rw [hads, hA2, List.filter_append, List.filter_append, List.filter_append, List.filter_append, List.length_append, List.length_append, List.length_append, List.length_append, adsT_eq, adsT_eq, kidsA, kidsA, e, List.filter_cons_of_neg (by simp; omega), List.filter_cons_of_neg (by simp; omega), fil_row, fil_row, r1, r2]
  omega
 refine ⟨⟨(h.bel.trans (hB.mono h.nz)).setCell (p := ⟨P, Q + 3, none⟩) hN v, by rw [hsz']; exact Nat.le_trans h.nz hB.size, h.sz, u1, u2, samV_trans _ _ _ h.sam (samV_set π T _ hok (by rw [hk]; exact samV_rk _ _ _)), fun x hx => ?_, fun x hx hxN => ?_, ?_, fun x hx => ?_, fun x hx hx0 => ?_, fun x hx hxP hx0 => ?_, fun x hx hxN hx0 => ?_, fun x hx => ?_, fun x => ?_, ?_⟩, hfil⟩
 ·by_cases hr : 0 < (rowA (kadr (k.rk a' c')).1 (kadr (k.rk a' c')).2 0 k.kids.length).count x
  ·obtain ⟨n1, _, _⟩ := hnew x hr
   have h0 : (adsT p0 q0 T).count x = 0 := List.count_eq_zero.2 fun hm => by have := hold x hm; omega
   have h1 := row_one x (kadr (k.rk a' c')).1 (kadr (k.rk a' c')).2 k.kids.length 0
   rw [hcT] at h0
   rw [hcU]
   omega
  ·have h1 := h.cn x hx
   rw [hcT] at h1
   rw [hcU]
   omega
 ·have hpos : 0 < (adsT p0 q0 (setAt π T (k.rk a' c'))).count x := List.count_pos_iff.2 hx
  by_cases hr : 0 < (rowA (kadr (k.rk a' c')).1 (kadr (k.rk a' c')).2 0 k.kids.length).count x
  ·obtain ⟨_, n2, n3⟩ := hnew x hr
   exact ⟨n2, n3⟩
  ·have hxT : x ∈ adsT p0 q0 T := List.count_pos_iff.1 (by rw [hcU] at hpos; rw [hcT]; omega)
   obtain ⟨o1, cs', o2⟩ := h.ty x hxT hxN
   refine ⟨o1, ?_⟩
   by_cases hxP : x.1 = P
   ·rw [hxP]; exact htyP
   ·exact ⟨cs', by rw [hother _ hxP, hB.block _ (hold x hxT)]; exact o2⟩
 ·rw [hother r (fun e => h.rn _ hmem (by rw [e])), hB.block r (lt_of_block h.rb)]; exact h.rb
 ·have hpos : 0 < (adsT p0 q0 (setAt π T (k.rk a' c'))).count x := List.count_pos_iff.2 hx
  by_cases hr : 0 < (rowA (kadr (k.rk a' c')).1 (kadr (k.rk a' c')).2 0 k.kids.length).count x
  ·obtain ⟨n1, _, _⟩ := hnew x hr
   have := lt_of_block h.rb
   omega
  ·exact h.rn x (List.count_pos_iff.1 (by rw [hcU] at hpos; rw [hcT]; omega))
 ·rcases hrest x hx with rfl | ⟨k', _, h2, _⟩ | ⟨h1, h2⟩
  ·obtain ⟨b, e, hbl, _⟩ := hrk (hlk hx0)
   refine .inl ?_
   show N <= (kadr (k.rk a' c')).1
   have e2 : (kadr (k.rk a' c')).1 = b := by rw [e]; rfl
   have := h.nz
   omega
  ·exact .inr (.inl (List.mem_append_right _ h2))
  ·rcases h.f1 x h1 hx0 with q | q | q
   ·exact .inl q
   ·rcases List.mem_cons.1 q with q | q
    ·exact absurd q h2
    ·exact .inr (.inl (List.mem_append_left _ q))
   ·exact .inr (.inr q)
 ·rcases hrest x hx with rfl | ⟨k', h1, h2, h3⟩ | ⟨h1, h2⟩
  ·rcases List.mem_append.1 hxP with q | q
   ·exact absurd q hPa
   ·have := hnr _ q
    simp only at this
    omega
  ·obtain ⟨j, _, hj⟩ := lsR_root (b := (kadr k).1) (o := (kadr k).2) (i := 0) h1
   have h5 := (hLT _).2 (.inr (.inr (.inl hj)))
   have h6 : (frO k).1 < N := hf2a (hkl (List.ne_nil_of_mem h1))
   have h7 := h.f3 _ h5 h6
   rw [h3] at hx0 ⊢
   exact h7 hx0
  ·rcases List.mem_append.1 hxP with q | q
   ·exact h.f2 x h1 (List.mem_cons_of_mem _ q) hx0
   ·have := hnr _ q
    have := hold _ (lsA_ads h1)
    omega
 ·rcases hrest x hx with rfl | ⟨k', h1, h2, h3⟩ | ⟨h1, h2⟩
  ·simp only at hxN
   omega
  ·have := hnr _ h2
   have := h.nz
   omega
  ·exact h.f3 x h1 hxN hx0
 ·rcases List.mem_append.1 hx with q | q
  ·obtain ⟨g1, g2⟩ := hPold x q
   refine ⟨List.count_pos_iff.1 ?_, g2⟩
   have h1 := List.count_pos_iff.2 g1
   rw [hcT] at h1
   rw [hcU]
   have h0 : (rowA (kadr k).1 (kadr k).2 0 k.kids.length).count x = 0 := List.count_eq_zero.2 fun hm => by
    have e1 := (row_mem hm).1
    have e2 : k.kids.length ≠ 0 := fun e => by rw [e] at hm; simp [rowA] at hm
    have e3 := hf2a e2
    have e4 : (frO k).1 = (kadr k).1 := rfl
    omega
   omega
  ·have := hnr _ q
   have := h.nz
   exact ⟨List.count_pos_iff.1 (by rw [hcU]; have := List.count_pos_iff.2 q; omega), by omega⟩
 ·rw [List.count_append]
  have h1 := h.pc x
  rw [List.count_cons] at h1
  have h2 := row_one x (kadr (k.rk a' c')).1 (kadr (k.rk a' c')).2 k.kids.length 0
  by_cases hm : x ∈ rowA (kadr (k.rk a' c')).1 (kadr (k.rk a' c')).2 0 k.kids.length
  ·have h3 : P'.count x = 0 := List.count_eq_zero.2 fun q => by
    have := hold x (hPold x q).1
    have := hnr x hm
    omega
   omega
  ·rw [List.count_eq_zero.2 hm]
   omega
 ·have := h.me
  rw [List.length_cons] at this
  rw [List.length_append]
  have : (rowA (kadr (k.rk a' c')).1 (kadr (k.rk a' c')).2 0 k.kids.length).length = k.kids.length := by simp [rowA]
  omega
abbrev RW := Nat × Nat × Nat
def rwC (x : RW) : List Value := [.slice (some ⟨x.1, 0, none⟩) x.2.1 x.2.2]
theorem rkRows : RK 24 129 1 rwC := by
 refine ⟨Tryz.underlying129, ?_, by decide, fun _ => rfl, fun x u hu => ?_⟩
 ·have h : (Tryz.prog.info? 24).map (fun i => (i.zero, i.size, i.bytes)) = some (some (.slice none 0 0), 1, 24) := by kernel_rfl
  cases e : Tryz.prog.info? 24 with
  | none => rw [e] at h; cases h
  | some i =>
   rw [e] at h
   simp at h
   exact ⟨i, _, rfl, h.1, h.2.1, by rw [h.2.2]; decide, rfl⟩
 ·simp [rwC] at hu
  subst hu
  rfl
abbrev RRo := RO 24 1 rwC
def rowsP (R : List RW) : List (Nat × Nat) := R.flatMap fun x => rowA x.1 0 0 x.2.1
theorem rowsP_app (R : List RW) (x : RW) : rowsP (R ++ [x]) = rowsP R ++ rowA x.1 0 0 x.2.1 := by simp [rowsP]
theorem rowA_cons (b i n : Nat) (h : i < n) : rowA b 0 i (n - i) = (b, i * 4) :: rowA b 0 (i + 1) (n - (i + 1)) := by
 have e : n - i = (n - (i + 1)) + 1 := by omega
 rw [e, rowA, List.range'_succ, List.map_cons, Nat.zero_add]
 rfl
theorem rowA_len (b o s n : Nat) : (rowA b o s n).length = n := by simp [rowA]
def toDo (N p q : Nat) (T : TV) (P : List (Nat × Nat)) : Nat := ((adsT p q T).filter fun a => decide (a.1 < N)).length + P.length
structure CpR (r : Nat) (ob : Obj) (N : Nat) (w0 : World) (p0 : Nat) (t : TV) (T : TV) (P : List (Nat × Nat)) (R : List RW) (v : Value) (w : World) : Prop where
 c : CpP r ob N w0 p0 0 t T P w
 rv : RRo w v R
 vo : ∀ j, v.ownBlock = some j -> N <= j
 vr : ∀ j, v.ownBlock = some j -> j ≠ r
 pos : ∀ x ∈ R, 0 < x.2.1
theorem RRo.ty {w : World} {v : Value} {R : List RW} (h : RRo w v R) : ∀ j, v.ownBlock = some j -> ∃ cs, w.heap[j]? = some (.cells cs 24) := fun j hj => by
 rcases h.2 with ⟨rfl, _⟩ | ⟨g, cap, cur, rfl, _, h2, _⟩
 ·simp [Value.ownBlock] at hj
 ·simp [Value.ownBlock] at hj
  subst hj
  exact ⟨_, h2⟩
theorem CpR.apart {r : Nat} {ob : Obj} {N : Nat} {w0 : World} {p0 : Nat} {t T : TV} {P : List (Nat × Nat)} {R : List RW} {v : Value} {w : World} (h : CpR r ob N w0 p0 t T P R v w) {a : Nat × Nat} (ha : a ∈ adsT p0 0 T) {j : Nat} (hj : v.ownBlock = some j) : a.1 ≠ j := fun e => by
 obtain ⟨cs, hc⟩ := RRo.ty h.rv j hj
 have hN := h.vo j hj
 obtain ⟨_, cs', hc'⟩ := h.c.ty a ha (by omega)
 rw [e, hc] at hc'
 simp at hc'
theorem CpR.later {r : Nat} {ob : Obj} {N : Nat} {w0 : World} {p0 : Nat} {t T : TV} {P : List (Nat × Nat)} {R : List RW} {v : Value} {w w' : World} (h : CpR r ob N w0 p0 t T P R v w) (hb : Below w.heap.size w w') : CpR r ob N w0 p0 t T P R v w' :=
 ⟨h.c.kept (h.c.bel.trans (hb.mono h.c.nz)) hb.size (fun a ha => hb.block _ (ads_lt h.c.tb h.c.ta ha)) (hb.block _ (lt_of_block h.c.rb)), h.rv.later hb, h.vo, h.vr, h.pos⟩
theorem CpR.grew {r : Nat} {ob : Obj} {N : Nat} {w0 : World} {p0 : Nat} {t T : TV} {P : List (Nat × Nat)} {R R' : List RW} {v v' : Value} {w w' : World} (h : CpR r ob N w0 p0 t T P R v w) (hg : Grew w w' v v') (ho : RRo w' v' R') (hp : ∀ x ∈ R', 0 < x.2.1) : CpR r ob N w0 p0 t T P R' v' w' := by
 refine ⟨h.c.kept (h.c.bel.grown hg.grown h.c.nz h.vo) hg.grown.size (fun a ha => hg.grown.block _ (ads_lt h.c.tb h.c.ta ha) fun e => h.apart ha e.symm rfl) (hg.grown.block _ (lt_of_block h.c.rb) fun e => h.vr r e.symm rfl), ho, hg.own h.c.nz h.vo, fun j hj => ?_, hp⟩
 rcases hg.moved with e | ⟨k, e, hk⟩
 ·rw [e] at hj; exact h.vr j hj
 ·rw [e] at hj
  cases hj
  have := lt_of_block h.c.rb
  omega
theorem CpP.done {r : Nat} {ob : Obj} {N : Nat} {w0 : World} {p0 q0 : Nat} {t T : TV} {w : World} (h : CpP r ob N w0 p0 q0 t T [] w) (hp : N <= p0) : OwT N w T := by
 have hall : ∀ (n : Nat) (π : List Nat), π.length = n -> okP π T -> N <= (adP π p0 q0 T).1 := by
  intro n
  induction n with
  | zero => intro π hn _; rw [List.eq_nil_of_length_eq_zero hn]; exact hp
  | succ n ih =>
   intro π hn hok
   rcases List.eq_nil_or_concat π with rfl | ⟨π0, i, hcc⟩
   ·simp at hn
   ·rw [List.concat_eq_append] at hcc
    subst hcc
    obtain ⟨g1, g2⟩ := (okP_app π0 [i] T).1 hok
    have hi : i < (getAt π0 T).kids.length := g2.1
    have h1 := ih π0 (by simpa using hn) g1
    rw [adP_app, adP, adP]
    rcases h.f1 _ (lsA_at g1 p0 q0) (show (getAt π0 T).kids.length ≠ 0 by omega) with q | q | q
    ·exact q
    ·cases q
    ·simp only at q
     omega
 refine ⟨h.ta, fun a => ?_, fun a ha => ?_⟩
 ·by_cases hm : a ∈ adsL (kidsA T)
  ·obtain ⟨π, g1, g2⟩ := ads_path (p := p0) (q := q0) (t := T) (by rw [adsT_eq]; exact List.mem_cons_of_mem _ hm)
   have := h.cn a (by rw [g2]; exact hall _ π rfl g1)
   rw [adsT_eq, List.count_cons] at this
   omega
  ·rw [List.count_eq_zero.2 hm]; omega
 ·have ha' : a ∈ adsT p0 q0 T := by rw [adsT_eq]; exact List.mem_cons_of_mem _ ha
  obtain ⟨π, g1, g2⟩ := ads_path ha'
  have hN : N <= a.1 := by rw [g2]; exact hall _ π rfl g1
  exact ⟨hN, h.ty a ha' hN⟩
theorem pre_tat {w : World} (t : TV) : TAt w t -> ∀ y ∈ preT t, TAt w y := by
 induction t using TV.ind with
 | _ t ih =>
  intro ht y hy
  rw [preT_eq] at hy
  rcases List.mem_cons.1 hy with rfl | hy
  ·exact ht
  ·obtain ⟨k, hk, hyk⟩ := List.mem_flatMap.1 hy
   exact ih k hk (ht.kid k hk) y hyk
theorem tb_tbxC {w : World} {b : Nat} {t : TV} (h : w.heap[b]? = some (tBox t)) : TBx w b 0 t := by
 obtain ⟨h0, h1, h2, h3⟩ := tb_cells h
 exact ⟨lt_of_block h, h0, h1, h2, h3⟩
theorem row_lt0 {w : World} {p q : Nat} {t : TV} (ht : TAt w t) {x : (Nat × Nat) × Nat × Nat} (hx : x ∈ lsA p q t) (h0 : x.2.2 ≠ 0) : x.2.1 < w.heap.size := by
 have h1 : x.2 ∈ (preT t).map frO := (List.of_mem_zip hx).2
 obtain ⟨y, hy, e⟩ := List.mem_map.1 h1
 have hyt : TAt w y := pre_tat t ht y hy
 rw [<- e] at h0 ⊢
 have hne : y.kids ≠ [] := fun e' => h0 (by show y.kids.length = 0; rw [e']; rfl)
 obtain ⟨b, off, e2, hb, _⟩ := hyt.row hne
 show (kadr y).1 < _
 unfold kadr
 rw [e2]
 exact hb
theorem cpp_start {r : Nat} {ob : Obj} {N p0 : Nat} (t : TV) (w0 w : World) (ht : TAt w0 t) (hsz : szT t <= 100000000) (hN : N = w0.heap.size) (hb : Below N w0 w) (hp : N <= p0) (hbx : w.heap[p0]? = some (tBox t)) (hr : w.heap[r]? = some ob) (hrp : r ≠ p0) (hrN : N <= r) : CpP r ob N w0 p0 0 t t [(p0, 0)] w := by
 subst hN
 have hk : ∀ a ∈ adsL (kidsA t), a.1 < w0.heap.size := fun a ha => kids_lt ht ha
 have hta := ht.later hb
 refine ⟨hb, hb.size, hsz, tb_tbxC hbx, hta, samV_refl _, fun a ha => ?_, fun a ha hN => ?_, hr, fun a ha e => ?_, fun x hx _ => ?_, fun x hx hxP h0 => ?_, fun x hx hxN h0 => ?_, fun a ha => ?_, fun a => ?_, ?_⟩
 ·rw [adsT_eq, List.count_cons]
  have h0 : (adsL (kidsA t)).count a = 0 := List.count_eq_zero.2 fun hm => by have := hk a hm; omega
  rw [h0]
  split <;> omega
 ·rw [adsT_eq] at ha
  rcases List.mem_cons.1 ha with rfl | hm
  ·exact ⟨rfl, _, hbx⟩
  ·have := hk a hm; omega
 ·rw [adsT_eq] at ha
  rcases List.mem_cons.1 ha with rfl | hm
  ·exact hrp e.symm
  ·have := hk a hm; omega
 ·have := lsA_ads hx
  rw [adsT_eq] at this
  rcases List.mem_cons.1 this with e | hm
  ·exact .inr (.inl (by rw [e]; exact List.mem_cons_self))
  ·exact .inr (.inr (hk _ hm))
 ·exact row_lt0 ht hx h0
 ·exact row_lt0 ht hx h0
 ·simp only [List.mem_cons, List.not_mem_nil, or_false] at ha
  subst ha
  exact ⟨adsT_root _ _ _, hp⟩
 ·rw [List.count_cons]
  simp only [List.count_nil, Nat.zero_add]
  split <;> omega
 ·rw [adsT_eq, List.filter_cons_of_neg (by simp; omega), List.length_singleton]
  have h1 := List.length_filter_le (fun a => decide (a.1 < w0.heap.size)) (adsL (kidsA t))
  have h2 := adsT_len t p0 0
  rw [adsT_eq, List.length_cons] at h2
  omega
theorem rows_len : ∀ (R : List RW), (∀ x ∈ R, 0 < x.2.1) -> R.length <= (rowsP R).length
 | [], _ => Nat.zero_le _
 | x :: R, h => by
  have h1 := rows_len R fun y hy => h y (List.mem_cons_of_mem _ hy)
  have h2 := h x List.mem_cons_self
  have e : rowsP (x :: R) = rowA x.1 0 0 x.2.1 ++ rowsP R := by simp [rowsP]
  rw [e, List.length_append, rowA_len, List.length_cons]
  omega
theorem CpR.place {r : Nat} {ob : Obj} {N : Nat} {w0 : World} {p0 : Nat} {t T : TV} {R : List RW} {v : Value} {w : World} {b m i : Nat} (h : CpR r ob N w0 p0 t T (rowA b 0 i (m - i) ++ rowsP R) R v w) (hi : i < m) :
  ∃ k : TV, TBx w b (i * 4) k /\ KRow w k.ka k.kids /\ w.frozen? ⟨b, i * 4 + 3, none⟩ = false /\ k.kids.length <= 100000000 /\
   ∀ a' c' w1, (k.kids ≠ [] -> w1.ownsRow w.heap.size 26 4 (.slice a' k.kids.length c') k.kids.length (k.kids.flatMap trCells) /\ ∃ b, a' = some ⟨b, 0, none⟩ /\ w.heap.size <= b) -> Below w.heap.size w w1 ->
    ∃ T', CpR r ob N w0 p0 t T' ((rowA b 0 (i + 1) (m - (i + 1)) ++ rowsP R) ++ rowA (kadr (k.rk a' c')).1 (kadr (k.rk a' c')).2 0 k.kids.length) R v (w1.setCell ⟨b, i * 4 + 3, none⟩ (.slice a' k.kids.length c')) /\
     toDo N p0 0 T' ((rowA b 0 (i + 1) (m - (i + 1)) ++ rowsP R) ++ rowA (kadr (k.rk a' c')).1 (kadr (k.rk a' c')).2 0 k.kids.length) + 1 = toDo N p0 0 T (rowA b 0 i (m - i) ++ rowsP R) := by
 rw [rowA_cons b i m hi, List.cons_append] at h ⊢
 obtain ⟨hm, hN⟩ := h.c.pm (b, i * 4) List.mem_cons_self
 obtain ⟨π, hok, hπ⟩ := ads_path hm
 obtain ⟨hb, ha⟩ := at_path π p0 0 T h.c.tb h.c.ta hok
 obtain ⟨_, cs, hty⟩ := h.c.ty _ hm hN
 have hsz := sub_size hok
 have hs2 := samV_size _ _ h.c.sam
 have hs3 := h.c.sz
 rw [<- hπ] at hb
 refine ⟨getAt π T, hb, ha.row, by simp [World.frozen?, hty], ?_, fun a' c' w1 hrow hB => ?_⟩
 ·have h1 := szT_eq (getAt π T)
  have h2 := szL_len (getAt π T).kids
  omega
 ·have hc := h.c
  rw [hπ] at hc
  obtain ⟨s1, s2⟩ := hc.step π hok a' c' w1 hrow hB
  rw [<- hπ] at s1
  refine ⟨_, ⟨s1, ?_, h.vo, h.vr, h.pos⟩, ?_⟩
  ·refine (h.rv.later hB).kept fun j hj => ?_
   exact Below.heap_setCell _ _ _ _ (fun e => h.apart hm hj e.symm)
  ·unfold toDo
   rw [List.length_append, List.length_cons, rowA_len (kadr _).1]
   omega
theorem grew_nil {w w' : World} {v' : Value} (h : Grew w w' (.slice none 0 0) v') : Below w.heap.size w w' := (Below.refl _ _).grown h.grown (Nat.le_refl _) (fun j hj => by simp [Value.ownBlock] at hj)
theorem ro_fresh {w w' : World} {a : Option Addr} {n c : Nat} {l : List TV} (h : TRo w' (.slice a n c) ([] ++ l)) (hg : Grew w w' (.slice none 0 0) (.slice a n c)) : n = l.length /\ (l ≠ [] -> w'.ownsRow w.heap.size 26 4 (.slice a l.length c) l.length (l.flatMap trCells) /\ ∃ b, a = some ⟨b, 0, none⟩ /\ w.heap.size <= b) := by
 rw [List.nil_append] at h
 obtain ⟨a2, c2, e, _⟩ := RO.len h
 simp only [Value.slice.injEq] at e
 obtain ⟨rfl, rfl, rfl⟩ := e
 refine ⟨rfl, fun hne => ?_⟩
 rcases h.2 with ⟨_, h0⟩ | ⟨g, cap, cur, e, h1, h2⟩
 ·exact absurd (List.eq_nil_of_length_eq_zero h0) hne
 ·cases e
  have hgl : w.heap.size <= g := by
   rcases hg.moved with q | ⟨k, q, hk⟩
   ·simp [Value.ownBlock] at q
   ·simp [Value.ownBlock] at q
    omega
  exact ⟨⟨h.1, .inr ⟨g, c, cur, rfl, hgl, h2⟩⟩, g, rfl, hgl⟩
set_option linter.unusedSimpArgs false in
set_option maxRecDepth 100000 in
set_option maxHeartbeats 4000000 in
theorem copyTree_W (t : TV) (w : World) (ht : TAt w t) (hsz : szT t <= 100000000) : Calls Tryz.prog 33 #[t.val] w fun e w' => ∃ T, e = .returned T.val /\ Below w.heap.size w w' /\ samV t T /\ OwT w.heap.size w' T := by
 have S0 : Hid (CpR (w.heap.size + 1) zTree w.heap.size w (w.heap.size + 1 + 1) t t [(w.heap.size + 1 + 1, 0)] [(w.heap.size + 1 + 1, 1, 1)] (.slice (some ⟨w.heap.size + 1 + 1 + 1, 0, none⟩) 1 1) ((((w.alloc (tBox t)).alloc zTree).alloc (tBox t)).alloc (.cells #[.slice (some ⟨w.heap.size + 1 + 1, 0, none⟩) 1 1] 24))) := by
  have hz : ∀ (v : World) (o : Obj), (v.alloc o).heap.size = v.heap.size + 1 := fun v o => by simp
  have k : ∀ (j : Nat) (o o' : Obj) (v : World), v.heap[j]? = some o -> (v.alloc o').heap[j]? = some o := fun j o o' v h => ((below_alloc v o').block j (lt_of_block h)).trans h
  have bl : ∀ (v : World) (o : Obj), Below w.heap.size w v -> Below w.heap.size w (v.alloc o) := fun v o h => h.trans ((below_alloc v o).mono h.size)
  have h1 := heap_alloc_new (w.alloc (tBox t)) zTree
  rw [hz] at h1
  have h2 := heap_alloc_new ((w.alloc (tBox t)).alloc zTree) (tBox t)
  rw [hz, hz] at h2
  have h3 := heap_alloc_new (((w.alloc (tBox t)).alloc zTree).alloc (tBox t)) (.cells #[.slice (some ⟨w.heap.size + 1 + 1, 0, none⟩) 1 1] 24)
  rw [hz, hz, hz] at h3
  refine ⟨cpp_start t w _ ht hsz rfl (bl _ _ (bl _ _ (bl _ _ (bl _ _ (Below.refl _ _))))) (by omega) (k _ _ _ _ h2) (k _ _ _ _ (k _ _ _ _ h1)) (by omega) (by omega), ⟨rfl, .inr ⟨_, 1, _, rfl, Nat.zero_le _, h3, Nat.le_refl _, by unfold maxLen; omega, rfl, rfl⟩⟩, fun j hj => ?_, fun j hj => ?_, fun x hx => ?_⟩
  ·simp [Value.ownBlock] at hj; omega
  ·simp [Value.ownBlock] at hj; omega
  ·simp only [List.mem_cons, List.not_mem_nil, or_false] at hx; subst hx; simp
 have HSZ : Hid (szT t <= 100000000) := hsz
 clear ht hsz
 go_enter Tryz.func33, Tryz.ntmps33
 go_wp2
 go_loopg [4] (szT t + 1) (fun gk v4 wr => ∃ T R, CpR (w.heap.size + 1) zTree w.heap.size w (w.heap.size + 1 + 1) t T (rowsP R) R v4 wr /\ toDo w.heap.size (w.heap.size + 1 + 1) 0 T (rowsP R) < gk)
 case atStart =>
  refine ⟨t, [(w.heap.size + 1 + 1, 1, 1)], S0.out, ?_⟩
  have := S0.out.c.me
  unfold toDo
  have e : (rowsP [(w.heap.size + 1 + 1, 1, 1)]).length = 1 := by simp [rowsP, rowA]
  simp only [List.length_singleton] at this
  omega
 case round =>
  clear S0
  obtain ⟨T, R, hR, hg⟩ := hrel
  by_cases hD : R = []
  ·subst hD
   obtain ⟨sa, sc, rfl, _⟩ := RO.len hR.rv
   have hc : CpP (w.heap.size + 1) zTree w.heap.size w (w.heap.size + 1 + 1) 0 t T [] wr := hR.c
   have c0 := hc.tb.c0
   have c1 := hc.tb.c1
   have c2 := hc.tb.c2
   have c3 := hc.tb.c3
   simp only [Nat.zero_add] at c1 c2 c3
   obtain ⟨d0, d1, d2, d3, f0, f1, f2, f3⟩ := z_cells hc.rb
   have B3 : Hid (TBx (set4 wr (w.heap.size + 1) 0 T) (w.heap.size + 1) 0 T /\ Below w.heap.size w (set4 wr (w.heap.size + 1) 0 T) /\ OwT w.heap.size (set4 wr (w.heap.size + 1) 0 T) T /\ samV t T) :=
    ⟨set4_tbx T d0 d1 d2 d3 (lt_of_block hc.rb), set4_below hc.bel 0 T (by omega), (hc.done (by omega)).kept (fun a ha => set4_other _ _ _ _ _ (hc.rn a (by rw [adsT_eq]; exact List.mem_cons_of_mem _ ha))) (by rw [set4_size]; exact Nat.le_refl _), hc.sam⟩
   clear hR hg hc
   simp only [List.length_nil] at *
   go_wp2
   change bodyPost _ _ _ _ _ (set4 wr (w.heap.size + 1) 0 T)
   generalize set4 wr (w.heap.size + 1) 0 T = w4 at *
   have x0 := B3.out.1.c0
   have x1 := B3.out.1.c1
   have x2 := B3.out.1.c2
   have x3 := B3.out.1.c3
   simp only [Nat.zero_add] at x1 x2 x3
   refine bodyPost_ret (v := T.val) (by simp [results, Tryz.results33, go_sem, x0, x1, x2, x3]) rfl ?_
   exact ⟨T, rfl, B3.out.2.1, B3.out.2.2.2, B3.out.2.2.1⟩
  ·obtain ⟨R', y, rfl⟩ : ∃ d y, R = d ++ [y] := ⟨R.dropLast, R.getLast hD, (List.dropLast_concat_getLast hD).symm⟩
   obtain ⟨b, m, c⟩ := y
   obtain ⟨vb, vc, rfl, hvc, hcell, hP'⟩ := RO.pop (f := rwC) (k := 1) (fun _ => rfl) hR.rv
   have k0 := hcell 0 (by omega)
   simp only [rwC, List.getElem?_cons_zero, Nat.add_zero, Nat.mul_one] at k0
   have hml : m <= 100000000 /\ R'.length <= 100000000 /\ 0 < m := by
    have h1 := hR.c.me
    have h2 := rows_len _ hR.pos
    rw [List.length_append, List.length_singleton] at h2
    have h3 : (rowsP (R' ++ [(b, m, c)])).length = (rowsP R').length + m := by rw [rowsP_app, List.length_append, rowA_len]
    have h4 := HSZ.out
    have h5 := hR.pos (b, m, c) (by simp)
    exact ⟨by omega, by omega, h5⟩
   obtain ⟨hm1, hm2, hm3⟩ := hml
   have HR : Hid (CpR (w.heap.size + 1) zTree w.heap.size w (w.heap.size + 1 + 1) t T (rowA b 0 0 (m - 0) ++ rowsP R') R' (.slice (some ⟨vb, 0, none⟩) R'.length vc) wr /\ toDo w.heap.size (w.heap.size + 1 + 1) 0 T (rowA b 0 0 (m - 0) ++ rowsP R') < gk /\ toDo w.heap.size (w.heap.size + 1 + 1) 0 T (rowA b 0 0 (m - 0) ++ rowsP R') < gk) := by
    have hp : ∀ a, a ∈ rowsP (R' ++ [(b, m, c)]) ↔ a ∈ rowA b 0 0 (m - 0) ++ rowsP R' := fun a => by
     rw [rowsP_app, Nat.sub_zero, List.mem_append, List.mem_append]; exact or_comm
    have hl : (rowsP (R' ++ [(b, m, c)])).length = (rowA b 0 0 (m - 0) ++ rowsP R').length := by
     rw [rowsP_app, Nat.sub_zero, List.length_append, List.length_append]; dsimp only; omega
    have hcc : ∀ a, (rowsP (R' ++ [(b, m, c)])).count a = (rowA b 0 0 (m - 0) ++ rowsP R').count a := fun a => by
     rw [rowsP_app, Nat.sub_zero, List.count_append, List.count_append]; dsimp only; omega
    have hc := hR.c
    have htd : toDo w.heap.size (w.heap.size + 1 + 1) 0 T (rowA b 0 0 (m - 0) ++ rowsP R') < gk := by
     unfold toDo at hg ⊢
     rw [<- hl]; exact hg
    refine ⟨⟨⟨hc.bel, hc.nz, hc.sz, hc.tb, hc.ta, hc.sam, hc.cn, hc.ty, hc.rb, hc.rn, fun x hx h0 => ?_, fun x hx hx1 => hc.f2 x hx ((hp _).2 hx1), hc.f3, fun a ha => hc.pm a ((hp a).2 ha), fun a => by rw [<- hcc]; exact hc.pc a, by rw [<- hl]; exact hc.me⟩, hP', hR.vo, hR.vr, fun x hx => hR.pos x (by simp [hx])⟩, htd, htd⟩
    rcases hc.f1 x hx h0 with q | q | q
    ·exact .inl q
    ·exact .inr (.inl ((hp _).1 q))
    ·exact .inr (.inr q)
   clear hR hg hP' hcell hD
   obtain ⟨K, hK⟩ : ∃ K, toDo w.heap.size (w.heap.size + 1 + 1) 0 T (rowA b 0 0 (m - 0) ++ rowsP R') = K := ⟨_, rfl⟩
   have HK : Hid (toDo w.heap.size (w.heap.size + 1 + 1) 0 T (rowA b 0 0 (m - 0) ++ rowsP R') = K /\ K < gk) := ⟨hK, by rw [<- hK]; exact HR.out.2.1⟩
   clear hK
   go_wp2
   obtain ⟨gO, rfl⟩ : ∃ gO : Nat, gO = gk := ⟨_, rfl⟩
   obtain ⟨wO, rfl⟩ : ∃ wO : World, wO = wr := ⟨_, rfl⟩
   go_loopg [4, 6] (m + 1) (fun g2 v4 v6 w2 => ∃ (i : Nat) (T2 : TV) (R2 : List RW), i <= m /\ v6 = .int .i64 (i : Int) /\ CpR (w.heap.size + 1) zTree w.heap.size w (w.heap.size + 1 + 1) t T2 (rowA b 0 i (m - i) ++ rowsP R2) R2 v4 w2 /\ toDo w.heap.size (w.heap.size + 1 + 1) 0 T2 (rowA b 0 i (m - i) ++ rowsP R2) + i = K /\ m - i < g2)
   case atStart => exact ⟨0, T, R', Nat.zero_le _, rfl, HR.out.1, HK.out.1, by omega⟩
   case round =>
    clear HR k0
    obtain ⟨i, T2, R2, hi, rfl, h2, ht2, hg2⟩ := hrel
    have HG2 : Hid (toDo w.heap.size (w.heap.size + 1 + 1) 0 T2 (rowA b 0 i (m - i) ++ rowsP R2) + i = K /\ m - i < gk) := ⟨ht2, hg2⟩
    clear ht2 hg2
    obtain ⟨va, v2c, rfl, _⟩ := RO.len h2.rv
    by_cases hlt : i < m
    ·obtain ⟨k, hb, hkr, hfz, hkl, hst⟩ := h2.place hlt
     have c3 := hb.c3
     have ilt : (i : Int) < (m : Int) := by omega
     have il : (i : Int) <= 100000000 := by omega
     have HB : Hid (CpR (w.heap.size + 1) zTree w.heap.size w (w.heap.size + 1 + 1) t T2 (rowA b 0 i (m - i) ++ rowsP R2) R2 (.slice va R2.length v2c) wr /\ TBx wr b (i * 4) k /\ KRow wr k.ka k.kids /\ k.kids.length <= 100000000) := ⟨h2, hb, hkr, hkl⟩
     have HST : Hid (∀ a' c' w1, (k.kids ≠ [] -> w1.ownsRow wr.heap.size 26 4 (.slice a' k.kids.length c') k.kids.length (k.kids.flatMap trCells) /\ ∃ b, a' = some ⟨b, 0, none⟩ /\ wr.heap.size <= b) -> Below wr.heap.size wr w1 ->
       ∃ T', CpR (w.heap.size + 1) zTree w.heap.size w (w.heap.size + 1 + 1) t T' ((rowA b 0 (i + 1) (m - (i + 1)) ++ rowsP R2) ++ rowA (kadr (k.rk a' c')).1 (kadr (k.rk a' c')).2 0 k.kids.length) R2 (.slice va R2.length v2c) (w1.setCell ⟨b, i * 4 + 3, none⟩ (.slice a' k.kids.length c')) /\
        toDo w.heap.size (w.heap.size + 1 + 1) 0 T' ((rowA b 0 (i + 1) (m - (i + 1)) ++ rowsP R2) ++ rowA (kadr (k.rk a' c')).1 (kadr (k.rk a' c')).2 0 k.kids.length) + 1 = toDo w.heap.size (w.heap.size + 1 + 1) 0 T2 (rowA b 0 i (m - i) ++ rowsP R2)) := hst
     have SRC : Hid (k.kids ≠ [] -> ∃ b off, k.ka = some ⟨b, off, none⟩ /\ ∀ j u, (k.kids.flatMap trCells)[j]? = some u -> wr.cell? ⟨b, off + j, none⟩ = some u) := fun hne => hkr.src hne
     have LN : Hid (([] : List TV).length + k.kids.length <= 1000000000) := by show _ <= _; simp; omega
     have FR : Hid (∀ w1, Below wr.heap.size wr w1 -> w1.frozen? ⟨b, i * 4 + 3, none⟩ = false /\ w1.cell? ⟨b, i * 4 + 3, none⟩ = some (.slice k.ka k.kids.length k.kc)) := fun w1 h1 => by
      have e : w1.heap[b]? = wr.heap[b]? := h1.block b HB.out.2.1.lt
      refine ⟨?_, ?_⟩
      ·have := hfz
       simp only [World.frozen?] at this ⊢
       rw [e]; exact this
      ·rw [<- c3]; exact h1.cell (p := ⟨b, i * 4 + 3, none⟩) HB.out.2.1.lt
     clear h2 hb hkr hfz hkl hst
     go_upto_region 11 with (at_builtin; refine wpList_ro_cat rkTree rfl _ _ rfl (.slice none 0 0) [] rfl (RO.nil _) k.ka k.kc k.kids rfl SRC.out LN.out ?_; intro a' n' c' w1 ho hgr; obtain ⟨hn', hfr⟩ := ro_fresh ho hgr; subst hn'; have hB1 := grew_nil hgr; obtain ⟨f3, g3⟩ := FR.out w1 hB1; have H1 : Hid ((k.kids ≠ [] -> w1.ownsRow wr.heap.size 26 4 (.slice a' k.kids.length c') k.kids.length (k.kids.flatMap trCells) /\ ∃ b, a' = some ⟨b, 0, none⟩ /\ wr.heap.size <= b) /\ Below wr.heap.size wr w1) := ⟨hfr, hB1⟩; clear ho hgr hfr hB1)
     obtain ⟨T3, h3, hm4⟩ := HST.out a' c' w1 H1.out.1 H1.out.2
     have y3 : (w1.setCell ⟨b, i * 4 + 3, none⟩ (.slice a' k.kids.length c')).cell? ⟨b, i * 4 + 3, none⟩ = some (.slice a' k.kids.length c') := World.cell?_setCell_same _ _ _ g3
     have H3 : Hid (CpR (w.heap.size + 1) zTree w.heap.size w (w.heap.size + 1 + 1) t T3 ((rowA b 0 (i + 1) (m - (i + 1)) ++ rowsP R2) ++ rowA (kadr (k.rk a' c')).1 (kadr (k.rk a' c')).2 0 k.kids.length) R2 (.slice va R2.length v2c) (w1.setCell ⟨b, i * 4 + 3, none⟩ (.slice a' k.kids.length c')) /\ toDo w.heap.size (w.heap.size + 1 + 1) 0 T3 ((rowA b 0 (i + 1) (m - (i + 1)) ++ rowsP R2) ++ rowA (kadr (k.rk a' c')).1 (kadr (k.rk a' c')).2 0 k.kids.length) + (i + 1) = K) := ⟨h3, by have := HG2.out.1; omega⟩
     have HAD : Hid (k.kids ≠ [] -> ∃ b, a' = some ⟨b, 0, none⟩) := fun hne => by
      obtain ⟨_, b, e, _⟩ := H1.out.1 hne
      exact ⟨b, e⟩
     clear h3 hm4 H1 HST SRC FR f3 g3 HB c3
     generalize w1.setCell ⟨b, i * 4 + 3, none⟩ (.slice a' k.kids.length c') = W2 at *
     by_cases h0 : k.kids = []
     ·have e0 : k.kids.length = 0 := by rw [h0]; rfl
      have H4 : Hid (CpR (w.heap.size + 1) zTree w.heap.size w (w.heap.size + 1 + 1) t T3 (rowA b 0 (i + 1) (m - (i + 1)) ++ rowsP R2) R2 (.slice va R2.length v2c) W2 /\ toDo w.heap.size (w.heap.size + 1 + 1) 0 T3 (rowA b 0 (i + 1) (m - (i + 1)) ++ rowsP R2) + (i + 1) = K) := by
       have := H3.out
       rw [e0] at this
       have e : ∀ x y : Nat, rowA x y 0 0 = [] := fun _ _ => rfl
       rw [e, List.append_nil] at this
       exact this
      rw [e0] at y3 ⊢
      clear H3 h0 e0
      go_wp2
      go_roundg (gk - 1)
      case measure => have := HG2.out.2; omega
      case rel => exact ⟨i + 1, T3, R2, by omega, by go_num, H4.out.1, H4.out.2, by have := HG2.out.2; omega⟩
     ·obtain ⟨b', e'⟩ := HAD.out h0
      subst e'
      have hpos : 0 < k.kids.length := List.length_pos_iff.2 h0
      have ipos : (0 : Int) < (k.kids.length : Int) := by omega
      have H4 : Hid (CpR (w.heap.size + 1) zTree w.heap.size w (w.heap.size + 1 + 1) t T3 (rowA b 0 (i + 1) (m - (i + 1)) ++ rowsP (R2 ++ [(b', k.kids.length, c')])) R2 (.slice va R2.length v2c) (W2.alloc (.cells #[.slice (some ⟨b', 0, none⟩) k.kids.length c'] 24)) /\ toDo w.heap.size (w.heap.size + 1 + 1) 0 T3 (rowA b 0 (i + 1) (m - (i + 1)) ++ rowsP (R2 ++ [(b', k.kids.length, c')])) + (i + 1) = K) := by
       have := H3.out
       have e : kadr (k.rk (some ⟨b', 0, none⟩) c') = (b', 0) := rfl
       rw [e, List.append_assoc] at this
       rw [rowsP_app]
       exact ⟨this.1.later (below_alloc _ _), this.2⟩
      have NX : Hid (∀ j u, (rwC (b', k.kids.length, c'))[j]? = some u -> (W2.alloc (.cells #[.slice (some ⟨b', 0, none⟩) k.kids.length c'] 24)).cell? ⟨W2.heap.size, j, none⟩ = some u) := fun j u hu => by
       rw [cellq_any (heap_alloc_new W2 (.cells #[.slice (some ⟨b', 0, none⟩) k.kids.length c'] 24)), <- hu]
       simp [rwC]
      have LN2 : Hid (R2.length <= 1000000000) := by
       have h1 := H4.out.1.c.me
       have h2 := rows_len _ H4.out.1.pos
       rw [List.length_append, rowsP_app, List.length_append] at h1
       have h4 := HSZ.out
       show _ <= _
       omega
      clear H3 h0 HAD
      go_wp2_with (at_builtin; refine wpList_ro_append rkRows rfl _ _ rfl (.slice va R2.length v2c) R2 rfl H4.out.1.rv W2.heap.size 1 (b', k.kids.length, c') rfl NX.out LN2.out ?_; intro a7 n7 c7 w7 ho7 hg7; have W7 : Hid (CpR (w.heap.size + 1) zTree w.heap.size w (w.heap.size + 1 + 1) t T3 (rowA b 0 (i + 1) (m - (i + 1)) ++ rowsP (R2 ++ [(b', k.kids.length, c')])) (R2 ++ [(b', k.kids.length, c')]) (.slice a7 n7 c7) w7) := H4.out.1.grew hg7 ho7 (fun x hx => by rcases List.mem_append.1 hx with h | h; exact H4.out.1.pos x h; simp only [List.mem_cons, List.not_mem_nil, or_false] at h; subst h; exact hpos); clear ho7 hg7)
      go_roundg (gk - 1)
      case measure => have := HG2.out.2; omega
      case rel => exact ⟨i + 1, T3, R2 ++ [(b', k.kids.length, c')], by omega, by go_num, W7.out, H4.out.2, by have := HG2.out.2; omega⟩
    ·obtain rfl : i = m := by omega
     have HE : Hid (CpR (w.heap.size + 1) zTree w.heap.size w (w.heap.size + 1 + 1) t T2 (rowsP R2) R2 (.slice va R2.length v2c) wr) := by
      have := h2
      rw [Nat.sub_self] at this
      exact this
     clear h2 hlt hi
     go_wp2
     go_roundg (gO - 1)
     case measure => have := HK.out.2; omega
     case rel =>
      refine ⟨T2, R2, HE.out, ?_⟩
      have h1 := HG2.out.1
      have h3 := HK.out.2
      rw [Nat.sub_self] at h1
      have e : rowA b 0 i 0 ++ rowsP R2 = rowsP R2 := rfl
      rw [e] at h1
      omega
end Go.Proofs.YteciabdjkaackaaGreat
