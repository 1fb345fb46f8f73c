import Derived.Test.YteciabdjkaackaaGreatPTCuToTCy
namespace Go.Proofs.YteciabdjkaackaaGreat
set_option linter.unusedVariables false
open Go.RowKit
def frO (t : TV) : Nat × Nat := ((kadr t).1, t.kids.length)
theorem frO_sk (t : TV) (ks : List TV) (h : ks.length = t.kids.length) : frO (t.sk ks) = frO t := by
 have e : frO (t.sk ks) = ((kadr t).1, ks.length) := rfl
 rw [e, h]; rfl
structure CpJ (r : Nat) (ob : Obj) (N : Nat) (w0 : World) (p0 q0 : Nat) (t : TV) (T : TV) (m : Nat) (w : World) : Prop where
 bel : Below N w0 w
 nz : N <= w.heap.size
 sz : szT t <= 100000000
 tb : TBx w p0 q0 T
 ta : TAt w T
 sam : samV t T
 cn : ∀ a, N <= a.1 -> (adsT p0 q0 T).count a <= 1
 ty : ∀ a ∈ adsT p0 q0 T, N <= a.1 -> a.2 % 4 = 0 /\ ∃ cs, w.heap[a.1]? = some (.cells cs 26)
 fr : ∀ x ∈ ((preT T).map frO).take m, x.2 ≠ 0 -> N <= x.1
 rs : ¬ Stp ob
 rb : w.heap[r]? = some ob
 rn : ∀ a ∈ adsT p0 q0 T, a.1 ≠ r
theorem not_stpT {cs : Array Value} : ¬ Stp (.cells cs 26) := not_stp (by decide)
theorem CpJ.still {r : Nat} {ob : Obj} {N : Nat} {w0 : World} {p0 q0 : Nat} {t T : TV} {m : Nat} {w w' : World} (h : CpJ r ob N w0 p0 q0 t T m w) (hn : NoStp N w w') : CpJ r ob N w0 p0 q0 t T m w' := by
 have hk : ∀ a ∈ adsT p0 q0 T, w'.heap[a.1]? = w.heap[a.1]? := fun a ha => by
  have hl := ads_lt h.tb h.ta ha
  obtain ⟨o, ho⟩ : ∃ o, w.heap[a.1]? = some o := ⟨_, Array.getElem?_eq_getElem hl⟩
  rw [ho]
  refine hn.keep _ _ ho fun ⟨h1, h2⟩ => ?_
  obtain ⟨_, cs, hc⟩ := h.ty a ha h1
  rw [ho] at hc
  cases hc
  exact not_stpT h2
 have hc : ∀ a ∈ adsT p0 q0 T, C4 w w' a := fun a ha => ⟨Nat.lt_of_lt_of_le (ads_lt h.tb h.ta ha) hn.size, fun j _ => World.cell?_of_block (hk a ha)⟩
 refine ⟨⟨hn.os.trans h.bel.os, hn.tape.trans h.bel.tape, hn.output.trans h.bel.output, Nat.le_trans h.bel.size hn.size, fun j hj => ?_⟩, Nat.le_trans h.nz hn.size, h.sz, (hc _ (adsT_root _ _ _)).tbx h.tb, keep_at T p0 q0 h.ta fun a ha => hc a (by rw [adsT_eq]; exact List.mem_cons_of_mem _ ha), h.sam, h.cn, fun a ha hN => ?_, h.fr, h.rs, hn.keep _ _ h.rb fun ⟨_, x⟩ => h.rs x, h.rn⟩
 ·have hl := Nat.lt_of_lt_of_le hj h.nz
  obtain ⟨o, ho⟩ : ∃ o, w.heap[j]? = some o := ⟨_, Array.getElem?_eq_getElem hl⟩
  rw [hn.keep j o ho fun ⟨h1, _⟩ => by omega, <- ho]
  exact h.bel.block j hj
 ·rw [hk a ha]; exact h.ty a ha hN
theorem onStp_setC {N : Nat} {wb w : World} {b i : Nat} {cs : Array Value} {ty : TypeId} {v : Value} (h : OnStp N wb w) (hb : w.heap[b]? = some (.cells cs ty)) (ht : (ty == 131) = false) : OnStp N wb (w.setCell ⟨b, i, none⟩ v) := by
 refine ⟨?_, fun j o hj hN hs => ?_⟩
 ·have h3 : (w.setCell ⟨b, i, none⟩ v).heap.size = w.heap.size := by simp [World.setCell]
  have := h.size
  omega
 ·have h1 := h.keep j o hj hN hs
  rw [Below.heap_setCell _ _ _ _ (show j ≠ b from fun e => ?_), h1]
  subst e
  rw [hb] at h1
  cases h1
  exact not_stp ht hs
theorem row_krow {w w' : World} {n b c : Nat} {l : List TV} (h : w.ownsRow n 26 4 (.slice (some ⟨b, 0, none⟩) l.length c) l.length (l.flatMap trCells)) (hne : l ≠ []) (hk : w'.heap[b]? = w.heap[b]?) (hs : w.heap.size <= w'.heap.size) : KRow w' (some ⟨b, 0, none⟩) l /\ ∃ cs, w'.heap[b]? = some (.cells cs 26) := by
 rcases h.2 with ⟨e, _⟩ | ⟨g, cap, cur, e, h1, h2, h3, h4, h5, h6⟩
 ·cases e
 ·cases e
  have hg : w'.heap[b]? = some (.cells cur 26) := by rw [hk]; exact h2
  refine ⟨fun _ => ⟨b, 0, rfl, lt_of_block hg, fun i hi => ?_⟩, cur, hg⟩
  have eg : l.getD i .none = l[i] := by simp [List.getD, hi]
  have hc : ∀ j, j < 4 -> w'.cell? ⟨b, 0 + i * 4 + j, none⟩ = (trCells l[i])[j]? := fun j hj => by
   rw [cellq_any hg, <- fm_get (k := 4) (fun _ => rfl) l i hi j hj, <- h6, Nat.zero_add]
   rw [List.getElem?_take, if_pos (by omega)]
   simp
  rw [eg]
  have c0 := hc 0 (by omega)
  have c1 := hc 1 (by omega)
  have c2 := hc 2 (by omega)
  have c3 := hc 3 (by omega)
  exact ⟨c0, c1, c2, c3⟩
set_option maxHeartbeats 1000000 in
theorem CpJ.enter {r : Nat} {ob : Obj} {N : Nat} {w0 : World} {p0 q0 : Nat} {t T : TV} {m : Nat} {w : World} (h : CpJ r ob N w0 p0 q0 t T m w) (π : List Nat) (hok : okP π T) (hm : nuP π T = m) (hN : N <= (adP π p0 q0 T).1) :
  Calls Tryz.prog 75 #[.pointer (some ⟨(adP π p0 q0 T).1, (adP π p0 q0 T).2, none⟩)] w fun e w' => e = .returned (.bool true) /\ OnStp N w w' /\ ∃ a c, CpJ r ob N w0 p0 q0 t (setAt π T ((getAt π T).rk a c)) (m + 1) w' := by
 obtain ⟨hb, ha⟩ := at_path π p0 q0 T h.tb h.ta hok
 have hmem := adP_mem π p0 q0 T w h.ta hok
 obtain ⟨hal, cs, hty⟩ := h.ty _ hmem hN
 have hcn := h.cn _ hN
 have hsz : szT (getAt π T) <= 100000000 := by
  obtain ⟨A, B, _, h2, _⟩ := pre_set π T hok
  have h3 := congrArg List.length h2
  simp only [List.length_map, List.length_append, preT_len] at h3
  have h4 := samV_size _ _ h.sam
  have := h.sz
  omega
 have hkl : (getAt π T).kids.length <= 1000000000 := by
  have := szT_eq (getAt π T)
  have := szL_len (getAt π T).kids
  omega
 refine (copied1_W _ _ _ w hb ha.row (by simp [World.frozen?, hty]) hkl).mono ?_
 rintro e w' ⟨rfl, a', c', w1, hrow, hB, rfl⟩
 obtain ⟨A, B, hA1, hA2, hA3⟩ := ads_set π p0 q0 T hok
 obtain ⟨F, G, hF1, hF2, hF3⟩ := pre_setF frO frO_sk π T hok
 generalize hk : getAt π T = k at *
 generalize hP : (adP π p0 q0 T).1 = P at *
 generalize hQ : (adP π p0 q0 T).2 = Q at *
 have hPQ : adP π p0 q0 T = (P, Q) := by rw [<- hP, <- hQ]
 rw [hPQ] at hmem hcn
 have hPl : P < w.heap.size := hb.lt
 have hty1 : w1.heap[P]? = some (.cells cs 26) := by rw [hB.block P hPl]; exact hty
 generalize hv : Value.slice a' k.kids.length c' = v at *
 have hsz' : (w1.setCell ⟨P, Q + 3, none⟩ v).heap.size = w1.heap.size := by simp [World.setCell]
 have hother : ∀ x : Nat, x ≠ P -> (w1.setCell ⟨P, Q + 3, none⟩ v).heap[x]? = w1.heap[x]? := fun x hx => Below.heap_setCell _ _ _ _ hx
 have htyP : ∃ cs, (w1.setCell ⟨P, Q + 3, none⟩ v).heap[P]? = some (.cells cs 26) := ⟨_, heap_setCell_same w1 P (Q + 3) _ _ v hty1⟩
 have hcell : ∀ x : Addr, x.block < w.heap.size -> x ≠ ⟨P, Q + 3, none⟩ -> (w1.setCell ⟨P, Q + 3, none⟩ v).cell? x = w.cell? x := fun x hx hne => by
  rw [World.cell?_setCell_other _ _ _ _ (fun e => hne e.symm)]
  exact hB.cell hx
 have hC4 : ∀ a ∈ adsT p0 q0 T, a ≠ (P, Q) -> C4 w (w1.setCell ⟨P, Q + 3, none⟩ v) a := fun a hma hne => by
  have hl := ads_lt h.tb h.ta hma
  refine ⟨by rw [hsz']; exact Nat.lt_of_lt_of_le hl hB.size, fun j hj => hcell _ hl fun e => ?_⟩
  simp only [Addr.mk.injEq, and_true] at e
  have h1 := (h.ty a hma (by omega)).1
  exact hne (Prod.ext e.1 (by show a.2 = Q; omega))
 have hin : ∀ a ∈ inL k.kids, a ∈ adsT p0 q0 T /\ a ≠ (P, Q) := fun a hma => by
  have hc : ∀ x : Nat × Nat, (adsT p0 q0 T).count x = A.count x + ((if ((P, Q) == x) = true then 1 else 0) + ((rowA (kadr k).1 (kadr k).2 0 k.kids.length).count x + (inL k.kids).count x)) + B.count x := fun x => by
   rw [hA2, List.count_append, List.count_append, adsT_eq, List.count_cons, kidsA, cnt_row]; omega
  have hpos : 0 < (inL k.kids).count a := List.count_pos_iff.2 hma
  refine ⟨List.count_pos_iff.1 (by rw [hc]; omega), fun e => ?_⟩
  subst e
  rw [hc, if_pos (beq_self_eq_true _)] at hcn
  omega
 have hv3 : (w1.setCell ⟨P, Q + 3, none⟩ v).cell? ⟨P, Q + 3, none⟩ = some v := World.cell?_setCell_same _ _ _ ((hB.cell (p := ⟨P, Q + 3, none⟩) hPl).trans hb.c3)
 have hu : TBx (w1.setCell ⟨P, Q + 3, none⟩ v) P Q (k.rk a' c') := by
  refine ⟨by rw [hsz']; exact Nat.lt_of_lt_of_le hPl hB.size, ?_, ?_, ?_, ?_⟩
  ·rw [hcell _ hPl (by simp)]; exact hb.c0
  ·rw [hcell _ hPl (by simp)]; exact hb.c1
  ·rw [hcell _ hPl (by simp)]; exact hb.c2
  ·rw [hv3, <- hv]; rfl
 have hrk : k.kids ≠ [] -> ∃ b, a' = some ⟨b, 0, none⟩ /\ w.heap.size <= b /\ KRow (w1.setCell ⟨P, Q + 3, none⟩ v) a' k.kids /\ ∃ cs, (w1.setCell ⟨P, Q + 3, none⟩ v).heap[b]? = some (.cells cs 26) := fun hne => by
  obtain ⟨hown, b, rfl, hbl⟩ := hrow hne
  rw [<- hv] at hown
  obtain ⟨r1, r2⟩ := row_krow hown hne (hother b (by omega)) (by rw [hsz']; exact Nat.le_refl _)
  exact ⟨b, rfl, hbl, r1, r2⟩
 have hU : TAt (w1.setCell ⟨P, Q + 3, none⟩ v) (k.rk a' c') := by
  refine TAt.mk _ (fun hne => ?_) fun x hx => ?_
  ·obtain ⟨b, _, _, hkr, _⟩ := hrk hne
   exact hkr hne
  ·refine keep_at x 0 0 (ha.kid x hx) fun a hma => ?_
   obtain ⟨i1, i2⟩ := hin a (List.mem_flatMap.2 ⟨x, hx, hma⟩)
   exact hC4 a i1 i2
 obtain ⟨u1, u2⟩ := upd_at (w := w) (w' := w1.setCell ⟨P, Q + 3, none⟩ v) (u := k.rk a' c') π p0 q0 T h.tb h.ta hok (by rw [hPQ]; exact hcn) (by rw [hPQ]; exact hC4) (by rw [hPQ]; exact hu) hU
 have hads : adsT p0 q0 (setAt π T (k.rk a' c')) = A ++ adsT P Q (k.rk a' c') ++ B := hA3 _
 have hcT : ∀ x : Nat × Nat, (adsT p0 q0 T).count x = A.count x + ((if ((P, Q) == x) = true then 1 else 0) + ((rowA (kadr k).1 (kadr k).2 0 k.kids.length).count x + (inL k.kids).count x)) + B.count x := fun x => by
  rw [hA2, List.count_append, List.count_append, adsT_eq, List.count_cons, kidsA, cnt_row]; omega
 have hcU : ∀ x : Nat × Nat, (adsT p0 q0 (setAt π T (k.rk a' c'))).count x = A.count x + ((if ((P, Q) == x) = true then 1 else 0) + ((rowA (kadr (k.rk a' c')).1 (kadr (k.rk a' c')).2 0 k.kids.length).count x + (inL k.kids).count x)) + B.count x := fun x => by
  rw [hads, List.count_append, List.count_append, adsT_eq, List.count_cons, kidsA, cnt_row]
  have e : (k.rk a' c').kids = k.kids := rfl
  rw [e]; omega
 have hnew : ∀ x, 0 < (rowA (kadr (k.rk a' c')).1 (kadr (k.rk a' c')).2 0 k.kids.length).count x -> w.heap.size <= x.1 /\ x.2 % 4 = 0 /\ ∃ cs, (w1.setCell ⟨P, Q + 3, none⟩ v).heap[x.1]? = some (.cells cs 26) := fun x hx => by
  have hxm := List.count_pos_iff.1 hx
  have hne : k.kids ≠ [] := fun e => by rw [e] at hxm; simp [rowA] at hxm
  obtain ⟨b, rfl, hbl, _, hcs⟩ := hrk hne
  have ek : kadr (k.rk (some ⟨b, 0, none⟩) c') = (b, 0) := rfl
  rw [ek] at hxm
  obtain ⟨x1, i, _, x2⟩ := row_mem hxm
  simp only at x1 x2
  refine ⟨by rw [x1]; exact hbl, by rw [x2]; omega, by rw [x1]; exact hcs⟩
 have hold : ∀ x, x ∈ adsT p0 q0 T -> x.1 < w.heap.size := fun x hx => ads_lt h.tb h.ta hx
 refine ⟨rfl, onStp_setC (below_onStp hB) hty1 (by decide), a', c', ?_⟩
 refine ⟨(h.bel.trans (hB.mono h.nz)).setCell (p := ⟨P, Q + 3, none⟩) hN v, by rw [hsz']; exact Nat.le_trans h.nz hB.size, h.sz, u1, u2, samV_trans _ _ _ h.sam (samV_set π T _ hok (by rw [hk]; exact samV_rk _ _ _)), fun x hx => ?_, fun x hx hxN => ?_, ?_, h.rs, ?_, fun x hx => ?_⟩
 ·by_cases hr : 0 < (rowA (kadr (k.rk a' c')).1 (kadr (k.rk a' c')).2 0 k.kids.length).count x
  ·obtain ⟨n1, _, _⟩ := hnew x hr
   have h0 : (adsT p0 q0 T).count x = 0 := List.count_eq_zero.2 fun hm => by have := hold x hm; omega
   have h1 := row_one x (kadr (k.rk a' c')).1 (kadr (k.rk a' c')).2 k.kids.length 0
   rw [hcT] at h0
   rw [hcU]
   omega
  ·have h1 := h.cn x hx
   rw [hcT] at h1
   rw [hcU]
   omega
 ·have hpos : 0 < (adsT p0 q0 (setAt π T (k.rk a' c'))).count x := List.count_pos_iff.2 hx
  by_cases hr : 0 < (rowA (kadr (k.rk a' c')).1 (kadr (k.rk a' c')).2 0 k.kids.length).count x
  ·obtain ⟨_, n2, n3⟩ := hnew x hr
   exact ⟨n2, n3⟩
  ·have hxT : x ∈ adsT p0 q0 T := List.count_pos_iff.1 (by rw [hcU] at hpos; rw [hcT]; omega)
   obtain ⟨o1, cs', o2⟩ := h.ty x hxT hxN
   refine ⟨o1, ?_⟩
   by_cases hxP : x.1 = P
   ·rw [hxP]; exact htyP
   ·exact ⟨cs', by rw [hother _ hxP, hB.block _ (hold x hxT)]; exact o2⟩
 ·have hfr := h.fr
  rw [hF2, List.append_assoc, <- hm, <- hF1, List.take_left] at hfr
  rw [hF3, <- hm, <- hF1, preT_eq, List.map_cons, List.append_assoc, List.cons_append]
  have e : (F ++ frO (k.rk a' c') :: ((preL (k.rk a' c').kids).map frO ++ G)).take (F.length + 1) = F ++ [frO (k.rk a' c')] := by
   rw [List.take_append, List.take_of_length_le (by omega)]; simp
  rw [e]
  intro x hx hx0
  rcases List.mem_append.1 hx with hx | hx
  ·exact hfr x hx hx0
  ·simp only [List.mem_cons, List.not_mem_nil, or_false] at hx
   subst hx
   have hne : k.kids ≠ [] := fun e => hx0 (by show k.kids.length = 0; rw [e]; rfl)
   obtain ⟨b, rfl, hbl, _⟩ := hrk hne
   show N <= b
   have := h.nz
   omega
 ·rw [hother r (fun e => h.rn _ hmem (by rw [e])), hB.block r (lt_of_block h.rb)]; exact h.rb
 ·have hpos : 0 < (adsT p0 q0 (setAt π T (k.rk a' c'))).count x := List.count_pos_iff.2 hx
  by_cases hr : 0 < (rowA (kadr (k.rk a' c')).1 (kadr (k.rk a' c')).2 0 k.kids.length).count x
  ·obtain ⟨n1, _, _⟩ := hnew x hr
   have := lt_of_block h.rb
   omega
  ·exact h.rn x (List.count_pos_iff.1 (by rw [hcU] at hpos; rw [hcT]; omega))
theorem kidF_fst {b o : Nat} {x : Nat × Nat × TV} : ∀ {i : Nat} {l : List TV}, x ∈ kidF b o i l -> x.1 = b
 | _, [], h => by cases h
 | i, k :: l, h => by
  rcases List.mem_cons.1 h with rfl | h
  ·rfl
  ·exact kidF_fst h
theorem rows_from {N : Nat} (t : TV) : (∀ x ∈ (preT t).map frO, x.2 ≠ 0 -> N <= x.1) -> ∀ a ∈ adsL (kidsA t), N <= a.1 := by
 induction t using TV.ind with
 | _ t ih =>
  intro h a ha
  obtain ⟨x, hx, hxa⟩ := List.mem_flatMap.1 ha
  have hxk := kidF_mem hx
  rw [adsT_eq] at hxa
  rcases List.mem_cons.1 hxa with rfl | hxa
  ·have h0 := h (frO t) (by rw [preT_eq]; simp) (fun e => by
    have : t.kids.length = 0 := e
    rw [List.eq_nil_of_length_eq_zero this] at hxk
    cases hxk)
   have := kidF_fst hx
   show N <= x.1
   rw [this]
   exact h0
  ·refine ih _ hxk (fun y hy => h y ?_) a hxa
   rw [preT_eq]
   obtain ⟨z, hz, rfl⟩ := List.mem_map.1 hy
   exact List.mem_map.2 ⟨z, List.mem_cons_of_mem _ (List.mem_flatMap.2 ⟨_, hxk, hz⟩), rfl⟩
theorem nu_set : ∀ (π : List Nat) (t u : TV), okP π t -> nuP π (setAt π t u) = nuP π t
 | [], _, _, _ => rfl
 | i :: π, t, u, ⟨hi, hp⟩ => by
  have e : ∀ k, (t.sk (t.kids.set i k)).kids.take i = t.kids.take i := fun k => by
   show (t.kids.set i k).take i = _
   rw [List.take_set, List.set_eq_of_length_le (by simp; omega)]
  rw [setAt, nuP, nuP, kid_set hi, e, nu_set π _ u hp]
structure OwT (N : Nat) (w : World) (T : TV) : Prop where
 ta : TAt w T
 cn : ∀ a, (adsL (kidsA T)).count a <= 1
 ty : ∀ a ∈ adsL (kidsA T), N <= a.1 /\ a.2 % 4 = 0 /\ ∃ cs, w.heap[a.1]? = some (.cells cs 26)
structure CpG where
 T : TV
 m : Nat
 π : List Nat
 n : Nat
 d : Nat
structure CpI (r : Nat) (ob : Obj) (N : Nat) (w0 : World) (p0 q0 : Nat) (t : TV) (x : CpG) (S : List PA) (w : World) : Prop where
 j : CpJ r ob N w0 p0 q0 t x.T x.m w
 s : S = [] /\ x.m = szT x.T /\ x.d = 0 ∨ okP x.π x.T /\ x.n <= (getAt x.π x.T).kids.length /\ x.m = nuP x.π x.T + 1 + szL ((getAt x.π x.T).kids.take x.n) /\ S = stkI x.π p0 q0 x.T ++ [((adP x.π p0 q0 x.T).1, (adP x.π p0 q0 x.T).2, x.n)] /\ x.d = x.π.length + 1
theorem CpI.top {r : Nat} {ob : Obj} {N : Nat} {w0 : World} {p0 q0 : Nat} {t : TV} {x : CpG} {S : List PA} {p q n : Nat} {w : World} (h : CpI r ob N w0 p0 q0 t x (S ++ [(p, q, n)]) w) :
  okP x.π x.T /\ x.n = n /\ n <= (getAt x.π x.T).kids.length /\ x.m = nuP x.π x.T + 1 + szL ((getAt x.π x.T).kids.take n) /\ S = stkI x.π p0 q0 x.T /\ adP x.π p0 q0 x.T = (p, q) /\ x.d = x.π.length + 1 := by
 rcases h.s with ⟨e, _⟩ | ⟨h1, h2, h3, h4, h5⟩
 ·simp at e
 ·have he := List.append_inj' h4 rfl
  have e2 := he.2
  simp only [List.cons.injEq, Prod.mk.injEq, and_true] at e2
  obtain ⟨e3, e4, e5⟩ := e2
  rw [<- e5] at h2 h3
  exact ⟨h1, e5.symm, h2, h3, he.1, Prod.ext e3.symm e4.symm, h5⟩
set_option maxHeartbeats 1000000 in
theorem cpC {r : Nat} {ob : Obj} {N : Nat} {w0 : World} {p0 q0 : Nat} {t : TV} : WkC N (CpI r ob N w0 p0 q0 t) (fun x => 2 * (szT x.T - x.m) + x.d) (fun w' => ∃ T, CpJ r ob N w0 p0 q0 t T (szT T) w') 75 77 #[] #[] := by
 refine ⟨ent_copied1, ent_leave1, fun x S w w' h hn => ⟨h.j.still hn, h.s⟩, fun x S w h => ?_, fun x w h => ?_, fun x S p q n w h b m c hs => ?_, fun x S p q n w h => ?_⟩
 ·rcases h.s with ⟨rfl, _⟩ | ⟨h1, _, _, h4, _⟩
  ·simp
  ·rw [h4, List.length_append, stkI_len]
   have a1 := nu_len x.π x.T
   have a2 := nu_lt x.π x.T h1
   have a3 := samV_size _ _ h.j.sam
   have a4 := h.j.sz
   simp only [List.length_cons, List.length_nil]
   omega
 ·rcases h.s with ⟨_, h1, _⟩ | ⟨_, _, _, h4, _⟩
  ·exact ⟨x.T, by rw [<- h1]; exact h.j⟩
  ·simp at h4
 ·obtain ⟨h1, -, -, -, -, h6, -⟩ := h.top
  have hmem := adP_mem x.π p0 q0 x.T w h.j.ta h1
  rw [h6] at hmem
  have hb := hs.2 b rfl
  obtain ⟨o, ho, hst⟩ := hs.1.stp b rfl
  intro e
  subst e
  obtain ⟨_, cs, hc⟩ := h.j.ty _ hmem hb
  rw [ho] at hc
  cases hc
  exact not_stpT hst
 ·obtain ⟨T, m, π, n', d⟩ := x
  obtain ⟨h1, h2, h3, h4, h5, h6, h7⟩ := h.top
  dsimp only at h1 h2 h3 h4 h5 h6 h7
  subst h2
  have hj : CpJ r ob N w0 p0 q0 t T m w := h.j
  obtain ⟨hb, ha⟩ := at_path π p0 q0 T hj.tb hj.ta h1
  rw [h6] at hb
  have hkl : (getAt π T).kids.length <= 1000000000 := by
   obtain ⟨A, B, _, e2, _⟩ := pre_set π T h1
   have e3 := congrArg List.length e2
   simp only [List.length_map, List.length_append, preT_len] at e3
   have e4 := samV_size _ _ hj.sam
   have e5 := hj.sz
   have e6 := szT_eq (getAt π T)
   have e7 := szL_len (getAt π T).kids
   omega
  refine ⟨(getAt π T).ka, (getAt π T).kids.length, (getAt π T).kc, hb.c3, h3, hkl, fun hn => ?_, fun hn => ?_⟩
  ·refine (leave1_W p q w).mono fun e w' ⟨e1, e2⟩ => ⟨e1, by rw [e2]; exact OnStp.refl _ _, ?_⟩
   subst e2
   rw [hn, List.take_length] at h4
   rcases List.eq_nil_or_concat π with rfl | ⟨π0, i, hcc⟩
   ·refine ⟨⟨T, m, [], 0, 0⟩, ?_, hj, .inl ⟨h5, ?_, rfl⟩⟩
    ·show 2 * (szT T - m) + 0 < 2 * (szT T - m) + d
     omega
    ·show m = szT T
     rw [szT_eq, h4]
     simp only [nuP, getAt]
     omega
   ·rw [List.concat_eq_append] at hcc
    subst hcc
    obtain ⟨g1, g2⟩ := (okP_app π0 [i] T).1 h1
    have gi : i < (getAt π0 T).kids.length := g2.1
    have eg : (getAt π0 T).kids.getD i .none = (getAt π0 T).kids[i] := by simp [List.getD, gi]
    refine ⟨⟨T, m, π0, i + 1, d - 1⟩, ?_, hj, .inr ⟨g1, gi, ?_, ?_, ?_⟩⟩
    ·show 2 * (szT T - m) + (d - 1) < 2 * (szT T - m) + d
     omega
    ·show m = nuP π0 T + 1 + szL ((getAt π0 T).kids.take (i + 1))
     rw [nuP_app, getAt_app] at h4
     simp only [nuP, getAt] at h4
     rw [eg] at h4
     rw [<- List.take_append_getElem gi, szL_app]
     have e8 := szT_eq (getAt π0 T).kids[i]
     have e9 : szL [(getAt π0 T).kids[i]] = szT (getAt π0 T).kids[i] := by simp [szL]
     omega
    ·show S = _
     rw [h5, stkI_snoc]
    ·show d - 1 = π0.length + 1
     rw [h7]; simp
  ·obtain ⟨b, off, hka, hkt⟩ := krow_kid ha.row hn
   have hkd : kadr (getAt π T) = (b, off) := by unfold kadr; rw [hka]
   have ok' : okP (π ++ [n']) T := (okP_app π [n'] T).2 ⟨h1, hn, trivial⟩
   have ad' : adP (π ++ [n']) p0 q0 T = (b, off + n' * 4) := by rw [adP_app, adP, adP, hkd]
   have nu' : nuP (π ++ [n']) T = m := by rw [nuP_app, h4]; simp only [nuP]; omega
   have hN : N <= b := by
    obtain ⟨A, B, e1, e2, _⟩ := pre_setF frO frO_sk π T h1
    have hfr := hj.fr (frO (getAt π T)) (by
     rw [e2, preT_eq, List.map_cons, List.append_assoc, List.cons_append, List.mem_take_iff_getElem]
     refine ⟨A.length, ?_, ?_⟩
     ·simp only [List.length_append, List.length_cons]
      omega
     ·simp) (fun e => by
      have : (getAt π T).kids.length = 0 := e
      omega)
    have : (frO (getAt π T)).1 = b := by show (kadr (getAt π T)).1 = b; rw [hkd]
    rw [this] at hfr
    exact hfr
   have hent := hj.enter (π ++ [n']) ok' nu' (by rw [ad']; exact hN)
   rw [ad'] at hent
   refine ⟨b, off, hka, hent.mono fun e w' ⟨e1, e2, a', c', e3⟩ => ⟨true, e1, e2, fun _ => ?_, fun q => by cases q⟩⟩
   refine ⟨⟨_, m + 1, π ++ [n'], 0, d + 1⟩, ?_, e3, .inr ⟨ok_set _ _ _ ok', Nat.zero_le _, ?_, ?_, ?_⟩⟩
   ·show 2 * (szT (setAt (π ++ [n']) T _) - (m + 1)) + (d + 1) < 2 * (szT T - m) + d
    have s1 := samV_size _ _ e3.sam
    have s2 := samV_size _ _ hj.sam
    have s3 := nu_lt _ _ ok'
    omega
   ·show m + 1 = nuP (π ++ [n']) _ + 1 + szL (List.take 0 _)
    rw [nu_set _ _ _ ok', nu']
    simp [szL]
   ·show _ = stkI (π ++ [n']) p0 q0 _ ++ [((adP (π ++ [n']) p0 q0 _).1, (adP (π ++ [n']) p0 q0 _).2, 0)]
    rw [stkI_set _ _ _ _ _ ok', ad_set _ _ _ _ _ ok', ad', stkI_snoc, h6, h5]
   ·show d + 1 = (π ++ [n']).length + 1
    rw [h7]; simp
set_option maxRecDepth 100000 in
set_option maxHeartbeats 2000000 in
theorem walk_C {γ : Type} {N : Nat} {I : γ -> List PA -> World -> Prop} {μ : γ -> Nat} {Post : World -> Prop} {E : FuncId} {ec : Array Value} (hC : WkC N I μ Post E 77 ec #[]) (b0 o0 : Nat) (w : World) (hN : N <= w.heap.size)
  (h0 : Calls Tryz.prog E (#[.pointer (some ⟨b0, o0, none⟩)] ++ ec) w fun e w' => ∃ r, e = .returned (.bool r) /\ w.heap.size <= w'.heap.size /\ (r = true -> ∃ x, I x [(b0, o0, 0)] w') /\ (r = false -> Post w')) :
  Calls Tryz.prog 44 #[.pointer (some ⟨b0, o0, none⟩), fnV E ec] w fun e w' => e = .returned (.tuple #[]) /\ Post w' := by
 have CW : Hid (Calls Tryz.prog 34 #[.pointer (some ⟨b0, o0, none⟩), fnV E ec, fnV 77 #[]] w fun e w' => e = .returned (.tuple #[]) /\ Post w') := walkAround_W hC b0 o0 w hN h0
 clear hC hN h0
 go_enter Tryz.func44, Tryz.ntmps44
 go_wp2_with (go_at_call 34; refine CW.out.mono ?_; rintro e w1 ⟨rfl, h1⟩; have R : Hid (Post w1) := h1; clear h1)
 refine bodyPost_end (results_none rfl _ _ _) rfl ?_
 exact ⟨rfl, R.out⟩
theorem kids_lt {w : World} {t : TV} (ht : TAt w t) {a : Nat × Nat} (ha : a ∈ adsL (kidsA t)) : a.1 < w.heap.size := by
 obtain ⟨x, hx, hxa⟩ := List.mem_flatMap.1 ha
 obtain ⟨i, hi, rfl⟩ := List.getElem_of_mem hx
 have hi' : i < t.kids.length := by rw [<- kidF_len (kadr t).1 (kadr t).2 0 t.kids]; exact hi
 obtain ⟨b, off, e, hb⟩ := krow_kid ht.row hi'
 have h := kidsA_get e hi'
 rw [List.getElem?_eq_getElem hi] at h
 rw [Option.some.inj h] at hxa
 exact ads_lt hb (ht.kid _ (List.getElem_mem hi')) hxa
abbrev zTree : Obj := .cells #[.int .i64 0, .int .i64 0, .string ByteArray.empty, .slice none 0 0] 26
theorem cp_start (t : TV) (w : World) (ht : TAt w t) (hsz : szT t <= 100000000) : CpJ (w.heap.size + 1) zTree w.heap.size w w.heap.size 0 t t 0 ((w.alloc (tBox t)).alloc zTree) := by
 have hb1 : Below w.heap.size w (w.alloc (tBox t)) := below_alloc _ _
 have hb2 : Below w.heap.size w ((w.alloc (tBox t)).alloc zTree) := hb1.trans ((below_alloc _ _).mono hb1.size)
 have hn : (w.alloc (tBox t)).heap.size = w.heap.size + 1 := by simp
 refine ⟨hb2, hb2.size, hsz, (tbx_new w t).later (below_alloc _ _), ht.later hb2, samV_refl _, fun a ha => ?_, fun a ha hN => ?_, fun x hx => by simp at hx, not_stpT, ?_, fun a ha e => ?_⟩
 ·rw [adsT_eq, List.count_cons]
  have h0 : (adsL (kidsA t)).count a = 0 := List.count_eq_zero.2 fun hm => by have := kids_lt ht hm; omega
  rw [h0]
  split <;> omega
 ·rw [adsT_eq] at ha
  rcases List.mem_cons.1 ha with rfl | hm
  ·exact ⟨rfl, _, ((below_alloc (w.alloc (tBox t)) zTree).block w.heap.size (by rw [hn]; exact Nat.lt_succ_self _)).trans (heap_alloc_new w (tBox t))⟩
  ·have := kids_lt ht hm; omega
 ·have := heap_alloc_new (w.alloc (tBox t)) zTree
  rwa [hn] at this
 ·rw [adsT_eq] at ha
  rcases List.mem_cons.1 ha with rfl | hm
  ·simp at e
  ·have := kids_lt ht hm; omega
theorem CpJ.own {r : Nat} {ob : Obj} {N : Nat} {w0 : World} {p0 q0 : Nat} {t T : TV} {w : World} (h : CpJ r ob N w0 p0 q0 t T (szT T) w) : OwT N w T := by
 have hfr : ∀ x ∈ (preT T).map frO, x.2 ≠ 0 -> N <= x.1 := by
  have := h.fr
  rwa [List.take_of_length_le (by rw [List.length_map, preT_len]; exact Nat.le_refl _)] at this
 have hN := rows_from T hfr
 refine ⟨h.ta, fun a => ?_, fun a ha => ?_⟩
 ·by_cases hm : a ∈ adsL (kidsA T)
  ·have := h.cn a (hN a hm)
   rw [adsT_eq, List.count_cons] at this
   omega
  ·rw [List.count_eq_zero.2 hm]; omega
 ·exact ⟨hN a ha, h.ty a (by rw [adsT_eq]; exact List.mem_cons_of_mem _ ha) (hN a ha)⟩
abbrev set4 (w : World) (b o : Nat) (t : TV) : World := (((w.setCell ⟨b, o, none⟩ (.int .i64 t.prod)).setCell ⟨b, o + 1, none⟩ (.int .i64 t.kind)).setCell ⟨b, o + 2, none⟩ (.string t.tx)).setCell ⟨b, o + 3, none⟩ (.slice t.ka t.kids.length t.kc)
theorem set4_size (w : World) (b o : Nat) (t : TV) : (set4 w b o t).heap.size = w.heap.size := by simp [set4, World.setCell]
theorem set4_other (w : World) (b o : Nat) (t : TV) (j : Nat) (h : j ≠ b) : (set4 w b o t).heap[j]? = w.heap[j]? := by
 unfold set4
 rw [Below.heap_setCell _ _ _ _ h, Below.heap_setCell _ _ _ _ h, Below.heap_setCell _ _ _ _ h, Below.heap_setCell _ _ _ _ h]
theorem set4_far (w : World) (b o : Nat) (t : TV) (x : Addr) (h : ∀ j, j < 4 -> x ≠ ⟨b, o + j, none⟩) : (set4 w b o t).cell? x = w.cell? x := by
 have e : ∀ j, j < 4 -> (⟨b, o + j, none⟩ : Addr) ≠ x := fun j hj e => h j hj e.symm
 unfold set4
 rw [World.cell?_setCell_other _ _ _ _ (e 3 (by omega)), World.cell?_setCell_other _ _ _ _ (e 2 (by omega)), World.cell?_setCell_other _ _ _ _ (e 1 (by omega))]
 exact World.cell?_setCell_other _ _ _ _ (e 0 (by omega))
theorem set4_tbx {w : World} {b o : Nat} (t : TV) {v0 v1 v2 v3 : Value} (h0 : w.cell? ⟨b, o, none⟩ = some v0) (h1 : w.cell? ⟨b, o + 1, none⟩ = some v1) (h2 : w.cell? ⟨b, o + 2, none⟩ = some v2) (h3 : w.cell? ⟨b, o + 3, none⟩ = some v3) (hl : b < w.heap.size) : TBx (set4 w b o t) b o t := by
 have n : ∀ i j : Nat, i ≠ j -> (⟨b, o + i, none⟩ : Addr) ≠ ⟨b, o + j, none⟩ := fun i j h e => by simp only [Addr.mk.injEq, and_true, true_and] at e; omega
 have ot : ∀ (w : World) (i j : Nat) (v : Value), i ≠ j -> (w.setCell ⟨b, o + i, none⟩ v).cell? ⟨b, o + j, none⟩ = w.cell? ⟨b, o + j, none⟩ := fun w i j v h => World.cell?_setCell_other _ _ _ _ (n i j h)
 have ot0 : ∀ (w : World) (j : Nat) (v : Value), 0 ≠ j -> (w.setCell ⟨b, o, none⟩ v).cell? ⟨b, o + j, none⟩ = w.cell? ⟨b, o + j, none⟩ := fun w j v h => ot w 0 j v h
 have ot1 : ∀ (w : World) (j : Nat) (v : Value), 0 ≠ j -> (w.setCell ⟨b, o + j, none⟩ v).cell? ⟨b, o, none⟩ = w.cell? ⟨b, o, none⟩ := fun w j v h => ot w j 0 v h.symm
 unfold set4
 refine ⟨by simpa [World.setCell] using hl, ?_, ?_, ?_, ?_⟩
 ·rw [ot1 _ 3 _ (by omega), ot1 _ 2 _ (by omega), ot1 _ 1 _ (by omega)]
  exact World.cell?_setCell_same _ _ _ h0
 ·rw [ot _ 3 1 _ (by omega), ot _ 2 1 _ (by omega)]
  exact World.cell?_setCell_same _ _ _ ((ot0 _ 1 _ (by omega)).trans h1)
 ·rw [ot _ 3 2 _ (by omega)]
  exact World.cell?_setCell_same _ _ _ ((ot _ 1 2 _ (by omega)).trans ((ot0 _ 2 _ (by omega)).trans h2))
 ·exact World.cell?_setCell_same _ _ _ ((ot _ 2 3 _ (by omega)).trans ((ot _ 1 3 _ (by omega)).trans ((ot0 _ 3 _ (by omega)).trans h3)))
theorem set4_below {n : Nat} {w0 w : World} (h : Below n w0 w) {b : Nat} (o : Nat) (t : TV) (hb : n <= b) : Below n w0 (set4 w b o t) :=
 (((h.setCell (p := ⟨b, o, none⟩) hb _).setCell (p := ⟨b, o + 1, none⟩) hb _).setCell (p := ⟨b, o + 2, none⟩) hb _).setCell (p := ⟨b, o + 3, none⟩) hb _
theorem OwT.kept {N : Nat} {w w' : World} {T : TV} (h : OwT N w T) (hk : ∀ a ∈ adsL (kidsA T), w'.heap[a.1]? = w.heap[a.1]?) (hs : w.heap.size <= w'.heap.size) : OwT N w' T :=
 ⟨keep_at T 0 0 h.ta fun a ha => ⟨Nat.lt_of_lt_of_le (kids_lt h.ta ha) hs, fun j _ => World.cell?_of_block (hk a ha)⟩, h.cn, fun a ha => by rw [hk a ha]; exact h.ty a ha⟩
set_option linter.unusedSimpArgs false in
set_option maxRecDepth 100000 in
set_option maxHeartbeats 4000000 in
theorem copied_W (t : TV) (w : World) (ht : TAt w t) (hsz : szT t <= 100000000) : Calls Tryz.prog 40 #[t.val] w fun e w' => ∃ T, e = .returned T.val /\ Below w.heap.size w w' /\ samV t T /\ OwT w.heap.size w' T := by
 have S0 : Hid (CpJ (w.heap.size + 1) zTree w.heap.size w w.heap.size 0 t t 0 ((w.alloc (tBox t)).alloc zTree)) := cp_start t w ht hsz
 have CW : Hid (∀ w1, CpJ (w.heap.size + 1) zTree w.heap.size w w.heap.size 0 t t 0 w1 -> Calls Tryz.prog 44 #[.pointer (some ⟨w.heap.size, 0, none⟩), fnV 75 #[]] w1 fun e w' => e = .returned (.tuple #[]) /\ ∃ T, CpJ (w.heap.size + 1) zTree w.heap.size w w.heap.size 0 t T (szT T) w') := fun w1 h1 => by
  refine walk_C cpC w.heap.size 0 w1 h1.nz ?_
  refine (h1.enter [] trivial rfl (Nat.le_refl _)).mono fun e w' ⟨e1, e2, a, c, e3⟩ => ⟨true, e1, e2.size, fun _ => ⟨⟨_, 1, [], 0, 1⟩, e3, .inr ⟨trivial, Nat.zero_le _, ?_, rfl, rfl⟩⟩, fun q => by cases q⟩
  simp [nuP, szL]
 clear ht hsz
 go_enter Tryz.func40, Tryz.ntmps40
 go_upto_region 1 with fail
 refine wp_world (fun w' => CpJ (w.heap.size + 1) zTree w.heap.size w w.heap.size 0 t t 0 w') S0.out fun w1 h1 => ?_
 have H1 : Hid (CpJ (w.heap.size + 1) zTree w.heap.size w w.heap.size 0 t t 0 w1) := h1
 clear h1 S0
 go_upto_region 2 with (go_at_call 44; refine (CW.out _ H1.out).mono ?_; rintro e w2 ⟨rfl, T, h2⟩; have H2 : Hid (CpJ (w.heap.size + 1) zTree w.heap.size w w.heap.size 0 t T (szT T) w2) := h2; clear h2)
 have c0 := H2.out.tb.c0
 have c1 := H2.out.tb.c1
 have c2 := H2.out.tb.c2
 have c3 := H2.out.tb.c3
 have d0 : w2.cell? ⟨w.heap.size + 1, 0, none⟩ = some (.int .i64 0) := (cellq_any H2.out.rb).trans rfl
 have d1 : w2.cell? ⟨w.heap.size + 1, 1, none⟩ = some (.int .i64 0) := (cellq_any H2.out.rb).trans rfl
 have d2 : w2.cell? ⟨w.heap.size + 1, 2, none⟩ = some (.string ByteArray.empty) := (cellq_any H2.out.rb).trans rfl
 have d3 : w2.cell? ⟨w.heap.size + 1, 3, none⟩ = some (.slice none 0 0) := (cellq_any H2.out.rb).trans rfl
 have f0 : w2.frozen? ⟨w.heap.size + 1, 0, none⟩ = false := by simp [World.frozen?, H2.out.rb]
 have f1 : w2.frozen? ⟨w.heap.size + 1, 1, none⟩ = false := by simp [World.frozen?, H2.out.rb]
 have f2 : w2.frozen? ⟨w.heap.size + 1, 2, none⟩ = false := by simp [World.frozen?, H2.out.rb]
 have f3 : w2.frozen? ⟨w.heap.size + 1, 3, none⟩ = false := by simp [World.frozen?, H2.out.rb]
 have B3 : Hid (TBx (set4 w2 (w.heap.size + 1) 0 T) (w.heap.size + 1) 0 T /\ Below w.heap.size w (set4 w2 (w.heap.size + 1) 0 T) /\ OwT w.heap.size (set4 w2 (w.heap.size + 1) 0 T) T) :=
  ⟨set4_tbx T d0 d1 d2 d3 (lt_of_block H2.out.rb), set4_below H2.out.bel 0 T (by omega), H2.out.own.kept (fun a ha => set4_other _ _ _ _ _ (H2.out.rn a (by rw [adsT_eq]; exact List.mem_cons_of_mem _ ha))) (by rw [set4_size]; exact Nat.le_refl _)⟩
 have SM : Hid (samV t T) := H2.out.sam
 clear CW H1 H2
 go_wp2
 change bodyPost _ _ _ _ _ (set4 w2 (w.heap.size + 1) 0 T)
 generalize set4 w2 (w.heap.size + 1) 0 T = w3 at *
 have x0 := B3.out.1.c0
 have x1 := B3.out.1.c1
 have x2 := B3.out.1.c2
 have x3 := B3.out.1.c3
 simp only [Nat.zero_add] at x1 x2 x3
 refine bodyPost_ret (v := T.val) (by simp [results, Tryz.results40, go_sem, x0, x1, x2, x3]) rfl ?_
 exact ⟨T, rfl, B3.out.2.1, SM.out, B3.out.2.2⟩
theorem OwT.mono {N N' : Nat} {w : World} {T : TV} (h : OwT N w T) (hn : N' <= N) : OwT N' w T := ⟨h.ta, h.cn, fun a ha => ⟨Nat.le_trans hn (h.ty a ha).1, (h.ty a ha).2⟩⟩
theorem OwT.later {N : Nat} {w w' : World} {T : TV} (h : OwT N w T) (hb : Below w.heap.size w w') : OwT N w' T := h.kept (fun _ ha => hb.block _ (kids_lt h.ta ha)) hb.size
theorem ads_nu {π : List Nat} {t : TV} (hok : okP π t) (p q : Nat) : (adsT p q t)[nuP π t]? = some (adP π p q t) := by
 obtain ⟨A, B, h1, h2, _⟩ := ads_set π p q t hok
 rw [h2, <- h1, adsT_eq]
 simp
theorem fd_in {π : List Nat} {t : TV} (hok : okP π t) (p q : Nat) : fdU p q t (nuP π t : Int) = some ⟨(adP π p q t).1, (adP π p q t).2, none⟩ := by
 have h := ads_nu hok p q
 unfold adsT at h
 rw [List.getElem?_map] at h
 unfold fdU
 rw [if_pos (by omega), Int.toNat_natCast]
 cases e : (enA (evT p q t))[nuP π t]? with
 | none => rw [e] at h; cases h
 | some x =>
  rw [e] at h
  simp only [Option.map_some, Option.some.injEq] at h
  rw [<- h]
  rfl
theorem fd_out {t : TV} {place : Int} (h : place < 0 ∨ (szT t : Int) <= place) (p q : Nat) : fdU p q t place = none := by
 unfold fdU
 split
 ·rw [List.getElem?_eq_none (by rw [enA_evT_len]; omega)]
  rfl
 ·rfl
theorem sub_size {π : List Nat} {t : TV} (hok : okP π t) : szT (getAt π t) <= szT t := by
 obtain ⟨A, B, _, h2, _⟩ := pre_set π t hok
 have h3 := congrArg List.length h2
 simp only [List.length_map, List.length_append, preT_len] at h3
 omega
theorem z_cells {w : World} {b : Nat} (h : w.heap[b]? = some zTree) : w.cell? ⟨b, 0, none⟩ = some (.int .i64 0) /\ w.cell? ⟨b, 1, none⟩ = some (.int .i64 0) /\ w.cell? ⟨b, 2, none⟩ = some (.string ByteArray.empty) /\ w.cell? ⟨b, 3, none⟩ = some (.slice none 0 0) /\ w.frozen? ⟨b, 0, none⟩ = false /\ w.frozen? ⟨b, 1, none⟩ = false /\ w.frozen? ⟨b, 2, none⟩ = false /\ w.frozen? ⟨b, 3, none⟩ = false :=
 ⟨(cellq_any h).trans rfl, (cellq_any h).trans rfl, (cellq_any h).trans rfl, (cellq_any h).trans rfl, by simp [World.frozen?, h], by simp [World.frozen?, h], by simp [World.frozen?, h], by simp [World.frozen?, h]⟩
set_option linter.unusedSimpArgs false in
set_option maxRecDepth 100000 in
set_option maxHeartbeats 4000000 in
theorem at_W (t : TV) (π : List Nat) (place : Int) (hok : okP π t) (hpl : place = (nuP π t : Int)) (w : World) (ht : TAt w t) (hsz : szT t <= 100000000) : Calls Tryz.prog 8 #[t.val, .int .i64 place] w fun e w' => ∃ T, e = .returned (.tuple #[T.val, .int .i64 0]) /\ Below w.heap.size w w' /\ samV (getAt π t) T /\ OwT w.heap.size w' T := by
 have hb1 : Below w.heap.size w (w.alloc (tBox t)) := below_alloc _ _
 have hn : (w.alloc (tBox t)).heap.size = w.heap.size + 1 := by simp
 have hb2 : Below w.heap.size w ((w.alloc (tBox t)).alloc zTree) := hb1.trans ((below_alloc _ _).mono hb1.size)
 have S0 : Hid (TBx ((w.alloc (tBox t)).alloc zTree) w.heap.size 0 t /\ TAt ((w.alloc (tBox t)).alloc zTree) t /\ Below w.heap.size w ((w.alloc (tBox t)).alloc zTree) /\ ((w.alloc (tBox t)).alloc zTree).heap[w.heap.size + 1]? = some zTree) := ⟨(tbx_new w t).later (below_alloc _ _), ht.later hb2, hb2, by have := heap_alloc_new (w.alloc (tBox t)) zTree; rwa [hn] at this⟩
 have CF : Hid (∀ w1, TBx w1 w.heap.size 0 t -> TAt w1 t -> Calls Tryz.prog 39 #[.pointer (some ⟨w.heap.size, 0, none⟩), .int .i64 place] w1 fun e w' => e = .returned (.pointer (some ⟨(adP π w.heap.size 0 t).1, (adP π w.heap.size 0 t).2, none⟩)) /\ Below w1.heap.size w1 w') := fun w1 h1 h2 => by
  have := find_W w.heap.size 0 t place w1 h1 h2 hsz
  rwa [hpl, fd_in hok, <- hpl] at this
 have AP : Hid (∀ w1, TBx w1 w.heap.size 0 t -> TAt w1 t -> TBx w1 (adP π w.heap.size 0 t).1 (adP π w.heap.size 0 t).2 (getAt π t) /\ TAt w1 (getAt π t)) := fun w1 h1 h2 => at_path π w.heap.size 0 t h1 h2 hok
 have ZZ : Hid (szT (getAt π t) <= 100000000) := Nat.le_trans (sub_size hok) hsz
 clear ht hsz hb1 hb2 hn hok hpl
 generalize (adP π w.heap.size 0 t).1 = P at *
 generalize (adP π w.heap.size 0 t).2 = Q at *
 generalize getAt π t = k at *
 go_enter Tryz.func8, Tryz.ntmps8
 go_upto_region 1 with fail
 refine wp_world (fun w' => TBx w' w.heap.size 0 t /\ TAt w' t /\ Below w.heap.size w w' /\ w'.heap[w.heap.size + 1]? = some zTree) S0.out fun w1 h1 => ?_
 have H1 : Hid (TBx w1 w.heap.size 0 t /\ TAt w1 t /\ Below w.heap.size w w1 /\ w1.heap[w.heap.size + 1]? = some zTree) := h1
 clear h1 S0
 go_upto_region 2 with (go_at_call 39; refine (CF.out _ H1.out.1 H1.out.2.1).mono ?_; rintro e w2 ⟨rfl, b2⟩; have H2 : Hid (TBx w2 P Q k /\ TAt w2 k /\ Below w.heap.size w w2 /\ w2.heap[w.heap.size + 1]? = some zTree) := ⟨(AP.out _ H1.out.1 H1.out.2.1).1.later b2, (AP.out _ H1.out.1 H1.out.2.1).2.later b2, H1.out.2.2.1.trans (b2.mono H1.out.2.2.1.size), (b2.block _ (lt_of_block H1.out.2.2.2)).trans H1.out.2.2.2⟩; clear b2)
 clear H1 CF AP
 have c0 := H2.out.1.c0
 have c1 := H2.out.1.c1
 have c2 := H2.out.1.c2
 have c3 := H2.out.1.c3
 have CC : Hid (Calls Tryz.prog 40 #[k.val] w2 fun e w' => ∃ T, e = .returned T.val /\ Below w2.heap.size w2 w' /\ samV k T /\ OwT w2.heap.size w' T) := copied_W k w2 H2.out.2.1 ZZ.out
 have FIN : Hid (∀ w3 T, Below w2.heap.size w2 w3 -> OwT w2.heap.size w3 T -> w3.heap[w.heap.size + 1]? = some zTree /\ Below w.heap.size w w3 /\ TBx (set4 w3 (w.heap.size + 1) 0 T) (w.heap.size + 1) 0 T /\ Below w.heap.size w (set4 w3 (w.heap.size + 1) 0 T) /\ OwT w.heap.size (set4 w3 (w.heap.size + 1) 0 T) T) := fun w3 T b3 o3 => by
  have hz : w3.heap[w.heap.size + 1]? = some zTree := (b3.block _ (lt_of_block H2.out.2.2.2)).trans H2.out.2.2.2
  have hb : Below w.heap.size w w3 := H2.out.2.2.1.trans (b3.mono H2.out.2.2.1.size)
  have hl := lt_of_block H2.out.2.2.2
  refine ⟨hz, hb, set4_tbx (v0 := .int .i64 0) (v1 := .int .i64 0) (v2 := .string ByteArray.empty) (v3 := .slice none 0 0) T ((cellq_any hz).trans rfl) ((cellq_any hz).trans rfl) ((cellq_any hz).trans rfl) ((cellq_any hz).trans rfl) (lt_of_block hz), set4_below hb 0 T (by omega), (o3.mono H2.out.2.2.1.size).kept (fun a ha => set4_other _ _ _ _ _ ?_) (by rw [set4_size]; exact Nat.le_refl _)⟩
  have := (o3.ty a ha).1
  omega
 clear H2
 go_wp2_with (go_at_call 40; refine CC.out.mono ?_; rintro e w3 ⟨T, rfl, b3, s3, o3⟩; obtain ⟨z3, F⟩ := FIN.out w3 T b3 o3; have F3 : Hid (Below w.heap.size w w3 /\ TBx (set4 w3 (w.heap.size + 1) 0 T) (w.heap.size + 1) 0 T /\ Below w.heap.size w (set4 w3 (w.heap.size + 1) 0 T) /\ OwT w.heap.size (set4 w3 (w.heap.size + 1) 0 T) T) := F; have SM : Hid (samV k T) := s3; obtain ⟨d0, d1, d2, d3, f0, f1, f2, f3⟩ := z_cells z3; clear F s3 b3 o3 z3 c0 c1 c2 c3)
 change bodyPost _ _ _ _ _ (set4 w3 (w.heap.size + 1) 0 T)
 generalize set4 w3 (w.heap.size + 1) 0 T = w4 at *
 have x0 := F3.out.2.1.c0
 have x1 := F3.out.2.1.c1
 have x2 := F3.out.2.1.c2
 have x3 := F3.out.2.1.c3
 simp only [Nat.zero_add] at x1 x2 x3
 refine bodyPost_ret (v := .tuple #[T.val, .int .i64 0]) (by simp [results, Tryz.results8, go_sem, x0, x1, x2, x3]) rfl ?_
 exact ⟨T, rfl, F3.out.2.2.1, SM.out, F3.out.2.2.2⟩
set_option linter.unusedSimpArgs false in
set_option maxRecDepth 100000 in
set_option maxHeartbeats 4000000 in
theorem at_no (t : TV) (place : Int) (hpl : place < 0 ∨ (szT t : Int) <= place) (w : World) (ht : TAt w t) (hsz : szT t <= 100000000) : Calls Tryz.prog 8 #[t.val, .int .i64 place] w fun e w' => e = .returned (.tuple #[TV.none.val, .int .i64 4]) /\ Below w.heap.size w w' := by
 have hb1 : Below w.heap.size w (w.alloc (tBox t)) := below_alloc _ _
 have hn : (w.alloc (tBox t)).heap.size = w.heap.size + 1 := by simp
 have hb2 : Below w.heap.size w ((w.alloc (tBox t)).alloc zTree) := hb1.trans ((below_alloc _ _).mono hb1.size)
 have S0 : Hid (TBx ((w.alloc (tBox t)).alloc zTree) w.heap.size 0 t /\ TAt ((w.alloc (tBox t)).alloc zTree) t /\ Below w.heap.size w ((w.alloc (tBox t)).alloc zTree) /\ ((w.alloc (tBox t)).alloc zTree).heap[w.heap.size + 1]? = some zTree) := ⟨(tbx_new w t).later (below_alloc _ _), ht.later hb2, hb2, by have := heap_alloc_new (w.alloc (tBox t)) zTree; rwa [hn] at this⟩
 have CF : Hid (∀ w1, TBx w1 w.heap.size 0 t -> TAt w1 t -> Calls Tryz.prog 39 #[.pointer (some ⟨w.heap.size, 0, none⟩), .int .i64 place] w1 fun e w' => e = .returned (.pointer none) /\ Below w1.heap.size w1 w') := fun w1 h1 h2 => by
  have := find_W w.heap.size 0 t place w1 h1 h2 hsz
  rwa [fd_out hpl] at this
 clear ht hsz hb1 hb2 hn hpl
 go_enter Tryz.func8, Tryz.ntmps8
 go_upto_region 1 with fail
 refine wp_world (fun w' => TBx w' w.heap.size 0 t /\ TAt w' t /\ Below w.heap.size w w' /\ w'.heap[w.heap.size + 1]? = some zTree) S0.out fun w1 h1 => ?_
 have H1 : Hid (TBx w1 w.heap.size 0 t /\ TAt w1 t /\ Below w.heap.size w w1 /\ w1.heap[w.heap.size + 1]? = some zTree) := h1
 clear h1 S0
 go_upto_region 2 with (go_at_call 39; refine (CF.out _ H1.out.1 H1.out.2.1).mono ?_; rintro e w2 ⟨rfl, b2⟩; have H2 : Hid (Below w.heap.size w w2 /\ w2.heap[w.heap.size + 1]? = some zTree) := ⟨H1.out.2.2.1.trans (b2.mono H1.out.2.2.1.size), (b2.block _ (lt_of_block H1.out.2.2.2)).trans H1.out.2.2.2⟩; clear b2)
 clear H1 CF
 have z3 := H2.out.2
 obtain ⟨d0, d1, d2, d3, f0, f1, f2, f3⟩ := z_cells z3
 have F3 : Hid (TBx (set4 w2 (w.heap.size + 1) 0 .none) (w.heap.size + 1) 0 .none /\ Below w.heap.size w (set4 w2 (w.heap.size + 1) 0 .none)) := ⟨set4_tbx .none d0 d1 d2 d3 (lt_of_block z3), set4_below H2.out.1 0 .none (by omega)⟩
 clear z3 H2
 go_wp2
 change bodyPost _ _ _ _ _ (set4 w2 (w.heap.size + 1) 0 .none)
 generalize set4 w2 (w.heap.size + 1) 0 .none = w4 at *
 have x0 := F3.out.1.c0
 have x1 := F3.out.1.c1
 have x2 := F3.out.1.c2
 have x3 := F3.out.1.c3
 simp only [Nat.zero_add] at x1 x2 x3
 refine bodyPost_ret (v := .tuple #[TV.none.val, .int .i64 4]) (by simp [results, Tryz.results8, go_sem, x0, x1, x2, x3]) rfl ?_
 exact ⟨rfl, F3.out.2⟩
end Go.Proofs.YteciabdjkaackaaGreat
