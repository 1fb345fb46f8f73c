import Derived.Test.YtfgfkchhkbkplaaGreatDoorPTCuToTCy
namespace Go.Proofs.YtfgfkchhkbkplaaGreatDoor
set_option linter.unusedVariables false
open Go.RowKit
def frO (t : TV) : Nat × Nat := ((kadr t).1, t.kids.length)
theorem frO_sk (t : TV) (ks : List TV) (h : ks.length = t.kids.length) : frO (t.sk ks) = frO t := by
 have e : frO (t.sk ks) = ((kadr t).1, ks.length) := rfl
 rw [e, h]; rfl
structure CpJ (r : Nat) (ob : Obj) (N : Nat) (w0 : World) (p0 q0 : Nat) (t : TV) (T : TV) (m : Nat) (w : World) : Prop where
 bel : Below N w0 w
 nz : N <= w.heap.size
 sz : szT t <= 100000000
 tb : TBx w p0 q0 T
 ta : TAt w T
 sam : samV t T
 cn : ∀ a, N <= a.1 -> (adsT p0 q0 T).count a <= 1
 ty : ∀ a ∈ adsT p0 q0 T, N <= a.1 -> a.2 % 4 = 0 /\ ∃ cs, w.heap[a.1]? = some (.cells cs 26)
 fr : ∀ x ∈ ((preT T).map frO).take m, x.2 ≠ 0 -> N <= x.1
 rs : ¬ Stp ob
 rb : w.heap[r]? = some ob
 rn : ∀ a ∈ adsT p0 q0 T, a.1 ≠ r
theorem not_stpT {cs : Array Value} : ¬ Stp (.cells cs 26) := not_stp (by decide)
theorem CpJ.still {r : Nat} {ob : Obj} {N : Nat} {w0 : World} {p0 q0 : Nat} {t T : TV} {m : Nat} {w w' : World} (h : CpJ r ob N w0 p0 q0 t T m w) (hn : NoStp N w w') : CpJ r ob N w0 p0 q0 t T m w' := by
 have hk : ∀ a ∈ adsT p0 q0 T, w'.heap[a.1]? = w.heap[a.1]? := fun a ha => by
  have hl := ads_lt h.tb h.ta ha
  obtain ⟨o, ho⟩ : ∃ o, w.heap[a.1]? = some o := ⟨_, Array.getElem?_eq_getElem hl⟩
  rw [ho]
  refine hn.keep _ _ ho fun ⟨h1, h2⟩ => ?_
  obtain ⟨_, cs, hc⟩ := h.ty a ha h1
  rw [ho] at hc
  cases hc
  exact not_stpT h2
 have hc : ∀ a ∈ adsT p0 q0 T, C4 w w' a := fun a ha => ⟨Nat.lt_of_lt_of_le (ads_lt h.tb h.ta ha) hn.size, fun j _ => World.cell?_of_block (hk a ha)⟩
 refine ⟨⟨hn.os.trans h.bel.os, hn.tape.trans h.bel.tape, hn.output.trans h.bel.output, Nat.le_trans h.bel.size hn.size, fun j hj => ?_⟩, Nat.le_trans h.nz hn.size, h.sz, (hc _ (adsT_root _ _ _)).tbx h.tb, keep_at T p0 q0 h.ta fun a ha => hc a (by rw [adsT_eq]; exact List.mem_cons_of_mem _ ha), h.sam, h.cn, fun a ha hN => ?_, h.fr, h.rs, hn.keep _ _ h.rb fun ⟨_, x⟩ => h.rs x, h.rn⟩
 ·have hl := Nat.lt_of_lt_of_le hj h.nz
  obtain ⟨o, ho⟩ : ∃ o, w.heap[j]? = some o := ⟨_, Array.getElem?_eq_getElem hl⟩
  rw [hn.keep j o ho fun ⟨h1, _⟩ => by omega, <- ho]
  exact h.bel.block j hj
 ·rw [hk a ha]; exact h.ty a ha hN
theorem onStp_setC {N : Nat} {wb w : World} {b i : Nat} {cs : Array Value} {ty : TypeId} {v : Value} (h : OnStp N wb w) (hb : w.heap[b]? = some (.cells cs ty)) (ht : (ty == 187) = false) : OnStp N wb (w.setCell ⟨b, i, none⟩ v) := by
 refine ⟨?_, fun j o hj hN hs => ?_⟩
 ·have h3 : (w.setCell ⟨b, i, none⟩ v).heap.size = w.heap.size := by simp [World.setCell]
  have := h.size
  omega
 ·have h1 := h.keep j o hj hN hs
  rw [Below.heap_setCell _ _ _ _ (show j ≠ b from fun e => ?_), h1]
  subst e
  rw [hb] at h1
  cases h1
  exact not_stp ht hs
theorem row_krow {w w' : World} {n b c : Nat} {l : List TV} (h : w.ownsRow n 26 4 (.slice (some ⟨b, 0, none⟩) l.length c) l.length (l.flatMap trCells)) (hne : l ≠ []) (hk : w'.heap[b]? = w.heap[b]?) (hs : w.heap.size <= w'.heap.size) : KRow w' (some ⟨b, 0, none⟩) l /\ ∃ cs, w'.heap[b]? = some (.cells cs 26) := by
 rcases h.2 with ⟨e, _⟩ | ⟨g, cap, cur, e, h1, h2, h3, h4, h5, h6⟩
 ·cases e
 ·cases e
  have hg : w'.heap[b]? = some (.cells cur 26) := by rw [hk]; exact h2
  refine ⟨fun _ => ⟨b, 0, rfl, lt_of_block hg, fun i hi => ?_⟩, cur, hg⟩
  have eg : l.getD i .none = l[i] := by simp [List.getD, hi]
  have hc : ∀ j, j < 4 -> w'.cell? ⟨b, 0 + i * 4 + j, none⟩ = (trCells l[i])[j]? := fun j hj => by
   rw [cellq_any hg, <- fm_get (k := 4) (fun _ => rfl) l i hi j hj, <- h6, Nat.zero_add]
   rw [List.getElem?_take, if_pos (by omega)]
   simp
  rw [eg]
  have c0 := hc 0 (by omega)
  have c1 := hc 1 (by omega)
  have c2 := hc 2 (by omega)
  have c3 := hc 3 (by omega)
  exact ⟨c0, c1, c2, c3⟩
set_option maxHeartbeats 1000000 in
theorem CpJ.enter {r : Nat} {ob : Obj} {N : Nat} {w0 : World} {p0 q0 : Nat} {t T : TV} {m : Nat} {w : World} (h : CpJ r ob N w0 p0 q0 t T m w) (π : List Nat) (hok : okP π T) (hm : nuP π T = m) (hN : N <= (adP π p0 q0 T).1) :
  Calls Tryz.prog 131 #[.pointer (some ⟨(adP π p0 q0 T).1, (adP π p0 q0 T).2, none⟩)] w fun e w' => e = .returned (.bool true) /\ OnStp N w w' /\ ∃ a c, CpJ r ob N w0 p0 q0 t (setAt π T ((getAt π T).rk a c)) (m + 1) w' := by
 obtain ⟨hb, ha⟩ := at_path π p0 q0 T h.tb h.ta hok
 have hmem := adP_mem π p0 q0 T w h.ta hok
 obtain ⟨hal, cs, hty⟩ := h.ty _ hmem hN
 have hcn := h.cn _ hN
 have hsz : szT (getAt π T) <= 100000000 := by
  obtain ⟨A, B, _, h2, _⟩ := pre_set π T hok
  have h3 := congrArg List.length h2
  simp only [List.length_map, List.length_append, preT_len] at h3
  have h4 := samV_size _ _ h.sam
  have := h.sz
  omega
 have hkl : (getAt π T).kids.length <= 1000000000 := by
  have := szT_eq (getAt π T)
  have := szL_len (getAt π T).kids
  omega
 refine (copied1_W _ _ _ w hb ha.row (by simp [World.frozen?, hty]) hkl).mono ?_
 rintro e w' ⟨rfl, a', c', w1, hrow, hB, rfl⟩
 obtain ⟨A, B, hA1, hA2, hA3⟩ := ads_set π p0 q0 T hok
 obtain ⟨F, G, hF1, hF2, hF3⟩ := pre_setF frO frO_sk π T hok
 generalize hk : getAt π T = k at *
 generalize hP : (adP π p0 q0 T).1 = P at *
 generalize hQ : (adP π p0 q0 T).2 = Q at *
 have hPQ : adP π p0 q0 T = (P, Q) := by rw [<- hP, <- hQ]
 rw [hPQ] at hmem hcn
 have hPl : P < w.heap.size := hb.lt
 have hty1 : w1.heap[P]? = some (.cells cs 26) := by rw [hB.block P hPl]; exact hty
 generalize hv : Value.slice a' k.kids.length c' = v at *
 have hsz' : (w1.setCell ⟨P, Q + 3, none⟩ v).heap.size = w1.heap.size := by simp [World.setCell]
 have hother : ∀ x : Nat, x ≠ P -> (w1.setCell ⟨P, Q + 3, none⟩ v).heap[x]? = w1.heap[x]? := fun x hx => Below.heap_setCell _ _ _ _ hx
 have htyP : ∃ cs, (w1.setCell ⟨P, Q + 3, none⟩ v).heap[P]? = some (.cells cs 26) := ⟨_, heap_setCell_same w1 P (Q + 3) _ _ v hty1⟩
 have hcell : ∀ x : Addr, x.block < w.heap.size -> x ≠ ⟨P, Q + 3, none⟩ -> (w1.setCell ⟨P, Q + 3, none⟩ v).cell? x = w.cell? x := fun x hx hne => by
  rw [World.cell?_setCell_other _ _ _ _ (fun e => hne e.symm)]
  exact hB.cell hx
 have hC4 : ∀ a ∈ adsT p0 q0 T, a ≠ (P, Q) -> C4 w (w1.setCell ⟨P, Q + 3, none⟩ v) a := fun a hma hne => by
  have hl := ads_lt h.tb h.ta hma
  refine ⟨by rw [hsz']; exact Nat.lt_of_lt_of_le hl hB.size, fun j hj => hcell _ hl fun e => ?_⟩
  simp only [Addr.mk.injEq, and_true] at e
  have h1 := (h.ty a hma (by omega)).1
  exact hne (Prod.ext e.1 (by show a.2 = Q; omega))
 have hin : ∀ a ∈ inL k.kids, a ∈ adsT p0 q0 T /\ a ≠ (P, Q) := fun a hma => by
  have hc : ∀ x : Nat × Nat, (adsT p0 q0 T).count x = A.count x + ((if ((P, Q) == x) = true then 1 else 0) + ((rowA (kadr k).1 (kadr k).2 0 k.kids.length).count x + (inL k.kids).count x)) + B.count x := fun x => by
   rw [hA2, List.count_append, List.count_append, adsT_eq, List.count_cons, kidsA, cnt_row]; omega
  have hpos : 0 < (inL k.kids).count a := List.count_pos_iff.2 hma
  refine ⟨List.count_pos_iff.1 (by rw [hc]; omega), fun e => ?_⟩
  subst e
  rw [hc, if_pos (beq_self_eq_true _)] at hcn
  omega
 have hv3 : (w1.setCell ⟨P, Q + 3, none⟩ v).cell? ⟨P, Q + 3, none⟩ = some v := World.cell?_setCell_same _ _ _ ((hB.cell (p := ⟨P, Q + 3, none⟩) hPl).trans hb.c3)
 have hu : TBx (w1.setCell ⟨P, Q + 3, none⟩ v) P Q (k.rk a' c') := by
  refine ⟨by rw [hsz']; exact Nat.lt_of_lt_of_le hPl hB.size, ?_, ?_, ?_, ?_⟩
  ·rw [hcell _ hPl (by simp)]; exact hb.c0
  ·rw [hcell _ hPl (by simp)]; exact hb.c1
  ·rw [hcell _ hPl (by simp)]; exact hb.c2
  ·rw [hv3, <- hv]; rfl
 have hrk : k.kids ≠ [] -> ∃ b, a' = some ⟨b, 0, none⟩ /\ w.heap.size <= b /\ KRow (w1.setCell ⟨P, Q + 3, none⟩ v) a' k.kids /\ ∃ cs, (w1.setCell ⟨P, Q + 3, none⟩ v).heap[b]? = some (.cells cs 26) := fun hne => by
  obtain ⟨hown, b, rfl, hbl⟩ := hrow hne
  rw [<- hv] at hown
  obtain ⟨r1, r2⟩ := row_krow hown hne (hother b (by omega)) (by rw [hsz']; exact Nat.le_refl _)
  exact ⟨b, rfl, hbl, r1, r2⟩
 have hU : TAt (w1.setCell ⟨P, Q + 3, none⟩ v) (k.rk a' c') := by
  refine TAt.mk _ (fun hne => ?_) fun x hx => ?_
  ·obtain ⟨b, _, _, hkr, _⟩ := hrk hne
   exact hkr hne
  ·refine keep_at x 0 0 (ha.kid x hx) fun a hma => ?_
   obtain ⟨i1, i2⟩ := hin a (List.mem_flatMap.2 ⟨x, hx, hma⟩)
   exact hC4 a i1 i2
 obtain ⟨u1, u2⟩ := upd_at (w := w) (w' := w1.setCell ⟨P, Q + 3, none⟩ v) (u := k.rk a' c') π p0 q0 T h.tb h.ta hok (by rw [hPQ]; exact hcn) (by rw [hPQ]; exact hC4) (by rw [hPQ]; exact hu) hU
 have hads : adsT p0 q0 (setAt π T (k.rk a' c')) = A ++ adsT P Q (k.rk a' c') ++ B := hA3 _
 have hcT : ∀ x : Nat × Nat, (adsT p0 q0 T).count x = A.count x + ((if ((P, Q) == x) = true then 1 else 0) + ((rowA (kadr k).1 (kadr k).2 0 k.kids.length).count x + (inL k.kids).count x)) + B.count x := fun x => by
  rw [hA2, List.count_append, List.count_append, adsT_eq, List.count_cons, kidsA, cnt_row]; omega
 have hcU : ∀ x : Nat × Nat, (adsT p0 q0 (setAt π T (k.rk a' c'))).count x = A.count x + ((if ((P, Q) == x) = true then 1 else 0) + ((rowA (kadr (k.rk a' c')).1 (kadr (k.rk a' c')).2 0 k.kids.length).count x + (inL k.kids).count x)) + B.count x := fun x => by
  rw [hads, List.count_append, List.count_append, adsT_eq, List.count_cons, kidsA, cnt_row]
  have e : (k.rk a' c').kids = k.kids := rfl
  rw [e]; omega
 have hnew : ∀ x, 0 < (rowA (kadr (k.rk a' c')).1 (kadr (k.rk a' c')).2 0 k.kids.length).count x -> w.heap.size <= x.1 /\ x.2 % 4 = 0 /\ ∃ cs, (w1.setCell ⟨P, Q + 3, none⟩ v).heap[x.1]? = some (.cells cs 26) := fun x hx => by
  have hxm := List.count_pos_iff.1 hx
  have hne : k.kids ≠ [] := fun e => by rw [e] at hxm; simp [rowA] at hxm
  obtain ⟨b, rfl, hbl, _, hcs⟩ := hrk hne
  have ek : kadr (k.rk (some ⟨b, 0, none⟩) c') = (b, 0) := rfl
  rw [ek] at hxm
  obtain ⟨x1, i, _, x2⟩ := row_mem hxm
  simp only at x1 x2
  refine ⟨by rw [x1]; exact hbl, by rw [x2]; omega, by rw [x1]; exact hcs⟩
 have hold : ∀ x, x ∈ adsT p0 q0 T -> x.1 < w.heap.size := fun x hx => ads_lt h.tb h.ta hx
 refine ⟨rfl, onStp_setC (below_onStp hB) hty1 (by decide), a', c', ?_⟩
 refine ⟨(h.bel.trans (hB.mono h.nz)).setCell (p := ⟨P, Q + 3, none⟩) hN v, by rw [hsz']; exact Nat.le_trans h.nz hB.size, h.sz, u1, u2, samV_trans _ _ _ h.sam (samV_set π T _ hok (by rw [hk]; exact samV_rk _ _ _)), fun x hx => ?_, fun x hx hxN => ?_, ?_, h.rs, ?_, fun x hx => ?_⟩
 ·by_cases hr : 0 < (rowA (kadr (k.rk a' c')).1 (kadr (k.rk a' c')).2 0 k.kids.length).count x
  ·obtain ⟨n1, _, _⟩ := hnew x hr
   have h0 : (adsT p0 q0 T).count x = 0 := List.count_eq_zero.2 fun hm => by have := hold x hm; omega
   have h1 := row_one x (kadr (k.rk a' c')).1 (kadr (k.rk a' c')).2 k.kids.length 0
   rw [hcT] at h0
   rw [hcU]
   omega
  ·have h1 := h.cn x hx
   rw [hcT] at h1
   rw [hcU]
   omega
 ·have hpos : 0 < (adsT p0 q0 (setAt π T (k.rk a' c'))).count x := List.count_pos_iff.2 hx
  by_cases hr : 0 < (rowA (kadr (k.rk a' c')).1 (kadr (k.rk a' c')).2 0 k.kids.length).count x
  ·obtain ⟨_, n2, n3⟩ := hnew x hr
   exact ⟨n2, n3⟩
  ·have hxT : x ∈ adsT p0 q0 T := List.count_pos_iff.1 (by rw [hcU] at hpos; rw [hcT]; omega)
   obtain ⟨o1, cs', o2⟩ := h.ty x hxT hxN
   refine ⟨o1, ?_⟩
   by_cases hxP : x.1 = P
   ·rw [hxP]; exact htyP
   ·exact ⟨cs', by rw [hother _ hxP, hB.block _ (hold x hxT)]; exact o2⟩
 ·have hfr := h.fr
  rw [hF2, List.append_assoc, <- hm, <- hF1, List.take_left] at hfr
  rw [hF3, <- hm, <- hF1, preT_eq, List.map_cons, List.append_assoc, List.cons_append]
  have e : (F ++ frO (k.rk a' c') :: ((preL (k.rk a' c').kids).map frO ++ G)).take (F.length + 1) = F ++ [frO (k.rk a' c')] := by
   rw [List.take_append, List.take_of_length_le (by omega)]; simp
  rw [e]
  intro x hx hx0
  rcases List.mem_append.1 hx with hx | hx
  ·exact hfr x hx hx0
  ·simp only [List.mem_cons, List.not_mem_nil, or_false] at hx
   subst hx
   have hne : k.kids ≠ [] := fun e => hx0 (by show k.kids.length = 0; rw [e]; rfl)
   obtain ⟨b, rfl, hbl, _⟩ := hrk hne
   show N <= b
   have := h.nz
   omega
 ·rw [hother r (fun e => h.rn _ hmem (by rw [e])), hB.block r (lt_of_block h.rb)]; exact h.rb
 ·have hpos : 0 < (adsT p0 q0 (setAt π T (k.rk a' c'))).count x := List.count_pos_iff.2 hx
  by_cases hr : 0 < (rowA (kadr (k.rk a' c')).1 (kadr (k.rk a' c')).2 0 k.kids.length).count x
  ·obtain ⟨n1, _, _⟩ := hnew x hr
   have := lt_of_block h.rb
   omega
  ·exact h.rn x (List.count_pos_iff.1 (by rw [hcU] at hpos; rw [hcT]; omega))
theorem kidF_fst {b o : Nat} {x : Nat × Nat × TV} : ∀ {i : Nat} {l : List TV}, x ∈ kidF b o i l -> x.1 = b
 | _, [], h => by cases h
 | i, k :: l, h => by
  rcases List.mem_cons.1 h with rfl | h
  ·rfl
  ·exact kidF_fst h
theorem rows_from {N : Nat} (t : TV) : (∀ x ∈ (preT t).map frO, x.2 ≠ 0 -> N <= x.1) -> ∀ a ∈ adsL (kidsA t), N <= a.1 := by
 induction t using TV.ind with
 | _ t ih =>
  intro h a ha
  obtain ⟨x, hx, hxa⟩ := List.mem_flatMap.1 ha
  have hxk := kidF_mem hx
  rw [adsT_eq] at hxa
  rcases List.mem_cons.1 hxa with rfl | hxa
  ·have h0 := h (frO t) (by rw [preT_eq]; simp) (fun e => by
    have : t.kids.length = 0 := e
    rw [List.eq_nil_of_length_eq_zero this] at hxk
    cases hxk)
   have := kidF_fst hx
   show N <= x.1
   rw [this]
   exact h0
  ·refine ih _ hxk (fun y hy => h y ?_) a hxa
   rw [preT_eq]
   obtain ⟨z, hz, rfl⟩ := List.mem_map.1 hy
   exact List.mem_map.2 ⟨z, List.mem_cons_of_mem _ (List.mem_flatMap.2 ⟨_, hxk, hz⟩), rfl⟩
structure OwT (N : Nat) (w : World) (T : TV) : Prop where
 ta : TAt w T
 cn : ∀ a, (adsL (kidsA T)).count a <= 1
 ty : ∀ a ∈ adsL (kidsA T), N <= a.1 /\ a.2 % 4 = 0 /\ ∃ cs, w.heap[a.1]? = some (.cells cs 26)
structure CpG where
 T : TV
 m : Nat
 π : List Nat
 n : Nat
 d : Nat
structure CpI (r : Nat) (ob : Obj) (N : Nat) (w0 : World) (p0 q0 : Nat) (t : TV) (x : CpG) (S : List PA) (w : World) : Prop where
 j : CpJ r ob N w0 p0 q0 t x.T x.m w
 s : S = [] /\ x.m = szT x.T /\ x.d = 0 ∨ okP x.π x.T /\ x.n <= (getAt x.π x.T).kids.length /\ x.m = nuP x.π x.T + 1 + szL ((getAt x.π x.T).kids.take x.n) /\ S = stkI x.π p0 q0 x.T ++ [((adP x.π p0 q0 x.T).1, (adP x.π p0 q0 x.T).2, x.n)] /\ x.d = x.π.length + 1
theorem CpI.top {r : Nat} {ob : Obj} {N : Nat} {w0 : World} {p0 q0 : Nat} {t : TV} {x : CpG} {S : List PA} {p q n : Nat} {w : World} (h : CpI r ob N w0 p0 q0 t x (S ++ [(p, q, n)]) w) :
  okP x.π x.T /\ x.n = n /\ n <= (getAt x.π x.T).kids.length /\ x.m = nuP x.π x.T + 1 + szL ((getAt x.π x.T).kids.take n) /\ S = stkI x.π p0 q0 x.T /\ adP x.π p0 q0 x.T = (p, q) /\ x.d = x.π.length + 1 := by
 rcases h.s with ⟨e, _⟩ | ⟨h1, h2, h3, h4, h5⟩
 ·simp at e
 ·have he := List.append_inj' h4 rfl
  have e2 := he.2
  simp only [List.cons.injEq, Prod.mk.injEq, and_true] at e2
  obtain ⟨e3, e4, e5⟩ := e2
  rw [<- e5] at h2 h3
  exact ⟨h1, e5.symm, h2, h3, he.1, Prod.ext e3.symm e4.symm, h5⟩
theorem kids_lt {w : World} {t : TV} (ht : TAt w t) {a : Nat × Nat} (ha : a ∈ adsL (kidsA t)) : a.1 < w.heap.size := by
 obtain ⟨x, hx, hxa⟩ := List.mem_flatMap.1 ha
 obtain ⟨i, hi, rfl⟩ := List.getElem_of_mem hx
 have hi' : i < t.kids.length := by rw [<- kidF_len (kadr t).1 (kadr t).2 0 t.kids]; exact hi
 obtain ⟨b, off, e, hb⟩ := krow_kid ht.row hi'
 have h := kidsA_get e hi'
 rw [List.getElem?_eq_getElem hi] at h
 rw [Option.some.inj h] at hxa
 exact ads_lt hb (ht.kid _ (List.getElem_mem hi')) hxa
abbrev zTree : Obj := .cells #[.int .i64 0, .int .i64 0, .string ByteArray.empty, .slice none 0 0] 26
theorem CpJ.own {r : Nat} {ob : Obj} {N : Nat} {w0 : World} {p0 q0 : Nat} {t T : TV} {w : World} (h : CpJ r ob N w0 p0 q0 t T (szT T) w) : OwT N w T := by
 have hfr : ∀ x ∈ (preT T).map frO, x.2 ≠ 0 -> N <= x.1 := by
  have := h.fr
  rwa [List.take_of_length_le (by rw [List.length_map, preT_len]; exact Nat.le_refl _)] at this
 have hN := rows_from T hfr
 refine ⟨h.ta, fun a => ?_, fun a ha => ?_⟩
 ·by_cases hm : a ∈ adsL (kidsA T)
  ·have := h.cn a (hN a hm)
   rw [adsT_eq, List.count_cons] at this
   omega
  ·rw [List.count_eq_zero.2 hm]; omega
 ·exact ⟨hN a ha, h.ty a (by rw [adsT_eq]; exact List.mem_cons_of_mem _ ha) (hN a ha)⟩
abbrev set4 (w : World) (b o : Nat) (t : TV) : World := (((w.setCell ⟨b, o, none⟩ (.int .i64 t.prod)).setCell ⟨b, o + 1, none⟩ (.int .i64 t.kind)).setCell ⟨b, o + 2, none⟩ (.string t.tx)).setCell ⟨b, o + 3, none⟩ (.slice t.ka t.kids.length t.kc)
theorem set4_size (w : World) (b o : Nat) (t : TV) : (set4 w b o t).heap.size = w.heap.size := by simp [set4, World.setCell]
theorem set4_other (w : World) (b o : Nat) (t : TV) (j : Nat) (h : j ≠ b) : (set4 w b o t).heap[j]? = w.heap[j]? := by
 unfold set4
 rw [Below.heap_setCell _ _ _ _ h, Below.heap_setCell _ _ _ _ h, Below.heap_setCell _ _ _ _ h, Below.heap_setCell _ _ _ _ h]
theorem set4_far (w : World) (b o : Nat) (t : TV) (x : Addr) (h : ∀ j, j < 4 -> x ≠ ⟨b, o + j, none⟩) : (set4 w b o t).cell? x = w.cell? x := by
 have e : ∀ j, j < 4 -> (⟨b, o + j, none⟩ : Addr) ≠ x := fun j hj e => h j hj e.symm
 unfold set4
 rw [World.cell?_setCell_other _ _ _ _ (e 3 (by omega)), World.cell?_setCell_other _ _ _ _ (e 2 (by omega)), World.cell?_setCell_other _ _ _ _ (e 1 (by omega))]
 exact World.cell?_setCell_other _ _ _ _ (e 0 (by omega))
theorem set4_tbx {w : World} {b o : Nat} (t : TV) {v0 v1 v2 v3 : Value} (h0 : w.cell? ⟨b, o, none⟩ = some v0) (h1 : w.cell? ⟨b, o + 1, none⟩ = some v1) (h2 : w.cell? ⟨b, o + 2, none⟩ = some v2) (h3 : w.cell? ⟨b, o + 3, none⟩ = some v3) (hl : b < w.heap.size) : TBx (set4 w b o t) b o t := by
 have n : ∀ i j : Nat, i ≠ j -> (⟨b, o + i, none⟩ : Addr) ≠ ⟨b, o + j, none⟩ := fun i j h e => by simp only [Addr.mk.injEq, and_true, true_and] at e; omega
 have ot : ∀ (w : World) (i j : Nat) (v : Value), i ≠ j -> (w.setCell ⟨b, o + i, none⟩ v).cell? ⟨b, o + j, none⟩ = w.cell? ⟨b, o + j, none⟩ := fun w i j v h => World.cell?_setCell_other _ _ _ _ (n i j h)
 have ot0 : ∀ (w : World) (j : Nat) (v : Value), 0 ≠ j -> (w.setCell ⟨b, o, none⟩ v).cell? ⟨b, o + j, none⟩ = w.cell? ⟨b, o + j, none⟩ := fun w j v h => ot w 0 j v h
 have ot1 : ∀ (w : World) (j : Nat) (v : Value), 0 ≠ j -> (w.setCell ⟨b, o + j, none⟩ v).cell? ⟨b, o, none⟩ = w.cell? ⟨b, o, none⟩ := fun w j v h => ot w j 0 v h.symm
 unfold set4
 refine ⟨by simpa [World.setCell] using hl, ?_, ?_, ?_, ?_⟩
 ·rw [ot1 _ 3 _ (by omega), ot1 _ 2 _ (by omega), ot1 _ 1 _ (by omega)]
  exact World.cell?_setCell_same _ _ _ h0
 ·rw [ot _ 3 1 _ (by omega), ot _ 2 1 _ (by omega)]
  exact World.cell?_setCell_same _ _ _ ((ot0 _ 1 _ (by omega)).trans h1)
 ·rw [ot _ 3 2 _ (by omega)]
  exact World.cell?_setCell_same _ _ _ ((ot _ 1 2 _ (by omega)).trans ((ot0 _ 2 _ (by omega)).trans h2))
 ·exact World.cell?_setCell_same _ _ _ ((ot _ 2 3 _ (by omega)).trans ((ot _ 1 3 _ (by omega)).trans ((ot0 _ 3 _ (by omega)).trans h3)))
theorem set4_below {n : Nat} {w0 w : World} (h : Below n w0 w) {b : Nat} (o : Nat) (t : TV) (hb : n <= b) : Below n w0 (set4 w b o t) :=
 (((h.setCell (p := ⟨b, o, none⟩) hb _).setCell (p := ⟨b, o + 1, none⟩) hb _).setCell (p := ⟨b, o + 2, none⟩) hb _).setCell (p := ⟨b, o + 3, none⟩) hb _
theorem OwT.kept {N : Nat} {w w' : World} {T : TV} (h : OwT N w T) (hk : ∀ a ∈ adsL (kidsA T), w'.heap[a.1]? = w.heap[a.1]?) (hs : w.heap.size <= w'.heap.size) : OwT N w' T :=
 ⟨keep_at T 0 0 h.ta fun a ha => ⟨Nat.lt_of_lt_of_le (kids_lt h.ta ha) hs, fun j _ => World.cell?_of_block (hk a ha)⟩, h.cn, fun a ha => by rw [hk a ha]; exact h.ty a ha⟩
theorem OwT.mono {N N' : Nat} {w : World} {T : TV} (h : OwT N w T) (hn : N' <= N) : OwT N' w T := ⟨h.ta, h.cn, fun a ha => ⟨Nat.le_trans hn (h.ty a ha).1, (h.ty a ha).2⟩⟩
theorem OwT.later {N : Nat} {w w' : World} {T : TV} (h : OwT N w T) (hb : Below w.heap.size w w') : OwT N w' T := h.kept (fun _ ha => hb.block _ (kids_lt h.ta ha)) hb.size
end Go.Proofs.YtfgfkchhkbkplaaGreatDoor
