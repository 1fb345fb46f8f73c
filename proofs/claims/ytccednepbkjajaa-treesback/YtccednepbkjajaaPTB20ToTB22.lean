import Derived.Test.YtccednepbkjajaaPTRvToTRw
import Derived.Test.YtccednepbkjajaaPTB18ToTB19
namespace Go.Proofs.Ytccednepbkjajaa
set_option linter.unusedVariables false
open Go.RowKit
def mirF : Nat -> TV -> TV
 | 0, t => t
 | n + 1, t => t.sk ((t.kids.map (mirF n)).reverse)
def mirT (t : TV) : TV := mirF (tsz t) t
theorem mp_congr {α β : Type} {f f' : α -> β} : ∀ (l : List α), (∀ x ∈ l, f x = f' x) -> l.map f = l.map f'
 | [], _ => rfl
 | x :: l, h => by rw [List.map_cons, List.map_cons, h x (List.mem_cons_self ..), mp_congr l (fun y hy => h y (List.mem_cons_of_mem _ hy))]
theorem mirF_any : ∀ (n m : Nat) (t : TV), tsz t <= n -> tsz t <= m -> mirF n t = mirF m t
 | 0, _, t, h, _ => by have := tsz_pos t; omega
 | _ + 1, 0, t, _, h => by have := tsz_pos t; omega
 | n + 1, m + 1, t, h, h' => by
  rw [mirF, mirF]
  congr 2
  exact mp_congr _ fun k hk => mirF_any n m k (by have := kid_lt hk; omega) (by have := kid_lt hk; omega)
theorem mirT_eq (t : TV) : mirT t = t.sk ((t.kids.map mirT).reverse) := by
 obtain ⟨n, hn⟩ : ∃ n, tsz t = n + 1 := ⟨tsz t - 1, by have := tsz_pos t; omega⟩
 unfold mirT
 rw [hn, mirF]
 congr 2
 exact mp_congr _ fun k hk => mirF_any _ _ k (by have := kid_lt hk; omega) (Nat.le_refl _)
theorem mir_kids (t : TV) : (mirT t).kids = (t.kids.map mirT).reverse := by rw [mirT_eq]; rfl
theorem mir_prod (t : TV) : (mirT t).prod = t.prod := by rw [mirT_eq]; rfl
theorem mir_kind (t : TV) : (mirT t).kind = t.kind := by rw [mirT_eq]; rfl
theorem mir_tx (t : TV) : (mirT t).tx = t.tx := by rw [mirT_eq]; rfl
theorem sk_sk (t : TV) (a b : List TV) : (t.sk a).sk b = t.sk b := rfl
theorem sam_sk {t u : TV} {a b : List TV} (hp : t.prod = u.prod) (hk : t.kind = u.kind) (hx : t.tx = u.tx) (h : samL a b) : samV (t.sk a) (u.sk b) := by
 refine (samV_iff _ _).2 ⟨?_, h.2⟩
 unfold sgV
 show (t.prod, t.kind, t.tx, a.length) = (u.prod, u.kind, u.tx, b.length)
 rw [hp, hk, hx, h.1]
theorem sg_parts {t u : TV} (h : sgV t = sgV u) : t.prod = u.prod /\ t.kind = u.kind /\ t.tx = u.tx /\ t.kids.length = u.kids.length := by
 unfold sgV at h
 simpa only [Prod.mk.injEq] using h
theorem samV_kids {t u : TV} (h : samV t u) : samL t.kids u.kids := by
 obtain ⟨h1, h2⟩ := (samV_iff _ _).1 h
 exact ⟨sgV_len h1, h2⟩
theorem samL_refl (l : List TV) : samL l l := ⟨rfl, fun _ _ _ => samV_refl _⟩
theorem samL_map {f : TV -> TV} : ∀ {l m : List TV}, samL l m -> (∀ i (h : i < l.length) (h' : i < m.length), samV l[i] m[i] -> samV (f l[i]) (f m[i])) -> samL (l.map f) (m.map f) := fun {l m} h hf =>
 ⟨by simpa using h.1, fun i h1 h2 => by
  simp only [List.getElem_map]
  exact hf i (by simpa using h1) (by simpa using h2) (h.2 i (by simpa using h1) (by simpa using h2))⟩
theorem samL_rev {l m : List TV} (h : samL l m) : samL l.reverse m.reverse := by
 obtain ⟨h1, h2⟩ := h
 refine ⟨by simpa using h1, fun i h3 h4 => ?_⟩
 simp only [List.getElem_reverse]
 have h3' : i < l.length := by simpa using h3
 have := h2 (l.length - 1 - i) (by omega) (by omega)
 have e : m[m.length - 1 - i]'(by omega) = m[l.length - 1 - i]'(by omega) := by congr 1; omega
 rw [e]
 exact this
theorem mir_same (t : TV) : ∀ u, samV t u -> samV (mirT t) (mirT u) := by
 induction t using TV.ind with
 | _ t ih =>
  intro u h
  obtain ⟨p1, p2, p3, -⟩ := sg_parts ((samV_iff _ _).1 h).1
  rw [mirT_eq t, mirT_eq u]
  exact sam_sk p1 p2 p3 (samL_rev (samL_map (samV_kids h) fun i h1 h2 h3 => ih _ (List.getElem_mem h1) _ h3))
theorem mir_mir (t : TV) : samV (mirT (mirT t)) t := by
 induction t using TV.ind with
 | _ t ih =>
  have e : mirT (mirT t) = (mirT t).sk (((mirT t).kids.map mirT).reverse) := mirT_eq _
  rw [e, mir_kids, List.map_reverse, List.reverse_reverse, List.map_map]
  refine (samV_iff _ _).2 ⟨?_, fun i h1 h2 => ?_⟩
  ·have e2 : sgV ((mirT t).sk (t.kids.map (mirT ∘ mirT))) = (t.prod, t.kind, t.tx, t.kids.length) := by
    unfold sgV
    show ((mirT t).prod, (mirT t).kind, (mirT t).tx, (t.kids.map (mirT ∘ mirT)).length) = _
    rw [mir_prod, mir_kind, mir_tx, List.length_map]
   rw [e2]
   rfl
  ·have e3 : ((mirT t).sk (t.kids.map (mirT ∘ mirT))).kids[i]'h1 = mirT (mirT (t.kids[i]'h2)) := by
    show (t.kids.map (mirT ∘ mirT))[i]'(by simpa using h2) = _
    simp
   rw [e3]
   exact ih _ (List.getElem_mem h2)
def finT : List Nat -> Nat -> TV -> TV
 | [], n, T => T.sk (T.kids.take n ++ (T.kids.drop n).map mirT)
 | i :: π, n, T => T.sk (T.kids.take i ++ finT π n (T.kids.getD i .none) :: (T.kids.drop (i + 1)).map mirT)
theorem sam_self (T : TV) : samV (T.sk T.kids) T := (samV_iff _ _).2 ⟨sgV_sk rfl, fun _ _ _ => samV_refl _⟩
theorem samL_cons {a b : TV} {l m : List TV} (h : samV a b) (hl : samL l m) : samL (a :: l) (b :: m) := samL_app (samL_one h) hl
theorem fin_end (T : TV) (n : Nat) (hn : n = T.kids.length) : samV (finT [] n T) T := by
 rw [finT, hn, List.take_length, List.drop_length, List.map_nil, List.append_nil]
 exact sam_self T
theorem fin_leave : ∀ (π : List Nat) (i : Nat) (T : TV), okP (π ++ [i]) T -> samV (finT (π ++ [i]) (getAt (π ++ [i]) T).kids.length T) (finT π (i + 1) T)
 | [], i, T, ⟨hi, _⟩ => by
  have eg : T.kids.getD i .none = T.kids[i] := by simp [List.getD, hi]
  show samV (T.sk (T.kids.take i ++ finT [] (T.kids.getD i .none).kids.length (T.kids.getD i .none) :: (T.kids.drop (i + 1)).map mirT)) (T.sk (T.kids.take (i + 1) ++ (T.kids.drop (i + 1)).map mirT))
  refine sam_sk rfl rfl rfl ?_
  rw [eg, <- List.take_append_getElem hi, List.append_assoc]
  exact samL_app (samL_refl _) (samL_cons (fin_end _ _ rfl) (samL_refl _))
 | j :: π, i, T, ⟨hj, hp⟩ => by
  show samV (T.sk (T.kids.take j ++ finT (π ++ [i]) (getAt (π ++ [i]) (T.kids.getD j .none)).kids.length (T.kids.getD j .none) :: (T.kids.drop (j + 1)).map mirT)) (T.sk (T.kids.take j ++ finT π (i + 1) (T.kids.getD j .none) :: (T.kids.drop (j + 1)).map mirT))
  exact sam_sk rfl rfl rfl (samL_app (samL_refl _) (samL_cons (fin_leave π i _ hp) (samL_refl _)))
def revK (t : TV) : TV := t.sk t.kids.reverse
theorem fin_rev (k : TV) : finT [] 0 (revK k) = mirT k := by
 rw [finT, mirT_eq]
 show k.sk (k.kids.reverse.take 0 ++ (k.kids.reverse.drop 0).map mirT) = _
 rw [List.take_zero, List.drop_zero, List.nil_append, List.map_reverse]
theorem fin_enter : ∀ (π : List Nat) (n : Nat) (T : TV), okP (π ++ [n]) T -> finT (π ++ [n]) 0 (setAt (π ++ [n]) T (revK (getAt (π ++ [n]) T))) = finT π n T
 | [], n, T, ⟨hi, _⟩ => by
  show (T.sk (T.kids.set n (revK (T.kids.getD n .none)))).sk ((T.kids.set n (revK (T.kids.getD n .none))).take n ++ finT [] 0 ((T.kids.set n (revK (T.kids.getD n .none))).getD n .none) :: ((T.kids.set n (revK (T.kids.getD n .none))).drop (n + 1)).map mirT) = T.sk (T.kids.take n ++ (T.kids.drop n).map mirT)
  have e1 : (T.kids.set n (revK (T.kids.getD n .none))).take n = T.kids.take n := by rw [List.take_set, List.set_eq_of_length_le (by simp; omega)]
  have e2 : (T.kids.set n (revK (T.kids.getD n .none))).drop (n + 1) = T.kids.drop (n + 1) := by rw [List.drop_set_of_lt (by omega)]
  have e3 : (T.kids.set n (revK (T.kids.getD n .none))).getD n .none = revK (T.kids.getD n .none) := by simp [List.getD, hi]
  have e4 : T.kids.getD n .none = T.kids[n] := by simp [List.getD, hi]
  rw [e1, e2, e3, fin_rev, e4, sk_sk, List.drop_eq_getElem_cons hi, List.map_cons]
 | j :: π, n, T, ⟨hj, hp⟩ => by
  have IH := fin_enter π n (T.kids.getD j .none) hp
  have e0 : setAt (j :: π ++ [n]) T (revK (getAt (j :: π ++ [n]) T)) = T.sk (T.kids.set j (setAt (π ++ [n]) (T.kids.getD j .none) (revK (getAt (π ++ [n]) (T.kids.getD j .none))))) := rfl
  rw [e0]
  generalize setAt (π ++ [n]) (T.kids.getD j .none) (revK (getAt (π ++ [n]) (T.kids.getD j .none))) = K at *
  show (T.sk (T.kids.set j K)).sk ((T.kids.set j K).take j ++ finT (π ++ [n]) 0 ((T.kids.set j K).getD j .none) :: ((T.kids.set j K).drop (j + 1)).map mirT) = T.sk (T.kids.take j ++ finT π n (T.kids.getD j .none) :: (T.kids.drop (j + 1)).map mirT)
  have e1 : (T.kids.set j K).take j = T.kids.take j := by rw [List.take_set, List.set_eq_of_length_le (by simp; omega)]
  have e2 : (T.kids.set j K).drop (j + 1) = T.kids.drop (j + 1) := by rw [List.drop_set_of_lt (by omega)]
  have e3 : (T.kids.set j K).getD j .none = K := by simp [List.getD, hj]
  rw [e1, e2, e3, IH, sk_sk]
theorem fin_start (T : TV) : finT [] 0 (setAt [] T (revK (getAt [] T))) = mirT T := fin_rev T
theorem szL_rev (l : List TV) : szL l.reverse = szL l := by
 induction l with
 | nil => rfl
 | cons a l ih =>
  rw [List.reverse_cons, szL_app, ih, szL_cons a l, szL_cons a []]
  have : szL [] = 0 := rfl
  omega
theorem szT_rev (t : TV) : szT (revK t) = szT t := by
 rw [szT_eq, szT_eq]
 show szL t.kids.reverse + 1 = szL t.kids + 1
 rw [szL_rev]
theorem szT_set : ∀ (π : List Nat) (t u : TV), okP π t -> szT u = szT (getAt π t) -> szT (setAt π t u) = szT t
 | [], _, _, _, h => h
 | i :: π, t, u, ⟨hi, hp⟩, h => by
  have eg : t.kids.getD i .none = t.kids[i] := by simp [List.getD, hi]
  have IH := szT_set π (t.kids.getD i .none) u hp h
  rw [szT_eq, szT_eq t]
  show szL (t.kids.set i (setAt π (t.kids.getD i .none) u)) + 1 = szL t.kids + 1
  have e1 : szL (t.kids.set i (setAt π (t.kids.getD i .none) u)) = szL (t.kids.take i) + szT (setAt π (t.kids.getD i .none) u) + szL (t.kids.drop (i + 1)) := by
   rw [cut3 hi, szL_app, szL_app, szL_cons]; simp [szL]
  have e2 : szL t.kids = szL (t.kids.take i) + szT t.kids[i] + szL (t.kids.drop (i + 1)) := by
   conv => lhs; rw [cut3' hi]
   rw [szL_app, szL_app, szL_cons]; simp [szL]
  rw [e1, e2, IH, eg]
theorem cnt_sub (a : Nat × Nat) : ∀ (π : List Nat) (p q : Nat) (t : TV), okP π t -> (adsT (adP π p q t).1 (adP π p q t).2 (getAt π t)).count a <= (adsT p q t).count a := fun π p q t h => by
 obtain ⟨A, B, -, e, -⟩ := ads_set π p q t h
 rw [e, List.count_append, List.count_append]
 omega
theorem upd_out {w w' : World} {u : TV} : ∀ (π : List Nat) (p q : Nat) (t : TV), TBx w p q t -> TAt w t -> okP π t ->
  (∀ a, (adsT (adP π p q t).1 (adP π p q t).2 (getAt π t)).count a < (adsT p q t).count a -> C4 w w' a) -> TBx w' (adP π p q t).1 (adP π p q t).2 u -> TAt w' u ->
  TBx w' p q (setAt π t u) /\ TAt w' (setAt π t u)
 | [], _, _, _, _, _, _, _, hu, hU => ⟨hu, hU⟩
 | i :: π, p, q, t, hb, ht, ⟨hi, hp⟩, hk, hu, hU => by
  obtain ⟨b, off, e, hbi⟩ := krow_kid ht.row hi
  have ek : kadr t = (b, off) := by unfold kadr; rw [e]
  have eg : t.kids.getD i .none = t.kids[i] := by simp [List.getD, hi]
  have ea : adP (i :: π) p q t = adP π b (off + i * 4) t.kids[i] := by rw [adP, ek, eg]
  have et : getAt (i :: π) t = getAt π t.kids[i] := by rw [getAt, eg]
  have es : setAt (i :: π) t u = t.sk (t.kids.set i (setAt π t.kids[i] u)) := by rw [setAt, eg]
  rw [eg] at hp
  have hti := ht.kid _ (List.getElem_mem hi)
  have hgi := kidsA_get e hi
  have hsub := fun a => cnt_sub a π b (off + i * 4) t.kids[i] hp
  have hck := fun a => cnt_kid a hgi
  have hct : ∀ a, (adsL (kidsA t)).count a <= (adsT p q t).count a := fun a => by rw [adsT_eq, List.count_cons]; omega
  rw [ea, et] at hk
  rw [ea] at hu
  have hroot : C4 w w' (p, q) := hk _ (by
   have h1 := hsub (p, q)
   have h2 := hck (p, q)
   rw [adsT_eq p q t, List.count_cons_self]
   dsimp only at h2
   omega)
  obtain ⟨r1, r2⟩ := upd_out π b (off + i * 4) t.kids[i] hbi hti hp
   (fun a ha => hk a (by
    have h2 := hck a
    have h3 := hct a
    dsimp only at h2
    omega)) hu hU
  have hside : ∀ j (hj : j < t.kids.length), j ≠ i -> TBx w' b (off + j * 4) t.kids[j] /\ TAt w' t.kids[j] := fun j hj hji => by
   have hc : ∀ a ∈ adsT b (off + j * 4) t.kids[j], C4 w w' a := fun a ha => hk a (by
    have h1 : 0 < (adsT b (off + j * 4) t.kids[j]).count a := List.count_pos_iff.2 ha
    have h2 := cnt_kids a (kidsA_get e hj) hgi hji
    have h3 := hct a
    have h4 := hsub a
    dsimp only at h2
    omega)
   obtain ⟨b', off', e', hbj⟩ := krow_kid ht.row hj
   rw [e] at e'
   simp only [Option.some.injEq, Addr.mk.injEq, and_true] at e'
   obtain ⟨rfl, rfl⟩ := e'
   exact ⟨(hc _ (adsT_root _ _ _)).tbx hbj, keep_at _ b (off + j * 4) (ht.kid _ (List.getElem_mem hj)) fun a ha => hc a (by rw [adsT_eq]; exact List.mem_cons_of_mem _ ha)⟩
  rw [es]
  have hall : ∀ j (hj : j < (t.kids.set i (setAt π t.kids[i] u)).length), TBx w' b (off + j * 4) (t.kids.set i (setAt π t.kids[i] u))[j] /\ TAt w' (t.kids.set i (setAt π t.kids[i] u))[j] := fun j hj => by
   rw [List.getElem_set]
   split
   ·rename_i h; subst h; exact ⟨r1, r2⟩
   ·rename_i h; exact hside j (by simpa using hj) (fun h' => h h'.symm)
  refine ⟨?_, TAt.mk _ (krow_of fun j hj => ⟨b, off, e, (hall j hj).1⟩) fun k hkk => ?_⟩
  ·have h := hroot.tbx hb
   exact ⟨h.lt, h.c0, h.c1, h.c2, by
    have h3 := h.c3
    have hl : (t.kids.set i (setAt π t.kids[i] u)).length = t.kids.length := List.length_set
    rw [<- hl] at h3
    exact h3⟩
  ·obtain ⟨j, hj, rfl⟩ := List.getElem_of_mem hkk
   exact (hall j hj).2
structure RvJ (r : Nat) (ob : Obj) (N : Nat) (w0 : World) (p0 q0 : Nat) (T : TV) (w : World) : Prop where
 bel : Below N w0 w
 nz : N <= w.heap.size
 sz : szT T <= 100000000
 tb : TBx w p0 q0 T
 ta : TAt w T
 cn : ∀ a, (adsT p0 q0 T).count a <= 1
 ty : ∀ a ∈ adsT p0 q0 T, N <= a.1 /\ a.2 % 4 = 0 /\ ∃ cs, w.heap[a.1]? = some (.cells cs 31)
 rs : ¬ Stp ob
 rb : w.heap[r]? = some ob
 rn : ∀ a ∈ adsT p0 q0 T, a.1 ≠ r
theorem RvJ.still {r : Nat} {ob : Obj} {N : Nat} {w0 : World} {p0 q0 : Nat} {T : TV} {w w' : World} (h : RvJ r ob N w0 p0 q0 T w) (hn : NoStp N w w') : RvJ r ob N w0 p0 q0 T w' := by
 have hk : ∀ a ∈ adsT p0 q0 T, w'.heap[a.1]? = w.heap[a.1]? := fun a ha => by
  have hl := ads_lt h.tb h.ta ha
  obtain ⟨o, ho⟩ : ∃ o, w.heap[a.1]? = some o := ⟨_, Array.getElem?_eq_getElem hl⟩
  rw [ho]
  refine hn.keep _ _ ho fun ⟨h1, h2⟩ => ?_
  obtain ⟨_, _, cs, hc⟩ := h.ty a ha
  rw [ho] at hc
  cases hc
  exact not_stpT h2
 have hc : ∀ a ∈ adsT p0 q0 T, C4 w w' a := fun a ha => ⟨Nat.lt_of_lt_of_le (ads_lt h.tb h.ta ha) hn.size, fun j _ => World.cell?_of_block (hk a ha)⟩
 refine ⟨⟨hn.os.trans h.bel.os, hn.tape.trans h.bel.tape, hn.output.trans h.bel.output, Nat.le_trans h.bel.size hn.size, fun j hj => by
  have hl := Nat.lt_of_lt_of_le hj h.nz
  obtain ⟨o, ho⟩ : ∃ o, w.heap[j]? = some o := ⟨_, Array.getElem?_eq_getElem hl⟩
  rw [hn.keep j o ho fun ⟨h1, _⟩ => by omega, <- ho]
  exact h.bel.block j hj⟩, Nat.le_trans h.nz hn.size, h.sz, (hc _ (adsT_root _ _ _)).tbx h.tb, keep_at T p0 q0 h.ta fun a ha => hc a (by rw [adsT_eq]; exact List.mem_cons_of_mem _ ha), h.cn, fun a ha => ?_, h.rs, hn.keep _ _ h.rb fun ⟨_, x⟩ => h.rs x, h.rn⟩
 rw [hk a ha]; exact h.ty a ha
theorem row_in {b o n : Nat} {i : Nat} (hi : i < n) : (b, o + i * 4) ∈ rowA b o 0 n := by
 unfold rowA
 exact List.mem_map.2 ⟨i, List.mem_range'_1.2 ⟨Nat.zero_le _, by omega⟩, rfl⟩
theorem inL_rev (l : List TV) (x : Nat × Nat) : (inL l.reverse).count x = (inL l).count x := by
 unfold inL
 exact ((List.reverse_perm l).flatMap_right _).count_eq x
structure TurnT (b o : Nat) (l : List TV) (w w' : World) : Prop where
 size : w'.heap.size = w.heap.size
 other : ∀ j, j ≠ b -> w'.heap[j]? = w.heap[j]?
 ty : ∃ cs, w'.heap[b]? = some (.cells cs 31)
 cell : ∀ i u, (l.reverse.flatMap trCells)[i]? = some u -> w'.cell? ⟨b, o + i, none⟩ = some u
 out : ∀ x, x < o ∨ o + l.length * 4 <= x -> w'.cell? ⟨b, x, none⟩ = w.cell? ⟨b, x, none⟩
 bel : ∀ N w0, Below N w0 w -> N <= b -> N <= w.heap.size -> Below N w0 w'
theorem ent_rev1 : EntW 52 := fun _ _ => by kernel_rfl
set_option linter.unusedSimpArgs false in
set_option maxRecDepth 100000 in
set_option maxHeartbeats 2000000 in
theorem rev1_W (p q : Nat) (k : TV) (w : World) (hb : TBx w p q k) (hr : KRow w k.ka k.kids) (hl : k.kids.length <= 1000000000) (hty : ∀ b o, k.kids ≠ [] -> k.ka = some ⟨b, o, none⟩ -> ∃ cs, w.heap[b]? = some (.cells cs 31)) :
  Calls Try.prog 52 #[.pointer (some ⟨p, q, none⟩)] w fun e w' => e = .returned (.bool true) /\ (k.kids = [] -> w' = w) /\ ∀ b o, k.kids ≠ [] -> k.ka = some ⟨b, o, none⟩ -> TurnT b o k.kids w w' := by
 have c3 := hb.c3
 by_cases hn : k.kids = []
 ·have CN : Hid (∀ (ao : Option Addr) (c : Nat) (w : World), Calls Try.prog 53 #[.slice ao 0 c] w fun e w' => e = .returned (.tuple #[]) /\ w' = w) := rev_treen
  rw [hn] at c3
  simp only [List.length_nil] at c3
  clear hb hr hl hty
  generalize k.ka = ka at *
  generalize k.kc = kc at *
  go_enter Try.func52, Try.ntmps52
  go_wp2_with (go_at_call 53; refine (CN.out ka kc _).mono ?_; rintro e w2 ⟨rfl, rfl⟩)
  go_ret
  exact ⟨rfl, fun _ => rfl, fun b o h => absurd hn h⟩
 ·obtain ⟨b, o, e, hs⟩ := hr.src hn
  obtain ⟨cs, hcs⟩ := hty b o hn e
  have CR : Hid (∀ c, Calls Try.prog 53 #[.slice (some ⟨b, o, none⟩) k.kids.length c] w fun e w' => e = .returned (.tuple #[]) /\ TurnT b o k.kids w w') := fun c => (rev_tree b o c k.kids w hl hs hcs).mono fun e w' ⟨h0, h1, h2, h3, h4, h5, h6⟩ => ⟨h0, h1, h2, h3, h4, h5, h6⟩
  have HE : Hid (k.ka = some ⟨b, o, none⟩) := e
  rw [e] at c3
  clear hb hr hl hty hs hcs e cs
  have HN : Hid (k.kids ≠ []) := hn
  clear hn
  obtain ⟨ks, hks⟩ : ∃ ks, ks = k.kids := ⟨_, rfl⟩
  rw [<- hks] at CR HN c3 ⊢
  clear hks
  obtain ⟨ln, hln⟩ : ∃ ln, ln = ks.length := ⟨_, rfl⟩
  rw [<- hln] at CR c3
  clear hln
  generalize k.kc = kc at *
  go_enter Try.func52, Try.ntmps52
  go_wp2_with (go_at_call 53; refine (CR.out kc).mono ?_; rintro e w2 ⟨rfl, h2⟩; have R : Hid (TurnT b o ks w w2) := h2; clear h2)
  go_ret
  refine ⟨rfl, fun h => absurd h HN.out, fun b' o' _ e' => ?_⟩
  rw [HE.out] at e'
  cases e'
  exact R.out
set_option maxHeartbeats 1000000 in
theorem RvJ.enter {r : Nat} {ob : Obj} {N : Nat} {w0 : World} {p0 q0 : Nat} {T : TV} {w : World} (h : RvJ r ob N w0 p0 q0 T w) (π : List Nat) (hok : okP π T) :
  Calls Try.prog 52 #[.pointer (some ⟨(adP π p0 q0 T).1, (adP π p0 q0 T).2, none⟩)] w fun e w' => e = .returned (.bool true) /\ OnStp N w w' /\ RvJ r ob N w0 p0 q0 (setAt π T (revK (getAt π T))) w' := by
 obtain ⟨hb, ha⟩ := at_path π p0 q0 T h.tb h.ta hok
 have hmem := adP_mem π p0 q0 T w h.ta hok
 have hsz : szT (getAt π T) <= 100000000 := by
  obtain ⟨A, B, _, h2, _⟩ := pre_set π T hok
  have h3 := congrArg List.length h2
  simp only [List.length_map, List.length_append, preT_len] at h3
  have := h.sz
  omega
 have hkl : (getAt π T).kids.length <= 1000000000 := by
  have := szT_eq (getAt π T)
  have := szL_len (getAt π T).kids
  omega
 have hss := szT_set π T (revK (getAt π T)) hok (szT_rev _)
 have hupd := fun w' => upd_out (w := w) (w' := w') (u := revK (getAt π T)) π p0 q0 T h.tb h.ta hok
 obtain ⟨A, B, hA1, hA2, hA3⟩ := ads_set π p0 q0 T hok
 have hads := hA3 (revK (getAt π T))
 generalize hk : getAt π T = k at *
 generalize hP : (adP π p0 q0 T).1 = P at *
 generalize hQ : (adP π p0 q0 T).2 = Q at *
 rw [show adP π p0 q0 T = (P, Q) by rw [<- hP, <- hQ]] at hmem
 have hcS : ∀ x : Nat × Nat, (adsT P Q k).count x = (if ((P, Q) == x) = true then 1 else 0) + ((rowA (kadr k).1 (kadr k).2 0 k.kids.length).count x + (inL k.kids).count x) := fun x => by
  rw [adsT_eq, List.count_cons, kidsA, cnt_row]; omega
 have hcT : ∀ x : Nat × Nat, (adsT p0 q0 T).count x = A.count x + (adsT P Q k).count x + B.count x := fun x => by
  rw [hA2, List.count_append, List.count_append]
 have hcU : ∀ x : Nat × Nat, (adsT p0 q0 (setAt π T (revK k))).count x = (adsT p0 q0 T).count x := fun x => by
  have e1 : (adsT P Q (revK k)).count x = (adsT P Q k).count x := by
   rw [hcS, adsT_eq, List.count_cons, kidsA, cnt_row]
   have e2 : (revK k).kids = k.kids.reverse := rfl
   have e3 : kadr (revK k) = kadr k := rfl
   rw [e2, e3, inL_rev, List.length_reverse]; omega
  rw [hcT, hads, List.count_append, List.count_append, e1]
 have hmU : ∀ x, x ∈ adsT p0 q0 (setAt π T (revK k)) ↔ x ∈ adsT p0 q0 T := fun x => by
  rw [<- List.count_pos_iff, <- List.count_pos_iff, hcU]
 have hrT : ∀ x, x ∈ rowA (kadr k).1 (kadr k).2 0 k.kids.length -> x ∈ adsT p0 q0 T := fun x hx => by
  have := List.count_pos_iff.2 hx
  refine List.count_pos_iff.1 ?_
  rw [hcT, hcS]; omega
 refine (rev1_W P Q k w hb ha.row hkl fun b o hne e => ?_).mono ?_
 ·have e1 : kadr k = (b, o) := by unfold kadr; rw [e]
  have hx : (b, o + 0 * 4) ∈ rowA (kadr k).1 (kadr k).2 0 k.kids.length := by rw [e1]; exact row_in (List.length_pos_iff.2 hne)
  exact (h.ty _ (hrT _ hx)).2.2
 rintro e w' ⟨rfl, h0, h1⟩
 have F : w'.heap.size = w.heap.size /\ (∀ a ∈ adsT p0 q0 T, a ∉ rowA (kadr k).1 (kadr k).2 0 k.kids.length -> C4 w w' a) /\ KRow w' k.ka k.kids.reverse /\ (∀ (j : Nat) (o : Obj), w.heap[j]? = some o -> (∀ cs, o ≠ .cells cs 31) -> w'.heap[j]? = some o) /\ (∀ (j : Nat) (cs : Array Value), w.heap[j]? = some (.cells cs 31) -> ∃ cs', w'.heap[j]? = some (.cells cs' 31)) /\ Below N w0 w' /\ w'.heap[r]? = some ob := by
  by_cases hne : k.kids = []
  ·obtain rfl := h0 hne
   exact ⟨rfl, fun a ha _ => ⟨ads_lt h.tb h.ta ha, fun _ _ => rfl⟩, fun e => absurd (by rw [hne]; rfl) e, fun j o ho _ => ho, fun j cs hj => ⟨cs, hj⟩, h.bel, h.rb⟩
  ·obtain ⟨b, o, e, hbl, _⟩ := ha.row hne
   have t := h1 b o hne e
   have e1 : kadr k = (b, o) := by unfold kadr; rw [e]
   have hx0 : (b, o + 0 * 4) ∈ adsT p0 q0 T := hrT _ (by rw [e1]; exact row_in (List.length_pos_iff.2 hne))
   obtain ⟨n1, n2, cs0, n3⟩ := h.ty _ hx0
   refine ⟨t.size, fun a ham har => ⟨by rw [t.size]; exact ads_lt h.tb h.ta ham, fun j hj => ?_⟩, fun _ => ?_, fun j o' ho hno => ?_, fun j cs hj => ?_, t.bel N w0 h.bel n1 h.nz, ?_⟩
   ·by_cases hab : a.1 = b
    ·rw [hab]
     refine t.out _ ?_
     have m1 := (h.ty a ham).2.1
     dsimp only at n2
     refine Classical.byContradiction fun hcon => har ?_
     have e2 : a = (b, o + (a.2 - o) / 4 * 4) := Prod.ext hab (by show a.2 = _; omega)
     rw [e1, e2]
     exact row_in (by omega)
    ·exact World.cell?_of_block (t.other _ hab)
   ·refine ⟨b, o, e, by rw [t.size]; exact hbl, fun i hi => ?_⟩
    have hg := fm_get (f := trCells) (k := 4) (fun _ => rfl) k.kids.reverse i hi
    have hd : k.kids.reverse.getD i .none = k.kids.reverse[i] := by simp only [List.getD, List.getElem?_eq_getElem hi, Option.getD_some]
    have g0 := hg 0 (by omega)
    have g1 := hg 1 (by omega)
    have g2 := hg 2 (by omega)
    have g3 := hg 3 (by omega)
    rw [hd]
    simp only [trCells, List.getElem?_cons_zero, List.getElem?_cons_succ, Nat.add_zero] at g0 g1 g2 g3
    have q0 := t.cell _ _ g0
    have q1 := t.cell _ _ g1
    have q2 := t.cell _ _ g2
    have q3 := t.cell _ _ g3
    simp only [<- Nat.add_assoc] at q0 q1 q2 q3
    exact ⟨q0, q1, q2, q3⟩
   ·rw [t.other j fun ej => ?_, ho]
    subst ej
    dsimp only at n3
    rw [n3] at ho
    cases ho
    exact hno _ rfl
   ·by_cases ej : j = b
    ·rw [ej]; exact t.ty
    ·exact ⟨cs, by rw [t.other j ej]; exact hj⟩
   ·rw [t.other r fun er => h.rn _ hx0 er.symm]; exact h.rb
 obtain ⟨f1, f2, f3, f4, f4', f5, f6⟩ := F
 have hu : TBx w' P Q (revK k) := by
  have c := f2 (P, Q) hmem fun hr => ?_
  ·have q := c.tbx hb
   refine ⟨q.lt, q.c0, q.c1, q.c2, ?_⟩
   have e2 : (revK k).kids.length = k.kids.length := by show k.kids.reverse.length = _; simp
   rw [e2]
   exact q.c3
  ·have h2 := h.cn (P, Q)
   have h3 := List.count_pos_iff.2 hr
   rw [hcT, hcS, if_pos (beq_self_eq_true _)] at h2
   omega
 have hU : TAt w' (revK k) := by
  refine TAt.mk _ f3 fun x hx => ?_
  have hx' : x ∈ k.kids := by
   have : x ∈ k.kids.reverse := hx
   simpa using this
  refine keep_at x 0 0 (ha.kid x hx') fun a hma => ?_
  have hpos : 0 < (inL k.kids).count a := List.count_pos_iff.2 (List.mem_flatMap.2 ⟨x, hx', hma⟩)
  have h2 := h.cn a
  rw [hcT, hcS] at h2
  refine f2 a (List.count_pos_iff.1 (by rw [hcT, hcS]; omega)) fun hr => ?_
  have h3 := List.count_pos_iff.2 hr
  omega
 obtain ⟨u1, u2⟩ := hupd w' (fun a hlt => by
  have h2 := h.cn a
  refine f2 a (List.count_pos_iff.1 (by omega)) fun hr => ?_
  have h3 := List.count_pos_iff.2 hr
  have h4 := hcS a
  omega) hu hU
 refine ⟨rfl, ⟨by rw [f1]; exact Nat.le_refl _, fun j o ho _ hs => f4 j o ho fun cs e => ?_⟩, f5, by rw [f1]; exact h.nz, by rw [hss]; exact h.sz, u1, u2, fun a => by rw [hcU]; exact h.cn a, fun a ham => ?_, h.rs, f6, fun a ham => h.rn a ((hmU a).1 ham)⟩
 ·rw [e] at hs
  exact not_stpT hs
 ·obtain ⟨k1, k2, cs, k3⟩ := h.ty a ((hmU a).1 ham)
  exact ⟨k1, k2, f4' _ _ k3⟩
structure RvI (r : Nat) (ob : Obj) (N : Nat) (w0 : World) (p0 q0 : Nat) (M : TV) (x : CpG) (S : List PA) (w : World) : Prop where
 j : RvJ r ob N w0 p0 q0 x.T w
 s : S = [] /\ samV x.T M /\ x.m = szT x.T /\ x.d = 0 ∨ okP x.π x.T /\ x.n <= (getAt x.π x.T).kids.length /\ x.m = nuP x.π x.T + 1 + szL ((getAt x.π x.T).kids.take x.n) /\ S = stkI x.π p0 q0 x.T ++ [((adP x.π p0 q0 x.T).1, (adP x.π p0 q0 x.T).2, x.n)] /\ x.d = x.π.length + 1 /\ samV (finT x.π x.n x.T) M
theorem RvI.top {r : Nat} {ob : Obj} {N : Nat} {w0 : World} {p0 q0 : Nat} {M : TV} {x : CpG} {S : List PA} {p q n : Nat} {w : World} (h : RvI r ob N w0 p0 q0 M x (S ++ [(p, q, n)]) w) :
  okP x.π x.T /\ x.n = n /\ n <= (getAt x.π x.T).kids.length /\ x.m = nuP x.π x.T + 1 + szL ((getAt x.π x.T).kids.take n) /\ S = stkI x.π p0 q0 x.T /\ adP x.π p0 q0 x.T = (p, q) /\ x.d = x.π.length + 1 /\ samV (finT x.π n x.T) M := by
 rcases h.s with ⟨e, _⟩ | ⟨h1, h2, h3, h4, h5, h6⟩
 ·simp at e
 ·have he := List.append_inj' h4 rfl
  have e2 := he.2
  simp only [List.cons.injEq, Prod.mk.injEq, and_true] at e2
  obtain ⟨e3, e4, e5⟩ := e2
  rw [<- e5] at h2 h3 h6
  exact ⟨h1, e5.symm, h2, h3, he.1, Prod.ext e3.symm e4.symm, h5, h6⟩
set_option maxHeartbeats 1000000 in
theorem rvC {r : Nat} {ob : Obj} {N : Nat} {w0 : World} {p0 q0 : Nat} {M : TV} : WkC N (RvI r ob N w0 p0 q0 M) (fun x => 2 * (szT x.T - x.m) + x.d) (fun w' => ∃ T, RvJ r ob N w0 p0 q0 T w' /\ samV T M) 52 44 #[] #[] := by
 refine ⟨ent_rev1, ent_leave1, fun x S w w' h hn => ⟨h.j.still hn, h.s⟩, fun x S w h => ?_, fun x w h => ?_, fun x S p q n w h b m c hs => ?_, fun x S p q n w h => ?_⟩
 ·rcases h.s with ⟨rfl, _⟩ | ⟨h1, _, _, h4, _, _⟩
  ·simp
  ·rw [h4, List.length_append, stkI_len]
   have a1 := nu_len x.π x.T
   have a2 := nu_lt x.π x.T h1
   have a4 := h.j.sz
   simp only [List.length_cons, List.length_nil]
   omega
 ·rcases h.s with ⟨_, h1, _⟩ | ⟨_, _, _, h4, _, _⟩
  ·exact ⟨x.T, h.j, h1⟩
  ·simp at h4
 ·obtain ⟨h1, -, -, -, -, h6, -, -⟩ := h.top
  have hmem := adP_mem x.π p0 q0 x.T w h.j.ta h1
  rw [h6] at hmem
  have hb := hs.2 b rfl
  obtain ⟨o, ho, hst⟩ := hs.1.stp b rfl
  intro e
  subst e
  obtain ⟨_, _, cs, hc⟩ := h.j.ty _ hmem
  rw [ho] at hc
  cases hc
  exact not_stpT hst
 ·obtain ⟨T, m, π, n', d⟩ := x
  obtain ⟨h1, h2, h3, h4, h5, h6, h7, h8⟩ := h.top
  dsimp only at h1 h2 h3 h4 h5 h6 h7 h8
  subst h2
  have hj : RvJ r ob N w0 p0 q0 T w := h.j
  obtain ⟨hb, ha⟩ := at_path π p0 q0 T hj.tb hj.ta h1
  rw [h6] at hb
  have hkl : (getAt π T).kids.length <= 1000000000 := by
   obtain ⟨A, B, _, e2, _⟩ := pre_set π T h1
   have e3 := congrArg List.length e2
   simp only [List.length_map, List.length_append, preT_len] at e3
   have e5 := hj.sz
   have e6 := szT_eq (getAt π T)
   have e7 := szL_len (getAt π T).kids
   omega
  refine ⟨(getAt π T).ka, (getAt π T).kids.length, (getAt π T).kc, hb.c3, h3, hkl, fun hn => ?_, fun hn => ?_⟩
  ·refine (leave1_W p q w).mono fun e w' ⟨e1, e2⟩ => ⟨e1, by rw [e2]; exact OnStp.refl _ _, ?_⟩
   subst e2
   rw [hn, List.take_length] at h4
   rcases List.eq_nil_or_concat π with rfl | ⟨π0, i, hcc⟩
   ·refine ⟨⟨T, m, [], 0, 0⟩, ?_, hj, .inl ⟨h5, ?_, ?_, rfl⟩⟩
    ·show 2 * (szT T - m) + 0 < 2 * (szT T - m) + d
     omega
    ·exact samV_trans _ _ _ (samV_symm _ _ (fin_end T n' hn)) h8
    ·show m = szT T
     rw [szT_eq, h4]
     simp only [nuP, getAt]
     omega
   ·rw [List.concat_eq_append] at hcc
    subst hcc
    obtain ⟨g1, g2⟩ := (okP_app π0 [i] T).1 h1
    have gi : i < (getAt π0 T).kids.length := g2.1
    have eg : (getAt π0 T).kids.getD i .none = (getAt π0 T).kids[i] := by simp [List.getD, gi]
    refine ⟨⟨T, m, π0, i + 1, d - 1⟩, ?_, hj, .inr ⟨g1, gi, ?_, ?_, ?_, ?_⟩⟩
    ·show 2 * (szT T - m) + (d - 1) < 2 * (szT T - m) + d
     omega
    ·show m = nuP π0 T + 1 + szL ((getAt π0 T).kids.take (i + 1))
     rw [nuP_app, getAt_app] at h4
     simp only [nuP, getAt] at h4
     rw [eg] at h4
     rw [<- List.take_append_getElem gi, szL_app]
     have e8 := szT_eq (getAt π0 T).kids[i]
     have e9 : szL [(getAt π0 T).kids[i]] = szT (getAt π0 T).kids[i] := by simp [szL]
     omega
    ·show S = _
     rw [h5, stkI_snoc]
    ·show d - 1 = π0.length + 1
     rw [h7]; simp
    ·have := fin_leave π0 i T h1
     rw [<- hn] at this
     exact samV_trans _ _ _ (samV_symm _ _ this) h8
  ·obtain ⟨b, off, hka, hkt⟩ := krow_kid ha.row hn
   have hkd : kadr (getAt π T) = (b, off) := by unfold kadr; rw [hka]
   have ok' : okP (π ++ [n']) T := (okP_app π [n'] T).2 ⟨h1, hn, trivial⟩
   have ad' : adP (π ++ [n']) p0 q0 T = (b, off + n' * 4) := by rw [adP_app, adP, adP, hkd]
   have nu' : nuP (π ++ [n']) T = m := by rw [nuP_app, h4]; simp only [nuP]; omega
   have hent := hj.enter (π ++ [n']) ok'
   rw [ad'] at hent
   refine ⟨b, off, hka, hent.mono fun e w' ⟨e1, e2, e3⟩ => ⟨true, e1, e2, fun _ => ?_, fun q => by cases q⟩⟩
   refine ⟨⟨_, m + 1, π ++ [n'], 0, d + 1⟩, ?_, e3, .inr ⟨ok_set _ _ _ ok', Nat.zero_le _, ?_, ?_, ?_, ?_⟩⟩
   ·show 2 * (szT (setAt (π ++ [n']) T _) - (m + 1)) + (d + 1) < 2 * (szT T - m) + d
    have s1 := szT_set (π ++ [n']) T (revK (getAt (π ++ [n']) T)) ok' (szT_rev _)
    have s3 := nu_lt _ _ ok'
    omega
   ·show m + 1 = nuP (π ++ [n']) _ + 1 + szL (List.take 0 _)
    rw [nu_set _ _ _ ok', nu']
    simp [szL]
   ·show _ = stkI (π ++ [n']) p0 q0 _ ++ [((adP (π ++ [n']) p0 q0 _).1, (adP (π ++ [n']) p0 q0 _).2, 0)]
    rw [stkI_set _ _ _ _ _ ok', ad_set _ _ _ _ _ ok', ad', stkI_snoc, h6, h5]
   ·show d + 1 = (π ++ [n']).length + 1
    rw [h7]; simp
   ·rw [fin_enter π n' T ok']
    exact h8
theorem walkRev_W {r : Nat} {ob : Obj} {N : Nat} {w0 : World} {p0 q0 : Nat} {T : TV} (w : World) (h : RvJ r ob N w0 p0 q0 T w) :
  Calls Try.prog 21 #[.pointer (some ⟨p0, q0, none⟩), fnV 52 #[]] w fun e w' => e = .returned (.tuple #[]) /\ ∃ T', RvJ r ob N w0 p0 q0 T' w' /\ samV T' (mirT T) := by
 refine walk_C (rvC (M := mirT T)) p0 q0 w h.nz ?_
 refine (h.enter [] trivial).mono fun e w' ⟨e1, e2, e3⟩ => ⟨true, e1, e2.size, fun _ => ⟨⟨_, 1, [], 0, 1⟩, e3, .inr ⟨trivial, Nat.zero_le _, ?_, rfl, rfl, ?_⟩⟩, fun q => by cases q⟩
 ·simp [nuP, szL]
 ·show samV (finT [] 0 (setAt [] T (revK (getAt [] T)))) _
  rw [fin_start]
  exact samV_refl _
end Go.Proofs.Ytccednepbkjajaa
