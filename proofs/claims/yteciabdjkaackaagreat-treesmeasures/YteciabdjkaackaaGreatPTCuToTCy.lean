import Derived.Test.YteciabdjkaackaaGreatPTCpToTCt
namespace Go.Proofs.YteciabdjkaackaaGreat
set_option linter.unusedVariables false
open Go.RowKit
theorem ent_copied1 : EntW 75 := fun _ _ => by kernel_rfl
set_option linter.unusedSimpArgs false in
set_option maxRecDepth 100000 in
set_option maxHeartbeats 4000000 in
theorem copied1_W (p q : Nat) (t : TV) (w : World) (hb : TBx w p q t) (hr : KRow w t.ka t.kids) (hf : w.frozen? ⟨p, q + 3, none⟩ = false) (hl : t.kids.length <= 1000000000) :
  Calls Tryz.prog 75 #[.pointer (some ⟨p, q, none⟩)] w fun e w' => e = .returned (.bool true) /\ ∃ a' c' w1, (t.kids ≠ [] -> w1.ownsRow w.heap.size 26 4 (.slice a' t.kids.length c') t.kids.length (t.kids.flatMap trCells) /\ ∃ b, a' = some ⟨b, 0, none⟩ /\ w.heap.size <= b) /\ Below w.heap.size w w1 /\ w' = w1.setCell ⟨p, q + 3, none⟩ (.slice a' t.kids.length c') := by
 have c3 := hb.c3
 have CL : Hid (Calls Tryz.prog 76 #[.slice t.ka t.kids.length t.kc] w fun e w' => ∃ a' c', e = .returned (.slice a' t.kids.length c') /\ (t.kids ≠ [] -> w'.ownsRow w.heap.size 26 4 (.slice a' t.kids.length c') t.kids.length (t.kids.flatMap trCells) /\ ∃ b, a' = some ⟨b, 0, none⟩ /\ w.heap.size <= b) /\ Below w.heap.size w w') := clone_tree t.ka t.kc t.kids w hl hr
 have FZ : Hid (∀ w1 : World, Below w.heap.size w w1 -> w1.frozen? ⟨p, q + 3, none⟩ = false /\ w1.cell? ⟨p, q + 3, none⟩ = some (.slice t.ka t.kids.length t.kc)) := fun w1 h1 => by
  have e : w1.heap[p]? = w.heap[p]? := h1.block p hb.lt
  refine ⟨?_, ?_⟩
  ·have := hf
   simp only [World.frozen?] at this ⊢
   rw [e]; exact this
  ·rw [<- c3]; exact h1.cell (p := ⟨p, q + 3, none⟩) hb.lt
 clear hb hr hl hf
 generalize t.ka = ka at *
 generalize t.kc = kc at *
 generalize t.kids = ks at *
 go_enter Tryz.func75, Tryz.ntmps75
 go_wp2_with (go_at_call 76; refine CL.out.mono ?_; rintro e w1 ⟨a1, c1, rfl, k1, b1⟩; have K1 : Hid ((ks ≠ [] -> w1.ownsRow w.heap.size 26 4 (.slice a1 ks.length c1) ks.length (ks.flatMap trCells) /\ ∃ b, a1 = some ⟨b, 0, none⟩ /\ w.heap.size <= b) /\ Below w.heap.size w w1) := ⟨k1, b1⟩; obtain ⟨f1, d1⟩ := FZ.out w1 b1; clear k1 b1 c3)
 go_ret
 exact ⟨rfl, a1, c1, w1, K1.out.1, K1.out.2, rfl⟩
theorem kidF_app (b o : Nat) : ∀ (l m : List TV) (s : Nat), kidF b o s (l ++ m) = kidF b o s l ++ kidF b o (s + l.length) m
 | [], m, s => by simp [kidF]
 | a :: l, m, s => by
  rw [List.cons_append, kidF, kidF, kidF_app b o l m (s + 1), List.cons_append, List.length_cons]
  have : s + 1 + l.length = s + (l.length + 1) := by omega
  rw [this]
theorem adsL_app (l m : List (Nat × Nat × TV)) : adsL (l ++ m) = adsL l ++ adsL m := by simp [adsL]
theorem adsL_cut (b o : Nat) (l m : List TV) (k : TV) : adsL (kidF b o 0 (l ++ [k] ++ m)) = adsL (kidF b o 0 l) ++ adsT b (o + l.length * 4) k ++ adsL (kidF b o (l.length + 1) m) := by
 rw [kidF_app, kidF_app, adsL_app, adsL_app]
 simp [kidF, adsL]
theorem ads_set : ∀ (π : List Nat) (p q : Nat) (t : TV), okP π t -> ∃ A B, A.length = nuP π t /\ adsT p q t = A ++ adsT (adP π p q t).1 (adP π p q t).2 (getAt π t) ++ B /\
  ∀ u, adsT p q (setAt π t u) = A ++ adsT (adP π p q t).1 (adP π p q t).2 u ++ B
 | [], p, q, t, _ => ⟨[], [], rfl, by simp [getAt, adP], fun u => by simp [setAt, adP]⟩
 | i :: π, p, q, t, ⟨hi, hp⟩ => by
  have eg : t.kids.getD i .none = t.kids[i] := by simp [List.getD, hi]
  rw [eg] at hp
  obtain ⟨A, B, h1, h2, h3⟩ := ads_set π (kadr t).1 ((kadr t).2 + i * 4) t.kids[i] hp
  have ea : adP (i :: π) p q t = adP π (kadr t).1 ((kadr t).2 + i * 4) t.kids[i] := by rw [adP, eg]
  have hlen : (t.kids.take i).length = i := by simp; omega
  refine ⟨(p, q) :: adsL (kidF (kadr t).1 (kadr t).2 0 (t.kids.take i)) ++ A, B ++ adsL (kidF (kadr t).1 (kadr t).2 (i + 1) (t.kids.drop (i + 1))), ?_, ?_, fun u => ?_⟩
  ·rw [List.cons_append, List.length_cons, List.length_append, adsL_len' _ _ _ _ (fun k _ => adsT_len k), h1, nuP, eg]; omega
  ·have e : adsL (kidsA t) = adsL (kidF (kadr t).1 (kadr t).2 0 (t.kids.take i ++ [t.kids[i]] ++ t.kids.drop (i + 1))) := by rw [<- cut3' hi]; rfl
   rw [adsL_cut, hlen] at e
   rw [adsT_eq, e, ea, getAt, eg, h2]
   simp only [List.append_assoc, List.cons_append]
  ·have es : setAt (i :: π) t u = t.sk (t.kids.set i (setAt π t.kids[i] u)) := by rw [setAt, eg]
   have e : adsL (kidsA (t.sk (t.kids.set i (setAt π t.kids[i] u)))) = adsL (kidF (kadr t).1 (kadr t).2 0 (t.kids.take i ++ [setAt π t.kids[i] u] ++ t.kids.drop (i + 1))) := by rw [<- cut3 hi]; rfl
   rw [adsL_cut, hlen] at e
   rw [es, adsT_eq, e, ea, h3]
   simp only [List.append_assoc, List.cons_append]
theorem sgV_len {a b : TV} (h : sgV a = sgV b) : a.kids.length = b.kids.length := by
 unfold sgV at h
 simp only [Prod.mk.injEq] at h
 exact h.2.2.2
theorem samV_trans (a : TV) : ∀ b c, samV a b -> samV b c -> samV a c := by
 induction a using TV.ind with
 | _ a ih =>
  intro b c h1 h2
  obtain ⟨e1, k1⟩ := (samV_iff a b).1 h1
  obtain ⟨e2, k2⟩ := (samV_iff b c).1 h2
  refine (samV_iff a c).2 ⟨e1.trans e2, fun i h h' => ?_⟩
  have hb : i < b.kids.length := by rw [<- sgV_len e1]; exact h
  exact ih _ (List.getElem_mem h) _ _ (k1 i h hb) (k2 i hb h')
theorem samV_set : ∀ (π : List Nat) (t u : TV), okP π t -> samV (getAt π t) u -> samV t (setAt π t u)
 | [], _, _, _, h => h
 | i :: π, t, u, ⟨hi, hp⟩, h => by
  have eg : t.kids.getD i .none = t.kids[i] := by simp [List.getD, hi]
  have es : setAt (i :: π) t u = t.sk (t.kids.set i (setAt π t.kids[i] u)) := by rw [setAt, eg]
  rw [eg] at hp
  rw [getAt, eg] at h
  have hk := samV_set π t.kids[i] u hp h
  rw [es]
  refine (samV_iff _ _).2 ⟨(sgV_sk (by simp)).symm, fun j hj hj' => ?_⟩
  have e : (t.sk (t.kids.set i (setAt π t.kids[i] u))).kids = t.kids.set i (setAt π t.kids[i] u) := rfl
  have e2 : (t.sk (t.kids.set i (setAt π t.kids[i] u))).kids[j]'hj' = (t.kids.set i (setAt π t.kids[i] u))[j]'(by simpa using hj) := rfl
  rw [e2, List.getElem_set]
  split
  ·rename_i hij; subst hij; exact hk
  ·exact samV_refl _
def TV.rk (t : TV) (a : Option Addr) (c : Nat) : TV := TV.mk t.prod t.kind t.tx a c t.kids
theorem samV_rk (t : TV) (a : Option Addr) (c : Nat) : samV t (t.rk a c) :=
 (samV_iff _ _).2 ⟨rfl, fun _ _ _ => samV_refl _⟩
theorem getAt_app : ∀ (π ρ : List Nat) (t : TV), getAt (π ++ ρ) t = getAt ρ (getAt π t)
 | [], _, _ => rfl
 | i :: π, ρ, t => by rw [List.cons_append, getAt, getAt]; exact getAt_app π ρ _
theorem okP_app : ∀ (π ρ : List Nat) (t : TV), okP (π ++ ρ) t ↔ okP π t /\ okP ρ (getAt π t)
 | [], _, _ => by simp [okP, getAt]
 | i :: π, ρ, t => by rw [List.cons_append, okP, okP, getAt, okP_app π ρ, and_assoc]
theorem adP_app : ∀ (π ρ : List Nat) (p q : Nat) (t : TV), adP (π ++ ρ) p q t = adP ρ (adP π p q t).1 (adP π p q t).2 (getAt π t)
 | [], _, _, _, _ => rfl
 | i :: π, ρ, p, q, t => by rw [List.cons_append, adP, adP, getAt]; exact adP_app π ρ _ _ _
theorem nuP_app : ∀ (π ρ : List Nat) (t : TV), nuP (π ++ ρ) t = nuP π t + nuP ρ (getAt π t)
 | [], _, _ => by simp [nuP, getAt]
 | i :: π, ρ, t => by rw [List.cons_append, nuP, nuP, getAt, nuP_app π ρ]; omega
theorem kid_set {t : TV} {i : Nat} (hi : i < t.kids.length) (k : TV) : (t.sk (t.kids.set i k)).kids.getD i .none = k := by
 have e : (t.sk (t.kids.set i k)).kids = t.kids.set i k := rfl
 rw [e]; simp [List.getD, hi]
theorem ok_set : ∀ (π : List Nat) (t u : TV), okP π t -> okP π (setAt π t u)
 | [], _, _, _ => trivial
 | i :: π, t, u, ⟨hi, hp⟩ => by
  rw [setAt, okP, kid_set hi]
  have e : ∀ k, (t.sk (t.kids.set i k)).kids.length = t.kids.length := fun k => by
   have e : (t.sk (t.kids.set i k)).kids = t.kids.set i k := rfl
   rw [e]; simp
  exact ⟨by rw [e]; exact hi, ok_set π _ u hp⟩
theorem ad_set : ∀ (π : List Nat) (p q : Nat) (t u : TV), okP π t -> adP π p q (setAt π t u) = adP π p q t
 | [], _, _, _, _, _ => rfl
 | i :: π, p, q, t, u, ⟨hi, hp⟩ => by
  have e : ∀ k, kadr (t.sk (t.kids.set i k)) = kadr t := fun _ => rfl
  rw [setAt, adP, adP, kid_set hi, e]
  exact ad_set π _ _ _ u hp
theorem pre_setF {β : Type} (f : TV -> β) (hf : ∀ (t : TV) (ks : List TV), ks.length = t.kids.length -> f (t.sk ks) = f t) : ∀ (π : List Nat) (t : TV), okP π t -> ∃ A B, A.length = nuP π t /\ (preT t).map f = A ++ (preT (getAt π t)).map f ++ B /\
  ∀ u, (preT (setAt π t u)).map f = A ++ (preT u).map f ++ B
 | [], t, _ => ⟨[], [], rfl, by simp [getAt], fun u => by simp [setAt]⟩
 | i :: π, t, ⟨hi, hp⟩ => by
  have eg : t.kids.getD i .none = t.kids[i] := by simp [List.getD, hi]
  rw [eg] at hp
  obtain ⟨A, B, h1, h2, h3⟩ := pre_setF f hf π t.kids[i] hp
  refine ⟨f t :: (preL (t.kids.take i)).map f ++ A, B ++ (preL (t.kids.drop (i + 1))).map f, ?_, ?_, fun u => ?_⟩
  ·simp only [List.cons_append, List.length_cons, List.length_append, List.length_map, preL_len, h1, nuP, eg]; omega
  ·have e : preL t.kids = preL (t.kids.take i) ++ preT t.kids[i] ++ preL (t.kids.drop (i + 1)) := by
    conv => lhs; rw [cut3' hi]
    rw [preL_app, preL_app, preL_one]
   rw [preT_eq, e, getAt, eg]
   simp only [List.map_cons, List.map_append, h2, List.append_assoc, List.cons_append]
  ·have es : setAt (i :: π) t u = t.sk (t.kids.set i (setAt π t.kids[i] u)) := by rw [setAt, eg]
   have e : preL (t.kids.set i (setAt π t.kids[i] u)) = preL (t.kids.take i) ++ preT (setAt π t.kids[i] u) ++ preL (t.kids.drop (i + 1)) := by
    rw [cut3 hi, preL_app, preL_app, preL_one]
   have ek : (t.sk (t.kids.set i (setAt π t.kids[i] u))).kids = t.kids.set i (setAt π t.kids[i] u) := rfl
   rw [es, preT_eq, ek, e]
   simp only [List.map_cons, List.map_append, h3, List.append_assoc, List.cons_append]
   rw [hf t _ (by simp)]
theorem at_path {w : World} : ∀ (π : List Nat) (p q : Nat) (t : TV), TBx w p q t -> TAt w t -> okP π t -> TBx w (adP π p q t).1 (adP π p q t).2 (getAt π t) /\ TAt w (getAt π t)
 | [], _, _, _, hb, ht, _ => ⟨hb, ht⟩
 | i :: π, p, q, t, hb, ht, ⟨hi, hp⟩ => by
  obtain ⟨b, off, e, hbi⟩ := krow_kid ht.row hi
  have ek : kadr t = (b, off) := by unfold kadr; rw [e]
  have eg : t.kids.getD i .none = t.kids[i] := by simp [List.getD, hi]
  rw [adP, getAt, ek]
  rw [eg] at hp ⊢
  exact at_path π b (off + i * 4) t.kids[i] hbi (ht.kid _ (List.getElem_mem hi)) hp
theorem ads_path {p q : Nat} {t : TV} {a : Nat × Nat} (ha : a ∈ adsT p q t) : ∃ π, okP π t /\ a = adP π p q t := by
 obtain ⟨n, hn, rfl⟩ := List.getElem_of_mem ha
 obtain ⟨π, h1, _, h3⟩ := path_ex t p q n (by rw [<- adsT_len t p q]; exact hn)
 rw [List.getElem?_eq_getElem hn] at h3
 exact ⟨π, h1, Option.some.inj h3⟩
theorem ads_lt {w : World} {p q : Nat} {t : TV} (hb : TBx w p q t) (ht : TAt w t) {a : Nat × Nat} (ha : a ∈ adsT p q t) : a.1 < w.heap.size := by
 obtain ⟨π, h1, rfl⟩ := ads_path ha
 exact (at_path π p q t hb ht h1).1.lt
def inL (l : List TV) : List (Nat × Nat) := l.flatMap fun k => adsL (kidsA k)
def rowA (b o s n : Nat) : List (Nat × Nat) := (List.range' s n).map fun i => (b, o + i * 4)
theorem cnt_row (a : Nat × Nat) (b o : Nat) : ∀ (l : List TV) (s : Nat), (adsL (kidF b o s l)).count a = (rowA b o s l.length).count a + (inL l).count a
 | [], s => by simp [kidF, adsL, rowA, inL]
 | k :: l, s => by
  have ih := cnt_row a b o l (s + 1)
  have e1 : rowA b o s (k :: l).length = (b, o + s * 4) :: rowA b o (s + 1) l.length := by simp [rowA, List.range'_succ]
  have e2 : inL (k :: l) = adsL (kidsA k) ++ inL l := by simp [inL]
  rw [kidF, adsL_cons, List.count_append, ih, adsT_eq, e1, e2, List.count_append, List.count_cons, List.count_cons]
  dsimp only
  omega
theorem row_mem {a : Nat × Nat} {b o s n : Nat} (h : a ∈ rowA b o s n) : a.1 = b /\ ∃ i, s <= i /\ a.2 = o + i * 4 := by
 obtain ⟨i, hi, rfl⟩ := List.mem_map.1 h
 exact ⟨rfl, i, (List.mem_range'_1.1 hi).1, rfl⟩
theorem row_one (a : Nat × Nat) (b o : Nat) : ∀ (n s : Nat), (rowA b o s n).count a <= 1
 | 0, _ => by simp [rowA]
 | n + 1, s => by
  have e1 : rowA b o s (n + 1) = (b, o + s * 4) :: rowA b o (s + 1) n := by simp [rowA, List.range'_succ]
  have ih := row_one a b o n (s + 1)
  rw [e1, List.count_cons]
  split
  ·rename_i h
   have h : (b, o + s * 4) = a := by simpa using h
   have : (rowA b o (s + 1) n).count a = 0 := List.count_eq_zero.2 fun hm => by
    obtain ⟨_, i, hi, h2⟩ := row_mem hm
    subst h
    simp only at h2
    omega
   omega
  ·omega
def stkI : List Nat -> Nat -> Nat -> TV -> List PA
 | [], _, _, _ => []
 | i :: π, p, q, t => (p, q, i + 1) :: stkI π (kadr t).1 ((kadr t).2 + i * 4) (t.kids.getD i .none)
theorem stkI_len : ∀ (π : List Nat) (p q : Nat) (t : TV), (stkI π p q t).length = π.length
 | [], _, _, _ => rfl
 | i :: π, p, q, t => by simp [stkI, stkI_len π]
theorem stkI_snoc (i : Nat) : ∀ (π : List Nat) (p q : Nat) (t : TV), stkI (π ++ [i]) p q t = stkI π p q t ++ [((adP π p q t).1, (adP π p q t).2, i + 1)]
 | [], _, _, _ => rfl
 | j :: π, p, q, t => by rw [List.cons_append, stkI, stkI_snoc i π, stkI, adP]; rfl
theorem stkI_set : ∀ (π : List Nat) (p q : Nat) (t u : TV), okP π t -> stkI π p q (setAt π t u) = stkI π p q t
 | [], _, _, _, _, _ => rfl
 | i :: π, p, q, t, u, ⟨hi, hp⟩ => by
  have e : ∀ k, kadr (t.sk (t.kids.set i k)) = kadr t := fun _ => rfl
  rw [setAt, stkI, stkI, kid_set hi, e]
  rw [stkI_set π _ _ _ u hp]
theorem nu_len : ∀ (π : List Nat) (t : TV), π.length <= nuP π t
 | [], _ => Nat.zero_le _
 | i :: π, t => by
  have := nu_len π (t.kids.getD i .none)
  rw [nuP, List.length_cons]; omega
end Go.Proofs.YteciabdjkaackaaGreat
