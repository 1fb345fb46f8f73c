import Derived.Test.YtccednepbkjajaaPTB25
import Derived.Test.YtccednepbkjajaaPGT5ToGOk2
import Derived.Test.YtccednepbkjajaaPTRvToTRw
namespace Go.Proofs.Ytccednepbkjajaa
set_option linter.unusedVariables false
open Go.RowKit
def nds (t : TV) : List Int := nodP (preT t)
def lvs (t : TV) : List (Int × ByteArray) := (leafT (preT t)).map tkV
theorem nds_eq (t : TV) : nds t = (if t.prod = -1 then [] else [t.prod]) ++ t.kids.flatMap nds := by
 have e : ∀ l : List TV, nodP (preL l) = l.flatMap nds := fun l => by
  induction l with
  | nil => rfl
  | cons a l ih => rw [preL, List.flatMap_cons, nodP_app, List.flatMap_cons, <- ih]; rfl
 unfold nds
 rw [preT_eq, <- List.singleton_append, nodP_app, e]
 congr 1
 unfold nodP
 by_cases h : t.prod = -1
 ·simp [h]
 ·simp [h]
theorem lvs_eq (t : TV) : lvs t = (if t.prod = -1 then [tkV t] else []) ++ t.kids.flatMap lvs := by
 have e : ∀ l : List TV, (leafT (preL l)).map tkV = l.flatMap lvs := fun l => by
  induction l with
  | nil => rfl
  | cons a l ih => rw [preL, List.flatMap_cons, leafT_app, List.map_append, List.flatMap_cons, <- ih]; rfl
 unfold lvs
 rw [preT_eq, <- List.singleton_append, leafT_app, List.map_append, e]
 congr 1
 unfold leafT
 by_cases h : t.prod = -1
 ·simp [h]
 ·simp [h]
def Gd1 (g : GV) (x : TV) : Prop := alTU g x = 0 /\ (x.prod ≠ -1 -> x.kids.map (rootU g) = rightU g x)
def GdT (g : GV) (t : TV) : Prop := AllP (Gd1 g) t
theorem gd_leaf {g : GV} {t : TV} (h : Gd1 g t) (hp : t.prod = -1) : 0 <= t.kind /\ t.kind < g.ts.length /\ t.kids = [] := by
 have := h.1
 unfold alTU at this
 rw [if_pos hp] at this
 split at this
 ·cases this
 ·rename_i q
  refine ⟨by omega, by omega, List.eq_nil_of_length_eq_zero (by omega)⟩
theorem gd_node {g : GV} {t : TV} (h : Gd1 g t) (hp : ¬ t.prod = -1) : 0 <= t.prod /\ t.prod < g.ps.length /\ t.kind = 0 /\ t.tx.toList = [] /\ t.kids.length = (rightU g t).length := by
 have := h.1
 unfold alTU at this
 rw [if_neg hp] at this
 split at this
 ·cases this
 ·rename_i q
  simp only [not_or, Decidable.not_not] at q
  obtain ⟨a, b, c, d, e⟩ := q
  exact ⟨by omega, by omega, c, d, e⟩
theorem ckL_er {g : GV} : ∀ (r : List (Int × Int)) (l : List TV), l.map (rootU g) = r -> (∀ k ∈ l, ∀ s, rootU g k = s -> ∀ x ∈ ckT g s true k, erU g x = 0) -> ∀ x ∈ ckL g r l, erU g x = 0
 | _, [], _, _, x, hx => by rw [ckL_nil] at hx; cases hx
 | r, t :: l, hr, h, x, hx => by
  rw [ckL_cons] at hx
  rw [List.map_cons] at hr
  subst hr
  rcases List.mem_append.1 hx with hx | hx
  ·exact h t (List.mem_cons_self ..) _ rfl x hx
  ·exact ckL_er _ l rfl (fun k hk => h k (List.mem_cons_of_mem _ hk)) x hx
theorem gd_er {g : GV} (t : TV) : GdT g t -> ∀ s u, (u = true -> rootU g t = s) -> ∀ x ∈ ckT g s u t, erU g x = 0 := by
 induction t using TV.ind with
 | _ t ih =>
  intro h s u hu x hx
  have h1 := AllP.here h
  rw [ckT_eq] at hx
  rcases List.mem_cons.1 hx with rfl | hx
  ·unfold erU
   rw [if_neg (by simp [h1.1]), if_neg (fun q => q.2 (hu q.1))]
  ·by_cases hp : t.prod = -1
   ·rw [(gd_leaf h1 hp).2.2, ckL_nil] at hx
    cases hx
   ·exact ckL_er _ _ (h1.2 hp) (fun k hk s hs => ih k hk (AllP.kid h k hk) s true fun _ => hs) x hx
theorem er_gd {g : GV} (t : TV) : ∀ s u, (∀ x ∈ ckT g s u t, erU g x = 0) -> GdT g t := by
 induction t using TV.ind with
 | _ t ih =>
  intro s u h
  have h0 := h ⟨t, 0, s, u⟩ (by rw [ckT_eq]; exact List.mem_cons_self ..)
  have hal : alTU g t = 0 := by
   unfold erU at h0
   by_cases q : alTU g t = 0
   ·exact q
   ·rw [if_pos q] at h0
    exact h0
  have hL : ∀ x ∈ ckL g (rightU g t) t.kids, erU g x = 0 := fun x hx => h x (by rw [ckT_eq]; exact List.mem_cons_of_mem _ hx)
  refine AllP.mk ⟨hal, fun hp => ?_⟩ fun k hk => ?_
  ·have hl : t.kids.length = (rightU g t).length := by
    unfold alTU at hal
    rw [if_neg hp] at hal
    split at hal
    ·cases hal
    ·rename_i q
     simp only [not_or, Decidable.not_not] at q
     exact q.2.2.2.2
   exact ckL_roots _ _ hl hL
  ·obtain ⟨s', hs'⟩ := ckL_mem (g := g) (rightU g t) t.kids k hk
   exact ih k hk s' true fun x hx => hL x (hs' x hx)
theorem run_all {g : GV} : ∀ (l : List SP) (n : Nat), (∀ x ∈ l, erU g x = 0) -> runU g l n = (0, n + l.length)
 | [], _, _ => rfl
 | y :: l, n, h => by
  rw [runU, if_neg (by simp [h y (List.mem_cons_self ..)]), run_all l (n + 1) fun x hx => h x (List.mem_cons_of_mem _ hx), List.length_cons]
  congr 1
  omega
theorem ck_len {g : GV} (t : TV) : ∀ s u, (ckT g s u t).length = szT t := by
 induction t using TV.ind with
 | _ t ih =>
  intro s u
  have e : ∀ (l : List TV) (r : List (Int × Int)), (∀ k ∈ l, ∀ s u, (ckT g s u k).length = szT k) -> (ckL g r l).length = szL l := fun l => by
   induction l with
   | nil => intro r _; rw [ckL_nil]; rfl
   | cons a l il =>
    intro r h
    rw [ckL_cons, List.length_append, il _ fun k hk => h k (List.mem_cons_of_mem _ hk), h a (List.mem_cons_self ..), szL_cons]
  rw [ckT_eq, List.length_cons, szT_eq, e _ _ ih]
theorem gd_run {g : GV} {t : TV} (h : GdT g t) : runU g (ckT g (0, 0) false t) 0 = (0, szT t) := by
 rw [run_all _ _ (gd_er t h (0, 0) false fun e => by cases e), ck_len, Nat.zero_add]
theorem run_gd {g : GV} {t : TV} (h : (runU g (ckT g (0, 0) false t) 0).1 = 0) : GdT g t := er_gd t _ _ (runU_zero _ _ h)
def rgP (g : GV) (p : Int) : List (Int × Int) := (g.ps.getD p.toNat .none).right
def lfP (g : GV) (p : Int) : Int := (g.ps.getD p.toNat .none).left
structure FOk (g : GV) (f : FrB) : Prop where
 ok : OkF g f
 rt : f.ks.map (rootU g) = (rgP g f.p).take f.ks.length
 gd : ∀ k ∈ f.ks, GdT g k
def lnk (g : GV) (f : FrB) : List FrB -> Prop
 | [] => True
 | f' :: _ => (rgP g f'.p)[f'.ks.length]? = some (2, lfP g f.p)
def WfS (g : GV) : List FrB -> Prop
 | [] => True
 | f :: S => FOk g f /\ lnk g f S /\ WfS g S
theorem WfS.pos {g : GV} : ∀ {S : List FrB}, WfS g S -> ∀ f ∈ S, 0 <= f.p
 | [], _, f, hf => by cases hf
 | f' :: S, h, f, hf => by
  rcases List.mem_cons.1 hf with rfl | hf
  ·exact h.1.ok.1
  ·exact WfS.pos h.2.2 f hf
theorem FOk.tree {g : GV} {f : FrB} (h : FOk g f) (hk : f.ks.length = f.k) : GdT g (ndT f) /\ rootU g (ndT f) = (2, lfP g f.p) := by
 obtain ⟨h1, h2, h3⟩ := h.ok
 have hr : f.ks.map (rootU g) = rgP g f.p := by
  rw [h.rt, hk, h3]
  exact List.take_length
 have hl : f.ks.length = (rgP g f.p).length := by rw [<- hr, List.length_map]
 have e1 : (ndT f).prod = f.p := rfl
 have e2 : (ndT f).kind = 0 := rfl
 have e3 : (ndT f).tx = ByteArray.empty := rfl
 have e4 : (ndT f).kids = f.ks := rfl
 have e5 : rightU g (ndT f) = rgP g f.p := rfl
 refine ⟨AllP.mk ⟨?_, fun _ => by rw [e4, e5]; exact hr⟩ (by rw [e4]; exact h.gd), ?_⟩
 ·unfold alTU
  rw [e1, e2, e3, e4, e5, if_neg (by omega), if_neg]
  simp only [not_or, Decidable.not_not]
  refine ⟨by omega, by omega, trivial, ?_, hl⟩
  rw [ByteArray.toList_eq]; rfl
 ·unfold rootU
  rw [e1, if_neg (by omega), if_pos ⟨h1, h2⟩]
  rfl
theorem FOk.add {g : GV} {f : FrB} (h : FOk g f) {t : TV} (ht : GdT g t) (hr : (rgP g f.p)[f.ks.length]? = some (rootU g t)) : FOk g ⟨f.p, f.k, f.ks ++ [t]⟩ := by
 refine ⟨h.ok, ?_, fun k hk => ?_⟩
 ·show (f.ks ++ [t]).map (rootU g) = (rgP g f.p).take (f.ks ++ [t]).length
  rw [List.map_append, h.rt, List.length_append, List.length_singleton, List.take_add_one, hr]
  rfl
 ·rcases List.mem_append.1 hk with hk | hk
  ·exact h.gd k hk
  ·simp only [List.mem_cons, List.not_mem_nil, or_false] at hk
   rw [hk]; exact ht
theorem WfS.add {g : GV} {S : List FrB} {t : TV} (h : WfS g S) (ht : GdT g t) (hl : ∀ f ∈ S.head?, (rgP g f.p)[f.ks.length]? = some (rootU g t)) : WfS g (adA ([], S) t).2 := by
 cases S with
 | nil => exact trivial
 | cons f S =>
  obtain ⟨h1, h2, h3⟩ := h
  refine ⟨h1.add ht (hl f (by simp)), ?_, h3⟩
  cases S with
  | nil => trivial
  | cons f' S => exact h2
def clnF : Nat -> TV -> TV
 | 0, t => t
 | n + 1, t => if t.prod = -1 then lfT t.kind t.tx else ndT ⟨t.prod, 0, t.kids.map (clnF n)⟩
def cln (t : TV) : TV := clnF (tsz t) t
theorem clnF_any : ∀ (n m : Nat) (t : TV), tsz t <= n -> tsz t <= m -> clnF n t = clnF m t
 | 0, _, t, h, _ => by have := tsz_pos t; omega
 | _ + 1, 0, t, _, h => by have := tsz_pos t; omega
 | n + 1, m + 1, t, h, h' => by
  rw [clnF, clnF]
  congr 3
  exact mp_congr _ fun k hk => clnF_any n m k (by have := kid_lt hk; omega) (by have := kid_lt hk; omega)
theorem cln_eq (t : TV) : cln t = if t.prod = -1 then lfT t.kind t.tx else ndT ⟨t.prod, 0, t.kids.map cln⟩ := by
 obtain ⟨n, hn⟩ : ∃ n, tsz t = n + 1 := ⟨tsz t - 1, by have := tsz_pos t; omega⟩
 conv => lhs; unfold cln
 rw [hn, clnF]
 congr 3
 exact mp_congr _ fun k hk => clnF_any _ _ k (by have := kid_lt hk; omega) (Nat.le_refl _)
theorem ba_nil {x : ByteArray} (h : x.toList = []) : x = ByteArray.empty := by
 rw [ByteArray.toList_eq] at h
 exact ByteArray.ext (Array.toList_inj.1 h)
theorem cln_sam {g : GV} (t : TV) : GdT g t -> samV (cln t) t := by
 induction t using TV.ind with
 | _ t ih =>
  intro h
  have h1 := AllP.here h
  rw [cln_eq]
  by_cases hp : t.prod = -1
  ·obtain ⟨a, b, c⟩ := gd_leaf h1 hp
   rw [if_pos hp]
   refine (samV_iff _ _).2 ⟨?_, fun i hi => by cases hi⟩
   unfold sgV
   show ((-1 : Int), t.kind, t.tx, 0) = _
   rw [c, hp]
   rfl
  ·obtain ⟨a, b, c, d, e⟩ := gd_node h1 hp
   rw [if_neg hp]
   refine (samV_iff _ _).2 ⟨?_, fun i hi hi' => ?_⟩
   ·unfold sgV
    show (t.prod, (0 : Int), ByteArray.empty, (t.kids.map cln).length) = _
    rw [c, ba_nil d, List.length_map]
   ·have e3 : (ndT ⟨t.prod, 0, t.kids.map cln⟩).kids[i]'hi = cln (t.kids[i]'hi') := by
     show (t.kids.map cln)[i]'(by simpa using hi') = _
     simp
    rw [e3]
    exact ih _ (List.getElem_mem hi') (AllP.kid h _ (List.getElem_mem hi'))
theorem wordU_at {L : List (Int × ByteArray)} {r : Nat} {q : Int × ByteArray} {R : List (Int × ByteArray)} (h : L.drop r = q :: R) : r < L.length /\ L.getD r (0, ByteArray.empty) = q /\ L.drop (r + 1) = R := by
 have hr : r < L.length := Classical.byContradiction fun e => by
  rw [List.drop_eq_nil_of_le (by omega)] at h; cases h
 rw [List.drop_eq_getElem_cons hr] at h
 simp only [List.cons.injEq] at h
 exact ⟨hr, by simp [List.getD, hr, h.1], h.2⟩
theorem prodU_at {l : List Int} {r : Nat} {q : Int} {R : List Int} (h : l.drop r = q :: R) : r < l.length /\ l.getD r 0 = q /\ l.drop (r + 1) = R := by
 have hr : r < l.length := Classical.byContradiction fun e => by
  rw [List.drop_eq_nil_of_le (by omega)] at h; cases h
 rw [List.drop_eq_getElem_cons hr] at h
 simp only [List.cons.injEq] at h
 exact ⟨hr, by simp [List.getD, hr, h.1], h.2⟩
theorem drop_app {β : Type} {l a b : List β} {u : Nat} (h : l.drop u = a ++ b) : l.drop (u + a.length) = b := by
 rw [<- List.drop_drop, h, List.drop_left]
def SimT (g : GV) (t : TV) : Prop := ∀ (l : List Int) (L : List (Int × ByteArray)) (n : Nat) (x : DvU) (R1 : List Int) (R2 : List (Int × ByteArray)), l.drop x.u = nds t ++ R1 -> L.drop x.r = lvs t ++ R2 -> nextU g l x.A = rootU g t -> wholeU x.A = false -> derU g l L (n + szT t) x = derU g l L n ⟨x.u + (nds t).length, x.r + (lvs t).length, clU2 (adA x.A (cln t))⟩
theorem sim_kids {g : GV} {l : List Int} {L : List (Int × ByteArray)} {p : Int} {k : Nat} {D : List TV} {S : List FrB} {n : Nat} : ∀ (ks2 ks1 : List TV) (u r : Nat) (R1 : List Int) (R2 : List (Int × ByteArray)), ks2 ≠ [] -> (∀ t ∈ ks2, SimT g t) -> k = ks1.length + ks2.length -> (∀ i (h : i < ks2.length), (rgP g p).getD (ks1.length + i) (0, 0) = rootU g ks2[i]) ->
  l.drop u = ks2.flatMap nds ++ R1 -> L.drop r = ks2.flatMap lvs ++ R2 -> derU g l L (n + szL ks2) ⟨u, r, (D, ⟨p, k, ks1⟩ :: S)⟩ = derU g l L n ⟨u + (ks2.flatMap nds).length, r + (ks2.flatMap lvs).length, clU2 (adA (D, S) (ndT ⟨p, k, ks1 ++ ks2.map cln⟩))⟩
 | [], _, _, _, _, _, h, _, _, _, _, _ => absurd rfl h
 | t :: ks2, ks1, u, r, R1, R2, _, hs, hk, hr, hd1, hd2 => by
  rw [List.flatMap_cons, List.append_assoc] at hd1 hd2
  have h0 := hr 0 (by simp)
  simp only [Nat.add_zero, List.getElem_cons_zero] at h0
  have hsim := hs t (List.mem_cons_self ..) l L (n + szL ks2) ⟨u, r, (D, ⟨p, k, ks1⟩ :: S)⟩ _ _ hd1 hd2 h0 rfl
  have e1 : n + szL (t :: ks2) = n + szL ks2 + szT t := by rw [szL_cons]; omega
  rw [e1, hsim]
  have e2 : adA (D, ⟨p, k, ks1⟩ :: S) (cln t) = (D, ⟨p, k, ks1 ++ [cln t]⟩ :: S) := rfl
  dsimp only
  rw [e2, clU2_cons]
  cases ks2 with
  | nil =>
   rw [if_pos (by simp only [List.length_append, List.length_cons, List.length_nil] at hk ⊢; omega)]
   simp only [List.flatMap_cons, List.flatMap_nil, List.append_nil, List.map_cons, List.map_nil]
   rfl
  | cons t2 ks3 =>
   rw [if_neg (by simp only [List.length_append, List.length_cons, List.length_nil] at hk ⊢; omega)]
   have IH := sim_kids (g := g) (l := l) (L := L) (p := p) (k := k) (D := D) (S := S) (n := n) (t2 :: ks3) (ks1 ++ [cln t]) (u + (nds t).length) (r + (lvs t).length) R1 R2 (by simp) (fun x hx => hs x (List.mem_cons_of_mem _ hx)) (by simp only [List.length_append, List.length_cons, List.length_nil] at hk ⊢; omega) (fun i hi => by
    have := hr (i + 1) (by simp only [List.length_cons] at hi ⊢; omega)
    simp only [List.getElem_cons_succ] at this
    rw [List.length_append, List.length_singleton, Nat.add_assoc, Nat.add_comm 1 i]
    exact this) (drop_app hd1) (drop_app hd2)
   rw [IH]
   have e3 : ks1 ++ [cln t] ++ (t2 :: ks3).map cln = ks1 ++ (t :: t2 :: ks3).map cln := by simp
   have e4 : u + (nds t).length + ((t2 :: ks3).flatMap nds).length = u + ((t :: t2 :: ks3).flatMap nds).length := by
    rw [List.flatMap_cons (xs := t2 :: ks3), List.length_append]; omega
   have e5 : r + (lvs t).length + ((t2 :: ks3).flatMap lvs).length = r + ((t :: t2 :: ks3).flatMap lvs).length := by
    rw [List.flatMap_cons (xs := t2 :: ks3), List.length_append]; omega
   rw [e3, e4, e5]
theorem sim_tree {g : GV} (t : TV) : GdT g t -> SimT g t := by
 induction t using TV.ind with
 | _ t ih =>
  intro h l L n x R1 R2 hd1 hd2 hnx hw
  obtain ⟨u, r, D, S⟩ := x
  have h1 := AllP.here h
  dsimp only at hd1 hd2 hnx hw ⊢
  rw [nds_eq] at hd1
  rw [lvs_eq] at hd2
  by_cases hp : t.prod = -1
  ·obtain ⟨a, b, c⟩ := gd_leaf h1 hp
   rw [if_pos hp, c] at hd1 hd2
   simp only [List.flatMap_nil, List.append_nil, List.nil_append, List.cons_append] at hd1 hd2
   obtain ⟨r1, r2, r3⟩ := wordU_at hd2
   have e0 : szT t = 0 + 1 := by rw [szT_eq, c]; rfl
   have hro : rootU g t = (1, t.kind) := by
    unfold rootU
    rw [if_pos ⟨hp, a, b⟩]
   rw [e0, Nat.zero_add, derU, if_neg (by rw [hw]; decide)]
   have hst : stepU g l L ⟨u, r, (D, S)⟩ = .inr ⟨u, r + 1, clU2 (adA (D, S) (wordU L r))⟩ := by
    unfold stepU
    dsimp only
    rw [hnx, hro, if_pos rfl, if_neg (by omega), r2]
    exact if_pos rfl
   rw [hst]
   dsimp only
   have e1 : nds t = [] := by rw [nds_eq, if_pos hp, c]; rfl
   have e2 : lvs t = [tkV t] := by rw [lvs_eq, if_pos hp, c]; rfl
   have e3 : cln t = wordU L r := by
    rw [cln_eq, if_pos hp]
    unfold wordU
    rw [r2]
    rfl
   rw [e1, e2, e3]
   rfl
  ·obtain ⟨a, b, c, d, e⟩ := gd_node h1 hp
   have hks := h1.2 hp
   rw [if_neg hp] at hd1 hd2
   simp only [List.cons_append, List.nil_append] at hd1 hd2
   obtain ⟨u1, u2, u3⟩ := prodU_at hd1
   have hro : rootU g t = (2, lfP g t.prod) := by
    unfold rootU
    rw [if_neg (fun q => hp q.1), if_pos ⟨a, b⟩]
    rfl
   have hst : stepU g l L ⟨u, r, (D, S)⟩ = .inr ⟨u + 1, r, clU2 (D, prodU2 g t.prod :: S)⟩ := by
    unfold stepU
    dsimp only
    rw [hnx, hro, if_neg (by simp), if_neg (by omega), u2]
    exact if_pos rfl
   have ez : n + szT t = (n + szL t.kids) + 1 := by rw [szT_eq]; omega
   rw [ez, derU, if_neg (by rw [hw]; decide), hst]
   dsimp only
   have e1 : (nds t).length = 1 + (t.kids.flatMap nds).length := by rw [nds_eq, if_neg hp, List.length_append, List.length_singleton]
   have e2 : (lvs t).length = (t.kids.flatMap lvs).length := by rw [lvs_eq, if_neg hp, List.nil_append]
   have e3 : cln t = ndT ⟨t.prod, 0, t.kids.map cln⟩ := by rw [cln_eq, if_neg hp]
   rw [clU2_cons]
   by_cases hk0 : t.kids = []
   ·have e4 : (prodU2 g t.prod).ks.length = (prodU2 g t.prod).k := by
     show 0 = (rgP g t.prod).length
     have := e
     rw [hk0] at this
     exact this
    rw [if_pos e4, e1, e2, e3, hk0]
    rfl
   ·have e4 : ¬ (prodU2 g t.prod).ks.length = (prodU2 g t.prod).k := by
     show ¬ 0 = (rgP g t.prod).length
     have h5 : t.kids.length = (rgP g t.prod).length := e
     have := List.length_pos_iff.2 hk0
     omega
    rw [if_neg e4]
    have := sim_kids (g := g) (l := l) (L := L) (p := t.prod) (k := (rgP g t.prod).length) (D := D) (S := S) (n := n) t.kids [] (u + 1) r R1 R2 hk0 (fun k hk => ih k hk (AllP.kid h k hk)) (by rw [<- show t.kids.length = (rgP g t.prod).length from e]; simp) (fun i hi => by
     have q : t.kids.map (rootU g) = rgP g t.prod := hks
     rw [<- q, List.length_nil, Nat.zero_add]
     simp [List.getD, hi]) u3 hd2
    have e5 : (⟨t.prod, (rgP g t.prod).length, []⟩ : FrB) = prodU2 g t.prod := rfl
    rw [<- e5, this, e1, e2, e3, Nat.add_assoc u 1]
    rfl
theorem sz_nl (t : TV) : szT t = (nds t).length + (lvs t).length := by
 induction t using TV.ind with
 | _ t ih =>
  have e : ∀ l : List TV, (∀ k ∈ l, szT k = (nds k).length + (lvs k).length) -> szL l = (l.flatMap nds).length + (l.flatMap lvs).length := fun l => by
   induction l with
   | nil => intro _; rfl
   | cons a l il =>
    intro h
    rw [szL_cons, h a (List.mem_cons_self ..), il fun k hk => h k (List.mem_cons_of_mem _ hk), List.flatMap_cons, List.flatMap_cons, List.length_append, List.length_append]
    omega
  rw [szT_eq, e _ ih, nds_eq, lvs_eq, List.length_append, List.length_append]
  by_cases hp : t.prod = -1
  ·rw [if_pos hp, if_pos hp]; simp; omega
  ·rw [if_neg hp, if_neg hp]; simp; omega
theorem derive_of {g : GV} {t : TV} (h : GdT g t) (hp : ¬ t.prod = -1) : deriveU g (nds t) (lvs t) = (some (cln t), 0, 0) := by
 obtain ⟨a, b, -⟩ := gd_node (AllP.here h) hp
 have hn : nds t = t.prod :: t.kids.flatMap nds := by rw [nds_eq, if_neg hp]; rfl
 have hs := sim_tree t h (nds t) (lvs t) 1 ⟨0, 0, ([], [])⟩ [] [] (by simp) (by simp) (by
  unfold rootU
  rw [if_neg (fun q => hp q.1), if_pos ⟨a, b⟩]
  show (2, (g.ps.getD ((nds t).getD 0 0).toNat .none).left) = _
  rw [hn]
  rfl) rfl
 have ez : (nds t).length + (lvs t).length + 1 = 1 + szT t := by rw [sz_nl]; omega
 have hw : wholeU (clU2 (adA ([], []) (cln t))) = true := rfl
 unfold deriveU
 rw [ez, hs, derU, if_pos hw]
 dsimp only
 rw [if_neg (by omega), if_neg (by omega)]
 rfl
theorem fm_rev {β : Type} (f : TV -> List β) : ∀ l : List TV, (l.flatMap f).reverse = l.reverse.flatMap fun t => (f t).reverse
 | [] => rfl
 | a :: l => by rw [List.flatMap_cons, List.reverse_append, fm_rev f l, List.reverse_cons, List.flatMap_append]; simp
theorem fm_cg {β : Type} {f h : TV -> List β} : ∀ l : List TV, (∀ t ∈ l, f t = h t) -> l.flatMap f = l.flatMap h
 | [], _ => rfl
 | a :: l, q => by rw [List.flatMap_cons, List.flatMap_cons, q a (List.mem_cons_self ..), fm_cg l fun t ht => q t (List.mem_cons_of_mem _ ht)]
def ndr (t : TV) : List Int := nodP (posT t)
theorem ndr_eq (t : TV) : ndr t = t.kids.flatMap ndr ++ (if t.prod = -1 then [] else [t.prod]) := by
 have e : ∀ l : List TV, nodP (posL l) = l.flatMap ndr := fun l => by
  induction l with
  | nil => rfl
  | cons a l ih => rw [posL, List.flatMap_cons, nodP_app, List.flatMap_cons, <- ih]; rfl
 unfold ndr
 rw [posT_eq, nodP_app, e]
 congr 1
 unfold nodP
 by_cases h : t.prod = -1
 ·simp [h]
 ·simp [h]
theorem nds_mir (t : TV) : nds (mirT t) = (ndr t).reverse := by
 induction t using TV.ind with
 | _ t ih =>
  rw [nds_eq, ndr_eq, mir_kids, mir_prod, List.reverse_append, fm_rev, <- List.map_reverse, List.flatMap_map]
  congr 1
  ·split <;> rfl
  ·exact fm_cg _ fun k hk => ih k (by simpa using hk)
theorem ndr_len (t : TV) : (ndr t).length = (nds t).length := by
 induction t using TV.ind with
 | _ t ih =>
  have e : ∀ l : List TV, (∀ k ∈ l, (ndr k).length = (nds k).length) -> (l.flatMap ndr).length = (l.flatMap nds).length := fun l => by
   induction l with
   | nil => intro _; rfl
   | cons a l il =>
    intro q
    rw [List.flatMap_cons, List.flatMap_cons, List.length_append, List.length_append, q a (List.mem_cons_self ..), il fun k hk => q k (List.mem_cons_of_mem _ hk)]
  rw [ndr_eq, nds_eq, List.length_append, List.length_append, e _ ih]
  omega
theorem lvs_mir {g : GV} (t : TV) : GdT g t -> lvs (mirT t) = (lvs t).reverse := by
 induction t using TV.ind with
 | _ t ih =>
  intro h
  have h1 := AllP.here h
  have et : tkV (mirT t) = tkV t := by unfold tkV; rw [mir_kind, mir_tx]
  rw [lvs_eq, lvs_eq t, mir_kids, mir_prod, et, List.reverse_append, fm_rev, <- List.map_reverse, List.flatMap_map]
  by_cases hp : t.prod = -1
  ·rw [(gd_leaf h1 hp).2.2, if_pos hp]
   rfl
  ·rw [if_neg hp, List.nil_append, List.reverse_nil, List.append_nil]
   exact fm_cg _ fun k hk => ih k (by simpa using hk) (AllP.kid h k (by simpa using hk))
theorem rev_at (g : GV) (n : Nat) : (g.rev.ps.getD n .none).left = (g.ps.getD n .none).left /\ (g.rev.ps.getD n .none).right = (g.ps.getD n .none).right.reverse := by
 have e : g.rev.ps.getD n .none = (g.ps.getD n .none).rev := by
  simp only [GV.rev, List.getD, List.getElem?_map]
  cases g.ps[n]? <;> rfl
 rw [e]
 exact ⟨rfl, rfl⟩
theorem root_mir (g : GV) (t : TV) : rootU g.rev (mirT t) = rootU g t := by
 unfold rootU
 rw [mir_prod, mir_kind, (rev_at g _).1]
 have e1 : g.rev.ts = g.ts := rfl
 have e2 : g.rev.ps.length = g.ps.length := by simp [GV.rev]
 rw [e1, e2]
theorem gd_mir {g : GV} (t : TV) : GdT g t -> GdT g.rev (mirT t) := by
 induction t using TV.ind with
 | _ t ih =>
  intro h
  have h1 := AllP.here h
  have e1 : g.rev.ts = g.ts := rfl
  have e2 : g.rev.ps.length = g.ps.length := by simp [GV.rev]
  have e3 : rightU g.rev (mirT t) = (rightU g t).reverse := by
   unfold rightU
   rw [mir_prod]
   exact (rev_at g _).2
  refine AllP.mk ⟨?_, fun hp => ?_⟩ fun k hk => ?_
  ·have := h1.1
   unfold alTU at this ⊢
   rw [mir_prod, mir_kind, mir_tx, mir_kids, e1, e2, e3, List.length_reverse, List.length_map, List.length_reverse]
   exact this
  ·rw [mir_prod] at hp
   rw [mir_kids, e3, List.map_reverse, List.map_map, <- h1.2 hp]
   congr 1
   exact mp_congr _ fun k _ => root_mir g k
  ·rw [mir_kids] at hk
   obtain ⟨k', hk', rfl⟩ := List.mem_map.1 (List.mem_reverse.1 hk)
   exact ih k' hk' (AllP.kid h k' hk')
theorem mir_of {g : GV} {t : TV} (h : GdT g t) (hp : ¬ t.prod = -1) : ∃ t', mirU g (ndr t) (lvs t) = (some t', 0, 0) /\ samV t' t := by
 have h1 := gd_mir t h
 have := derive_of h1 (by rw [mir_prod]; exact hp)
 rw [nds_mir, lvs_mir t h] at this
 refine ⟨mirT (cln (mirT t)), ?_, samV_trans _ _ _ (mir_same _ _ (cln_sam _ h1)) (mir_mir t)⟩
 unfold mirU
 rw [this]
end Go.Proofs.Ytccednepbkjajaa
