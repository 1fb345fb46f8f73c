import Derived.Test.YtndbdliaidbocaaPPR4ToPR5
import Derived.Test.YtndbdliaidbocaaPGOkToGUp
import Derived.Test.YtndbdliaidbocaaPTDgToTDe
namespace Go.Proofs.Ytndbdliaidbocaa
set_option linter.unusedVariables false
open Go.RowKit Go.PlainAid
def WdL (l : List UInt8) : Prop := l ≠ [] /\ ∀ c ∈ l, c ≠ 32 /\ c ≠ 41 /\ c ≠ 39 /\ c ≠ 40
def QtL (l : List UInt8) : Prop := ∃ m, l = 39 :: (m ++ [39]) /\ ∀ c ∈ m, c ≠ 39
theorem bt_mem {s : ByteArray} {c : UInt8} (h : c ∈ s.data.toList) : ∃ k, k < s.size /\ bt s k = (c.toNat : Int) := by
 obtain ⟨i, hi, rfl⟩ := List.getElem_of_mem h
 have hi' : i < s.size := by rw [Array.length_toList] at hi; exact hi
 refine ⟨i, hi', ?_⟩
 unfold bt
 rw [dif_pos hi']
 rfl
theorem wordC_ne {c : UInt8} (h : wordC (c.toNat : Int) = true) : c ≠ 32 /\ c ≠ 41 /\ c ≠ 39 /\ c ≠ 40 := by
 refine ⟨?_, ?_, ?_, ?_⟩ <;> (rintro rfl; revert h; decide)
theorem wdL_of {s : ByteArray} (h : wordS s = true) : WdL s.data.toList := by
 simp only [wordS, Bool.and_eq_true, decide_eq_true_eq, List.all_eq_true, List.mem_range] at h
 obtain ⟨⟨⟨h1, _⟩, _⟩, h2⟩ := h
 refine ⟨fun e => ?_, fun c hc => ?_⟩
 ·have : s.data.toList.length = 0 := by rw [e]; rfl
  rw [Array.length_toList] at this
  have : s.size = 0 := this
  omega
 ·obtain ⟨k, hk, e⟩ := bt_mem hc
  have := h2 k hk
  rw [e] at this
  exact wordC_ne this
theorem qtL_of {s : ByteArray} (h : quotedS s = true) : QtL s.data.toList := by
 simp only [quotedS, Bool.and_eq_true, decide_eq_true_eq, List.all_eq_true, List.mem_range, beq_iff_eq] at h
 obtain ⟨⟨⟨⟨h1, _⟩, h2⟩, h3⟩, h4⟩ := h
 obtain ⟨l, hl⟩ : ∃ l, s.data.toList = l := ⟨_, rfl⟩
 have hlen : l.length = s.size := by rw [<- hl, Array.length_toList]; rfl
 have hbt : ∀ k (hk : k < l.length), bt s k = ((l[k]).toNat : Int) := fun k hk => by
  have hk' : k < s.size := by omega
  subst hl
  unfold bt
  rw [dif_pos hk']
  rfl
 rw [hl]
 have e39 : ∀ c : UInt8, (c.toNat : Int) = 39 -> c = 39 := fun c hc => by
  apply UInt8.toNat_inj.1
  have : (39 : UInt8).toNat = 39 := rfl
  omega
 have hd : l[0]'(by omega) = 39 := e39 _ (by rw [<- hbt 0 (by omega)]; exact h2)
 have hlst : l[s.size - 1]'(by omega) = 39 := e39 _ (by rw [<- hbt (s.size - 1) (by omega)]; exact h3)
 refine ⟨(l.drop 1).dropLast, ?_, fun c hc => ?_⟩
 ·match l, hlen, hd, hlst, h1 with
  | [], hlen, _, _, h1 => simp at hlen; omega
  | a :: m, hlen, hd, hlst, h1 =>
   simp only [List.getElem_cons_zero] at hd
   subst hd
   have hm : m ≠ [] := fun e => by rw [e] at hlen; simp at hlen; omega
   simp only [List.drop_succ_cons, List.drop_zero]
   have hlast : m.getLast hm = 39 := by
    rw [List.getLast_eq_getElem]
    have : s.size - 1 = (m.length - 1) + 1 := by simp at hlen; have := List.length_pos_iff.2 hm; omega
    simp only [this, List.getElem_cons_succ] at hlst
    exact hlst
   rw [show (39 : UInt8) :: (m.dropLast ++ [39]) = 39 :: (m.dropLast ++ [m.getLast hm]) by rw [hlast], List.dropLast_concat_getLast hm]
 ·obtain ⟨i, hi, rfl⟩ := List.getElem_of_mem hc
  simp only [List.length_dropLast, List.length_drop] at hi
  rw [List.getElem_dropLast, List.getElem_drop]
  intro e
  have := h4 i (by omega)
  rw [show i + 1 = 1 + i by omega, hbt (1 + i) (by omega), e] at this
  revert this
  decide
theorem span_eq {p : UInt8 -> Bool} : ∀ {n1 n2 r1 r2 : List UInt8}, (∀ c ∈ n1, p c = true) -> (∀ c ∈ n2, p c = true) -> (∀ c r, r1 = c :: r -> p c = false) -> (∀ c r, r2 = c :: r -> p c = false) -> n1 ++ r1 = n2 ++ r2 -> n1 = n2 /\ r1 = r2
 | [], [], _, _, _, _, _, _, h => ⟨rfl, h⟩
 | [], b :: n2, r1, r2, _, h2, h3, _, h => by
  have := h3 b _ h
  rw [h2 b List.mem_cons_self] at this
  cases this
 | a :: n1, [], r1, r2, h1, _, _, h4, h => by
  have := h4 a _ h.symm
  rw [h1 a List.mem_cons_self] at this
  cases this
 | a :: n1, b :: n2, r1, r2, h1, h2, h3, h4, h => by
  simp only [List.cons_append, List.cons.injEq] at h
  obtain ⟨e1, e2⟩ := span_eq (fun c hc => h1 c (List.mem_cons_of_mem _ hc)) (fun c hc => h2 c (List.mem_cons_of_mem _ hc)) h3 h4 h.2
  exact ⟨by rw [h.1, e1], e2⟩
def StpL (r : List UInt8) : Prop := ∀ c r', r = c :: r' -> c = 32 ∨ c = 41
theorem wd_cut {n1 n2 r1 r2 : List UInt8} (h1 : WdL n1) (h2 : WdL n2) (s1 : StpL r1) (s2 : StpL r2) (h : n1 ++ r1 = n2 ++ r2) : n1 = n2 /\ r1 = r2 := by
 refine span_eq (p := fun c => !(c == 32) && !(c == 41)) (fun c hc => ?_) (fun c hc => ?_) (fun c r e => ?_) (fun c r e => ?_) h
 ·have := h1.2 c hc; simp [this.1, this.2.1]
 ·have := h2.2 c hc; simp [this.1, this.2.1]
 ·rcases s1 c r e with rfl | rfl <;> rfl
 ·rcases s2 c r e with rfl | rfl <;> rfl
theorem nm_cut {n1 n2 r1 r2 : List UInt8} (h1 : WdL n1 ∨ QtL n1) (h2 : WdL n2 ∨ QtL n2) (s1 : StpL r1) (s2 : StpL r2) (h : n1 ++ r1 = n2 ++ r2) : n1 = n2 /\ r1 = r2 := by
 have mix : ∀ {n1 n2 r1 r2 : List UInt8}, WdL n1 -> QtL n2 -> n1 ++ r1 = n2 ++ r2 -> False := fun {n1 n2 r1 r2} h1 ⟨m, e, _⟩ h => by
  subst e
  cases n1 with
  | nil => exact h1.1 rfl
  | cons c n =>
   simp only [List.cons_append, List.cons.injEq] at h
   exact (h1.2 c List.mem_cons_self).2.2.1 h.1
 rcases h1 with h1 | h1 <;> rcases h2 with h2 | h2
 ·exact wd_cut h1 h2 s1 s2 h
 ·exact (mix h1 h2 h).elim
 ·exact (mix h2 h1 h.symm).elim
 ·obtain ⟨m1, rfl, k1⟩ := h1
  obtain ⟨m2, rfl, k2⟩ := h2
  simp only [List.cons_append, List.append_assoc, List.cons.injEq, true_and] at h
  obtain ⟨e1, e2⟩ := span_eq (p := fun c => !(c == 39)) (fun c hc => by simp [k1 c hc]) (fun c hc => by simp [k2 c hc]) (fun c r e => by simp at e; simp [<- e.1]) (fun c r e => by simp at e; simp [<- e.1]) h
  simp only [List.nil_append, List.cons.injEq, true_and] at e2
  exact ⟨by rw [e1], e2⟩
def AlAll (g : GV) (t : TV) : Prop := AllP (fun x => alTU g x = 0) t
theorem alAll_ck {g : GV} (t : TV) : ∀ (s : Int × Int) (u : Bool), (∀ x ∈ ckT g s u t, erU g x = 0) -> AlAll g t := by
 induction t using TV.ind with
 | _ t ih =>
  intro s u h
  rw [ckT_eq] at h
  have h1 := h ⟨t, 0, s, u⟩ (by simp)
  have ha : alTU g t = 0 := by
   unfold erU at h1
   by_cases q : alTU g t = 0
   ·exact q
   ·rw [if_pos q] at h1
    exact absurd h1 q
  refine AllP.mk ha fun k hk => ?_
  obtain ⟨s', hs'⟩ := ckL_mem (rightU g t) t.kids k hk
  exact ih k hk s' true (fun x hx => h x (List.mem_cons_of_mem _ (hs' x hx)))
theorem alAll_of {g : GV} {t : TV} (h : (runU g (ckT g (0, 0) false t) 0).1 = 0) : AlAll g t := alAll_ck t (0, 0) false (runU_zero _ 0 h)
def sbV (t : TV) : Int × Int × Nat := (t.prod, t.kind, t.kids.length)
def sbF : Nat -> TV -> TV -> Prop
 | 0, _, _ => False
 | n + 1, a, b => sbV a = sbV b /\ ∀ i (h : i < a.kids.length) (h' : i < b.kids.length), sbF n a.kids[i] b.kids[i]
def sabV (a b : TV) : Prop := sbF (tsz a) a b
theorem sbF_any : ∀ (n m : Nat) (a b : TV), tsz a <= n -> tsz a <= m -> (sbF n a b ↔ sbF m a b)
 | 0, _, a, _, h, _ => by have := tsz_pos a; omega
 | _ + 1, 0, a, _, _, h => by have := tsz_pos a; omega
 | n + 1, m + 1, a, b, h, h' => by
  rw [sbF, sbF]
  constructor
  ·exact fun ⟨x, y⟩ => ⟨x, fun i hi hi' => (sbF_any n m _ _ (by have := kid_lt (List.getElem_mem hi); omega) (by have := kid_lt (List.getElem_mem hi); omega)).1 (y i hi hi')⟩
  ·exact fun ⟨x, y⟩ => ⟨x, fun i hi hi' => (sbF_any n m _ _ (by have := kid_lt (List.getElem_mem hi); omega) (by have := kid_lt (List.getElem_mem hi); omega)).2 (y i hi hi')⟩
theorem sabV_iff (a b : TV) : sabV a b ↔ sbV a = sbV b /\ ∀ i (h : i < a.kids.length) (h' : i < b.kids.length), sabV a.kids[i] b.kids[i] := by
 obtain ⟨n, hn⟩ : ∃ n, tsz a = n + 1 := ⟨tsz a - 1, by have := tsz_pos a; omega⟩
 unfold sabV
 rw [hn, sbF]
 constructor
 ·exact fun ⟨x, y⟩ => ⟨x, fun i hi hi' => (sbF_any _ _ _ _ (Nat.le_refl _) (by have := kid_lt (List.getElem_mem hi); omega)).2 (y i hi hi')⟩
 ·exact fun ⟨x, y⟩ => ⟨x, fun i hi hi' => (sbF_any _ _ _ _ (Nat.le_refl _) (by have := kid_lt (List.getElem_mem hi); omega)).1 (y i hi hi')⟩
theorem sbV_len {a b : TV} (h : sbV a = sbV b) : a.kids.length = b.kids.length := by
 unfold sbV at h
 simp only [Prod.mk.injEq] at h
 exact h.2.2
theorem txL_sab {g : GV} : ∀ (l m : List TV), l.length = m.length -> (∀ i (h : i < l.length) (h' : i < m.length), txT g m[i] = txT g l[i]) -> txL g m = txL g l
 | [], [], _, _ => rfl
 | [], _ :: _, h, _ => by simp at h
 | _ :: _, [], h, _ => by simp at h
 | a :: l, b :: m, h, hs => by
  rw [txL_cons, txL_cons, txL_sab l m (by simpa using h) (fun i h1 h2 => hs (i + 1) (by simpa using h1) (by simpa using h2))]
  have := hs 0 (by simp) (by simp)
  simp only [List.getElem_cons_zero] at this
  rw [this]
theorem txT_sab {g : GV} (t : TV) : ∀ U, sabV t U -> txT g U = txT g t := by
 induction t using TV.ind with
 | _ t ih =>
  intro U hU
  obtain ⟨h1, h2⟩ := (sabV_iff t U).1 hU
  have hl := sbV_len h1
  unfold sbV at h1
  simp only [Prod.mk.injEq] at h1
  obtain ⟨e1, e2, -⟩ := h1
  rw [txT_eq, txT_eq, txL_sab t.kids U.kids hl fun i hi hi' => ih _ (List.getElem_mem hi) _ (h2 i hi hi')]
  unfold hdP enP nmT nmN
  rw [<- e1, <- e2]
theorem rootU_sab {g : GV} {a b : TV} (h : sabV a b) : rootU g b = rootU g a := by
 obtain ⟨h1, -⟩ := (sabV_iff a b).1 h
 unfold sbV at h1
 simp only [Prod.mk.injEq] at h1
 unfold rootU
 rw [<- h1.1, <- h1.2.1]
structure NmG (g : GV) : Prop where
 c : OkC g
 t : ∀ k, k < g.ts.length -> WdL (g.ts.getD k ByteArray.empty).data.toList ∨ QtL (g.ts.getD k ByteArray.empty).data.toList
 n : ∀ k, k < g.ns.length -> WdL (g.ns.getD k ByteArray.empty).data.toList
 tj : ∀ i j, i < g.ts.length -> j < g.ts.length -> (g.ts.getD i ByteArray.empty).data.toList = (g.ts.getD j ByteArray.empty).data.toList -> i = j
 nj : ∀ i j, i < g.ns.length -> j < g.ns.length -> (g.ns.getD i ByteArray.empty).data.toList = (g.ns.getD j ByteArray.empty).data.toList -> i = j
 pj : ∀ i j, i < g.ps.length -> j < g.ps.length -> (g.ps.getD i .none).left = (g.ps.getD j .none).left -> (g.ps.getD i .none).right = (g.ps.getD j .none).right -> i = j
theorem list_inj {s t : ByteArray} (h : s.data.toList = t.data.toList) : s = t := by
 cases s
 cases t
 congr
 exact Array.toList_inj.1 h
theorem nodup_inj {l : List ByteArray} (h : l.Nodup) {i j : Nat} (hi : i < l.length) (hj : j < l.length) (e : (l.getD i ByteArray.empty).data.toList = (l.getD j ByteArray.empty).data.toList) : i = j := by
 have h1 : l.getD i ByteArray.empty = l[i] := by simp [List.getD, hi]
 have h2 : l.getD j ByteArray.empty = l[j] := by simp [List.getD, hj]
 rw [h1, h2] at e
 have e2 := list_inj e
 have hp := List.pairwise_iff_getElem.1 h
 rcases Nat.lt_trichotomy i j with q | q | q
 ·exact absurd e2 (hp i j hi hj q)
 ·exact q
 ·exact absurd e2.symm (hp j i hj hi q)
theorem NmG.of {g : GV} {at_ : Int} (h : checkG g (checkF g.ts g.ns) = (0, at_)) : NmG g := by
 have hc : OkC g := OkC.of (by rw [h])
 obtain ⟨h1, h2, h3, h4, -⟩ := checkF_to (checkF_ok h)
 refine ⟨hc, fun k hk => ?_, fun k hk => wdL_of (h2 _ (mem_getD hk)), fun i j hi hj e => nodup_inj h3 hi hj e, fun i j hi hj e => nodup_inj h4 hi hj e, ?_⟩
 ·have := h1 _ (mem_getD (d := ByteArray.empty) hk)
  unfold termS at this
  rw [Bool.or_eq_true] at this
  rcases this with q | q
  ·exact .inl (wdL_of q)
  ·exact .inr (qtL_of q)
 ·have key : ∀ i j, i < j -> j < g.ps.length -> (g.ps.getD i .none).left = (g.ps.getD j .none).left -> (g.ps.getD i .none).right = (g.ps.getD j .none).right -> False := fun i j hij hj e1 e2 => by
   have := prod_twice hc j hj
   rw [List.any_eq_false] at this
   have hm : g.ps.getD i .none ∈ g.ps.take j := by
    have e : g.ps.getD i .none = (g.ps.take j)[i]'(by rw [List.length_take]; omega) := by
     rw [List.getElem_take]
     simp [List.getD, show i < g.ps.length by omega]
    rw [e]
    exact List.getElem_mem _
   have := this _ hm
   rw [e1, e2] at this
   simp at this
  intro i j hi hj e1 e2
  rcases Nat.lt_trichotomy i j with q | q | q
  ·exact (key i j q hj e1 e2).elim
  ·exact q
  ·exact (key j i q hi e1.symm e2.symm).elim
theorem stp_txL {g : GV} (l : List TV) (r : List UInt8) : StpL (txL g l ++ 41 :: r) := by
 intro c r' e
 cases l with
 | nil =>
  simp only [txL, List.flatMap_nil, List.nil_append, List.cons.injEq] at e
  exact .inr e.1.symm
 | cons k l =>
  rw [txL_cons] at e
  simp only [List.cons_append, List.cons.injEq] at e
  exact .inl e.1.symm
def sabL (l m : List TV) : Prop := l.length = m.length /\ ∀ i (h : i < l.length) (h' : i < m.length), sabV l[i] m[i]
theorem txL_cut {g : GV} : ∀ (l m : List TV) (r1 r2 : List UInt8), (∀ k ∈ l, ∀ b, RT g b -> AlAll g b -> ∀ r r', StpL r -> StpL r' -> txT g k ++ r = txT g b ++ r' -> sabV k b /\ r = r') -> (∀ b ∈ m, RT g b /\ AlAll g b) -> txL g l ++ 41 :: r1 = txL g m ++ 41 :: r2 -> sabL l m /\ r1 = r2
 | [], [], r1, r2, _, _, h => by
  simp only [txL, List.flatMap_nil, List.nil_append, List.cons.injEq, true_and] at h
  exact ⟨⟨rfl, fun i hi => by simp at hi⟩, h⟩
 | [], b :: m, r1, r2, _, _, h => by
  rw [txL_cons] at h
  simp [txL] at h
 | a :: l, [], r1, r2, _, _, h => by
  rw [txL_cons] at h
  simp [txL] at h
 | a :: l, b :: m, r1, r2, hk, hm, h => by
  rw [txL_cons, txL_cons] at h
  simp only [List.cons_append, List.append_assoc, List.cons.injEq, true_and] at h
  obtain ⟨s1, s2⟩ := hk a List.mem_cons_self b (hm b List.mem_cons_self).1 (hm b List.mem_cons_self).2 _ _ (stp_txL l r1) (stp_txL m r2) h
  obtain ⟨⟨t1, t2⟩, t3⟩ := txL_cut l m r1 r2 (fun k hk' => hk k (List.mem_cons_of_mem _ hk')) (fun b hb => hm b (List.mem_cons_of_mem _ hb)) s2
  refine ⟨⟨by simp [t1], fun i hi hi' => ?_⟩, t3⟩
  cases i with
  | zero => exact s1
  | succ i => exact t2 i (by simpa using hi) (by simpa using hi')
theorem map_sab {g : GV} : ∀ {l m : List TV}, sabL l m -> m.map (rootU g) = l.map (rootU g)
 | [], [], _ => rfl
 | [], _ :: _, h => by simp [sabL] at h
 | _ :: _, [], h => by simp [sabL] at h
 | a :: l, b :: m, ⟨h1, h2⟩ => by
  have e : sabV a b := h2 0 (by simp) (by simp)
  rw [List.map_cons, List.map_cons, rootU_sab e, map_sab (l := l) (m := m) ⟨by simpa using h1, fun i hi hi' => h2 (i + 1) (by simpa using hi) (by simpa using hi')⟩]
theorem txT_cut {g : GV} (hn : NmG g) (a : TV) : RT g a -> AlAll g a -> ∀ b, RT g b -> AlAll g b -> ∀ r r', StpL r -> StpL r' -> txT g a ++ r = txT g b ++ r' -> sabV a b /\ r = r' := by
 induction a using TV.ind with
 | _ a ih =>
  intro ra aa b rb ab r r' sr sr' h
  rw [txT_eq, txT_eq] at h
  unfold hdP enP at h
  have hne : ∀ k, k < g.ts.length -> ∀ x r r' : List UInt8, (g.ts.getD k ByteArray.empty).data.toList ++ r = 40 :: r' -> False := fun k hk x r r' e => by
   rcases hn.t k hk with q | ⟨m, q, -⟩
   ·cases e2 : (g.ts.getD k ByteArray.empty).data.toList with
    | nil => exact q.1 e2
    | cons c l =>
     rw [e2] at e q
     simp only [List.cons_append, List.cons.injEq] at e
     exact (q.2 c List.mem_cons_self).2.2.2 e.1
   ·rw [q] at e
    simp at e
  rcases ra.here with ⟨p1, k1, k2, kk⟩ | ⟨p1, p2, p3⟩ <;> rcases rb.here with ⟨q1, l1, l2, ll⟩ | ⟨q1, q2, q3⟩
  ·rw [if_pos p1, if_pos q1, if_pos p1, if_pos q1, kk, ll] at h
   simp only [txL, List.flatMap_nil, List.append_nil] at h
   obtain ⟨e1, e2⟩ := nm_cut (hn.t _ (by omega)) (hn.t _ (by omega)) sr sr' h
   have := hn.tj _ _ (by omega) (by omega) e1
   refine ⟨(sabV_iff a b).2 ⟨?_, fun i hi => by rw [kk] at hi; simp at hi⟩, e2⟩
   unfold sbV
   rw [p1, q1, kk, ll, show a.kind = b.kind by omega]
  ·have nq : ¬ b.prod = -1 := by omega
   rw [if_pos p1, if_neg nq, if_pos p1, if_neg nq, kk] at h
   simp only [txL, List.flatMap_nil, List.append_nil, List.cons_append] at h
   exact (hne _ (by omega) [] _ _ h).elim
  ·have np : ¬ a.prod = -1 := by omega
   rw [if_neg np, if_pos q1, if_neg np, if_pos q1, ll] at h
   simp only [txL, List.flatMap_nil, List.append_nil, List.cons_append] at h
   exact (hne _ (by omega) [] _ _ h.symm).elim
  ·have np : ¬ a.prod = -1 := by omega
   have nq : ¬ b.prod = -1 := by omega
   rw [if_neg np, if_neg nq, if_neg np, if_neg nq] at h
   simp only [List.cons_append, List.append_assoc, List.cons.injEq, true_and, List.nil_append] at h
   have la := hn.c.left a.prod.toNat (by omega)
   have lb := hn.c.left b.prod.toNat (by omega)
   obtain ⟨e1, e2⟩ := wd_cut (hn.n _ (by omega)) (hn.n _ (by omega)) (stp_txL a.kids r) (stp_txL b.kids r') h
   obtain ⟨e3, e4⟩ := txL_cut a.kids b.kids r r' (fun k hk b hb hb' r r' s s' h => ih k hk (ra.kid k hk) (aa.kid k hk) b hb hb' r r' s s' h) (fun k hk => ⟨rb.kid k hk, ab.kid k hk⟩) e2
   have e5 := hn.nj _ _ (by omega) (by omega) e1
   have e6 := map_sab (g := g) e3
   rw [p3, q3] at e6
   have e7 := hn.pj a.prod.toNat b.prod.toNat (by omega) (by omega) (by omega) e6.symm
   have za : a.kind = 0 := by
    have := aa.here
    unfold alTU at this
    rw [if_neg (by omega)] at this
    split at this
    ·cases this
    ·rename_i q
     apply Classical.byContradiction
     intro z
     exact q (.inr (.inr (.inl z)))
   have zb : b.kind = 0 := by
    have := ab.here
    unfold alTU at this
    rw [if_neg (by omega)] at this
    split at this
    ·cases this
    ·rename_i q
     apply Classical.byContradiction
     intro z
     exact q (.inr (.inr (.inl z)))
   refine ⟨(sabV_iff a b).2 ⟨?_, e3.2⟩, e4⟩
   unfold sbV
   rw [za, zb, e3.1, show a.prod = b.prod by omega]
theorem txT_one {g : GV} (hn : NmG g) {a b : TV} (ra : RT g a) (aa : AlAll g a) (rb : RT g b) (ab : AlAll g b) : txT g a = txT g b ↔ sabV a b :=
 ⟨fun h => (txT_cut hn a ra aa b rb ab [] [] (fun c r e => by cases e) (fun c r e => by cases e) (by rw [h])).1, fun h => (txT_sab a b h).symm⟩
open Go.RowKit
theorem enA_evL_mem {x : Nat × Nat × TV} : ∀ {l : List (Nat × Nat × TV)}, x ∈ enA (evL l) ↔ ∃ z ∈ l, x ∈ enA (evT z.1 z.2.1 z.2.2)
 | [] => by simp [evL, enA]
 | z :: l => by
  rw [evL_cons, enA_app, List.mem_append, enA_evL_mem (l := l)]
  simp
theorem enA_evT_eq (p q : Nat) (t : TV) : enA (evT p q t) = (p, q, t) :: enA (evL (kidsA t)) := by
 rw [evT_eq, <- List.singleton_append, enA_app, enA_app, enA_in, enA_out, List.append_nil]
 rfl
theorem enA_root (p q : Nat) (t : TV) : (p, q, t) ∈ enA (evT p q t) := by rw [enA_evT_eq]; exact List.mem_cons_self
theorem prs_kid (t : TV) : ∀ (p q : Nat) (x y : Nat × Nat × TV), x ∈ enA (evT p q t) -> y ∈ kidsA x.2.2 -> y ∈ enA (evT p q t) := by
 induction t using TV.ind with
 | _ t ih =>
  intro p q x y hx hy
  rw [enA_evT_eq] at hx ⊢
  refine List.mem_cons_of_mem _ (enA_evL_mem.2 ?_)
  rcases List.mem_cons.1 hx with rfl | hx
  ·exact ⟨y, hy, enA_root _ _ _⟩
  ·obtain ⟨z, hz, hxz⟩ := enA_evL_mem.1 hx
   exact ⟨z, hz, ih z.2.2 (kidF_mem hz) _ _ x y hxz hy⟩
theorem prs_tat {w : World} (t : TV) : ∀ (p q : Nat) (x : Nat × Nat × TV), TAt w t -> x ∈ enA (evT p q t) -> TAt w x.2.2 /\ szT x.2.2 <= szT t := by
 induction t using TV.ind with
 | _ t ih =>
  intro p q x ht hx
  rw [enA_evT_eq] at hx
  rcases List.mem_cons.1 hx with rfl | hx
  ·exact ⟨ht, Nat.le_refl _⟩
  ·obtain ⟨z, hz, hxz⟩ := enA_evL_mem.1 hx
   have hk := kidF_mem hz
   obtain ⟨a, b⟩ := ih z.2.2 hk _ _ x (ht.kid _ hk) hxz
   have h1 := szL_mem hk
   have h2 := szT_eq t
   exact ⟨a, by omega⟩
def TV.tt (t : TV) (s : ByteArray) : TV := TV.mk t.prod t.kind s t.ka t.kc t.kids
def brF : Nat -> TV -> TV
 | 0, t => t
 | n + 1, t => TV.mk t.prod t.kind ByteArray.empty t.ka t.kc (t.kids.map (brF n))
def brV (t : TV) : TV := brF (tsz t) t
theorem brF_any : ∀ (n m : Nat) (t : TV), tsz t <= n -> tsz t <= m -> brF n t = brF m t
 | 0, _, t, h, _ => by have := tsz_pos t; omega
 | _ + 1, 0, t, _, h => by have := tsz_pos t; omega
 | n + 1, m + 1, t, h, h' => by
  rw [brF, brF]
  congr 1
  exact List.map_congr_left fun k hk => brF_any n m k (by have := kid_lt hk; omega) (by have := kid_lt hk; omega)
theorem brV_eq (t : TV) : brV t = TV.mk t.prod t.kind ByteArray.empty t.ka t.kc (t.kids.map brV) := by
 obtain ⟨n, hn⟩ : ∃ n, tsz t = n + 1 := ⟨tsz t - 1, by have := tsz_pos t; omega⟩
 conv => lhs; unfold brV
 rw [hn, brF]
 congr 1
 exact List.map_congr_left fun k hk => brF_any _ _ k (by have := kid_lt hk; omega) (Nat.le_refl _)
theorem brV_f (t : TV) : (brV t).prod = t.prod /\ (brV t).kind = t.kind /\ (brV t).tx = ByteArray.empty /\ (brV t).ka = t.ka /\ (brV t).kc = t.kc /\ (brV t).kids = t.kids.map brV := by
 rw [brV_eq]
 exact ⟨rfl, rfl, rfl, rfl, rfl, rfl⟩
theorem brV_tbx {w : World} {p q : Nat} {t : TV} (h : TBx w p q (t.tt ByteArray.empty)) : TBx w p q (brV t) := by
 obtain ⟨e1, e2, e3, e4, e5, e6⟩ := brV_f t
 refine ⟨h.lt, ?_, ?_, ?_, ?_⟩
 ·rw [e1]; exact h.c0
 ·rw [e2]; exact h.c1
 ·rw [e3]; exact h.c2
 ·rw [e4, e5, e6, List.length_map]; exact h.c3
theorem brV_box (t : TV) : tBox (t.tt ByteArray.empty) = tBox (brV t) := by
 obtain ⟨e1, e2, e3, e4, e5, e6⟩ := brV_f t
 unfold tBox
 rw [e1, e2, e3, e4, e5, e6, List.length_map]
 rfl
theorem br_at {w w1 : World} (t : TV) : TAt w1 t -> (∀ x ∈ enA (evL (kidsA t)), TBx w x.1 x.2.1 (x.2.2.tt ByteArray.empty)) -> TAt w (brV t) := by
 induction t using TV.ind with
 | _ t ih =>
  intro ht hx
  obtain ⟨-, -, -, e4, -, e6⟩ := brV_f t
  have hk : ∀ i (h : i < t.kids.length), ∃ b off, t.ka = some ⟨b, off, none⟩ /\ (b, off + i * 4, t.kids[i]) ∈ kidsA t := fun i h => by
   obtain ⟨b, off, e, _⟩ := krow_kid ht.row h
   exact ⟨b, off, e, List.mem_of_getElem? (kidsA_get e h)⟩
  refine TAt.mk _ (krow_of fun i h => ?_) fun k hkk => ?_
  ·have h' : i < t.kids.length := by rw [e6, List.length_map] at h; exact h
   obtain ⟨b, off, e, hm⟩ := hk i h'
   refine ⟨b, off, by rw [e4]; exact e, ?_⟩
   have e7 : (brV t).kids[i] = brV t.kids[i] := by simp only [e6, List.getElem_map]
   rw [e7]
   exact brV_tbx (hx _ (enA_evL_mem.2 ⟨_, hm, enA_root _ _ _⟩))
  ·rw [e6] at hkk
   obtain ⟨k', hk', rfl⟩ := List.mem_map.1 hkk
   obtain ⟨i, hi, rfl⟩ := List.getElem_of_mem hk'
   obtain ⟨b, off, e, hm⟩ := hk i hi
   refine ih _ hk' (ht.kid _ hk') fun x hxx => hx x (enA_evL_mem.2 ⟨_, hm, ?_⟩)
   rw [enA_evT_eq]
   exact List.mem_cons_of_mem _ hxx
theorem br_sab (a : TV) : ∀ b, samV (brV a) (brV b) ↔ sabV a b := by
 induction a using TV.ind with
 | _ a ih =>
  intro b
  obtain ⟨a1, a2, a3, -, -, a6⟩ := brV_f a
  obtain ⟨b1, b2, b3, -, -, b6⟩ := brV_f b
  rw [samV_iff, sabV_iff]
  have e : sgV (brV a) = sgV (brV b) ↔ sbV a = sbV b := by
   unfold sgV sbV
   rw [a1, a2, a3, a6, b1, b2, b3, b6, List.length_map, List.length_map]
   simp only [Prod.mk.injEq, true_and]
  rw [e]
  constructor
  ·rintro ⟨h1, h2⟩
   refine ⟨h1, fun i hi hi' => (ih _ (List.getElem_mem hi) _).1 ?_⟩
   have := h2 i (by rw [a6, List.length_map]; exact hi) (by rw [b6, List.length_map]; exact hi')
   simpa only [a6, b6, List.getElem_map] using this
  ·rintro ⟨h1, h2⟩
   refine ⟨h1, fun i hi hi' => ?_⟩
   have hj : i < a.kids.length := by rw [a6, List.length_map] at hi; exact hi
   have hj' : i < b.kids.length := by rw [b6, List.length_map] at hi'; exact hi'
   have := (ih _ (List.getElem_mem hj) _).2 (h2 i hj hj')
   simpa only [a6, b6, List.getElem_map] using this
theorem sab_of_sam (a : TV) : ∀ b, samV a b -> sabV a b := by
 induction a using TV.ind with
 | _ a ih =>
  intro b h
  obtain ⟨h1, h2⟩ := (samV_iff a b).1 h
  refine (sabV_iff a b).2 ⟨?_, fun i hi hi' => ih _ (List.getElem_mem hi) _ (h2 i hi hi')⟩
  unfold sgV at h1
  simp only [Prod.mk.injEq] at h1
  unfold sbV
  rw [h1.1, h1.2.1, h1.2.2.2]
theorem sab_trans (a : TV) : ∀ b c, sabV a b -> sabV b c -> sabV a c := by
 induction a using TV.ind with
 | _ a ih =>
  intro b c h k
  obtain ⟨h1, h2⟩ := (sabV_iff a b).1 h
  obtain ⟨k1, k2⟩ := (sabV_iff b c).1 k
  have hl := sbV_len h1
  exact (sabV_iff a c).2 ⟨h1.trans k1, fun i hi hi' => ih _ (List.getElem_mem hi) _ _ (h2 i hi (by omega)) (k2 i (by omega) hi')⟩
theorem sab_symm (a : TV) : ∀ b, sabV a b -> sabV b a := by
 induction a using TV.ind with
 | _ a ih =>
  intro b h
  obtain ⟨h1, h2⟩ := (sabV_iff a b).1 h
  exact (sabV_iff b a).2 ⟨h1.symm, fun i hi hi' => ih _ (List.getElem_mem hi') _ (h2 i hi' hi)⟩
theorem br_same {a b A B : TV} (ha : samV a A) (hb : samV b B) : samV (brV A) (brV B) ↔ sabV a b := by
 rw [br_sab]
 have h1 := sab_of_sam _ _ ha
 have h2 := sab_of_sam _ _ hb
 exact ⟨fun h => sab_trans _ _ _ h1 (sab_trans _ _ _ h (sab_symm _ _ h2)), fun h => sab_trans _ _ _ (sab_symm _ _ h1) (sab_trans _ _ _ h h2)⟩
theorem brV_size (t : TV) : szT (brV t) = szT t := by
 induction t using TV.ind with
 | _ t ih =>
  obtain ⟨-, -, -, -, -, e6⟩ := brV_f t
  rw [szT_eq, szT_eq t, e6]
  congr 1
  unfold szL
  rw [List.map_map]
  congr 1
  exact List.map_congr_left fun k hk => ih k hk
structure RX where
 b : Nat
 o : Nat
 c : Nat
 l : List TV
def rxC (y : RX) : List Value := [.slice (some ⟨y.b, y.o, none⟩) y.l.length y.c]
theorem rkRX : RK 29 46 1 rxC := by
 refine ⟨Try.underlying46, ?_, by decide, fun _ => rfl, fun x u hu => ?_⟩
 ·have h : (Try.prog.info? 29).map (fun i => (i.zero, i.size, i.bytes)) = some (some (.slice none 0 0), 1, 24) := by kernel_rfl
  cases e : Try.prog.info? 29 with
  | none => rw [e] at h; cases h
  | some i =>
   rw [e] at h
   simp at h
   exact ⟨i, _, rfl, h.1, h.2.1, by rw [h.2.2]; decide, rfl⟩
 ·simp [rxC] at hu
  subst hu
  rfl
abbrev RXo := RO 29 1 rxC
def adX (R : List RX) : List (Nat × Nat) := R.flatMap fun y => adsL (kidF y.b y.o 0 y.l)
theorem adX_snoc (R : List RX) (y : RX) : adX (R ++ [y]) = adX R ++ adsL (kidF y.b y.o 0 y.l) := by simp [adX]
def toX (R : List RX) : Nat := (R.map fun y => szL y.l).sum
theorem toX_snoc (R : List RX) (y : RX) : toX (R ++ [y]) = toX R + szL y.l := by simp [toX]
theorem toX_len : ∀ (R : List RX), (∀ y ∈ R, y.l ≠ []) -> R.length <= toX R
 | [], _ => Nat.zero_le _
 | y :: R, h => by
  have h1 := toX_len R fun z hz => h z (List.mem_cons_of_mem _ hz)
  have h2 := szL_len y.l
  have h3 := List.length_pos_iff.2 (h y List.mem_cons_self)
  have e : toX (y :: R) = szL y.l + toX R := by simp [toX]
  rw [e, List.length_cons]
  omega
structure BrI (w0 : World) (T : TV) (b1 ob : Nat) (so : ByteArray) (S : List (Nat × Nat)) (R : List RX) (v : Value) (w : World) : Prop where
 bel : Below w0.heap.size w0 w
 rb : w.heap[w0.heap.size + 1]? = some zTree
 obx : w.heap[ob]? = some (tBox (T.tt so))
 on : w0.heap.size + 1 < ob
 cx : ∀ x ∈ enA (evT b1 0 T), ∃ s, TBx w x.1 x.2.1 (x.2.2.tt s) /\ ((x.1, x.2.1) ∉ S -> s = ByteArray.empty)
 ty : ∀ x ∈ enA (evT b1 0 T), w0.heap.size + 1 < x.1 /\ x.1 ≠ ob /\ x.2.1 % 4 = 0 /\ ∃ cs, w.heap[x.1]? = some (.cells cs 31)
 rv : RXo w v R
 vo : ∀ j, v.ownBlock = some j -> w0.heap.size + 1 < j
 rk : ∀ y ∈ R, y.l ≠ [] /\ ∀ x ∈ kidF y.b y.o 0 y.l, x ∈ enA (evT b1 0 T)
theorem RXo.ty {w : World} {v : Value} {R : List RX} (h : RXo w v R) : ∀ j, v.ownBlock = some j -> ∃ cs, w.heap[j]? = some (.cells cs 29) := fun j hj => by
 rcases h.2 with ⟨rfl, _⟩ | ⟨g, cap, cur, rfl, _, h2, _⟩
 ·simp [Value.ownBlock] at hj
 ·simp [Value.ownBlock] at hj
  subst hj
  exact ⟨_, h2⟩
theorem BrI.mono {w0 : World} {T : TV} {b1 ob : Nat} {so : ByteArray} {S S' : List (Nat × Nat)} {R : List RX} {v : Value} {w : World} (h : BrI w0 T b1 ob so S R v w) (hs : ∀ a ∈ S, a ∈ S') : BrI w0 T b1 ob so S' R v w :=
 ⟨h.bel, h.rb, h.obx, h.on, fun x hx => by
  obtain ⟨s, a, b⟩ := h.cx x hx
  exact ⟨s, a, fun e => b fun e' => e (hs _ e')⟩, h.ty, h.rv, h.vo, h.rk⟩
theorem BrI.kept {w0 : World} {T : TV} {b1 ob : Nat} {so : ByteArray} {S : List (Nat × Nat)} {R R' : List RX} {v v' : Value} {w w' : World} (h : BrI w0 T b1 ob so S R v w) (hb : Below w0.heap.size w0 w') (hs : w.heap.size <= w'.heap.size) (hk : ∀ (k : Nat) (cs : Array Value), w.heap[k]? = some (.cells cs 31) -> w'.heap[k]? = w.heap[k]?) (hv : RXo w' v' R') (hvo : ∀ j, v'.ownBlock = some j -> w0.heap.size + 1 < j) (hrk : ∀ y ∈ R', y.l ≠ [] /\ ∀ x ∈ kidF y.b y.o 0 y.l, x ∈ enA (evT b1 0 T)) : BrI w0 T b1 ob so S R' v' w' := by
 refine ⟨hb, (hk _ _ h.rb).trans h.rb, (hk _ _ h.obx).trans h.obx, h.on, fun x hx => ?_, fun x hx => ?_, hv, hvo, hrk⟩
 ·obtain ⟨s, a, b⟩ := h.cx x hx
  obtain ⟨-, -, -, cs, hc⟩ := h.ty x hx
  have e : ∀ j, w'.cell? ⟨x.1, j, none⟩ = w.cell? ⟨x.1, j, none⟩ := fun j => World.cell?_of_block (hk _ _ hc)
  exact ⟨s, ⟨Nat.lt_of_lt_of_le a.lt hs, (e _).trans a.c0, (e _).trans a.c1, (e _).trans a.c2, (e _).trans a.c3⟩, b⟩
 ·obtain ⟨a, b, c, cs, hc⟩ := h.ty x hx
  exact ⟨a, b, c, cs, (hk _ _ hc).trans hc⟩
theorem BrI.later {w0 : World} {T : TV} {b1 ob : Nat} {so : ByteArray} {S : List (Nat × Nat)} {R : List RX} {v : Value} {w w' : World} (h : BrI w0 T b1 ob so S R v w) (hb : Below w.heap.size w w') : BrI w0 T b1 ob so S R v w' :=
 h.kept (h.bel.trans (hb.mono h.bel.size)) hb.size (fun k cs hc => hb.block _ (lt_of_block hc)) (h.rv.later hb) h.vo h.rk
theorem BrI.grew {w0 : World} {T : TV} {b1 ob : Nat} {so : ByteArray} {S : List (Nat × Nat)} {R R' : List RX} {v v' : Value} {w w' : World} (h : BrI w0 T b1 ob so S R v w) (hg : Grew w w' v v') (ho : RXo w' v' R') (hrk : ∀ y ∈ R', y.l ≠ [] /\ ∀ x ∈ kidF y.b y.o 0 y.l, x ∈ enA (evT b1 0 T)) : BrI w0 T b1 ob so S R' v' w' := by
 have hsz : w0.heap.size + 1 < w.heap.size := lt_of_block h.rb
 refine h.kept (hg.below h.bel (Nat.le_refl _) (fun j hj => by have := h.vo j hj; omega)) hg.grown.size (fun k cs hc => hg.grown.block _ (lt_of_block hc) fun e => ?_) ho (fun j hj => hg.own (n := w0.heap.size + 2) (by omega) h.vo j hj) hrk
 obtain ⟨cs', hc'⟩ := RXo.ty h.rv k e.symm
 rw [hc] at hc'
 simp at hc'
theorem BrI.step {w0 : World} {T : TV} {b1 ob : Nat} {so : ByteArray} {S S' : List (Nat × Nat)} {R : List RX} {v : Value} {w : World} {x : Nat × Nat × TV} (h : BrI w0 T b1 ob so S R v w) (hx : x ∈ enA (evT b1 0 T)) (hs : ∀ a ∈ S, a = (x.1, x.2.1) ∨ a ∈ S') : BrI w0 T b1 ob so S' R v (w.setCell ⟨x.1, x.2.1 + 2, none⟩ (.string ByteArray.empty)) := by
 obtain ⟨n1, n2, n3, cs, hc⟩ := h.ty x hx
 have ho : ∀ k, k ≠ x.1 -> (w.setCell ⟨x.1, x.2.1 + 2, none⟩ (.string ByteArray.empty)).heap[k]? = w.heap[k]? := fun k hk => Below.heap_setCell _ _ _ _ hk
 have hz : (w.setCell ⟨x.1, x.2.1 + 2, none⟩ (.string ByteArray.empty)).heap.size = w.heap.size := by simp [World.setCell]
 obtain ⟨sx, tx, -⟩ := h.cx x hx
 have hf : ∀ a : Addr, a ≠ ⟨x.1, x.2.1 + 2, none⟩ -> (w.setCell ⟨x.1, x.2.1 + 2, none⟩ (.string ByteArray.empty)).cell? a = w.cell? a := fun a ha => World.cell?_setCell_other _ _ _ _ (fun e => ha e.symm)
 refine ⟨h.bel.setCell (p := ⟨x.1, x.2.1 + 2, none⟩) (by show w0.heap.size <= x.1; omega) _, (ho _ (by omega)).trans h.rb, (ho _ (Ne.symm n2)).trans h.obx, h.on, fun y hy => ?_, fun y hy => ?_, h.rv.kept fun j hj => ho j fun e => ?_, h.vo, h.rk⟩
 ·obtain ⟨s, ty, hs'⟩ := h.cx y hy
  obtain ⟨-, -, m3, -⟩ := h.ty y hy
  have c0 : (w.setCell ⟨x.1, x.2.1 + 2, none⟩ (.string ByteArray.empty)).cell? ⟨y.1, y.2.1, none⟩ = w.cell? ⟨y.1, y.2.1, none⟩ := hf _ fun e => by simp only [Addr.mk.injEq] at e; omega
  have c1 : (w.setCell ⟨x.1, x.2.1 + 2, none⟩ (.string ByteArray.empty)).cell? ⟨y.1, y.2.1 + 1, none⟩ = w.cell? ⟨y.1, y.2.1 + 1, none⟩ := hf _ fun e => by simp only [Addr.mk.injEq] at e; omega
  have c3 : (w.setCell ⟨x.1, x.2.1 + 2, none⟩ (.string ByteArray.empty)).cell? ⟨y.1, y.2.1 + 3, none⟩ = w.cell? ⟨y.1, y.2.1 + 3, none⟩ := hf _ fun e => by simp only [Addr.mk.injEq] at e; omega
  by_cases e : (y.1, y.2.1) = (x.1, x.2.1)
  ·simp only [Prod.mk.injEq] at e
   refine ⟨ByteArray.empty, ⟨by rw [hz]; exact ty.lt, c0.trans ty.c0, c1.trans ty.c1, ?_, c3.trans ty.c3⟩, fun _ => rfl⟩
   rw [e.1, e.2]
   exact World.cell?_setCell_same _ _ _ tx.c2
  ·have c2 : (w.setCell ⟨x.1, x.2.1 + 2, none⟩ (.string ByteArray.empty)).cell? ⟨y.1, y.2.1 + 2, none⟩ = w.cell? ⟨y.1, y.2.1 + 2, none⟩ := hf _ fun e' => by
    simp only [Addr.mk.injEq] at e'
    exact e (Prod.ext e'.1 (by show y.2.1 = x.2.1; omega))
   refine ⟨s, ⟨by rw [hz]; exact ty.lt, c0.trans ty.c0, c1.trans ty.c1, c2.trans ty.c2, c3.trans ty.c3⟩, fun hn => hs' fun hm => ?_⟩
   rcases hs _ hm with q | q
   ·exact e q
   ·exact hn q
 ·obtain ⟨a, b, c, cs', hc'⟩ := h.ty y hy
  by_cases e : y.1 = x.1
  ·exact ⟨a, b, c, _, by rw [e]; exact heap_setCell_same w x.1 (x.2.1 + 2) _ _ _ hc⟩
  ·exact ⟨a, b, c, cs', (ho _ e).trans hc'⟩
 ·obtain ⟨cs', hc'⟩ := RXo.ty h.rv j hj
  rw [e, hc] at hc'
  simp at hc'
theorem BrI.out {w0 : World} {T : TV} {b1 ob : Nat} {so : ByteArray} {S : List (Nat × Nat)} {R : List RX} {v : Value} {w : World} (h : BrI w0 T b1 ob so S R v w) : BrI w0 T b1 ob ByteArray.empty S R v (w.setCell ⟨ob, 2, none⟩ (.string ByteArray.empty)) := by
 have hon := h.on
 have ho : ∀ k, k ≠ ob -> (w.setCell ⟨ob, 2, none⟩ (.string ByteArray.empty)).heap[k]? = w.heap[k]? := fun k hk => Below.heap_setCell _ _ _ _ hk
 have hz : (w.setCell ⟨ob, 2, none⟩ (.string ByteArray.empty)).heap.size = w.heap.size := by simp [World.setCell]
 refine ⟨h.bel.setCell (p := ⟨ob, 2, none⟩) (by show w0.heap.size <= ob; omega) _, (ho _ (by omega)).trans h.rb, ?_, h.on, fun x hx => ?_, fun x hx => ?_, h.rv.kept fun j hj => ho j fun e => ?_, h.vo, h.rk⟩
 ·exact heap_setCell_same w ob 2 _ _ _ h.obx
 ·obtain ⟨s, a, b⟩ := h.cx x hx
  obtain ⟨-, n2, -, -⟩ := h.ty x hx
  have e : ∀ j, (w.setCell ⟨ob, 2, none⟩ (.string ByteArray.empty)).cell? ⟨x.1, j, none⟩ = w.cell? ⟨x.1, j, none⟩ := fun j => World.cell?_of_block (ho _ n2)
  exact ⟨s, ⟨by rw [hz]; exact a.lt, (e _).trans a.c0, (e _).trans a.c1, (e _).trans a.c2, (e _).trans a.c3⟩, b⟩
 ·obtain ⟨a, b, c, cs', hc'⟩ := h.ty x hx
  exact ⟨a, b, c, cs', (ho _ b).trans hc'⟩
 ·obtain ⟨cs', hc'⟩ := RXo.ty h.rv j hj
  rw [e, h.obx] at hc'
  simp at hc'
theorem BrI.fin {w0 w1 : World} {T : TV} {b1 ob : Nat} {so : ByteArray} {R : List RX} {v : Value} {w : World} (h : BrI w0 T b1 ob so [] R v w) (ht : TAt w1 T) : TAt w (brV T) :=
 br_at T ht fun x hx => by
  obtain ⟨s, a, b⟩ := h.cx x (by rw [enA_evT_eq]; exact List.mem_cons_of_mem _ hx)
  obtain rfl := b (by simp)
  exact a
end Go.Proofs.Ytndbdliaidbocaa
