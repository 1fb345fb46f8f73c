import Derived.Test.YtfgdpmcpjpceoaaPBBaseToGRow
import Derived.Laws.BitsAllLaws
import Derived.Laws.StructEq
import Derived.ChangeKeysEq
import Derived.RegionTactic
import Derived.BigRegion
import Derived.Deep.RegionWith
namespace Go.Proofs.Ytfgdpmcpjpceoaa
set_option linter.unusedVariables false
set_option maxRecDepth 100000
set_option maxHeartbeats 16000000
open Go.RowKit
abbrev BS := Nat × Nat
def OkS (s : BS) : Prop := s.1 < 18446744073709551616 /\ s.2 < 18446744073709551616
def addS (s : BS) (n : Nat) : BS := if n < 64 then (s.1 ||| 2 ^ n, s.2) else (s.1, s.2 ||| 2 ^ (n - 64))
def hasS (s : BS) (n : Nat) : Bool := if n < 64 then s.1.testBit n else s.2.testBit (n - 64)
def withS (a b : BS) : BS := (a.1 ||| b.1, a.2 ||| b.2)
def setS (l : List Int) : BS := l.foldl (fun s n => addS s n.toNat) (0, 0)
def listS (s : BS) (n : Nat) : List Int := ((List.range n).filter (hasS s)).map fun (i : Nat) => (i : Int)
theorem pow64 {n : Nat} (h : n < 64) : 2 ^ n < 18446744073709551616 := by
 have := Nat.pow_lt_pow_right (a := 2) (by omega) h
 simpa using this
theorem or64 {a b : Nat} (ha : a < 18446744073709551616) (hb : b < 18446744073709551616) : a ||| b < 18446744073709551616 := Nat.or_lt_two_pow (n := 64) ha hb
theorem OkS.add {s : BS} (h : OkS s) {n : Nat} (hn : n < 128) : OkS (addS s n) := by
 unfold addS
 split
 ·exact ⟨or64 h.1 (pow64 (by omega)), h.2⟩
 ·exact ⟨h.1, or64 h.2 (pow64 (by omega))⟩
theorem OkS.with {a b : BS} (ha : OkS a) (hb : OkS b) : OkS (withS a b) := ⟨or64 ha.1 hb.1, or64 ha.2 hb.2⟩
theorem OkS.zero : OkS (0, 0) := ⟨by decide, by decide⟩
theorem hasS_add (s : BS) (n m : Nat) (hn : n < 128) (hm : m < 128) : hasS (addS s n) m = (hasS s m || decide (n = m)) := by
 unfold addS hasS
 by_cases h1 : n < 64 <;> by_cases h2 : m < 64 <;> simp only [h1, h2, if_true, if_false, Nat.testBit_or, Nat.testBit_two_pow]
 ·have e : decide (n = m) = false := by simp; omega
  simp [e]
 ·have e : decide (n = m) = false := by simp; omega
  simp [e]
 ·have e : decide (n - 64 = m - 64) = decide (n = m) := by simp only [decide_eq_decide]; omega
  rw [e]
theorem hasS_with (a b : BS) (n : Nat) : hasS (withS a b) n = (hasS a n || hasS b n) := by
 unfold hasS withS
 split <;> simp
theorem hasS_zero (n : Nat) : hasS (0, 0) n = false := by
 unfold hasS
 split <;> simp
theorem setS_ext {a b : BS} (ha : OkS a) (hb : OkS b) (h : ∀ n, n < 128 -> hasS a n = hasS b n) : a = b := by
 obtain ⟨a1, a2⟩ := a
 obtain ⟨b1, b2⟩ := b
 have k : ∀ (x y : Nat), x < 18446744073709551616 -> y < 18446744073709551616 -> (∀ i, i < 64 -> x.testBit i = y.testBit i) -> x = y := fun x y hx hy he => by
  apply Nat.eq_of_testBit_eq
  intro i
  by_cases hi : i < 64
  ·exact he i hi
  ·have p : 18446744073709551616 <= 2 ^ i := by
    have := Nat.pow_le_pow_right (n := 2) (by omega) (show 64 <= i by omega)
    simpa using this
   rw [Nat.testBit_lt_two_pow (by omega), Nat.testBit_lt_two_pow (by omega)]
 have e1 : a1 = b1 := k a1 b1 ha.1 hb.1 fun i hi => by
  have := h i (by omega)
  simpa [hasS, hi] using this
 have e2 : a2 = b2 := k a2 b2 ha.2 hb.2 fun i hi => by
  have := h (i + 64) (by omega)
  simpa [hasS, show ¬ i + 64 < 64 by omega] using this
 rw [e1, e2]
theorem within_iff {a b : BS} (ha : OkS a) (hb : OkS b) : withS a b = b ↔ ∀ n, n < 128 -> hasS a n = true -> hasS b n = true := by
 constructor
 ·intro h n _ hn
  rw [<- h, hasS_with, hn]
  rfl
 ·intro h
  refine setS_ext (ha.with hb) hb fun n hn => ?_
  rw [hasS_with]
  cases e : hasS a n
  ·simp
  ·simp [h n hn e]
theorem foldS_has : ∀ (l : List Int) (s : BS), (∀ x ∈ l, 0 <= x /\ x < 128) -> OkS s -> OkS (l.foldl (fun s n => addS s n.toNat) s) /\ ∀ n, n < 128 -> (hasS (l.foldl (fun s n => addS s n.toNat) s) n = true ↔ hasS s n = true ∨ (n : Int) ∈ l)
 | [], s, _, hs => ⟨hs, fun n _ => by simp⟩
 | x :: l, s, hl, hs => by
  have hx := hl x (by simp)
  obtain ⟨h1, h2⟩ := foldS_has l (addS s x.toNat) (fun y hy => hl y (by simp [hy])) (hs.add (by omega))
  refine ⟨h1, fun n hn => ?_⟩
  rw [List.foldl_cons, h2 n hn, hasS_add s x.toNat n (by omega) hn]
  simp only [Bool.or_eq_true, decide_eq_true_eq, List.mem_cons]
  constructor
  ·rintro ((h | h) | h)
   ·exact .inl h
   ·exact .inr (.inl (by omega))
   ·exact .inr (.inr h)
  ·rintro (h | h | h)
   ·exact .inl (.inl h)
   ·exact .inl (.inr (by omega))
   ·exact .inr h
theorem setS_ok {l : List Int} (h : ∀ x ∈ l, 0 <= x /\ x < 128) : OkS (setS l) := (foldS_has l (0, 0) h OkS.zero).1
theorem setS_has {l : List Int} (h : ∀ x ∈ l, 0 <= x /\ x < 128) (n : Nat) (hn : n < 128) : hasS (setS l) n = true ↔ (n : Int) ∈ l := by
 have := (foldS_has l (0, 0) h OkS.zero).2 n hn
 rw [hasS_zero] at this
 simpa [setS] using this
theorem listS_mem (s : BS) (n : Nat) (x : Int) : x ∈ listS s n ↔ 0 <= x /\ x < n /\ hasS s x.toNat = true := by
 unfold listS
 simp only [List.mem_map, List.mem_filter, List.mem_range]
 constructor
 ·rintro ⟨i, ⟨h1, h2⟩, rfl⟩
  exact ⟨by omega, by omega, by simpa using h2⟩
 ·rintro ⟨h1, h2, h3⟩
  exact ⟨x.toNat, ⟨by omega, h3⟩, by omega⟩
theorem listS_succ (s : BS) (n : Nat) : listS s (n + 1) = listS s n ++ (if hasS s n then [(n : Int)] else []) := by
 unfold listS
 rw [List.range_succ, List.filter_append, List.map_append]
 congr 1
 by_cases h : hasS s n = true <;> simp [h]
theorem listS_len (s : BS) (n : Nat) : (listS s n).length <= n := by
 unfold listS
 rw [List.length_map]
 exact Nat.le_trans (List.length_filter_le _ _) (by simp)
theorem listS_rises (s : BS) : ∀ n, (listS s n).Pairwise (· < ·)
 | 0 => by simp [listS]
 | n + 1 => by
  rw [listS_succ, List.pairwise_append]
  refine ⟨listS_rises s n, by split <;> simp, fun x hx y hy => ?_⟩
  have := (listS_mem s n x).1 hx
  split at hy
  ·obtain rfl := List.mem_singleton.1 hy; omega
  ·cases hy
def fitU (K : List Int) (l : List (Int × Int)) (most : Nat) : Bool := l.all fun s => decide (s.1 = 2) && decide (K.getD s.2.toNat 0 ≠ 0) && decide (K.getD s.2.toNat 0 <= (most : Int))
def hStep (most : Nat) (K : List Int) (p : PV) : List Int := if K.getD p.left.toNat 0 = 0 /\ fitU K p.right most = true then K.set p.left.toNat ((most : Int) + 1) else K
def hRound (ps : List PV) (K : List Int) (most : Nat) : List Int := ps.foldl (hStep most) K
def htU (ps : List PV) (n : Nat) : Nat -> List Int
 | 0 => List.replicate n 0
 | k + 1 => hRound ps (htU ps n k) k
def nullU (ps : List PV) (n : Nat) : List Bool := (htU ps n n).map fun h => decide (0 < h)
theorem getD_set_i {K : List Int} {i j : Nat} {v : Int} : (K.set i v).getD j 0 = if i = j /\ j < K.length then v else K.getD j 0 := by
 simp only [List.getD, List.getElem?_set]
 by_cases h1 : i = j
 ·subst h1
  by_cases h2 : i < K.length
  ·simp [h2]
  ·simp [h2]
 ·simp [h1]
structure HGo (v : Int) (K L : List Int) : Prop where
 len : L.length = K.length
 old : ∀ i, K.getD i 0 ≠ 0 -> L.getD i 0 = K.getD i 0
 new : ∀ i, K.getD i 0 = 0 -> L.getD i 0 = 0 ∨ L.getD i 0 = v
theorem HGo.refl (v : Int) (K : List Int) : HGo v K K := ⟨rfl, fun _ _ => rfl, fun _ h => .inl h⟩
theorem HGo.trans {v : Int} (hv : v ≠ 0) {K L M : List Int} (h : HGo v K L) (h' : HGo v L M) : HGo v K M :=
 ⟨h'.len.trans h.len, fun i hi => by have e := h.old i hi; rw [h'.old i (by rw [e]; exact hi), e], fun i hi => by
  rcases h.new i hi with e | e
  ·exact h'.new i e
  ·right; rw [h'.old i (by rw [e]; exact hv), e]⟩
theorem hStep_go (most : Nat) (K : List Int) (p : PV) : HGo ((most : Int) + 1) K (hStep most K p) := by
 unfold hStep
 split
 ·rename_i h
  refine ⟨by simp, fun i hi => ?_, fun i hi => ?_⟩
  ·rw [getD_set_i, if_neg]
   rintro ⟨e, _⟩
   rw [e] at h
   exact hi h.1
  ·rw [getD_set_i]
   split
   ·exact .inr rfl
   ·exact .inl hi
 ·exact HGo.refl _ _
theorem hFold_go (most : Nat) : ∀ (ps : List PV) (K : List Int), HGo ((most : Int) + 1) K (ps.foldl (hStep most) K)
 | [], K => HGo.refl _ _
 | p :: ps, K => (hStep_go most K p).trans (by omega) (hFold_go most ps _)
theorem hRound_go (ps : List PV) (K : List Int) (most : Nat) : HGo ((most : Int) + 1) K (hRound ps K most) := hFold_go most ps K
theorem htU_len (ps : List PV) (n : Nat) : ∀ k, (htU ps n k).length = n
 | 0 => by simp [htU]
 | k + 1 => by rw [htU, (hRound_go _ _ _).len, htU_len ps n k]
theorem htU_bd (ps : List PV) (n : Nat) : ∀ k i, 0 <= (htU ps n k).getD i 0 /\ (htU ps n k).getD i 0 <= k
 | 0, i => by
  have : (htU ps n 0).getD i 0 = 0 := by simp only [htU, List.getD, List.getElem?_replicate]; split <;> rfl
  rw [this]; simp
 | k + 1, i => by
  have ih := htU_bd ps n k i
  have g := hRound_go ps (htU ps n k) k
  rw [htU]
  by_cases h : (htU ps n k).getD i 0 = 0
  ·rcases g.new i h with e | e <;> rw [e] <;> omega
  ·rw [g.old i h]; omega
theorem htU_keep (ps : List PV) (n k i : Nat) (h : (htU ps n k).getD i 0 ≠ 0) : ∀ d, (htU ps n (k + d)).getD i 0 = (htU ps n k).getD i 0
 | 0 => rfl
 | d + 1 => by
  have ih := htU_keep ps n k i h d
  rw [<- Nat.add_assoc, htU, (hRound_go _ _ _).old i (by rw [ih]; exact h), ih]
theorem htU_back (ps : List PV) (n k i : Nat) : ∀ d, (htU ps n (k + d)).getD i 0 ≠ 0 -> (htU ps n (k + d)).getD i 0 <= k -> (htU ps n k).getD i 0 = (htU ps n (k + d)).getD i 0
 | 0, _, _ => rfl
 | d + 1, h0, h1 => by
  rw [<- Nat.add_assoc] at h0 h1 ⊢
  have g := hRound_go ps (htU ps n (k + d)) (k + d)
  by_cases h : (htU ps n (k + d)).getD i 0 = 0
  ·rw [htU] at h0 h1
   rcases g.new i h with e | e
   ·exact absurd e h0
   ·rw [e] at h1; omega
  ·have e := g.old i h
   rw [htU, e]
   rw [htU, e] at h1
   exact htU_back ps n k i d h h1
theorem fitU_iff {K : List Int} {l : List (Int × Int)} {most : Nat} : fitU K l most = true ↔ ∀ s ∈ l, s.1 = 2 /\ K.getD s.2.toNat 0 ≠ 0 /\ K.getD s.2.toNat 0 <= (most : Int) := by
 unfold fitU
 simp [List.all_eq_true, and_assoc]
theorem hFold_has (most : Nat) (p : PV) (hp0 : 0 <= p.left) : ∀ (ps : List PV) (K : List Int), p ∈ ps -> p.left.toNat < K.length -> fitU K p.right most = true -> (ps.foldl (hStep most) K).getD p.left.toNat 0 ≠ 0
 | [], K, h, _, _ => by cases h
 | r :: ps, K, h, hl, hf => by
  have g := hStep_go most K r
  have hf' : fitU (hStep most K r) p.right most = true := by
   rw [fitU_iff] at hf ⊢
   intro s hs
   obtain ⟨h1, h2, h3⟩ := hf s hs
   rw [g.old _ h2]
   exact ⟨h1, h2, h3⟩
  rw [List.foldl_cons]
  rcases List.mem_cons.1 h with rfl | h
  ·have g2 := hFold_go most ps (hStep most K p)
   have h1 : (hStep most K p).getD p.left.toNat 0 ≠ 0 := by
    unfold hStep
    by_cases e : K.getD p.left.toNat 0 = 0
    ·rw [if_pos ⟨e, hf⟩, getD_set_i, if_pos ⟨rfl, hl⟩]; omega
    ·rw [if_neg (fun q => e q.1)]; exact e
   rw [g2.old _ h1]
   exact h1
  ·exact hFold_has most p hp0 ps _ h (by rw [g.len]; exact hl) hf'
theorem htU_fit (ps : List PV) (n k : Nat) (p : PV) (hp : p ∈ ps) (h0 : 0 <= p.left) (hl : p.left < n) (hf : fitU (htU ps n (k + 1)) p.right k = true) : (htU ps n (k + 1)).getD p.left.toNat 0 ≠ 0 := by
 rw [htU]
 refine hFold_has k p h0 ps _ hp (by rw [htU_len]; omega) ?_
 rw [fitU_iff] at hf ⊢
 intro s hs
 obtain ⟨h1, h2, h3⟩ := hf s hs
 have e := htU_back ps n k s.2.toNat 1 h2 h3
 rw [e]
 exact ⟨h1, h2, h3⟩
theorem hFold_by (most : Nat) (i : Nat) : ∀ (ps : List PV) (K : List Int), K.getD i 0 = 0 -> (ps.foldl (hStep most) K).getD i 0 ≠ 0 -> ∃ p ∈ ps, p.left.toNat = i /\ ∃ L, HGo ((most : Int) + 1) K L /\ fitU L p.right most = true
 | [], K, h, h' => absurd h h'
 | p :: ps, K, h, h' => by
  rw [List.foldl_cons] at h'
  have g := hStep_go most K p
  by_cases e : (hStep most K p).getD i 0 = 0
  ·obtain ⟨q, hq, e1, L, hL, hf⟩ := hFold_by most i ps _ e h'
   exact ⟨q, by simp [hq], e1, L, g.trans (by omega) hL, hf⟩
  ·unfold hStep at e
   split at e
   ·rename_i hc
    rw [getD_set_i] at e
    split at e
    ·rename_i hi
     exact ⟨p, by simp, hi.1, K, HGo.refl _ _, hc.2⟩
    ·exact absurd h e
   ·exact absurd h e
theorem htU_chain (ps : List PV) (n : Nat) (hps : ∀ p ∈ ps, 0 <= p.left /\ p.left < n) (h i : Nat) (e : (htU ps n (h + 2)).getD i 0 = (h : Int) + 2) : ∃ j, (htU ps n (h + 1)).getD j 0 = (h : Int) + 1 := by
 have hz : (htU ps n (h + 1)).getD i 0 = 0 := by
  by_cases q : (htU ps n (h + 1)).getD i 0 = 0
  ·exact q
  ·have := htU_keep ps n (h + 1) i q 1
   have := (htU_bd ps n (h + 1) i).2
   rw [show h + 1 + 1 = h + 2 by omega, e] at *
   omega
 obtain ⟨p, hp, hpi, L, hL, hf⟩ := hFold_by (h + 1) i ps (htU ps n (h + 1)) hz (by show (hRound ps (htU ps n (h + 1)) (h + 1)).getD i 0 ≠ 0; have : hRound ps (htU ps n (h + 1)) (h + 1) = htU ps n (h + 2) := rfl; rw [this, e]; omega)
 rw [fitU_iff] at hf
 have hK : ∀ s ∈ p.right, s.1 = 2 /\ (htU ps n (h + 1)).getD s.2.toNat 0 ≠ 0 /\ (htU ps n (h + 1)).getD s.2.toNat 0 <= ((h + 1 : Nat) : Int) := fun s hs => by
  obtain ⟨h1, h2, h3⟩ := hf s hs
  by_cases q : (htU ps n (h + 1)).getD s.2.toNat 0 = 0
  ·rcases hL.new _ q with r | r
   ·exact absurd r h2
   ·rw [r] at h3; omega
  ·exact ⟨h1, q, (htU_bd ps n (h + 1) _).2⟩
 have nf : ¬ fitU (htU ps n (h + 1)) p.right h = true := fun q => by
  have := htU_fit ps n h p hp (hps p hp).1 (hps p hp).2 q
  rw [hpi] at this
  exact this hz
 rw [fitU_iff] at nf
 have : ∃ s ∈ p.right, ¬ ((htU ps n (h + 1)).getD s.2.toNat 0 <= (h : Int)) := by
  refine Classical.byContradiction fun q => nf fun s hs => ?_
  obtain ⟨h1, h2, _⟩ := hK s hs
  exact ⟨h1, h2, Classical.byContradiction fun r => q ⟨s, hs, r⟩⟩
 obtain ⟨s, hs, hr⟩ := this
 have := (hK s hs).2.2
 exact ⟨s.2.toNat, by omega⟩
def zeroU : List Int -> Nat
 | [] => 0
 | x :: l => (if x = 0 then 1 else 0) + zeroU l
theorem zeroU_rep : ∀ n, zeroU (List.replicate n 0) = n
 | 0 => rfl
 | n + 1 => by rw [List.replicate_succ, zeroU, zeroU_rep n]; simp; omega
theorem zeroU_set : ∀ (K : List Int) (i : Nat) (v : Int), i < K.length -> K.getD i 0 = 0 -> v ≠ 0 -> zeroU (K.set i v) + 1 = zeroU K
 | [], i, v, h, _, _ => by simp at h
 | x :: l, 0, v, _, h0, hv => by
  simp only [List.getD_cons_zero] at h0
  subst h0
  simp [zeroU, hv, Nat.add_comm]
 | x :: l, i + 1, v, h, h0, hv => by
  simp only [List.getD_cons_succ] at h0
  have := zeroU_set l i v (by simpa using h) h0 hv
  simp only [List.set_cons_succ, zeroU]
  omega
theorem zeroU_pos : ∀ (K : List Int) (i : Nat), i < K.length -> K.getD i 0 = 0 -> 0 < zeroU K
 | [], i, h, _ => by simp at h
 | x :: l, 0, _, h0 => by
  simp only [List.getD_cons_zero] at h0
  simp [zeroU, h0]
  omega
 | x :: l, i + 1, h, h0 => by
  simp only [List.getD_cons_succ] at h0
  have := zeroU_pos l i (by simpa using h) h0
  simp only [zeroU]
  omega
theorem hFold_zero (most : Nat) : ∀ (ps : List PV) (K : List Int), zeroU (ps.foldl (hStep most) K) <= zeroU K /\ ∀ i, K.getD i 0 = 0 -> (ps.foldl (hStep most) K).getD i 0 ≠ 0 -> zeroU (ps.foldl (hStep most) K) + 1 <= zeroU K
 | [], K => ⟨Nat.le_refl _, fun i h h' => absurd h h'⟩
 | p :: ps, K => by
  obtain ⟨h1, h2⟩ := hFold_zero most ps (hStep most K p)
  have hs : zeroU (hStep most K p) <= zeroU K /\ ∀ i, K.getD i 0 = 0 -> (hStep most K p).getD i 0 ≠ 0 -> zeroU (hStep most K p) + 1 <= zeroU K := by
   unfold hStep
   split
   ·rename_i hc
    by_cases hl : p.left.toNat < K.length
    ·have := zeroU_set K p.left.toNat ((most : Int) + 1) hl hc.1 (by omega)
     exact ⟨by omega, fun _ _ _ => by omega⟩
    ·rw [List.set_eq_of_length_le (by omega)]
     exact ⟨Nat.le_refl _, fun i h h' => absurd h h'⟩
   ·exact ⟨Nat.le_refl _, fun i h h' => absurd h h'⟩
  rw [List.foldl_cons]
  refine ⟨by omega, fun i h h' => ?_⟩
  by_cases e : (hStep most K p).getD i 0 = 0
  ·have := h2 i e h'; omega
  ·have := hs.2 i h e; omega
theorem htU_zero (ps : List PV) (n : Nat) (hps : ∀ p ∈ ps, 0 <= p.left /\ p.left < n) : ∀ k i, (htU ps n (k + 1)).getD i 0 = (k : Int) + 1 -> zeroU (htU ps n (k + 1)) + (k + 1) <= n
 | 0, i, e => by
  have h0 : (htU ps n 0).getD i 0 = 0 := by have := htU_bd ps n 0 i; omega
  have := (hFold_zero 0 ps (htU ps n 0)).2 i h0 (by show (htU ps n 1).getD i 0 ≠ 0; rw [e]; omega)
  have hz : zeroU (htU ps n 0) = n := zeroU_rep n
  show zeroU (ps.foldl (hStep 0) (htU ps n 0)) + 1 <= n
  omega
 | k + 1, i, e => by
  obtain ⟨j, hj⟩ := htU_chain ps n hps k i (by rw [e]; omega)
  have ih := htU_zero ps n hps k j hj
  have h0 : (htU ps n (k + 1)).getD i 0 = 0 := by
   by_cases q : (htU ps n (k + 1)).getD i 0 = 0
   ·exact q
   ·have := htU_keep ps n (k + 1) i q 1
    have := (htU_bd ps n (k + 1) i).2
    omega
  have := (hFold_zero (k + 1) ps (htU ps n (k + 1))).2 i h0 (by show (htU ps n (k + 1 + 1)).getD i 0 ≠ 0; rw [e]; omega)
  show zeroU (ps.foldl (hStep (k + 1)) (htU ps n (k + 1))) + (k + 1 + 1) <= n
  omega
theorem htU_closed (ps : List PV) (n : Nat) (hps : ∀ p ∈ ps, 0 <= p.left /\ p.left < n) (p : PV) (hp : p ∈ ps) (hr : ∀ s ∈ p.right, s.1 = 2 /\ (htU ps n n).getD s.2.toNat 0 ≠ 0) : (htU ps n n).getD p.left.toNat 0 ≠ 0 := by
 intro h0
 obtain ⟨l0, l1⟩ := hps p hp
 obtain ⟨k, rfl⟩ : ∃ k, n = k + 1 := ⟨n - 1, by omega⟩
 by_cases h : ∃ s ∈ p.right, (htU ps (k + 1) (k + 1)).getD s.2.toNat 0 = (k : Int) + 1
 ·obtain ⟨s, hs, e⟩ := h
  have := htU_zero ps (k + 1) hps k _ e
  have := zeroU_pos _ p.left.toNat (by rw [htU_len]; omega) h0
  omega
 ·refine htU_fit ps (k + 1) k p hp l0 l1 (fitU_iff.2 fun s hs => ?_) h0
  have hb := (htU_bd ps (k + 1) (k + 1) s.2.toNat).2
  have hne : ¬ (htU ps (k + 1) (k + 1)).getD s.2.toNat 0 = (k : Int) + 1 := fun e => h ⟨s, hs, e⟩
  exact ⟨(hr s hs).1, (hr s hs).2, by omega⟩
theorem htU_least (ps : List PV) (n : Nat) (C : Nat -> Prop) (hC : ∀ p ∈ ps, (∀ s ∈ p.right, s.1 = 2 /\ C s.2.toNat) -> C p.left.toNat) : ∀ k i, (htU ps n k).getD i 0 ≠ 0 -> C i
 | 0, i, h => by have := htU_bd ps n 0 i; omega
 | k + 1, i, h => by
  by_cases e : (htU ps n k).getD i 0 = 0
  ·obtain ⟨p, hp, hpi, L, hL, hf⟩ := hFold_by k i ps (htU ps n k) e h
   rw [fitU_iff] at hf
   rw [<- hpi]
   refine hC p hp fun s hs => ?_
   obtain ⟨h1, h2, h3⟩ := hf s hs
   refine ⟨h1, htU_least ps n C hC k _ fun q => ?_⟩
   rcases hL.new _ q with r | r
   ·exact h2 r
   ·rw [r] at h3; omega
  ·exact htU_least ps n C hC k i e
theorem info_u64 : ∃ i, Try.prog.info? 84 = some i := by
 cases e : Try.prog.info? 84 with
 | none => exact absurd e (by decide +kernel)
 | some i => exact ⟨i, rfl⟩
theorem cells_u64 : Try.prog.cellsOf 84 = 1 := by kernel_rfl
theorem plain_u64 : Try.prog.plainKey 84 = true := by kernel_rfl
set_option linter.unusedSimpArgs false in
theorem eq_Sd (d c1 c2 b1 b2 : Nat) (w : World) : (Op.equalIn (d + 1 + 1) 86 (.agg #[.int .u64 (c1 : Int), .int .u64 (c2 : Int)]) (.agg #[.int .u64 (b1 : Int), .int .u64 (b2 : Int)])).run Try.prog w = .ok (decide ((c1, c2) = (b1, b2))) w := by
 obtain ⟨i0, hi⟩ := info_u64
 rw [Op.equalIn]
 simp only [Sem.run_bind, run_underlying Try.underlying86, Result.andThen_ok, run_sizeOf w hi, cells_u64, Nat.mul_one]
 have p0 : ∀ (x y : Value) (w : World), (part 84 #[x, y] 0).run Try.prog w = .ok x w := fun x y w => run_part_plain w plain_u64 rfl
 have p1 : ∀ (x y : Value) (w : World), (part 84 #[x, y] 1).run Try.prog w = .ok y w := fun x y w => run_part_plain w plain_u64 rfl
 have q : ∀ (a b : Int) (w : World), (Op.equalIn (d + 1) 84 (.int .u64 a) (.int .u64 b)).run Try.prog w = .ok (a == b) w := fun a b w => run_equalIn_int w d 84 .u64 _ a b Try.underlying84
 simp only [Std.Legacy.Range.forIn_eq_forIn_range', Std.Legacy.Range.size, List.range', List.forIn_cons, List.forIn_nil, Sem.run_bind, p0, p1, q, Result.andThen_ok]
 by_cases h1 : c1 = b1
 ·subst h1
  by_cases h2 : c2 = b2
  ·subst h2
   simp [p0, p1, q, List.range', Sem.run_bind]
  ·have h3 : ((c2 : Int) == (b2 : Int)) = false := by simp; omega
   simp [h3, h2, p0, p1, q, List.range', Sem.run_bind]
 ·have h3 : ((c1 : Int) == (b1 : Int)) = false := by simp; omega
  simp [h3, h1, p0, p1, q, List.range', Sem.run_bind]
theorem eq_S (c1 c2 b1 b2 : Nat) (w : World) : (Op.equalIn 10000 86 (.agg #[.int .u64 (c1 : Int), .int .u64 (c2 : Int)]) (.agg #[.int .u64 (b1 : Int), .int .u64 (b2 : Int)])).run Try.prog w = .ok (decide ((c1, c2) = (b1, b2))) w := eq_Sd 9998 c1 c2 b1 b2 w
abbrev sv (s : BS) : Value := .agg #[.int .u64 (s.1 : Int), .int .u64 (s.2 : Int)]
abbrev sBox (s : BS) : Obj := .cells #[.int .u64 (s.1 : Int), .int .u64 (s.2 : Int)] 86
def stepW (a b : BS) (k : Nat) : BS := (if 0 < k then a.1 ||| b.1 else a.1, if 1 < k then a.2 ||| b.2 else a.2)
theorem three_box (w : World) (a b c : Obj) : Below w.heap.size w (((w.alloc a).alloc b).alloc c) /\ (((w.alloc a).alloc b).alloc c).heap[w.heap.size]? = some a /\ (((w.alloc a).alloc b).alloc c).heap[w.heap.size + 1]? = some b /\ (((w.alloc a).alloc b).alloc c).heap[w.heap.size + 1 + 1]? = some c := by
 have b1 := below_alloc w a
 have b2 := below_alloc (w.alloc a) b
 have b3 := below_alloc ((w.alloc a).alloc b) c
 have s1 : (w.alloc a).heap.size = w.heap.size + 1 := by simp
 have s2 : ((w.alloc a).alloc b).heap.size = w.heap.size + 1 + 1 := by simp
 refine ⟨b1.trans ((b2.mono b1.size).trans (b3.mono (Nat.le_trans b1.size b2.size))), ?_, ?_, ?_⟩
 ·rw [b3.block _ (by omega), b2.block _ (by omega)]; exact heap_alloc_new _ _
 ·rw [b3.block _ (by omega), <- s1]; exact heap_alloc_new _ _
 ·rw [<- s2]; exact heap_alloc_new _ _
theorem or_S (a b : Nat) (ha : a < 18446744073709551616) (hb : b < 18446744073709551616) : bits .or .u64 (a : Int) (b : Int) = ((a ||| b : Nat) : Int) := u64_or_nat a b ha hb
theorem with_S (a b : BS) (w : World) (ha : OkS a) (hb : OkS b) :
  Calls Try.prog 45 #[sv a, sv b] w fun e w' => e = .returned (sv (withS a b)) /\ Below w.heap.size w w' := by
 obtain ⟨t0, t1, t2, t3⟩ := three_box w (sBox a) (sBox b) (sBox (0, 0))
 have T : Hid (Below w.heap.size w (((w.alloc (sBox a)).alloc (sBox b)).alloc (sBox (0, 0)))) := t0
 have o1 := or_S a.1 b.1 ha.1 hb.1
 have o2 := or_S a.2 b.2 ha.2 hb.2
 obtain ⟨a1, a2⟩ := a
 obtain ⟨b1, b2⟩ := b
 simp only at o1 o2
 clear t0
 go_enter Try.func45, Try.ntmps45
 go_wp2
 go_loopw [6] (fun z wr => ∃ k : Nat, k <= 2 /\ z = .int .i64 k /\ wr.heap[w.heap.size]? = some (sBox (stepW (a1, a2) (b1, b2) k)) /\ wr.heap[w.heap.size + 1]? = some (sBox (b1, b2)) /\ wr.heap[w.heap.size + 1 + 1]? = some (sBox (0, 0)) /\ Below w.heap.size w wr) (fun z _ => 2 - (intOf z).toNat)
 case atStart => exact ⟨0, Nat.zero_le _, rfl, t1, t2, t3, T.out⟩
 case round =>
  clear t1 t2 t3
  obtain ⟨k, hk, rfl, h1, h2, h3, h4⟩ := hrel
  have H : Hid (wr.heap[w.heap.size]? = some (sBox (stepW (a1, a2) (b1, b2) k)) /\ wr.heap[w.heap.size + 1]? = some (sBox (b1, b2)) /\ wr.heap[w.heap.size + 1 + 1]? = some (sBox (0, 0)) /\ Below w.heap.size w wr) := ⟨h1, h2, h3, h4⟩
  have hz := lt_of_block h1
  have hk3 : k = 0 ∨ k = 1 ∨ k = 2 := by omega
  rcases hk3 with rfl | rfl | rfl
  ·have c0 : wr.cell? ⟨w.heap.size, 0, none⟩ = some (.int .u64 (a1 : Int)) := (cellq_any h1).trans rfl
   have c1 : wr.cell? ⟨w.heap.size + 1, 0, none⟩ = some (.int .u64 (b1 : Int)) := (cellq_any h2).trans rfl
   have f0 : wr.frozen? ⟨w.heap.size, 0, none⟩ = false := by simp [World.frozen?, h1]
   clear h1 h2 h3 h4
   go_wp2
   go_region
   go_wp2
   go_roundw
   case rel =>
    obtain ⟨h1, h2, h3, h4⟩ := H.out
    refine ⟨1, by omega, by go_num, ?_, ?_, ?_, ?_⟩
    ·exact (heap_set h1 0 _).trans rfl
    ·exact (Below.heap_setCell wr ⟨w.heap.size, 0, none⟩ _ _ (show w.heap.size + 1 ≠ w.heap.size by omega)).trans h2
    ·exact (Below.heap_setCell wr ⟨w.heap.size, 0, none⟩ _ _ (show w.heap.size + 1 + 1 ≠ w.heap.size by omega)).trans h3
    ·exact (h4.setCell (p := ⟨w.heap.size, 0, none⟩) (Nat.le_refl _) _).drew
   case measure => simp [intOf]
  ·have c0 : wr.cell? ⟨w.heap.size, 1, none⟩ = some (.int .u64 (a2 : Int)) := (cellq_any h1).trans rfl
   have c1 : wr.cell? ⟨w.heap.size + 1, 1, none⟩ = some (.int .u64 (b2 : Int)) := (cellq_any h2).trans rfl
   have f0 : wr.frozen? ⟨w.heap.size, 1, none⟩ = false := by simp [World.frozen?, h1]
   clear h1 h2 h3 h4
   go_wp2
   go_region
   go_wp2
   go_roundw
   case rel =>
    obtain ⟨h1, h2, h3, h4⟩ := H.out
    refine ⟨2, by omega, by go_num, ?_, ?_, ?_, ?_⟩
    ·exact (heap_set h1 1 _).trans rfl
    ·exact (Below.heap_setCell wr ⟨w.heap.size, 1, none⟩ _ _ (show w.heap.size + 1 ≠ w.heap.size by omega)).trans h2
    ·exact (Below.heap_setCell wr ⟨w.heap.size, 1, none⟩ _ _ (show w.heap.size + 1 + 1 ≠ w.heap.size by omega)).trans h3
    ·exact (h4.setCell (p := ⟨w.heap.size, 1, none⟩) (Nat.le_refl _) _).drew
   case measure => simp [intOf]
  ·have c0 : wr.cell? ⟨w.heap.size, 0, none⟩ = some (.int .u64 ((a1 ||| b1 : Nat) : Int)) := (cellq_any h1).trans rfl
   have c1 : wr.cell? ⟨w.heap.size, 1, none⟩ = some (.int .u64 ((a2 ||| b2 : Nat) : Int)) := (cellq_any h1).trans rfl
   have d0 : wr.cell? ⟨w.heap.size + 1 + 1, 0, none⟩ = some (.int .u64 0) := (cellq_any h3).trans rfl
   have d1 : wr.cell? ⟨w.heap.size + 1 + 1, 1, none⟩ = some (.int .u64 0) := (cellq_any h3).trans rfl
   have f0 : wr.frozen? ⟨w.heap.size + 1 + 1, 0, none⟩ = false := by simp [World.frozen?, h3]
   have f1 : wr.frozen? ⟨w.heap.size + 1 + 1, 1, none⟩ = false := by simp [World.frozen?, h3]
   have hz3 := lt_of_block h3
   clear h1 h2 h3 h4
   go_wp2
   refine bodyPost_ret (v := sv (withS (a1, a2) (b1, b2))) (by simp [results, Try.results45, go_sem, d0, d1, withS]) rfl ?_
   obtain ⟨h1, h2, h3, h4⟩ := H.out
   exact ⟨rfl, (h4.setCell (p := ⟨w.heap.size + 1 + 1, 0, none⟩) (by show w.heap.size <= w.heap.size + 1 + 1; omega) _).setCell (p := ⟨w.heap.size + 1 + 1, 1, none⟩) (by show w.heap.size <= w.heap.size + 1 + 1; omega) _⟩
theorem within_S (a b : BS) (w : World) (ha : OkS a) (hb : OkS b) (x : Bool) (hx : decide (withS a b = b) = x) :
  Calls Try.prog 34 #[sv a, sv b] w fun e w' => e = .returned (.bool x) /\ Below w.heap.size w w' := by
 have WC : Hid (∀ w', Calls Try.prog 45 #[sv a, sv b] w' fun e w2 => e = .returned (sv (withS a b)) /\ Below w'.heap.size w' w2) := fun w' => with_S a b w' ha hb
 have HX : Hid (decide (withS a b = b) = x) := hx
 have B0 : Hid (Below w.heap.size w ((w.alloc (sBox a)).alloc (sBox b)) /\ ((w.alloc (sBox a)).alloc (sBox b)).heap[w.heap.size + 1]? = some (sBox b)) := by
  have h := heap_alloc_new (w.alloc (sBox a)) (sBox b)
  rw [show (w.alloc (sBox a)).heap.size = w.heap.size + 1 by simp] at h
  exact ⟨(below_alloc w _).trans ((below_alloc _ _).mono (below_alloc w _).size), h⟩
 generalize hW : withS a b = c at *
 obtain ⟨a1, a2⟩ := a
 obtain ⟨b1, b2⟩ := b
 obtain ⟨c1, c2⟩ := c
 have hq := eq_S c1 c2 b1 b2
 have HY : Hid ((decide (c1 = b1) && decide (c2 = b2)) = x) := by show _ = _; rw [<- HX.out]; simp
 clear ha hb hx hW
 go_enter Try.func34, Try.ntmps34
 go_wp2
 go_region_with (go_at_call 45; refine (WC.out _).mono ?_; rintro e w2 ⟨rfl, hB2⟩; have B2 : Hid (Below w.heap.size w w2) := (B0.out.1.drew).trans (hB2.mono B0.out.1.size); have X2 : w2.heap[w.heap.size + 1]? = some (sBox (b1, b2)) := (hB2.block _ (lt_of_block B0.out.2)).trans B0.out.2; have d0 : w2.cell? ⟨w.heap.size + 1, 0, none⟩ = some (.int .u64 (b1 : Int)) := (cellq_any X2).trans rfl; have d1 : w2.cell? ⟨w.heap.size + 1, 1, none⟩ = some (.int .u64 (b2 : Int)) := (cellq_any X2).trans rfl; clear hB2 X2)
 all_goals
  go_wp2
  go_ret
  exact ⟨congrArg (fun b => Ending.returned (.bool b)) HY.out, B2.out⟩
theorem quo64 (n : Nat) : (n : Int).tdiv 64 = ((n / 64 : Nat) : Int) := by rw [Int.tdiv_eq_ediv_of_nonneg (by omega)]; omega
theorem rem64 (n : Nat) : (n : Int).tmod 64 = ((n % 64 : Nat) : Int) := by rw [Int.tmod_eq_emod_of_nonneg (by omega)]; omega
theorem bit_S (a n : Nat) (ha : a < 18446744073709551616) : (bits .and .u64 ((a : Int) / 2 ^ n) 1 == 1) = a.testBit n := by
 have e : (a : Int) / 2 ^ n = ((a / 2 ^ n : Nat) : Int) := by simp
 have h1 : a / 2 ^ n < 18446744073709551616 := Nat.lt_of_le_of_lt (Nat.div_le_self _ _) ha
 rw [e, show (1 : Int) = ((1 : Nat) : Int) from rfl, u64_and_nat _ _ h1 (by omega), Nat.and_one_is_mod, Nat.testBit_eq_decide_div_mod_eq]
 by_cases q : a / 2 ^ n % 2 = 1
 ·simp [q]
 ·have q2 : a / 2 ^ n % 2 = 0 := by omega
  rw [q2]
  rfl
theorem shl_S (n : Nat) (hn : n < 64) : IntKind.u64.wrap (2 ^ n) = ((2 ^ n : Nat) : Int) := by
 have h := pow64 hn
 have e : (2 : Int) ^ n = ((2 ^ n : Nat) : Int) := by simp
 rw [e, IntKind.wrap_u64]
 generalize 2 ^ n = p at h ⊢
 omega
theorem has_S (s : BS) (n : Nat) (hn : n < 128) (hs : OkS s) (w : World) :
  Calls Try.prog 57 #[sv s, .int .i64 n] w fun e w' => e = .returned (.bool (hasS s n)) /\ Below w.heap.size w w' := by
 obtain ⟨s1, s2⟩ := s
 have v1 := bit_S s1 n hs.1
 have v2 := bit_S s2 (n - 64) hs.2
 by_cases h : n < 64
 ·have q1 : (n : Int).tdiv 64 = 0 := by rw [quo64]; omega
  have q2 : (n : Int).tmod 64 = n := by rw [rem64]; omega
  have V : Hid (hasS (s1, s2) n = (bits .and .u64 ((s1 : Int) / 2 ^ n) 1 == 1)) := by show _ = _; simp only [v1, hasS, h, if_true]
  clear v1 v2
  go_enter Try.func57, Try.ntmps57
  go_wp2
  go_ret
  exact ⟨by rw [V.out]; rfl, below_alloc _ _⟩
 ·have q1 : (n : Int).tdiv 64 = 1 := by rw [quo64]; omega
  have q2 : (n : Int).tmod 64 = ((n - 64 : Nat) : Int) := by rw [rem64]; omega
  have V : Hid (hasS (s1, s2) n = (bits .and .u64 ((s2 : Int) / 2 ^ (n - 64)) 1 == 1)) := by show _ = _; simp only [v2, hasS, h, if_false]
  have hm64 : n - 64 < 64 := by omega
  generalize n - 64 = m at *
  clear v1 v2
  go_enter Try.func57, Try.ntmps57
  go_wp2
  go_ret
  exact ⟨by rw [V.out]; rfl, below_alloc _ _⟩
theorem add_S (s : BS) (n b : Nat) (hn : n < 128) (hs : OkS s) (w : World) (hb : w.heap[b]? = some (sBox s)) :
  Calls Try.prog 83 #[.pointer (some ⟨b, 0, none⟩), .int .i64 n] w fun e w' => e = .returned (.tuple #[]) /\ w'.heap[b]? = some (sBox (addS s n)) /\ (∀ j, j ≠ b -> w'.heap[j]? = w.heap[j]?) /\ (∀ B, B <= b -> Below B w w') := by
 obtain ⟨s1, s2⟩ := s
 have hz := lt_of_block hb
 have HB : Hid (w.heap[b]? = some (sBox (s1, s2))) := hb
 by_cases h : n < 64
 ·have q1 : (n : Int).tdiv 64 = 0 := by rw [quo64]; omega
  have q2 : (n : Int).tmod 64 = n := by rw [rem64]; omega
  have c0 : w.cell? ⟨b, 0, none⟩ = some (.int .u64 (s1 : Int)) := (cellq_any hb).trans rfl
  have f0 : w.frozen? ⟨b, 0, none⟩ = false := by simp [World.frozen?, hb]
  have V : Hid (addS (s1, s2) n = (s1 ||| 2 ^ n, s2) /\ bits .or .u64 (s1 : Int) (IntKind.u64.wrap (2 ^ n)) = ((s1 ||| 2 ^ n : Nat) : Int)) := ⟨by simp [addS, h], by rw [shl_S n h]; exact or_S s1 _ hs.1 (pow64 h)⟩
  clear hb
  go_enter Try.func83, Try.ntmps83
  go_wp2
  go_region
  go_end0
  rw [V.out.1, V.out.2]
  exact ⟨rfl, (heap_set HB.out 0 _).trans rfl, fun j hj => Below.heap_setCell w ⟨b, 0, none⟩ _ _ hj, fun B hB => ((Below.refl B w).setCell (p := ⟨b, 0, none⟩) hB _).drew⟩
 ·have q1 : (n : Int).tdiv 64 = 1 := by rw [quo64]; omega
  have q2 : (n : Int).tmod 64 = ((n - 64 : Nat) : Int) := by rw [rem64]; omega
  have c0 : w.cell? ⟨b, 1, none⟩ = some (.int .u64 (s2 : Int)) := (cellq_any hb).trans rfl
  have f0 : w.frozen? ⟨b, 1, none⟩ = false := by simp [World.frozen?, hb]
  have V : Hid (addS (s1, s2) n = (s1, s2 ||| 2 ^ (n - 64)) /\ bits .or .u64 (s2 : Int) (IntKind.u64.wrap (2 ^ (n - 64))) = ((s2 ||| 2 ^ (n - 64) : Nat) : Int)) := ⟨by simp [addS, h], by rw [shl_S _ (by omega)]; exact or_S s2 _ hs.2 (pow64 (by omega))⟩
  have hm64 : n - 64 < 64 := by omega
  generalize n - 64 = m at *
  clear hb
  go_enter Try.func83, Try.ntmps83
  go_wp2
  go_region
  go_end0
  rw [V.out.1, V.out.2]
  exact ⟨rfl, (heap_set HB.out 1 _).trans rfl, fun j hj => Below.heap_setCell w ⟨b, 1, none⟩ _ _ hj, fun B hB => ((Below.refl B w).setCell (p := ⟨b, 1, none⟩) hB _).drew⟩
theorem setOf_S (ao : Option Addr) (c : Nat) (l : List Int) (w : World) (hr : InRow w ao l) (hl : l.length <= 140737488355328) (hb : ∀ x ∈ l, 0 <= x /\ x < 128) :
  Calls Try.prog 65 #[.slice ao l.length c] w fun e w' => e = .returned (sv (setS l)) /\ Below w.heap.size w w' := by
 have HR : Hid (InRow w ao l) := hr
 have HBD : Hid (∀ x ∈ l, 0 <= x /\ x < 128) := hb
 have t1 : ((w.alloc (sBox (0, 0))).alloc (sBox (0, 0))).heap[w.heap.size]? = some (sBox (0, 0)) := ((below_alloc _ _).block _ (lt_of_block (heap_alloc_new w _))).trans (heap_alloc_new w _)
 have t2 : ((w.alloc (sBox (0, 0))).alloc (sBox (0, 0))).heap[w.heap.size + 1]? = some (sBox (0, 0)) := by
  have h := heap_alloc_new (w.alloc (sBox (0, 0))) (sBox (0, 0))
  rwa [show (w.alloc (sBox (0, 0))).heap.size = w.heap.size + 1 by simp] at h
 have T : Hid (Below w.heap.size w ((w.alloc (sBox (0, 0))).alloc (sBox (0, 0)))) := (below_alloc w _).trans ((below_alloc _ _).mono (below_alloc w _).size)
 clear hr hb
 go_enter Try.func65, Try.ntmps65
 go_wp2
 go_loopw [8] (fun z wr => ∃ k : Nat, k <= l.length /\ z = .int .i64 k /\ OkS (setS (l.take k)) /\ wr.heap[w.heap.size]? = some (sBox (0, 0)) /\ wr.heap[w.heap.size + 1]? = some (sBox (setS (l.take k))) /\ Below w.heap.size w wr) (fun z _ => l.length - (intOf z).toNat)
 case atStart => exact ⟨0, Nat.zero_le _, rfl, OkS.zero, t1, t2, T.out⟩
 case round =>
  clear t1 t2 T
  obtain ⟨k, hk, rfl, ok, h1, h2, h4⟩ := hrel
  have H : Hid (OkS (setS (l.take k)) /\ wr.heap[w.heap.size]? = some (sBox (0, 0)) /\ wr.heap[w.heap.size + 1]? = some (sBox (setS (l.take k))) /\ Below w.heap.size w wr) := ⟨ok, h1, h2, h4⟩
  by_cases hlt : k < l.length
  ·obtain ⟨b, o, rfl, hbl, hc⟩ := (HR.out.later h4) (by intro e; rw [e] at hlt; simp at hlt)
   have c0 := hc k hlt
   have hm : l.getD k 0 ∈ l := by simp [List.getD, hlt]
   obtain ⟨b0, b1⟩ := HBD.out _ hm
   have hst : setS (l.take (k + 1)) = addS (setS (l.take k)) (l.getD k 0).toNat := by
    unfold setS
    rw [List.take_succ_eq_append_getElem hlt, List.foldl_append]
    simp [List.getD, hlt]
   have HST : Hid (setS (l.take (k + 1)) = addS (setS (l.take k)) (l.getD k 0).toNat /\ (l.getD k 0).toNat < 128) := ⟨hst, by omega⟩
   have klt : (k : Int) < (l.length : Int) := by omega
   generalize l.getD k 0 = x at *
   obtain ⟨m, rfl⟩ : ∃ m : Nat, x = (m : Int) := ⟨x.toNat, by omega⟩
   simp only [Int.toNat_natCast] at HST
   clear h1 h2 h4 hc ok hst hm
   go_wp2_with (go_at_call 83; refine (add_S _ m (w.heap.size + 1) HST.out.2 H.out.1 _ H.out.2.2.1).mono ?_; rintro e w2 ⟨rfl, a1, a2, a3⟩; have A : Hid (w2.heap[w.heap.size + 1]? = some (sBox (addS (setS (l.take k)) m)) /\ (∀ j, j ≠ w.heap.size + 1 -> w2.heap[j]? = wr.heap[j]?) /\ ∀ B, B <= w.heap.size + 1 -> Below B wr w2) := ⟨a1, a2, a3⟩; clear a1 a2 a3)
   go_roundw
   case rel =>
    obtain ⟨ok, h1, h2, h4⟩ := H.out
    obtain ⟨a1, a2, a3⟩ := A.out
    refine ⟨k + 1, by omega, by go_num, ?_, ?_, ?_, ?_⟩
    ·rw [HST.out.1]; exact ok.add HST.out.2
    ·rw [a2 _ (by omega)]; exact h1
    ·rw [HST.out.1]; exact a1
    ·exact h4.trans (a3 _ (by omega))
   case measure => simp [intOf]; omega
  ·obtain rfl : k = l.length := by omega
   rw [List.take_length] at h2 ok
   have h5 : Hid (Below w.heap.size w wr) := h4
   generalize hS : setS l = s at *
   obtain ⟨s1, s2⟩ := s
   have c0 : wr.cell? ⟨w.heap.size + 1, 0, none⟩ = some (.int .u64 (s1 : Int)) := (cellq_any h2).trans rfl
   have c1 : wr.cell? ⟨w.heap.size + 1, 1, none⟩ = some (.int .u64 (s2 : Int)) := (cellq_any h2).trans rfl
   have d0 : wr.cell? ⟨w.heap.size, 0, none⟩ = some (.int .u64 0) := (cellq_any h1).trans rfl
   have d1 : wr.cell? ⟨w.heap.size, 1, none⟩ = some (.int .u64 0) := (cellq_any h1).trans rfl
   have f0 : wr.frozen? ⟨w.heap.size, 0, none⟩ = false := by simp [World.frozen?, h1]
   have f1 : wr.frozen? ⟨w.heap.size, 1, none⟩ = false := by simp [World.frozen?, h1]
   have hz := lt_of_block h1
   clear h1 h2 h4
   go_wp2
   refine bodyPost_ret (v := sv (s1, s2)) (by simp [results, Try.results65, go_sem, d0, d1]) rfl ?_
   exact ⟨by rw [hS], (h5.out.setCell (p := ⟨w.heap.size, 0, none⟩) (Nat.le_refl _) _).setCell (p := ⟨w.heap.size, 1, none⟩) (Nat.le_refl _) _⟩
end Go.Proofs.Ytfgdpmcpjpceoaa
