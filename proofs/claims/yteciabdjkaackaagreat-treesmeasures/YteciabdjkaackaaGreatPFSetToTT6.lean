import Derived.Test.YteciabdjkaackaaGreatPBBaseToGRow
import Derived.Laws.BitsAllLaws
import Derived.Laws.StructEq
import Derived.ChangeKeysEq
import Derived.RegionTactic
import Derived.BigRegion
import Derived.Deep.RegionWith
import Derived.Test.YteciabdjkaackaaGreatPGCheckCToGCheckD
import Derived.Test.YteciabdjkaackaaGreatPGRulesToGBulk
import Derived.Deep.QuietTactic
import Derived.BigQuiet
import Derived.RangeFuncNested
import Derived.RangeFuncLeaves
import Derived.Shelf.Abstract
import Derived.WalkKit
import Derived.OwnWalkIn
import Derived.TacticsInMore
import Derived.LoopNIn
import Derived.LoopIn
import Derived.RangeFuncCalls
import Derived.Test.YteciabdjkaackaaGreatPTW3ToRegX
import Derived.Lib.SliceRun
import Derived.Test.YteciabdjkaackaaGreatPTW5ToTT2
import Derived.Test.YteciabdjkaackaaGreatPTTPToRegS
namespace Go.Proofs.YteciabdjkaackaaGreat
set_option linter.unusedVariables false
open Go.RowKit
abbrev BS := Nat × Nat
def OkS (s : BS) : Prop := s.1 < 18446744073709551616 /\ s.2 < 18446744073709551616
def addS (s : BS) (n : Nat) : BS := if n < 64 then (s.1 ||| 2 ^ n, s.2) else (s.1, s.2 ||| 2 ^ (n - 64))
def hasS (s : BS) (n : Nat) : Bool := if n < 64 then s.1.testBit n else s.2.testBit (n - 64)
def withS (a b : BS) : BS := (a.1 ||| b.1, a.2 ||| b.2)
def setS (l : List Int) : BS := l.foldl (fun s n => addS s n.toNat) (0, 0)
theorem pow64 {n : Nat} (h : n < 64) : 2 ^ n < 18446744073709551616 := by
 have := Nat.pow_lt_pow_right (a := 2) (by omega) h
 simpa using this
theorem or64 {a b : Nat} (ha : a < 18446744073709551616) (hb : b < 18446744073709551616) : a ||| b < 18446744073709551616 := Nat.or_lt_two_pow (n := 64) ha hb
theorem OkS.add {s : BS} (h : OkS s) {n : Nat} (hn : n < 128) : OkS (addS s n) := by
 unfold addS
 split
 ·exact ⟨or64 h.1 (pow64 (by omega)), h.2⟩
 ·exact ⟨h.1, or64 h.2 (pow64 (by omega))⟩
theorem OkS.with {a b : BS} (ha : OkS a) (hb : OkS b) : OkS (withS a b) := ⟨or64 ha.1 hb.1, or64 ha.2 hb.2⟩
theorem OkS.zero : OkS (0, 0) := ⟨by decide, by decide⟩
theorem hasS_add (s : BS) (n m : Nat) (hn : n < 128) (hm : m < 128) : hasS (addS s n) m = (hasS s m || decide (n = m)) := by
 unfold addS hasS
 by_cases h1 : n < 64 <;> by_cases h2 : m < 64 <;> simp only [h1, h2, if_true, if_false, Nat.testBit_or, Nat.testBit_two_pow]
 ·have e : decide (n = m) = false := by simp; omega
  simp [e]
 ·have e : decide (n = m) = false := by simp; omega
  simp [e]
 ·have e : decide (n - 64 = m - 64) = decide (n = m) := by simp only [decide_eq_decide]; omega
  rw [e]
theorem hasS_with (a b : BS) (n : Nat) : hasS (withS a b) n = (hasS a n || hasS b n) := by
 unfold hasS withS
 split <;> simp
theorem hasS_zero (n : Nat) : hasS (0, 0) n = false := by
 unfold hasS
 split <;> simp
theorem foldS_has : ∀ (l : List Int) (s : BS), (∀ x ∈ l, 0 <= x /\ x < 128) -> OkS s -> OkS (l.foldl (fun s n => addS s n.toNat) s) /\ ∀ n, n < 128 -> (hasS (l.foldl (fun s n => addS s n.toNat) s) n = true ↔ hasS s n = true ∨ (n : Int) ∈ l)
 | [], s, _, hs => ⟨hs, fun n _ => by simp⟩
 | x :: l, s, hl, hs => by
  have hx := hl x (by simp)
  obtain ⟨h1, h2⟩ := foldS_has l (addS s x.toNat) (fun y hy => hl y (by simp [hy])) (hs.add (by omega))
  refine ⟨h1, fun n hn => ?_⟩
  rw [List.foldl_cons, h2 n hn, hasS_add s x.toNat n (by omega) hn]
  simp only [Bool.or_eq_true, decide_eq_true_eq, List.mem_cons]
  constructor
  ·rintro ((h | h) | h)
   ·exact .inl h
   ·exact .inr (.inl (by omega))
   ·exact .inr (.inr h)
  ·rintro (h | h | h)
   ·exact .inl (.inl h)
   ·exact .inl (.inr (by omega))
   ·exact .inr h
theorem setS_has {l : List Int} (h : ∀ x ∈ l, 0 <= x /\ x < 128) (n : Nat) (hn : n < 128) : hasS (setS l) n = true ↔ (n : Int) ∈ l := by
 have := (foldS_has l (0, 0) h OkS.zero).2 n hn
 rw [hasS_zero] at this
 simpa [setS] using this
def fitU (K : List Int) (l : List (Int × Int)) (most : Nat) : Bool := l.all fun s => decide (s.1 = 2) && decide (K.getD s.2.toNat 0 ≠ 0) && decide (K.getD s.2.toNat 0 <= (most : Int))
def hStep (most : Nat) (K : List Int) (p : PV) : List Int := if K.getD p.left.toNat 0 = 0 /\ fitU K p.right most = true then K.set p.left.toNat ((most : Int) + 1) else K
def hRound (ps : List PV) (K : List Int) (most : Nat) : List Int := ps.foldl (hStep most) K
def htU (ps : List PV) (n : Nat) : Nat -> List Int
 | 0 => List.replicate n 0
 | k + 1 => hRound ps (htU ps n k) k
def nullU (ps : List PV) (n : Nat) : List Bool := (htU ps n n).map fun h => decide (0 < h)
theorem getD_set_i {K : List Int} {i j : Nat} {v : Int} : (K.set i v).getD j 0 = if i = j /\ j < K.length then v else K.getD j 0 := by
 simp only [List.getD, List.getElem?_set]
 by_cases h1 : i = j
 ·subst h1
  by_cases h2 : i < K.length
  ·simp [h2]
  ·simp [h2]
 ·simp [h1]
structure HGo (v : Int) (K L : List Int) : Prop where
 len : L.length = K.length
 old : ∀ i, K.getD i 0 ≠ 0 -> L.getD i 0 = K.getD i 0
 new : ∀ i, K.getD i 0 = 0 -> L.getD i 0 = 0 ∨ L.getD i 0 = v
theorem HGo.refl (v : Int) (K : List Int) : HGo v K K := ⟨rfl, fun _ _ => rfl, fun _ h => .inl h⟩
theorem HGo.trans {v : Int} (hv : v ≠ 0) {K L M : List Int} (h : HGo v K L) (h' : HGo v L M) : HGo v K M :=
 ⟨h'.len.trans h.len, fun i hi => by have e := h.old i hi; rw [h'.old i (by rw [e]; exact hi), e], fun i hi => by
  rcases h.new i hi with e | e
  ·exact h'.new i e
  ·right; rw [h'.old i (by rw [e]; exact hv), e]⟩
theorem hStep_go (most : Nat) (K : List Int) (p : PV) : HGo ((most : Int) + 1) K (hStep most K p) := by
 unfold hStep
 split
 ·rename_i h
  refine ⟨by simp, fun i hi => ?_, fun i hi => ?_⟩
  ·rw [getD_set_i, if_neg]
   rintro ⟨e, _⟩
   rw [e] at h
   exact hi h.1
  ·rw [getD_set_i]
   split
   ·exact .inr rfl
   ·exact .inl hi
 ·exact HGo.refl _ _
theorem hFold_go (most : Nat) : ∀ (ps : List PV) (K : List Int), HGo ((most : Int) + 1) K (ps.foldl (hStep most) K)
 | [], K => HGo.refl _ _
 | p :: ps, K => (hStep_go most K p).trans (by omega) (hFold_go most ps _)
theorem hRound_go (ps : List PV) (K : List Int) (most : Nat) : HGo ((most : Int) + 1) K (hRound ps K most) := hFold_go most ps K
theorem htU_len (ps : List PV) (n : Nat) : ∀ k, (htU ps n k).length = n
 | 0 => by simp [htU]
 | k + 1 => by rw [htU, (hRound_go _ _ _).len, htU_len ps n k]
theorem htU_bd (ps : List PV) (n : Nat) : ∀ k i, 0 <= (htU ps n k).getD i 0 /\ (htU ps n k).getD i 0 <= k
 | 0, i => by
  have : (htU ps n 0).getD i 0 = 0 := by simp only [htU, List.getD, List.getElem?_replicate]; split <;> rfl
  rw [this]; simp
 | k + 1, i => by
  have ih := htU_bd ps n k i
  have g := hRound_go ps (htU ps n k) k
  rw [htU]
  by_cases h : (htU ps n k).getD i 0 = 0
  ·rcases g.new i h with e | e <;> rw [e] <;> omega
  ·rw [g.old i h]; omega
theorem htU_keep (ps : List PV) (n k i : Nat) (h : (htU ps n k).getD i 0 ≠ 0) : ∀ d, (htU ps n (k + d)).getD i 0 = (htU ps n k).getD i 0
 | 0 => rfl
 | d + 1 => by
  have ih := htU_keep ps n k i h d
  rw [<- Nat.add_assoc, htU, (hRound_go _ _ _).old i (by rw [ih]; exact h), ih]
theorem htU_back (ps : List PV) (n k i : Nat) : ∀ d, (htU ps n (k + d)).getD i 0 ≠ 0 -> (htU ps n (k + d)).getD i 0 <= k -> (htU ps n k).getD i 0 = (htU ps n (k + d)).getD i 0
 | 0, _, _ => rfl
 | d + 1, h0, h1 => by
  rw [<- Nat.add_assoc] at h0 h1 ⊢
  have g := hRound_go ps (htU ps n (k + d)) (k + d)
  by_cases h : (htU ps n (k + d)).getD i 0 = 0
  ·rw [htU] at h0 h1
   rcases g.new i h with e | e
   ·exact absurd e h0
   ·rw [e] at h1; omega
  ·have e := g.old i h
   rw [htU, e]
   rw [htU, e] at h1
   exact htU_back ps n k i d h h1
theorem fitU_iff {K : List Int} {l : List (Int × Int)} {most : Nat} : fitU K l most = true ↔ ∀ s ∈ l, s.1 = 2 /\ K.getD s.2.toNat 0 ≠ 0 /\ K.getD s.2.toNat 0 <= (most : Int) := by
 unfold fitU
 simp [List.all_eq_true, and_assoc]
theorem hFold_has (most : Nat) (p : PV) (hp0 : 0 <= p.left) : ∀ (ps : List PV) (K : List Int), p ∈ ps -> p.left.toNat < K.length -> fitU K p.right most = true -> (ps.foldl (hStep most) K).getD p.left.toNat 0 ≠ 0
 | [], K, h, _, _ => by cases h
 | r :: ps, K, h, hl, hf => by
  have g := hStep_go most K r
  have hf' : fitU (hStep most K r) p.right most = true := by
   rw [fitU_iff] at hf ⊢
   intro s hs
   obtain ⟨h1, h2, h3⟩ := hf s hs
   rw [g.old _ h2]
   exact ⟨h1, h2, h3⟩
  rw [List.foldl_cons]
  rcases List.mem_cons.1 h with rfl | h
  ·have g2 := hFold_go most ps (hStep most K p)
   have h1 : (hStep most K p).getD p.left.toNat 0 ≠ 0 := by
    unfold hStep
    by_cases e : K.getD p.left.toNat 0 = 0
    ·rw [if_pos ⟨e, hf⟩, getD_set_i, if_pos ⟨rfl, hl⟩]; omega
    ·rw [if_neg (fun q => e q.1)]; exact e
   rw [g2.old _ h1]
   exact h1
  ·exact hFold_has most p hp0 ps _ h (by rw [g.len]; exact hl) hf'
theorem htU_fit (ps : List PV) (n k : Nat) (p : PV) (hp : p ∈ ps) (h0 : 0 <= p.left) (hl : p.left < n) (hf : fitU (htU ps n (k + 1)) p.right k = true) : (htU ps n (k + 1)).getD p.left.toNat 0 ≠ 0 := by
 rw [htU]
 refine hFold_has k p h0 ps _ hp (by rw [htU_len]; omega) ?_
 rw [fitU_iff] at hf ⊢
 intro s hs
 obtain ⟨h1, h2, h3⟩ := hf s hs
 have e := htU_back ps n k s.2.toNat 1 h2 h3
 rw [e]
 exact ⟨h1, h2, h3⟩
theorem hFold_by (most : Nat) (i : Nat) : ∀ (ps : List PV) (K : List Int), K.getD i 0 = 0 -> (ps.foldl (hStep most) K).getD i 0 ≠ 0 -> ∃ p ∈ ps, p.left.toNat = i /\ ∃ L, HGo ((most : Int) + 1) K L /\ fitU L p.right most = true
 | [], K, h, h' => absurd h h'
 | p :: ps, K, h, h' => by
  rw [List.foldl_cons] at h'
  have g := hStep_go most K p
  by_cases e : (hStep most K p).getD i 0 = 0
  ·obtain ⟨q, hq, e1, L, hL, hf⟩ := hFold_by most i ps _ e h'
   exact ⟨q, by simp [hq], e1, L, g.trans (by omega) hL, hf⟩
  ·unfold hStep at e
   split at e
   ·rename_i hc
    rw [getD_set_i] at e
    split at e
    ·rename_i hi
     exact ⟨p, by simp, hi.1, K, HGo.refl _ _, hc.2⟩
    ·exact absurd h e
   ·exact absurd h e
theorem htU_chain (ps : List PV) (n : Nat) (hps : ∀ p ∈ ps, 0 <= p.left /\ p.left < n) (h i : Nat) (e : (htU ps n (h + 2)).getD i 0 = (h : Int) + 2) : ∃ j, (htU ps n (h + 1)).getD j 0 = (h : Int) + 1 := by
 have hz : (htU ps n (h + 1)).getD i 0 = 0 := by
  by_cases q : (htU ps n (h + 1)).getD i 0 = 0
  ·exact q
  ·have := htU_keep ps n (h + 1) i q 1
   have := (htU_bd ps n (h + 1) i).2
   rw [show h + 1 + 1 = h + 2 by omega, e] at *
   omega
 obtain ⟨p, hp, hpi, L, hL, hf⟩ := hFold_by (h + 1) i ps (htU ps n (h + 1)) hz (by show (hRound ps (htU ps n (h + 1)) (h + 1)).getD i 0 ≠ 0; have : hRound ps (htU ps n (h + 1)) (h + 1) = htU ps n (h + 2) := rfl; rw [this, e]; omega)
 rw [fitU_iff] at hf
 have hK : ∀ s ∈ p.right, s.1 = 2 /\ (htU ps n (h + 1)).getD s.2.toNat 0 ≠ 0 /\ (htU ps n (h + 1)).getD s.2.toNat 0 <= ((h + 1 : Nat) : Int) := fun s hs => by
  obtain ⟨h1, h2, h3⟩ := hf s hs
  by_cases q : (htU ps n (h + 1)).getD s.2.toNat 0 = 0
  ·rcases hL.new _ q with r | r
   ·exact absurd r h2
   ·rw [r] at h3; omega
  ·exact ⟨h1, q, (htU_bd ps n (h + 1) _).2⟩
 have nf : ¬ fitU (htU ps n (h + 1)) p.right h = true := fun q => by
  have := htU_fit ps n h p hp (hps p hp).1 (hps p hp).2 q
  rw [hpi] at this
  exact this hz
 rw [fitU_iff] at nf
 have : ∃ s ∈ p.right, ¬ ((htU ps n (h + 1)).getD s.2.toNat 0 <= (h : Int)) := by
  refine Classical.byContradiction fun q => nf fun s hs => ?_
  obtain ⟨h1, h2, _⟩ := hK s hs
  exact ⟨h1, h2, Classical.byContradiction fun r => q ⟨s, hs, r⟩⟩
 obtain ⟨s, hs, hr⟩ := this
 have := (hK s hs).2.2
 exact ⟨s.2.toNat, by omega⟩
def zeroU : List Int -> Nat
 | [] => 0
 | x :: l => (if x = 0 then 1 else 0) + zeroU l
theorem zeroU_rep : ∀ n, zeroU (List.replicate n 0) = n
 | 0 => rfl
 | n + 1 => by rw [List.replicate_succ, zeroU, zeroU_rep n]; simp; omega
theorem zeroU_set : ∀ (K : List Int) (i : Nat) (v : Int), i < K.length -> K.getD i 0 = 0 -> v ≠ 0 -> zeroU (K.set i v) + 1 = zeroU K
 | [], i, v, h, _, _ => by simp at h
 | x :: l, 0, v, _, h0, hv => by
  simp only [List.getD_cons_zero] at h0
  subst h0
  simp [zeroU, hv, Nat.add_comm]
 | x :: l, i + 1, v, h, h0, hv => by
  simp only [List.getD_cons_succ] at h0
  have := zeroU_set l i v (by simpa using h) h0 hv
  simp only [List.set_cons_succ, zeroU]
  omega
theorem zeroU_pos : ∀ (K : List Int) (i : Nat), i < K.length -> K.getD i 0 = 0 -> 0 < zeroU K
 | [], i, h, _ => by simp at h
 | x :: l, 0, _, h0 => by
  simp only [List.getD_cons_zero] at h0
  simp [zeroU, h0]
  omega
 | x :: l, i + 1, h, h0 => by
  simp only [List.getD_cons_succ] at h0
  have := zeroU_pos l i (by simpa using h) h0
  simp only [zeroU]
  omega
theorem hFold_zero (most : Nat) : ∀ (ps : List PV) (K : List Int), zeroU (ps.foldl (hStep most) K) <= zeroU K /\ ∀ i, K.getD i 0 = 0 -> (ps.foldl (hStep most) K).getD i 0 ≠ 0 -> zeroU (ps.foldl (hStep most) K) + 1 <= zeroU K
 | [], K => ⟨Nat.le_refl _, fun i h h' => absurd h h'⟩
 | p :: ps, K => by
  obtain ⟨h1, h2⟩ := hFold_zero most ps (hStep most K p)
  have hs : zeroU (hStep most K p) <= zeroU K /\ ∀ i, K.getD i 0 = 0 -> (hStep most K p).getD i 0 ≠ 0 -> zeroU (hStep most K p) + 1 <= zeroU K := by
   unfold hStep
   split
   ·rename_i hc
    by_cases hl : p.left.toNat < K.length
    ·have := zeroU_set K p.left.toNat ((most : Int) + 1) hl hc.1 (by omega)
     exact ⟨by omega, fun _ _ _ => by omega⟩
    ·rw [List.set_eq_of_length_le (by omega)]
     exact ⟨Nat.le_refl _, fun i h h' => absurd h h'⟩
   ·exact ⟨Nat.le_refl _, fun i h h' => absurd h h'⟩
  rw [List.foldl_cons]
  refine ⟨by omega, fun i h h' => ?_⟩
  by_cases e : (hStep most K p).getD i 0 = 0
  ·have := h2 i e h'; omega
  ·have := hs.2 i h e; omega
theorem htU_zero (ps : List PV) (n : Nat) (hps : ∀ p ∈ ps, 0 <= p.left /\ p.left < n) : ∀ k i, (htU ps n (k + 1)).getD i 0 = (k : Int) + 1 -> zeroU (htU ps n (k + 1)) + (k + 1) <= n
 | 0, i, e => by
  have h0 : (htU ps n 0).getD i 0 = 0 := by have := htU_bd ps n 0 i; omega
  have := (hFold_zero 0 ps (htU ps n 0)).2 i h0 (by show (htU ps n 1).getD i 0 ≠ 0; rw [e]; omega)
  have hz : zeroU (htU ps n 0) = n := zeroU_rep n
  show zeroU (ps.foldl (hStep 0) (htU ps n 0)) + 1 <= n
  omega
 | k + 1, i, e => by
  obtain ⟨j, hj⟩ := htU_chain ps n hps k i (by rw [e]; omega)
  have ih := htU_zero ps n hps k j hj
  have h0 : (htU ps n (k + 1)).getD i 0 = 0 := by
   by_cases q : (htU ps n (k + 1)).getD i 0 = 0
   ·exact q
   ·have := htU_keep ps n (k + 1) i q 1
    have := (htU_bd ps n (k + 1) i).2
    omega
  have := (hFold_zero (k + 1) ps (htU ps n (k + 1))).2 i h0 (by show (htU ps n (k + 1 + 1)).getD i 0 ≠ 0; rw [e]; omega)
  show zeroU (ps.foldl (hStep (k + 1)) (htU ps n (k + 1))) + (k + 1 + 1) <= n
  omega
theorem htU_closed (ps : List PV) (n : Nat) (hps : ∀ p ∈ ps, 0 <= p.left /\ p.left < n) (p : PV) (hp : p ∈ ps) (hr : ∀ s ∈ p.right, s.1 = 2 /\ (htU ps n n).getD s.2.toNat 0 ≠ 0) : (htU ps n n).getD p.left.toNat 0 ≠ 0 := by
 intro h0
 obtain ⟨l0, l1⟩ := hps p hp
 obtain ⟨k, rfl⟩ : ∃ k, n = k + 1 := ⟨n - 1, by omega⟩
 by_cases h : ∃ s ∈ p.right, (htU ps (k + 1) (k + 1)).getD s.2.toNat 0 = (k : Int) + 1
 ·obtain ⟨s, hs, e⟩ := h
  have := htU_zero ps (k + 1) hps k _ e
  have := zeroU_pos _ p.left.toNat (by rw [htU_len]; omega) h0
  omega
 ·refine htU_fit ps (k + 1) k p hp l0 l1 (fitU_iff.2 fun s hs => ?_) h0
  have hb := (htU_bd ps (k + 1) (k + 1) s.2.toNat).2
  have hne : ¬ (htU ps (k + 1) (k + 1)).getD s.2.toNat 0 = (k : Int) + 1 := fun e => h ⟨s, hs, e⟩
  exact ⟨(hr s hs).1, (hr s hs).2, by omega⟩
theorem mem_getD {α : Type} {l : List α} {d : α} {j : Nat} (h : j < l.length) : l.getD j d ∈ l := by
 have e : l.getD j d = l[j] := by simp [List.getD, h]
 rw [e]; exact List.getElem_mem h
theorem firstU_all {f : Nat -> Int} : ∀ (c i : Nat), (firstU f c i).1 = 0 -> ∀ j, j < c -> f (i + j) = 0
 | 0, _, _, j, hj => absurd hj (by omega)
 | c + 1, i, h, j, hj => by
  unfold firstU at h
  by_cases hz : f i = 0
  ·rw [if_neg (by simpa using hz)] at h
   match j with
   | 0 => exact hz
   | j + 1 =>
    have := firstU_all c (i + 1) h j (by omega)
    rw [show i + (j + 1) = i + 1 + j by omega]
    exact this
  ·rw [if_pos hz] at h
   exact absurd h hz
theorem wordS_size {s : ByteArray} (h : wordS s = true) : s.size <= 32 := by
 simp only [wordS, Bool.and_eq_true, decide_eq_true_eq] at h
 exact h.1.1.2
theorem quotedS_size {s : ByteArray} (h : quotedS s = true) : s.size <= 32 := by
 simp only [quotedS, Bool.and_eq_true, decide_eq_true_eq] at h
 exact h.1.1.1.2
theorem termS_size {s : ByteArray} (h : termS s = true) : s.size <= 32 := by
 simp only [termS, Bool.or_eq_true] at h
 exact h.elim wordS_size quotedS_size
theorem formsF_each {form : ByteArray -> Bool} : ∀ (ss seen : List ByteArray), (formsF form ss seen).1 = 0 -> ∀ s ∈ ss, form s = true
 | [], _, _, s, hs => by cases hs
 | a :: r, seen, h, s, hs => by
  unfold formsF at h
  by_cases h1 : form a = false
  ·rw [if_pos h1] at h; exact absurd h (by simp)
  ·rw [if_neg h1] at h
   by_cases h2 : inB seen a = true
   ·rw [if_pos h2] at h; exact absurd h (by simp)
   ·rw [if_neg h2] at h
    rcases List.mem_cons.1 hs with rfl | hs
    ·simpa using h1
    ·exact formsF_each r _ h s hs
theorem checkF_each {ts ns : List ByteArray} (h : (checkF ts ns).1 = 0) : (∀ s ∈ ts, s.size <= 32) /\ ∀ s ∈ ns, s.size <= 32 := by
 unfold checkF at h
 split at h
 ·exact absurd h (by simp)
 ·split at h
  ·exact absurd h (by simp)
  ·by_cases h1 : (formsF termS ts []).1 = 0
   ·rw [if_neg (by simpa using h1)] at h
    by_cases h2 : (formsF wordS ns (formsF termS ts []).2.2).1 = 0
    ·exact ⟨fun s hs => termS_size (formsF_each _ _ h1 s hs), fun s hs => wordS_size (formsF_each _ _ h2 s hs)⟩
    ·rw [if_pos h2] at h; exact absurd h h2
   ·rw [if_pos h1] at h; exact absurd h h1
structure OkC (g : GV) : Prop where
 tl : 1 <= g.ts.length /\ g.ts.length <= 64
 nl : 1 <= g.ns.length /\ g.ns.length <= 64
 ts : ∀ s ∈ g.ts, s.size <= 32
 ns : ∀ s ∈ g.ns, s.size <= 32
 st : 0 <= g.start /\ g.start < g.ns.length
 pl : 1 <= g.ps.length /\ g.ps.length <= 256
 ps : ∀ i, i < g.ps.length -> prodU g i = 0
 ll : g.ls.length <= 32
 ls : ∀ i, i < g.ls.length -> levelU g i = 0
theorem OkC.of {g : GV} (h : (checkG g (checkF g.ts g.ns)).1 = 0) : OkC g := by
 unfold checkG at h
 by_cases h1 : g.ts.length = 0 ∨ 64 < g.ts.length
 ·rw [if_pos h1] at h; exact absurd h (by simp)
 rw [if_neg h1] at h
 by_cases h2 : g.ns.length = 0 ∨ 64 < g.ns.length
 ·rw [if_pos h2] at h; exact absurd h (by simp)
 rw [if_neg h2] at h
 by_cases h3 : (checkF g.ts g.ns).1 = 0
 case neg => rw [if_pos h3] at h; exact absurd h h3
 rw [if_neg (by simpa using h3)] at h
 by_cases h4 : inN g g.start = false
 ·rw [if_pos h4] at h; exact absurd h (by simp)
 rw [if_neg h4] at h
 by_cases h5 : g.ps.length = 0 ∨ 256 < g.ps.length
 ·rw [if_pos h5] at h; exact absurd h (by simp)
 rw [if_neg h5] at h
 by_cases h6 : (firstU (prodU g) g.ps.length 0).1 = 0
 case neg => rw [if_pos h6] at h; exact absurd h h6
 rw [if_neg (by simpa using h6)] at h
 by_cases h7 : 32 < g.ls.length
 ·rw [if_pos h7] at h; exact absurd h (by simp)
 rw [if_neg h7] at h
 have hn := checkF_each h3
 refine ⟨by omega, by omega, hn.1, hn.2, ?_, by omega, fun i hi => ?_, by omega, fun i hi => ?_⟩
 ·simpa [inN] using h4
 ·simpa using firstU_all _ _ h6 i hi
 ·simpa using firstU_all _ _ h i hi
theorem OkC.left {g : GV} (h : OkC g) (i : Nat) (hi : i < g.ps.length) : 0 <= (g.ps.getD i .none).left /\ (g.ps.getD i .none).left < g.ns.length := by
 have := h.ps i hi
 unfold prodU at this
 by_cases h1 : inN g (g.ps.getD i .none).left = false
 ·rw [if_pos h1] at this; exact absurd this (by omega)
 ·simpa [inN] using h1
theorem OkC.right {g : GV} (h : OkC g) (i : Nat) (hi : i < g.ps.length) : (g.ps.getD i .none).right.length <= 16 := by
 have := h.ps i hi
 unfold prodU at this
 by_cases h1 : inN g (g.ps.getD i .none).left = false
 ·rw [if_pos h1] at this; exact absurd this (by omega)
 rw [if_neg h1] at this
 by_cases h2 : 16 < (g.ps.getD i .none).right.length
 ·rw [if_pos h2] at this; exact absurd this (by omega)
 ·omega
theorem OkC.inG {g : GV} (h : OkC g) (i : Nat) (hi : i < g.ps.length) : ∀ s ∈ (g.ps.getD i .none).right, inG g s.1 s.2 = true := by
 have := h.ps i hi
 unfold prodU at this
 by_cases h1 : inN g (g.ps.getD i .none).left = false
 ·rw [if_pos h1] at this; exact absurd this (by omega)
 rw [if_neg h1] at this
 by_cases h2 : 16 < (g.ps.getD i .none).right.length
 ·rw [if_pos h2] at this; exact absurd this (by omega)
 rw [if_neg h2] at this
 by_cases h3 : ((g.ps.getD i .none).right.any fun s => !Go.Proofs.YteciabdjkaackaaGreat.inG g s.1 s.2) = true
 ·rw [if_pos h3] at this; exact absurd this (by omega)
 ·intro s hs
  have h4 := Bool.not_eq_true _ ▸ h3
  rw [List.any_eq_false] at h4
  simpa using h4 s hs
theorem OkC.prec {g : GV} (h : OkC g) (i : Nat) (hi : i < g.ps.length) : -1 <= (g.ps.getD i .none).prec /\ (g.ps.getD i .none).prec < g.ts.length := by
 have := h.ps i hi
 unfold prodU at this
 split at this
 ·exact absurd this (by omega)
 split at this
 ·exact absurd this (by omega)
 split at this
 ·exact absurd this (by omega)
 split at this
 ·exact absurd this (by omega)
 by_cases h5 : (g.ps.getD i .none).prec = -1
 ·rw [h5]; omega
 ·by_cases h6 : inT g (g.ps.getD i .none).prec = false
  ·rw [if_pos ⟨h5, h6⟩] at this; exact absurd this (by omega)
  ·have : 0 <= (g.ps.getD i .none).prec /\ (g.ps.getD i .none).prec < g.ts.length := by simpa [inT] using h6
   omega
theorem inG_is {g : GV} {a b : Int} (h : inG g a b = true) : (a = 1 /\ 0 <= b /\ b < g.ts.length) ∨ (a = 2 /\ 0 <= b /\ b < g.ns.length) := by
 unfold inG at h
 by_cases h1 : a = 1
 ·rw [if_pos h1] at h
  exact .inl ⟨h1, by simpa [inT] using h⟩
 ·rw [if_neg h1] at h
  by_cases h2 : a = 2
  ·rw [if_pos h2] at h
   exact .inr ⟨h2, by simpa [inN] using h⟩
  ·rw [if_neg h2] at h; cases h
theorem OkC.sym {g : GV} (h : OkC g) (i : Nat) (hi : i < g.ps.length) (j : Nat) (hj : j < (g.ps.getD i .none).right.length) :
  (((g.ps.getD i .none).right.getD j (0, 0)).1 = 1 /\ 0 <= ((g.ps.getD i .none).right.getD j (0, 0)).2 /\ ((g.ps.getD i .none).right.getD j (0, 0)).2 < g.ts.length) ∨ (((g.ps.getD i .none).right.getD j (0, 0)).1 = 2 /\ 0 <= ((g.ps.getD i .none).right.getD j (0, 0)).2 /\ ((g.ps.getD i .none).right.getD j (0, 0)).2 < g.ns.length) :=
 inG_is (h.inG i hi _ (mem_getD hj))
theorem OkC.level {g : GV} (h : OkC g) (i : Nat) (hi : i < g.ls.length) : (1 <= (g.ls.getD i .none).assoc /\ (g.ls.getD i .none).assoc <= 3) /\ (∀ n ∈ (g.ls.getD i .none).terms, 0 <= n /\ n < g.ts.length) /\ risesU (g.ls.getD i .none).terms = true := by
 have := h.ls i hi
 unfold levelU at this
 by_cases h1 : (g.ls.getD i .none).assoc < 1 ∨ 3 < (g.ls.getD i .none).assoc ∨ (g.ls.getD i .none).terms.length = 0
 ·rw [if_pos h1] at this; exact absurd this (by omega)
 rw [if_neg h1] at this
 by_cases h2 : ((g.ls.getD i .none).terms.any fun n => !inT g n) = true
 ·rw [if_pos h2] at this; exact absurd this (by omega)
 rw [if_neg h2] at this
 by_cases h3 : risesU (g.ls.getD i .none).terms = false
 ·rw [if_pos h3] at this; exact absurd this (by omega)
 refine ⟨by omega, fun n hn => ?_, by simpa using h3⟩
 have h4 := Bool.not_eq_true _ ▸ h2
 rw [List.any_eq_false] at h4
 simpa [inT] using h4 n hn
theorem rises_le {l : List Int} (h : risesU l = true) : ∀ j, j < l.length -> l.getD 0 0 + j <= l.getD j 0
 | 0, _ => by simp
 | j + 1, hj => by
  have ih := rises_le h j (by omega)
  unfold risesU at h
  rw [List.all_eq_true] at h
  have := h j (by simp; omega)
  simp only [decide_eq_true_eq] at this
  omega
theorem rises_len {l : List Int} {n : Nat} (h : risesU l = true) (hb : ∀ x ∈ l, 0 <= x /\ x < n) : l.length <= n := by
 rcases Nat.eq_zero_or_pos l.length with e | e
 ·omega
 ·have h1 := rises_le h (l.length - 1) (by omega)
  have m0 : l.getD 0 0 ∈ l := mem_getD e
  have m1 : l.getD (l.length - 1) 0 ∈ l := mem_getD (by omega)
  have := hb _ m0
  have := hb _ m1
  omega
theorem OkC.terms {g : GV} (h : OkC g) (i : Nat) (hi : i < g.ls.length) : (g.ls.getD i .none).terms.length <= 64 := by
 obtain ⟨_, h1, h2⟩ := h.level i hi
 exact Nat.le_trans (rises_len h2 h1) h.tl.2
theorem getD_mem {α : Type} {l : List α} {d x : α} (h : x ∈ l) : ∃ i, i < l.length /\ x = l.getD i d := by
 obtain ⟨i, hi, rfl⟩ := List.getElem_of_mem h
 exact ⟨i, hi, by simp [List.getD, hi]⟩
theorem GAt.ok {n : Nat} {w : World} {g : GV} (h : GAt n w g) (ok : OkC g) : GAt 1048576 w g := by
 have h1 := ok.tl
 have h2 := ok.nl
 have h3 := ok.pl
 have h4 := ok.ll
 refine ⟨h.t, h.n_, h.p, h.l, h.tz, h.nz, by omega, by omega, by omega, by omega, fun p hp => ?_, fun p hp => ?_⟩
 ·obtain ⟨i, hi, rfl⟩ := getD_mem (d := PV.none) hp
  have := ok.right i hi
  omega
 ·obtain ⟨i, hi, rfl⟩ := getD_mem (d := LV.none) hp
  have := ok.terms i hi
  omega
open Go.ChangeShapes Go.WideShapes Go.ChangeAt Go.RowKit
def KB (w : World) (b : Nat) (K : List Int) : Prop := w.heap[b]? = some (.cells (K.map (Value.int .i64 ·)).toArray 3 (0, 0))
theorem KB.lt {w : World} {b : Nat} {K : List Int} (h : KB w b K) : b < w.heap.size := lt_of_block h
theorem KB.cell {w : World} {b : Nat} {K : List Int} (h : KB w b K) {i : Nat} (hi : i < K.length) : w.cell? ⟨b, i, none⟩ = some (.int .i64 (K.getD i 0)) := by
 rw [cellq_any h]
 simp [List.getD, hi]
theorem KB.free {w : World} {b : Nat} {K : List Int} (h : KB w b K) (i : Nat) : w.frozen? ⟨b, i, none⟩ = false := by
 unfold KB at h
 simp [World.frozen?, h]
theorem KB.set {w : World} {b : Nat} {K : List Int} (h : KB w b K) (i : Nat) (v : Int) : KB (w.setCell ⟨b, i, none⟩ (.int .i64 v)) b (K.set i v) := by
 unfold KB
 rw [heap_set h i (.int .i64 v), List.setIfInBounds_toArray, List.map_set]
theorem KB.kept {w w' : World} {b : Nat} {K : List Int} (h : KB w b K) (hb : w'.heap[b]? = w.heap[b]?) : KB w' b K := hb.trans h
theorem KB.later {w w' : World} {b : Nat} {K : List Int} (h : KB w b K) (hb : Below w.heap.size w w') : KB w' b K := h.kept (hb.block _ h.lt)
theorem KB.row {w : World} {b : Nat} {K : List Int} (h : KB w b K) : InRow w (some ⟨b, 0, none⟩) K := by
 intro _
 refine ⟨b, 0, rfl, h.lt, fun i hi => ?_⟩
 have := h.cell hi
 simpa using this
theorem made_listF (z : Value) (n : Nat) : madeCells #[z] n = (List.replicate n z).toArray := by
 apply Array.toList_inj.1
 exact toList_madeCells_one z n
theorem make_intF (n : Nat) (hn : n <= 1048576) (w : World) : (Instr.makeSlice 55 (.int .i64 (n : Int)) (.int .i64 (n : Int))).run Tryz.prog w = .ok (.slice (some ⟨w.heap.size, 0, none⟩) n n) (w.alloc (.cells (madeCells #[.int .i64 0] n) 3)) := by
 obtain ⟨i0, hi, hz0, hz1, hz2⟩ := infoInt_parts
 have := run_makeSlice w 55 3 i0 (.int .i64 0) Tryz.underlying55 hi hz0 .i64 .i64 (n : Int) (n : Int) (by omega) (by omega) (by rw [hz1]; simp; omega) (by rw [hz2]; omega) (by omega)
 rw [hz1] at this
 simpa [Value.cells] using this
theorem KB.made (w : World) (n : Nat) : KB (w.alloc (.cells (madeCells #[.int .i64 0] n) 3)) w.heap.size (List.replicate n 0) := by
 unfold KB
 rw [heap_alloc_new, made_listF, List.map_replicate]
structure FG (w : World) (g : GV) : Prop where
 p : PrRow w g.pa g.ps
 nl : 1 <= g.ns.length /\ g.ns.length <= 64
 pl : g.ps.length <= 256
 left : ∀ p ∈ g.ps, 0 <= p.left /\ p.left < g.ns.length
 rl : ∀ p ∈ g.ps, p.right.length <= 16
 sym : ∀ p ∈ g.ps, ∀ s ∈ p.right, (s.1 = 1 /\ 0 <= s.2 /\ s.2 < g.ts.length) ∨ (s.1 = 2 /\ 0 <= s.2 /\ s.2 < g.ns.length)
 tl : 1 <= g.ts.length /\ g.ts.length <= 64
theorem FG.later {w w' : World} {g : GV} (h : FG w g) (hb : Below w.heap.size w w') : FG w' g := ⟨h.p.later hb, h.nl, h.pl, h.left, h.rl, h.sym, h.tl⟩
def BB (w : World) (b : Nat) (L : List Bool) : Prop := w.heap[b]? = some (.cells (L.map Value.bool).toArray 4 (0, 0))
theorem BB.lt {w : World} {b : Nat} {L : List Bool} (h : BB w b L) : b < w.heap.size := lt_of_block h
theorem BB.cell {w : World} {b : Nat} {L : List Bool} (h : BB w b L) {i : Nat} (hi : i < L.length) : w.cell? ⟨b, i, none⟩ = some (.bool (L.getD i false)) := by
 rw [cellq_any h]
 simp [List.getD, hi]
theorem BB.free {w : World} {b : Nat} {L : List Bool} (h : BB w b L) (i : Nat) : w.frozen? ⟨b, i, none⟩ = false := by
 unfold BB at h
 simp [World.frozen?, h]
theorem BB.set {w : World} {b : Nat} {L : List Bool} (h : BB w b L) (i : Nat) (v : Bool) : BB (w.setCell ⟨b, i, none⟩ (.bool v)) b (L.set i v) := by
 unfold BB
 rw [heap_set h i (.bool v), List.setIfInBounds_toArray, List.map_set]
theorem BB.kept {w w' : World} {b : Nat} {L : List Bool} (h : BB w b L) (hb : w'.heap[b]? = w.heap[b]?) : BB w' b L := hb.trans h
theorem BB.later {w w' : World} {b : Nat} {L : List Bool} (h : BB w b L) (hb : Below w.heap.size w w') : BB w' b L := h.kept (hb.block _ h.lt)
theorem BB.made (w : World) (n : Nat) : BB (w.alloc (.cells (madeCells #[.bool false] n) 4)) w.heap.size (List.replicate n false) := by
 unfold BB
 rw [heap_alloc_new, made_listF, List.map_replicate]
theorem IL.inrow {w : World} {a : Option Addr} {c : Nat} {l : List Int} (h : IL w (.slice a l.length c) l) : InRow w a l := by
 intro hne
 rcases h.2 with ⟨e, h0⟩ | ⟨g, cap, cur, e, _, hb, hn, _, hs, ht⟩
 ·exact absurd (List.eq_nil_of_length_eq_zero h0) hne
 ·simp only [Value.slice.injEq] at e
  obtain ⟨rfl, _, rfl⟩ := e
  refine ⟨g, 0, rfl, lt_of_block hb, fun i hi => ?_⟩
  rw [cellq_any hb]
  have e2 : (cur.toList.take (l.length * 1))[i]? = (l.map (Value.int .i64 ·))[i]? := by rw [ht]
  rw [List.getElem?_take_of_lt (by omega)] at e2
  simp only [Array.getElem?_toList] at e2
  rw [Nat.zero_add, e2]
  simp [List.getD, hi]
def setCells (F : List BS) : List Value := F.flatMap fun s => [.int .u64 (s.1 : Int), .int .u64 (s.2 : Int)]
def BRow (w : World) (ao : Option Addr) (L : List Bool) : Prop := L ≠ [] -> ∃ b off, ao = some ⟨b, off, none⟩ /\ b < w.heap.size /\ ∀ i, i < L.length -> w.cell? ⟨b, off + i, none⟩ = some (.bool (L.getD i false))
theorem BRow.later {w w' : World} {ao : Option Addr} {L : List Bool} (h : BRow w ao L) (hb : Below w.heap.size w w') : BRow w' ao L := by
 intro hne
 obtain ⟨b, off, e, h1, h2⟩ := h hne
 exact ⟨b, off, e, Nat.lt_of_lt_of_le h1 hb.size, fun i hi => (hb.cell (p := ⟨b, off + i, none⟩) h1).trans (h2 i hi)⟩
theorem BB.row {w : World} {b : Nat} {L : List Bool} (h : BB w b L) : BRow w (some ⟨b, 0, none⟩) L := by
 intro _
 refine ⟨b, 0, rfl, h.lt, fun i hi => ?_⟩
 have := h.cell hi
 simpa using this
def aheadS (N : List Bool) (F : List BS) (s : Int × Int) (look : BS) : BS := if s.1 = 1 then setS [s.2] else if N.getD s.2.toNat false = true then withS look (F.getD s.2.toNat (0, 0)) else F.getD s.2.toNat (0, 0)
abbrev cv (na : Option Addr) (N : List Bool) (nc fb : Nat) (fc : Nat) : Value := .agg #[.slice na N.length nc, .slice (some ⟨fb, 0, none⟩) N.length fc]
open Go.RowKit Go.Shelf
def KpB (n₀ Bs : Nat) (W W' : World) : Prop := Below n₀ W W' /\ W'.heap[Bs]? = W.heap[Bs]?
def CellsAt (W : World) (B : Nat) (C : Array Value) (t : TypeId) : Prop := W.heap[B]? = some (.cells C t (0, 0))
theorem CellsAt.lt {W : World} {B : Nat} {C : Array Value} {t : TypeId} (h : CellsAt W B C t) : B < W.heap.size := lt_of_block h
theorem CellsAt.kept {W W' : World} {row : Option Nat} {B : Nat} {C : Array Value} {t : TypeId} (h : CellsAt W B C t) (hg : W.grownBy W' row) (hne : some B ≠ row) : CellsAt W' B C t := (hg.block B h.lt hne).trans h
theorem CellsAt.alloc {W : World} {B : Nat} {C : Array Value} {t : TypeId} (h : CellsAt W B C t) (o : Obj) : CellsAt (W.alloc o) B C t := ((below_alloc W o).block _ h.lt).trans h
theorem KpB.t {n₀ Bs : Nat} {A B C : World} (h : KpB n₀ Bs A B) (k : KpB n₀ Bs B C) : KpB n₀ Bs A C := ⟨h.1.trans k.1, k.2.trans h.2⟩
theorem KpB.b {n₀ Bs : Nat} {w : World} (hn : n₀ <= w.heap.size) (hB : Bs < w.heap.size) (W : World) (l : Nat) (o o' : Obj) (hl : w.heap.size <= l) (h : W.heap[l]? = some o) (hc : o.isCells = false) (hk : o.isWalk = false) : KpB n₀ Bs W (W.putObj l o') :=
 ⟨belowK_b hn W l o o' hl h hc hk, World.putObj_heap_other (by omega)⟩
def ofS (N : List Bool) (F : List BS) (l : List (Int × Int)) (look : BS) : BS := l.foldr (aheadS N F) look
def rStep (N : List Bool) (F : List BS) (p : PV) : List BS := F.set p.left.toNat (withS (F.getD p.left.toNat (0, 0)) (ofS N F p.right (0, 0)))
def roundS (N : List Bool) (ps : List PV) (F : List BS) : List BS := ps.foldl (rStep N) F
theorem getD_setS {F : List BS} {i j : Nat} {v : BS} : (F.set i v).getD j (0, 0) = if i = j /\ j < F.length then v else F.getD j (0, 0) := by
 simp only [List.getD, List.getElem?_set]
 by_cases h1 : i = j
 ·subst h1
  by_cases h2 : i < F.length
  ·simp [h2]
  ·simp [h2]
 ·simp [h1]
theorem rStep_len (N : List Bool) (F : List BS) (p : PV) : (rStep N F p).length = F.length := by simp [rStep]
def SRd (w : World) (b : Nat) (F : List BS) : Prop := b < w.heap.size /\ ∀ i, i < F.length -> w.cell? ⟨b, i * 2, none⟩ = some (.int .u64 ((F.getD i (0, 0)).1 : Int)) /\ w.cell? ⟨b, i * 2 + 1, none⟩ = some (.int .u64 ((F.getD i (0, 0)).2 : Int))
theorem SRd.later {w w' : World} {b : Nat} {F : List BS} (h : SRd w b F) (hb : Below w.heap.size w w') : SRd w' b F :=
 ⟨Nat.lt_of_lt_of_le h.1 hb.size, fun i hi => ⟨(hb.cell (p := ⟨b, i * 2, none⟩) h.1).trans (h.2 i hi).1, (hb.cell (p := ⟨b, i * 2 + 1, none⟩) h.1).trans (h.2 i hi).2⟩⟩
def iterS (N : List Bool) (ps : List PV) (F : List BS) : Nat -> List BS
 | 0 => F
 | k + 1 => roundS N ps (iterS N ps F k)
def LeF (F G : List BS) : Prop := G.length = F.length /\ ∀ i, (F.getD i (0, 0)).1 <= (G.getD i (0, 0)).1 /\ (F.getD i (0, 0)).2 <= (G.getD i (0, 0)).2
theorem LeF.refl (F : List BS) : LeF F F := ⟨rfl, fun _ => ⟨Nat.le_refl _, Nat.le_refl _⟩⟩
theorem LeF.trans {F G H : List BS} (h : LeF F G) (h' : LeF G H) : LeF F H := ⟨h'.1.trans h.1, fun i => ⟨Nat.le_trans (h.2 i).1 (h'.2 i).1, Nat.le_trans (h.2 i).2 (h'.2 i).2⟩⟩
theorem rStep_le (N : List Bool) (F : List BS) (p : PV) : LeF F (rStep N F p) := by
 refine ⟨rStep_len N F p, fun i => ?_⟩
 unfold rStep
 rw [getD_setS]
 split
 ·rename_i h
  rw [<- h.1]
  exact ⟨Nat.left_le_or, Nat.left_le_or⟩
 ·exact ⟨Nat.le_refl _, Nat.le_refl _⟩
theorem rFold_le (N : List Bool) : ∀ (ps : List PV) (F : List BS), LeF F (ps.foldl (rStep N) F)
 | [], F => LeF.refl F
 | p :: ps, F => (rStep_le N F p).trans (rFold_le N ps _)
theorem SRd.kept {w w' : World} {b : Nat} {F : List BS} (h : SRd w b F) (hb : w'.heap[b]? = w.heap[b]?) (hs : w.heap.size <= w'.heap.size) : SRd w' b F := by
 have hc : ∀ i, w'.cell? ⟨b, i, none⟩ = w.cell? ⟨b, i, none⟩ := fun i => by simp [World.cell?, hb]
 exact ⟨Nat.lt_of_lt_of_le h.1 hs, fun i hi => ⟨(hc _).trans (h.2 i hi).1, (hc _).trans (h.2 i hi).2⟩⟩
def LsRow (w : World) (ao : Option Addr) (L : List (List Int)) : Prop := L ≠ [] -> ∃ b off, ao = some ⟨b, off, none⟩ /\ b < w.heap.size /\ ∀ i, i < L.length -> ∃ a c, w.cell? ⟨b, off + i, none⟩ = some (.slice a (L.getD i []).length c) /\ InRow w a (L.getD i [])
theorem LsRow.later {w w' : World} {ao : Option Addr} {L : List (List Int)} (h : LsRow w ao L) (hb : Below w.heap.size w w') : LsRow w' ao L := by
 intro hne
 obtain ⟨b, off, e, h1, h2⟩ := h hne
 refine ⟨b, off, e, Nat.lt_of_lt_of_le h1 hb.size, fun i hi => ?_⟩
 obtain ⟨a, c, h3, h4⟩ := h2 i hi
 exact ⟨a, c, (hb.cell (p := ⟨b, off + i, none⟩) h1).trans h3, h4.later hb⟩
def LLk (w : World) (b : Nat) (T : List (List Int)) (k : Nat) : Prop := ∃ C : Array Value, w.heap[b]? = some (.cells C 55 (0, 0)) /\ C.size = T.length /\ ∀ i, i < k -> ∃ a c, C[i]? = some (.slice a (T.getD i []).length c) /\ IL w (.slice a (T.getD i []).length c) (T.getD i []) /\ (∀ j, (Value.slice a (T.getD i []).length c).ownBlock = some j -> b < j)
theorem LLk.lt {w : World} {b : Nat} {T : List (List Int)} {k : Nat} (h : LLk w b T k) : b < w.heap.size := by
 obtain ⟨C, h1, _⟩ := h
 exact lt_of_block h1
theorem LLk.later {w w' : World} {b : Nat} {T : List (List Int)} {k : Nat} (h : LLk w b T k) (hb : Below w.heap.size w w') : LLk w' b T k := by
 have hl := h.lt
 obtain ⟨C, h1, h2, h3⟩ := h
 refine ⟨C, (hb.block _ hl).trans h1, h2, fun i hi => ?_⟩
 obtain ⟨a, c, q1, q2, q3⟩ := h3 i hi
 exact ⟨a, c, q1, q2.later hb, q3⟩
theorem LLk.free {w : World} {b : Nat} {T : List (List Int)} {k : Nat} (h : LLk w b T k) (i : Nat) : w.frozen? ⟨b, i, none⟩ = false := by
 obtain ⟨C, h1, _⟩ := h
 simp [World.frozen?, h1]
theorem LLk.some {w : World} {b : Nat} {T : List (List Int)} {k : Nat} (h : LLk w b T k) (i : Nat) (hi : i < T.length) : ∃ v, w.cell? ⟨b, i, none⟩ = .some v := by
 obtain ⟨C, h1, h2, _⟩ := h
 exact ⟨C[i]'(by omega), by rw [cellq_any h1]; simp [show i < C.size by omega]⟩
theorem LLk.set {w : World} {b : Nat} {T : List (List Int)} {k : Nat} (h : LLk w b T k) (hk : k < T.length) {a : Option Addr} {c : Nat} (hI : IL w (.slice a (T.getD k []).length c) (T.getD k [])) (hb : ∀ j, (Value.slice a (T.getD k []).length c).ownBlock = .some j -> b < j) :
  LLk (w.setCell ⟨b, k, none⟩ (.slice a (T.getD k []).length c)) b T (k + 1) := by
 obtain ⟨C, h1, h2, h3⟩ := h
 have hkeep : ∀ {v : Value} {l : List Int}, IL w v l -> (∀ j, v.ownBlock = .some j -> b < j) -> IL (w.setCell ⟨b, k, none⟩ (.slice a (T.getD k []).length c)) v l := fun hI hj => hI.kept fun j e => Below.heap_setCell w ⟨b, k, none⟩ _ _ (show j ≠ b by have := hj j e; omega)
 refine ⟨_, heap_set h1 k _, by simpa using h2, fun i hi => ?_⟩
 by_cases e : i = k
 ·subst e
  exact ⟨a, c, by simp [show i < C.size by omega], hkeep hI hb, hb⟩
 ·obtain ⟨a', c', q1, q2, q3⟩ := h3 i (by omega)
  exact ⟨a', c', by rw [Array.getElem?_setIfInBounds]; simp [show ¬ k = i by omega, q1], hkeep q2 q3, q3⟩
theorem LLk.row {w : World} {b : Nat} {T : List (List Int)} (h : LLk w b T T.length) : LsRow w (.some ⟨b, 0, none⟩) T := by
 have hl := h.lt
 obtain ⟨C, h1, h2, h3⟩ := h
 intro _
 refine ⟨b, 0, rfl, hl, fun i hi => ?_⟩
 obtain ⟨a, c, q1, q2, _⟩ := h3 i hi
 exact ⟨a, c, by rw [cellq_any h1, Nat.zero_add, q1], q2.inrow⟩
theorem LLk.made (w : World) (T : List (List Int)) : LLk (w.alloc (.cells (madeCells #[.slice none 0 0] T.length) 55)) w.heap.size T 0 := ⟨_, heap_alloc_new _ _, by simp [madeCells], fun i hi => absurd hi (Nat.not_lt_zero i)⟩
section
variable {P : Program} {ops : Array Oper} {Q : Exit -> Act -> World -> Prop} {md : Region.Mode} {S : Array Bool -> World -> Prop}
theorem put_comm (a : Act) {d e : Nat} (h : d ≠ e) (u v : Value) : (a.put (some d) u).put (some e) v = (a.put (some e) v).put (some d) u := by
 simp only [Act.put, Act.mk.injEq, and_true]
 exact Array.setIfInBounds_comm _ _ h
end
def LeastF (g : GV) (F : List BS) : Prop := ∃ k, F = iterS (nullU g.ps g.ns.length) g.ps (List.replicate g.ns.length (0, 0)) k /\ roundS (nullU g.ps g.ns.length) g.ps F = F /\ (∀ i, OkS (F.getD i (0, 0))) /\ F.length = g.ns.length
theorem takeF {P : Program} {ops : Array Oper} {Q : Exit -> Act -> World -> Prop} {md : Region.Mode} {i : Nat} {oi : Oper} {v : Value} {S0 : World -> Prop} {fuel : Nat} {listed : Array Bool} {a : Act} {w : World} (hi' : ops.toList[i]? = some oi)
  (hs : Region.noSelect ops = true) (hf : Region.free md ops listed i = true) (hr : (Region.ready md ops listed).contains i = true)
  (hQ : ∀ c a w, Q (.panic c) (a.put oi.dst v) w -> Q (.panic c) a w) (hy : YieldsIf P ops S0 oi v a) (hS : S0 w)
  (h : wpAnyX P md ops Q (fun _ => S0) fuel (listed.setIfInBounds i true) (a.put oi.dst v) w) : wpAnyX P md ops Q (fun _ => S0) (fuel + 1) listed a w :=
 have hi : ops[i]? = some oi := by rw [<- Array.getElem?_toList]; exact hi'
 wpAnyX_first (Cl := fun _ => True) (T := S0) hi (Region.noSelect_spec hs) hQ (fun _ _ _ _ => trivial) (fun _ _ _ _ h => h) (fun _ _ => Iff.rfl) fuel listed a w (Region.free_spec hi hf) (by simpa using hr) trivial hy hS h
def plS (l : List SP) : List SP := l.flatMap fun x => plT x.d x.t
theorem plS_app (l m : List SP) : plS (l ++ m) = plS l ++ plS m := by simp [plS]
theorem plS_len : ∀ l : List SP, l.length <= (plS l).length
 | [] => Nat.le_refl _
 | x :: l => by
  have := plS_len l
  have e : plS (x :: l) = plT x.d x.t ++ plS l := rfl
  rw [e, plT_eq]
  simp
  omega
def kidS (x : SP) : List SP := x.t.kids.map fun k => ⟨k, x.d + 1, (0, 0), false⟩
theorem plS_kids (d : Int) : ∀ l : List TV, plS (l.map fun k => ⟨k, d, (0, 0), false⟩) = plL d l
 | [] => by rw [plL_nil]; rfl
 | t :: l => by
  have := plS_kids d l
  rw [List.map_cons, plL_cons, <- this]
  rfl
theorem plS_one (x : SP) (h : x.s = (0, 0) /\ x.u = false) : plS [x] = x :: plS (kidS x) := by
 obtain ⟨t, d, s, u⟩ := x
 obtain ⟨rfl, rfl⟩ := h
 unfold kidS
 rw [plS_kids]
 show plT d t ++ [] = _
 rw [List.append_nil, plT_eq]
theorem kidS_drop (x : SP) (q : Nat) (h : q < x.t.kids.length) : (kidS x).drop q = ⟨x.t.kids.getD q .none, x.d + 1, (0, 0), false⟩ :: (kidS x).drop (q + 1) := by
 unfold kidS
 rw [List.drop_eq_getElem_cons (by simpa using h), List.getElem_map]
 simp [List.getD, h]
theorem tbox_on {w w' : World} {b : Nat} {o : Obj} (h : w.heap[b]? = some o) (hb : Below w.heap.size w w') : w'.heap[b]? = some o := (hb.block b (lt_of_block h)).trans h
theorem wrap_i64 {z : Int} (h0 : -9223372036854775808 <= z) (h1 : z <= 9223372036854775807) : IntKind.i64.wrap z = z := IntWalk.i64_in _ ⟨by omega, by omega⟩
structure PWs (w : World) (O S : List SP) (vo vs : Value) (wr : World) : Prop where
 o : SPo wr vo O
 s : SPo wr vs S
 oo : ∀ j, vo.ownBlock = some j -> w.heap.size < j
 so : ∀ j, vs.ownBlock = some j -> w.heap.size < j
 ne : ∀ j, vo.ownBlock = some j -> vs.ownBlock ≠ some j
 big : w.heap.size < wr.heap.size
 bel : Below w.heap.size w wr
theorem PWs.any {w wr w' : World} {O S : List SP} {vo vs : Value} (h : PWs w O S vo vs wr) (hb : Below wr.heap.size wr w') : PWs w O S vo vs w' :=
 ⟨h.o.later hb, h.s.later hb, h.oo, h.so, h.ne, Nat.lt_of_lt_of_le h.big hb.size, h.bel.trans (hb.mono (Nat.le_of_lt h.big))⟩
theorem PWs.push {w wr w1 w4 : World} {O S : List SP} {vo vs v' : Value} {y : SP} (h : PWs w O S vo vs wr) (hb : Below wr.heap.size wr w1) (hg : Grew w1 w4 vs v') (hi : SPo w4 v' (S ++ [y])) : PWs w O (S ++ [y]) vo v' w4 := by
 have h1 := h.any hb
 have hbig := h1.big
 refine ⟨h1.o.kept (fun j hj => hg.grown.block j (h1.o.lt j hj) (fun e => h.ne j hj e.symm)), hi, h.oo, fun j hj => hg.own (n := w.heap.size + 1) hbig h.so j hj, fun j hj e => ?_, Nat.lt_of_lt_of_le hbig hg.grown.size, hg.below h1.bel (Nat.le_refl _) (fun j hj => Nat.le_of_lt (h.so j hj))⟩
 rcases hg.moved with q | ⟨i, q, hq⟩
 ·exact h.ne j hj (by rw [<- q]; exact e)
 ·rw [q] at e
  have := h1.o.lt j hj
  simp at e
  omega
theorem PWs.out {w wr w1 w4 : World} {O S : List SP} {vo vs v' : Value} {y : SP} (h : PWs w O S vo vs wr) (hb : Below wr.heap.size wr w1) (hg : Grew w1 w4 vo v') (hi : SPo w4 v' (O ++ [y])) : PWs w (O ++ [y]) S v' vs w4 := by
 have h1 := h.any hb
 have hbig := h1.big
 refine ⟨hi, h1.s.kept (fun j hj => hg.grown.block j (h1.s.lt j hj) (fun e => h.ne j e.symm hj)), fun j hj => hg.own (n := w.heap.size + 1) hbig h.oo j hj, h.so, fun j hj e => ?_, Nat.lt_of_lt_of_le hbig hg.grown.size, hg.below h1.bel (Nat.le_refl _) (fun j hj => Nat.le_of_lt (h.oo j hj))⟩
 rcases hg.moved with q | ⟨i, q, hq⟩
 ·exact h.ne j (by rw [<- q]; exact hj) e
 ·rw [q] at hj
  have := h1.s.lt j e
  simp at hj
  omega
theorem PWs.pop {w wr : World} {O S : List SP} {x : SP} {vo vs : Value} (h : PWs w O (S ++ [x]) vo vs wr) : ∃ b c, vs = .slice (some ⟨b, 0, none⟩) (S.length + 1) c /\ S.length + 1 <= c /\ (∀ j, j < 8 -> wr.cell? ⟨b, S.length * 8 + j, none⟩ = (spCells x)[j]?) /\ PWs w O S vo (.slice (some ⟨b, 0, none⟩) S.length c) wr := by
 obtain ⟨b, c, rfl, h1, h2, h3⟩ := RO.pop (f := spCells) (fun _ => rfl) h.s
 exact ⟨b, c, rfl, h1, h2, h.o, h3, h.oo, h.so, h.ne, h.big, h.bel⟩
abbrev spBox (x : SP) : Obj := .cells #[.int .i64 x.t.prod, .int .i64 x.t.kind, .string x.t.tx, .slice x.t.ka x.t.kids.length x.t.kc, .int .i64 x.d, .int .i64 x.s.1, .int .i64 x.s.2, .bool x.u] 84
theorem slice_spot (b lc len i : Nat) (hi : i <= lc) (w : World) : (Instr.slice 78 (.slice (some ⟨b, 0, none⟩) len lc) none (some (.int .i64 (i : Int))) none).run Tryz.prog w = .ok (.slice (some ⟨b, 0, none⟩) i lc) w := by
 have hu : Tryz.prog.underlying 78 = some (.slice (Tryz.prog.elem 78)) := by kernel_rfl
 have he : Tryz.prog.elem 78 = 84 := by kernel_rfl
 obtain ⟨i0, z, hinf, _, hz1, _⟩ := rkSpot.info
 have := run_slice_h (P := Tryz.prog) (w := w) 78 (some ⟨b, 0, none⟩) len lc hu .i64 (i : Int) (by omega) (by omega)
 rw [this, he]
 simp [sizeOf, typeInfo, hinf, hz1]
 unfold sliced
 split <;> simp [add_none]
theorem sp_first (w : World) (x : SP) : SPo (w.alloc (spBox x)) (.slice (some ⟨w.heap.size, 0, none⟩) 1 1) [x] := by
 have := World.ownsRow_lit (e := 84) (size := 8) (base := 0) w #[.int .i64 x.t.prod, .int .i64 x.t.kind, .string x.t.tx, .slice x.t.ka x.t.kids.length x.t.kc, .int .i64 x.d, .int .i64 x.s.1, .int .i64 x.s.2, .bool x.u] 1 (Nat.zero_le _) (by unfold maxLen; omega) rfl
 exact this
theorem sp_new (w : World) (x : SP) : ∀ j u, (spCells x)[j]? = some u -> (w.alloc (spBox x)).cell? ⟨w.heap.size, j, none⟩ = some u := fun j u hu => by
 rw [cellq_any (heap_alloc_new w (spBox x)), <- hu]
 simp [spCells]
set_option linter.unusedSimpArgs false in
set_option maxRecDepth 100000 in
set_option maxHeartbeats 8000000 in
theorem places_S (t : TV) (w : World) (ht : TAt w t) (hsz : (plT 0 t).length <= 100000000) : Calls Tryz.prog 38 #[t.val] w fun e w' => ∃ a c, e = .returned (.slice a (plT 0 t).length c) /\ SPo w' (.slice a (plT 0 t).length c) (plT 0 t) /\ (∀ j, (Value.slice a (plT 0 t).length c).ownBlock = some j -> w.heap.size < j) /\ Below w.heap.size w w' := by
 have P0 : Hid (PWs w [] [⟨t, 0, (0, 0), false⟩] (.slice none 0 0) (.slice (some ⟨w.heap.size + 1, 0, none⟩) 1 1) ((w.alloc (tBox t)).alloc (spBox ⟨t, 0, (0, 0), false⟩))) := by
  have b1 := below_alloc w (tBox t)
  have b2 := below_alloc (w.alloc (tBox t)) (spBox ⟨t, 0, (0, 0), false⟩)
  have hz : (w.alloc (tBox t)).heap.size = w.heap.size + 1 := by simp
  have f := sp_first (w.alloc (tBox t)) ⟨t, 0, (0, 0), false⟩
  rw [hz] at f
  exact ⟨RO.nil _, f, fun j hj => by simp [Value.ownBlock] at hj, fun j hj => by simp [Value.ownBlock] at hj; omega, fun j hj => by simp [Value.ownBlock] at hj, by have := b2.size; omega, b1.trans (b2.mono b1.size)⟩
 have L0 : Hid ([] ++ plS [(⟨t, 0, (0, 0), false⟩ : SP)].reverse = plT 0 t) := by
  show _ = _
  simp [plS]
 have HSZ : Hid ((plT 0 t).length <= 100000000) := hsz
 have HT : Hid (∀ x ∈ [(⟨t, 0, (0, 0), false⟩ : SP)], TAt w x.t /\ x.s = (0, 0) /\ x.u = false /\ 0 <= x.d /\ x.d <= (0 : Int)) := fun x hx => by
  obtain rfl : x = _ := List.mem_singleton.1 hx
  exact ⟨ht, rfl, rfl, Int.le_refl _, Int.le_refl _⟩
 generalize plT 0 t = L at *
 clear hsz ht
 go_enter Tryz.func38, Tryz.ntmps38
 go_wp2
 go_loopg [3, 4] (L.length + 1) (fun gk vo vs wr => ∃ O S, PWs w O S vo vs wr /\ O ++ plS S.reverse = L /\ (plS S.reverse).length < gk /\ ∀ x ∈ S, TAt w x.t /\ x.s = (0, 0) /\ x.u = false /\ 0 <= x.d /\ x.d <= (O.length : Int))
 case atStart => exact ⟨[], _, P0.out, L0.out, by rw [<- L0.out]; simp, HT.out⟩
 case round =>
  clear P0 L0 HT
  obtain ⟨O, S, hP, hL, hg, hS⟩ := hrel
  by_cases hD : S = []
  ·subst hD
   obtain ⟨sa, sc, rfl, _⟩ := hP.s.len
   have R : Hid (O = L) := by show _ = _; rw [<- hL]; simp [plS]
   obtain ⟨oa, oc, rfl, _⟩ := hP.o.len
   have HP : Hid (SPo wr (.slice oa O.length oc) O /\ (∀ j, (Value.slice oa O.length oc).ownBlock = some j -> w.heap.size < j) /\ Below w.heap.size w wr) := ⟨hP.o, hP.oo, hP.bel⟩
   clear hP hL hg hS
   go_wp2
   go_ret
   rw [<- R.out]
   exact ⟨oa, oc, rfl, HP.out⟩
  ·obtain ⟨S', x, rfl⟩ : ∃ d x, S = d ++ [x] := ⟨S.dropLast, S.getLast hD, (List.dropLast_concat_getLast hD).symm⟩
   obtain ⟨b, c, rfl, hc, hcell, hP'⟩ := hP.pop
   have hx := hS x (by simp)
   have e1 : plS (S' ++ [x]).reverse = x :: (plS (kidS x) ++ plS S'.reverse) := by
    rw [List.reverse_append, List.reverse_singleton, plS_app, plS_one x ⟨hx.2.1, hx.2.2.1⟩]
    rfl
   rw [e1] at hL hg
   have hlen : O.length + 1 + ((plS (kidS x)).length + (plS S'.reverse).length) = L.length := by rw [<- hL]; simp; omega
   have c0 := hcell 0 (by omega)
   have c1 := hcell 1 (by omega)
   have c2 := hcell 2 (by omega)
   have c3 := hcell 3 (by omega)
   have c4 := hcell 4 (by omega)
   have c5 := hcell 5 (by omega)
   have c6 := hcell 6 (by omega)
   have c7 := hcell 7 (by omega)
   simp only [spCells, List.getElem?_cons_zero, List.getElem?_cons_succ, Nat.add_zero, Nat.reduceAdd] at c0 c1 c2 c3 c4 c5 c6 c7
   obtain ⟨oa, oc, rfl, _⟩ := hP.o.len
   have hs1 := slice_spot b c (S'.length + 1) S'.length (by omega)
   have HP : Hid (PWs w O S' (.slice oa O.length oc) (.slice (some ⟨b, 0, none⟩) S'.length c) wr) := hP'
   have HL : Hid (O ++ x :: (plS (kidS x) ++ plS S'.reverse) = L) := hL
   have HX : Hid (TAt w x.t /\ x.s = (0, 0) /\ x.u = false /\ 0 <= x.d /\ x.d <= (O.length : Int)) := hx
   have HS : Hid (∀ y ∈ S', TAt w y.t /\ y.s = (0, 0) /\ y.u = false /\ 0 <= y.d /\ y.d <= (O.length : Int)) := fun y hy => hS y (List.mem_append_left _ hy)
   have HG : Hid ((x :: (plS (kidS x) ++ plS S'.reverse)).length < gk) := hg
   have HLN : Hid (O.length + 1 + ((plS (kidS x)).length + (plS S'.reverse).length) = L.length) := hlen
   have hO : O.length <= 100000000 := by have := HSZ.out; omega
   have hnb : S'.length <= 100000000 := by have := HSZ.out; have := plS_len S'.reverse; simp at this; omega
   clear hP hP' hL hx hS hg hcell e1 hlen hD
   obtain ⟨n, hn⟩ : ∃ n, S'.length = n := ⟨_, rfl⟩
   rw [hn] at c0 c1 c2 c3 c4 c5 c6 c7 hs1 HP hc hnb ⊢
   have HN : Hid (S'.length = n) := hn
   clear hn
   have X0 : Hid ((wr.alloc (spBox x)).heap[wr.heap.size]? = some (spBox x)) := heap_alloc_new _ _
   have BA : Hid (Below wr.heap.size wr ((wr.alloc (spBox x)).alloc (spBox x))) := (below_alloc wr _).alloc (below_alloc wr _).size _
   have NC : Hid (∀ j u, (spCells x)[j]? = some u -> ((wr.alloc (spBox x)).alloc (spBox x)).cell? ⟨wr.heap.size + 1, j, none⟩ = some u) := by
    have := sp_new (wr.alloc (spBox x)) x
    rwa [show (wr.alloc (spBox x)).heap.size = wr.heap.size + 1 by simp] at this
   have HOB : Hid (∀ j, (Value.slice oa O.length oc).ownBlock = some j -> j < wr.heap.size) := HP.out.o.lt
   have HSB : Hid (∀ j, (Value.slice (some ⟨b, 0, none⟩) n c).ownBlock = some j -> j < wr.heap.size) := HP.out.s.lt
   have X5 : Hid (((wr.alloc (spBox x)).alloc (spBox x)).heap[wr.heap.size]? = some (spBox x)) := ((below_alloc (wr.alloc (spBox x)) (spBox x)).block _ (lt_of_block X0.out)).trans X0.out
   have hkl : x.t.kids.length <= 100000000 := by
    have h1 := HSZ.out
    have h2 := HLN.out
    have h3 := plS_len (kidS x)
    have h4 : (kidS x).length = x.t.kids.length := by simp [kidS]
    omega
   go_wp2_with (at_builtin; refine wpList_ro_append rkSpot rfl _ _ rfl (.slice oa O.length oc) O rfl (HP.out.any BA.out).o (wr.heap.size + 1) 1 x rfl NC.out (by omega) ?_; intro a4 n4 c4' w4 ho4 hg4; have W4 : Hid (PWs w (O ++ [x]) S' (.slice a4 n4 c4') (.slice (some ⟨b, 0, none⟩) n c) w4) := HP.out.out BA.out hg4 ho4; have X4 : w4.heap[wr.heap.size]? = some (spBox x) := (hg4.grown.block _ (lt_of_block X5.out) (fun e => by have := HOB.out _ e.symm; omega)).trans X5.out; have Y4 : Hid (w4.heap[wr.heap.size]? = some (spBox x)) := X4; clear ho4 hg4 c0 c1 c2 c3 c4 c5 c6 c7 hs1; have k3 := (cellq_any (i := 3) X4).trans rfl; clear X4)
   have NB : Hid (∀ j, (Value.slice (some ⟨b, 0, none⟩) n c).ownBlock = some j -> j ≠ wr.heap.size) := fun j hj => by have := HSB.out j hj; omega
   clear k3 X0 X5 BA NC HOB HSB HP
   obtain ⟨nb, hnb2⟩ : ∃ nb, wr.heap.size = nb := ⟨_, rfl⟩
   rw [hnb2] at Y4 NB ⊢
   clear hnb2
   obtain ⟨d, hd⟩ : ∃ d, x.d = d := ⟨_, rfl⟩
   have HXR : Hid (∀ w', Below w.heap.size w w' -> KRow w' x.t.ka x.t.kids) := fun w' hb => HX.out.1.row.later hb
   have HD : Hid (x.d = d /\ 0 <= d /\ d <= (O.length : Int)) := ⟨hd, by rw [<- hd]; exact HX.out.2.2.2.1, by rw [<- hd]; exact HX.out.2.2.2.2⟩
   clear hd
   obtain ⟨wz, rfl⟩ : ∃ wz : World, wz = wr := ⟨_, rfl⟩
   go_loopw [4, 6] (fun vs z wq => ∃ m : Nat, m <= x.t.kids.length /\ z = .int .i64 ((m : Int) - 1) /\ PWs w (O ++ [x]) (S' ++ ((kidS x).drop m).reverse) (.slice a4 n4 c4') vs wq /\ wq.heap[nb]? = some (spBox x) /\ ∀ j, vs.ownBlock = some j -> j ≠ nb) (fun _ z _ => (intOf z + 1).toNat)
   case atStart =>
    refine ⟨x.t.kids.length, Nat.le_refl _, by go_num, ?_, Y4.out, NB.out⟩
    rw [show (kidS x).drop x.t.kids.length = [] by simp [kidS], List.reverse_nil, List.append_nil]
    exact W4.out
   case round =>
    clear W4 Y4 NB
    obtain ⟨m, hm, rfl, hP, hB, hN⟩ := hrel
    obtain ⟨T, hT⟩ : ∃ T, S' ++ ((kidS x).drop m).reverse = T := ⟨_, rfl⟩
    rw [hT] at hP
    have HTT : Hid (S' ++ ((kidS x).drop m).reverse = T) := hT
    clear hT
    obtain ⟨va, vc, rfl, _⟩ := hP.s.len
    rcases Nat.eq_zero_or_pos m with rfl | hpos
    ·have R : Hid (∃ O2 S2, PWs w O2 S2 (.slice a4 n4 c4') (.slice va T.length vc) wr /\ O2 ++ plS S2.reverse = L /\ (plS S2.reverse).length < gk - 1 /\ ∀ y ∈ S2, TAt w y.t /\ y.s = (0, 0) /\ y.u = false /\ 0 <= y.d /\ y.d <= (O2.length : Int)) := by
      have e : plS T.reverse = plS (kidS x) ++ plS S'.reverse := by rw [<- HTT.out, List.drop_zero, List.reverse_append, List.reverse_reverse, plS_app]
      refine ⟨_, _, hP, ?_, ?_, fun y hy => ?_⟩
      ·rw [e, <- HL.out]; simp
      ·rw [e]
       have := HG.out
       simp only [List.length_cons] at this
       omega
      ·rw [<- HTT.out] at hy
       rcases List.mem_append.1 hy with q | q
       ·obtain ⟨q1, q2, q3, q4, q5⟩ := HS.out y q
        exact ⟨q1, q2, q3, q4, by rw [List.length_append]; simp; omega⟩
       ·rw [List.drop_zero] at q
        have q' := List.mem_reverse.1 q
        unfold kidS at q'
        obtain ⟨k, hk, rfl⟩ := List.mem_map.1 q'
        have := HD.out
        exact ⟨HX.out.1.kid k hk, rfl, rfl, by show 0 <= x.d + 1; omega, by show x.d + 1 <= _; rw [List.length_append]; simp; omega⟩
     clear hP hB hN
     go_wp2
     go_roundg (gk - 1)
     case measure => have := HG.out; simp at this; omega
     case rel => exact R.out
    ·obtain ⟨q, rfl⟩ : ∃ q, m = q + 1 := ⟨m - 1, by omega⟩
     obtain ⟨n2, hn2⟩ : ∃ n2, x.t.kids.length = n2 := ⟨_, rfl⟩
     obtain ⟨y, hy⟩ : ∃ y, x.t.kids.getD q .none = y := ⟨_, rfl⟩
     obtain ⟨kb, ko, hka, hbl, -⟩ := HXR.out _ hP.bel (by intro e; rw [e] at hm; simp at hm)
     have KS0 : Hid (∀ w', Below w.heap.size w w' -> w'.heap[nb]? = some (spBox x) -> (fun w' : World => (w'.cell? ⟨nb, 3, none⟩ = some (.slice (some ⟨kb, ko, none⟩) n2 x.t.kc) /\ w'.cell? ⟨nb, 4, none⟩ = some (.int .i64 d)) /\ w'.cell? ⟨kb, ko + q * 4, none⟩ = some (.int .i64 y.prod) /\ w'.cell? ⟨kb, ko + q * 4 + 1, none⟩ = some (.int .i64 y.kind) /\ w'.cell? ⟨kb, ko + q * 4 + 2, none⟩ = some (.string y.tx) /\ w'.cell? ⟨kb, ko + q * 4 + 3, none⟩ = some (.slice y.ka y.kids.length y.kc)) w') := fun w' hb hB => by
      obtain ⟨kb', ko', hka', hbl', hc'⟩ := HXR.out _ hb (by intro e; rw [e] at hm; simp at hm)
      rw [hka] at hka'
      simp only [Option.some.injEq, Addr.mk.injEq, and_true] at hka'
      obtain ⟨rfl, rfl⟩ := hka'
      have z3 := (cellq_any (i := 3) hB).trans rfl
      have z4 := (cellq_any (i := 4) hB).trans rfl
      rw [hka, hn2] at z3
      rw [HD.out.1] at z4
      have hc2 := hc' q (by omega)
      rw [hy] at hc2
      exact ⟨⟨z3, z4⟩, hc2⟩
     have HT2 : Hid (S' ++ ((kidS x).drop q).reverse = T ++ [⟨y, d + 1, (0, 0), false⟩]) := by
      show _ = _
      rw [<- HTT.out, kidS_drop x q (by omega), hy, HD.out.1]
      simp
     have HTL : Hid (T.length <= 1000000000) := by
      have h1 := HN.out
      have h2 := congrArg List.length HTT.out
      simp [kidS] at h2
      show _ <= _
      omega
     have HP : Hid (PWs w (O ++ [x]) T (.slice a4 n4 c4') (.slice va T.length vc) wr) := hP
     have HB : Hid (wr.heap[nb]? = some (spBox x)) := hB
     have HNN : Hid (∀ j, (Value.slice va T.length vc).ownBlock = some j -> j ≠ nb) := hN
     have hs : Hid ((fun w' : World => (w'.cell? ⟨nb, 3, none⟩ = some (.slice (some ⟨kb, ko, none⟩) n2 x.t.kc) /\ w'.cell? ⟨nb, 4, none⟩ = some (.int .i64 d)) /\ w'.cell? ⟨kb, ko + q * 4, none⟩ = some (.int .i64 y.prod) /\ w'.cell? ⟨kb, ko + q * 4 + 1, none⟩ = some (.int .i64 y.kind) /\ w'.cell? ⟨kb, ko + q * 4 + 2, none⟩ = some (.string y.tx) /\ w'.cell? ⟨kb, ko + q * 4 + 3, none⟩ = some (.slice y.ka y.kids.length y.kc)) wr.drew) := KS0.out _ hP.bel.drew hB
     have hq2 : q < n2 := by omega
     have hq3 : (q : Int) < (n2 : Int) := by omega
     have hdb : 0 <= d /\ d <= 100000000 := by have := HD.out; omega
     have hd0 := hdb.1
     have hd1 := hdb.2
     have HBD : Hid (Below wr.heap.size wr wr.drew) := (Below.refl _ _).drew
     have hwr : IntKind.i64.wrap (d + 1) = d + 1 := wrap_i64 (by omega) (by omega)
     have HKL : Hid (q < x.t.kids.length) := by rw [hn2]; exact hq2
     have e6 : ((q + 1 : Nat) : Int) - 1 = (q : Int) := by omega
     rw [e6]
     rw [hn2] at hkl hm
     clear hP hB hN hka hbl hdb hpos hm hn2 hy e6
     generalize hp1 : y.prod = p at *
     generalize hp2 : y.kind = kd at *
     generalize hp3 : y.tx = tx at *
     generalize hp4 : y.ka = ka at *
     generalize hp5 : y.kids.length = kn at *
     generalize hp6 : y.kc = kkc at *
     have HPY : Hid (spBox ⟨y, d + 1, (0, 0), false⟩ = .cells #[.int .i64 p, .int .i64 kd, .string tx, .slice ka kn kkc, .int .i64 (d + 1), .int .i64 0, .int .i64 0, .bool false] 84) := by
      show _ = _
      rw [<- hp1, <- hp2, <- hp3, <- hp4, <- hp5, <- hp6]
     clear hp1 hp2 hp3 hp4 hp5 hp6
     generalize x.t.kc = kc2 at *
     go_wp2
     refine wp_region_x (S := fun _ => (fun w' : World => (w'.cell? ⟨nb, 3, none⟩ = some (.slice (some ⟨kb, ko, none⟩) n2 kc2) /\ w'.cell? ⟨nb, 4, none⟩ = some (.int .i64 d)) /\ w'.cell? ⟨kb, ko + q * 4, none⟩ = some (.int .i64 p) /\ w'.cell? ⟨kb, ko + q * 4 + 1, none⟩ = some (.int .i64 kd) /\ w'.cell? ⟨kb, ko + q * 4 + 2, none⟩ = some (.string tx) /\ w'.cell? ⟨kb, ko + q * 4 + 3, none⟩ = some (.slice ka kn kkc))) (by kernel_rfl) ?_
     refine takeF (i := 0) (v := ?_) rfl (by kernel_rfl) (by decide +kernel) (by decide +kernel) (fun _ _ _ h => h) (Or.inl ⟨by rfl, ?_⟩) hs.out ?_
     rotate_left
     ·(intro w hSw; (try dsimp only at hSw); go_simp; try (with_reducible rfl))
     (try simp only [Act.put, List.setIfInBounds_toArray, List.set_cons_zero, List.set_cons_succ])
     refine takeF (i := 1) (v := ?_) rfl (by kernel_rfl) (by decide +kernel) (by decide +kernel) (fun _ _ _ h => h) (Or.inl ⟨by rfl, ?_⟩) hs.out ?_
     rotate_left
     ·(intro w hSw; (try dsimp only at hSw); go_simp; try (with_reducible rfl))
     (try simp only [Act.put, List.setIfInBounds_toArray, List.set_cons_zero, List.set_cons_succ])
     refine takeF (i := 2) (v := ?_) rfl (by kernel_rfl) (by decide +kernel) (by decide +kernel) (fun _ _ _ h => h) (Or.inl ⟨by rfl, ?_⟩) hs.out ?_
     rotate_left
     ·(intro w hSw; (try dsimp only at hSw); go_simp; try (with_reducible rfl))
     (try simp only [Act.put, List.setIfInBounds_toArray, List.set_cons_zero, List.set_cons_succ])
     refine takeF (i := 3) (v := ?_) rfl (by kernel_rfl) (by decide +kernel) (by decide +kernel) (fun _ _ _ h => h) (Or.inl ⟨by rfl, ?_⟩) hs.out ?_
     rotate_left
     ·(intro w hSw; (try dsimp only at hSw); go_simp; try (with_reducible rfl))
     (try simp only [Act.put, List.setIfInBounds_toArray, List.set_cons_zero, List.set_cons_succ])
     refine takeF (i := 4) (v := ?_) rfl (by kernel_rfl) (by decide +kernel) (by decide +kernel) (fun _ _ _ h => h) (Or.inl ⟨by rfl, ?_⟩) hs.out ?_
     rotate_left
     ·(intro w hSw; (try dsimp only at hSw); go_simp; try (with_reducible rfl))
     (try simp only [Act.put, List.setIfInBounds_toArray, List.set_cons_zero, List.set_cons_succ])
     refine takeF (i := 5) (v := ?_) rfl (by kernel_rfl) (by decide +kernel) (by decide +kernel) (fun _ _ _ h => h) (Or.inl ⟨by rfl, ?_⟩) hs.out ?_
     rotate_left
     ·(intro w hSw; (try dsimp only at hSw); go_simp; try (with_reducible rfl))
     (try simp only [Act.put, List.setIfInBounds_toArray, List.set_cons_zero, List.set_cons_succ])
     refine takeF (i := 6) (v := ?_) rfl (by kernel_rfl) (by decide +kernel) (by decide +kernel) (fun _ _ _ h => h) (Or.inl ⟨by rfl, ?_⟩) hs.out ?_
     rotate_left
     ·(intro w hSw; (try dsimp only at hSw); go_simp; try (with_reducible rfl))
     (try simp only [Act.put, List.setIfInBounds_toArray, List.set_cons_zero, List.set_cons_succ])
     refine takeF (i := 7) (v := ?_) rfl (by kernel_rfl) (by decide +kernel) (by decide +kernel) (fun _ _ _ h => h) (Or.inl ⟨by rfl, ?_⟩) hs.out ?_
     rotate_left
     ·(intro w hSw; (try dsimp only at hSw); go_simp; try (with_reducible rfl))
     (try simp only [Act.put, List.setIfInBounds_toArray, List.set_cons_zero, List.set_cons_succ])
     refine takeF (i := 8) (v := ?_) rfl (by kernel_rfl) (by decide +kernel) (by decide +kernel) (fun _ _ _ h => h) (Or.inl ⟨by rfl, ?_⟩) hs.out ?_
     rotate_left
     ·(intro w hSw; (try dsimp only at hSw); go_simp; try (with_reducible rfl))
     (try simp only [Act.put, List.setIfInBounds_toArray, List.set_cons_zero, List.set_cons_succ])
     refine takeF (i := 9) (v := ?_) rfl (by kernel_rfl) (by decide +kernel) (by decide +kernel) (fun _ _ _ h => h) (Or.inl ⟨by rfl, ?_⟩) hs.out ?_
     rotate_left
     ·(intro w hSw; (try dsimp only at hSw); go_simp; try (with_reducible rfl))
     (try simp only [Act.put, List.setIfInBounds_toArray, List.set_cons_zero, List.set_cons_succ])
     refine takeF (i := 10) (v := ?_) rfl (by kernel_rfl) (by decide +kernel) (by decide +kernel) (fun _ _ _ h => h) (Or.inl ⟨by rfl, ?_⟩) hs.out ?_
     rotate_left
     ·(intro w hSw; (try dsimp only at hSw); go_simp; try (with_reducible rfl))
     (try simp only [Act.put, List.setIfInBounds_toArray, List.set_cons_zero, List.set_cons_succ])
     refine wpAnyX_one (j := 11) (by decide +kernel) rfl (fun K' hK => ?_)
     go_simp
     refine hK.out _ _ (KS0.out _ (HP.out.bel.trans (((below_alloc _ _).drew).mono HP.out.bel.size)) (tbox_on HB.out (below_alloc _ _).drew)) ?_
     clear hK K'
     (try simp only [Act.put, List.setIfInBounds_toArray, List.set_cons_zero, List.set_cons_succ])
     refine wpAnyX_one (j := 12) (by decide +kernel) rfl (fun K' hK => ?_)
     refine step_ro_append rkSpot (by rfl) _ _ (by rfl) (.slice va T.length vc) T (by rfl) (HP.out.s.later (below_alloc _ _).drew) wr.heap.size 1 ⟨y, d + 1, (0, 0), false⟩ (by rfl) (fun j u hu => by have := sp_new wr ⟨y, d + 1, (0, 0), false⟩ j u hu; rw [HPY.out] at this; exact this) HTL.out ?_
     intro a5 n5 c5 w5 ho5 hg5
     have hbx : Below wr.heap.size wr (wr.alloc (.cells #[.int .i64 p, .int .i64 kd, .string tx, .slice ka kn kkc, .int .i64 (d + 1), .int .i64 0, .int .i64 0, .bool false] 84)).drew := (below_alloc _ _).drew
     have W5 : Hid (PWs w (O ++ [x]) (T ++ [⟨y, d + 1, (0, 0), false⟩]) (.slice a4 n4 c4') (.slice a5 n5 c5) w5) := HP.out.push hbx hg5 ho5
     have B5 : Hid (w5.heap[nb]? = some (spBox x)) := (hg5.grown.block nb (Nat.lt_of_lt_of_le (lt_of_block HB.out) hbx.size) (fun e => HNN.out nb e.symm rfl)).trans (tbox_on HB.out hbx)
     have N5 : Hid (∀ j, (Value.slice a5 n5 c5).ownBlock = some j -> j ≠ nb) := fun j hj => by
      have hz := lt_of_block HB.out
      have hz2 := hbx.size
      rcases hg5.moved with e | ⟨k, e, hk⟩
      ·exact HNN.out j (by rw [<- e]; exact hj)
      ·rw [e] at hj
       simp only [Option.some.injEq] at hj
       omega
     refine hK.out _ _ (KS0.out _ W5.out.bel B5.out) ?_
     clear hK K' ho5 hg5 hbx
     (try simp only [Act.put, List.setIfInBounds_toArray, List.set_cons_zero, List.set_cons_succ])
     refine wpAnyX_one (j := 13) (by decide +kernel) rfl (fun K' hK => ?_)
     go_simp
     refine hK.out _ _ (KS0.out _ W5.out.bel B5.out) ?_
     clear hK K'
     (try simp only [Act.put, List.setIfInBounds_toArray, List.set_cons_zero, List.set_cons_succ])
     refine wpAnyX_done (by decide +kernel) ?_
     clear hs KS0
     go_wp2
     go_roundw
     case rel => exact ⟨q, Nat.le_of_lt HKL.out, by go_num, by rw [HT2.out]; exact W5.out, B5.out, N5.out⟩
     case measure => simp [intOf]
def flCells (x : SP) : List Value := [.int .i64 x.t.prod, .int .i64 x.t.kind, .string x.t.tx, .int .i64 (x.t.kids.length : Int)]
theorem rkFlat : RK 128 86 4 flCells := by
 refine ⟨Tryz.underlying86, ?_, by decide, fun _ => rfl, fun x u hu => ?_⟩
 ·have h : (Tryz.prog.info? 128).map (fun i => (i.zero, i.size, i.bytes)) = some (some (.agg #[.int .i64 0, .int .i64 0, .string ByteArray.empty, .int .i64 0]), 4, 40) := by kernel_rfl
  cases e : Tryz.prog.info? 128 with
  | none => rw [e] at h; cases h
  | some i =>
   rw [e] at h
   simp at h
   exact ⟨i, _, rfl, h.1, h.2.1, by rw [h.2.2]; decide, rfl⟩
 ·simp [flCells] at hu
  rcases hu with rfl | rfl | rfl | rfl <;> rfl
abbrev FLo := RO 128 4 flCells
structure TFs (w : World) (P O : List SP) (vp vo : Value) (wr : World) : Prop where
 p : SPo wr vp P
 o : FLo wr vo O
 po : ∀ j, vp.ownBlock = some j -> w.heap.size < j
 oo : ∀ j, vo.ownBlock = some j -> w.heap.size < j
 ne : ∀ j, vp.ownBlock = some j -> vo.ownBlock ≠ some j
 big : w.heap.size < wr.heap.size
 bel : Below w.heap.size w wr
theorem TFs.any {w wr w' : World} {P O : List SP} {vp vo : Value} (h : TFs w P O vp vo wr) (hb : Below wr.heap.size wr w') : TFs w P O vp vo w' :=
 ⟨h.p.later hb, h.o.later hb, h.po, h.oo, h.ne, Nat.lt_of_lt_of_le h.big hb.size, h.bel.trans (hb.mono (Nat.le_of_lt h.big))⟩
theorem TFs.out {w wr w1 w4 : World} {P O : List SP} {vp vo v' : Value} {y : SP} (h : TFs w P O vp vo wr) (hb : Below wr.heap.size wr w1) (hg : Grew w1 w4 vo v') (hi : FLo w4 v' (O ++ [y])) : TFs w P (O ++ [y]) vp v' w4 := by
 have h1 := h.any hb
 have hbig := h1.big
 refine ⟨h1.p.kept (fun j hj => hg.grown.block j (h1.p.lt j hj) (fun e => h.ne j hj e.symm)), hi, h.po, fun j hj => hg.own (n := w.heap.size + 1) hbig h.oo j hj, fun j hj e => ?_, Nat.lt_of_lt_of_le hbig hg.grown.size, hg.below h1.bel (Nat.le_refl _) (fun j hj => Nat.le_of_lt (h.oo j hj))⟩
 rcases hg.moved with q | ⟨i, q, hq⟩
 ·exact h.ne j hj (by rw [<- q]; exact e)
 ·rw [q] at e
  have := h1.p.lt j hj
  simp at e
  omega
set_option linter.unusedSimpArgs false in
set_option maxRecDepth 100000 in
set_option maxHeartbeats 8000000 in
theorem flatten_S (t : TV) (w : World) (ht : TAt w t) (hsz : (plT 0 t).length <= 100000000) : Calls Tryz.prog 41 #[t.val] w fun e w' => ∃ a c, e = .returned (.slice a (plT 0 t).length c) /\ FLo w' (.slice a (plT 0 t).length c) (plT 0 t) /\ (∀ j, (Value.slice a (plT 0 t).length c).ownBlock = some j -> w.heap.size < j) /\ Below w.heap.size w w' := by
 have PC : Hid (Calls Tryz.prog 38 #[t.val] (w.alloc (tBox t)) fun e w' => ∃ a c, e = .returned (.slice a (plT 0 t).length c) /\ SPo w' (.slice a (plT 0 t).length c) (plT 0 t) /\ (∀ j, (Value.slice a (plT 0 t).length c).ownBlock = some j -> (w.alloc (tBox t)).heap.size < j) /\ Below (w.alloc (tBox t)).heap.size (w.alloc (tBox t)) w') := places_S t _ (ht.later (below_alloc _ _)) hsz
 have BA : Hid (Below w.heap.size w (w.alloc (tBox t))) := below_alloc _ _
 have HZ : Hid ((w.alloc (tBox t)).heap.size = w.heap.size + 1) := by simp [Hid]
 have HSZ : Hid ((plT 0 t).length <= 100000000) := hsz
 generalize plT 0 t = P at *
 clear ht
 go_enter Tryz.func41, Tryz.ntmps41
 go_wp2_with (go_at_call 38; refine PC.out.mono ?_; rintro e w1 ⟨pa, pc, rfl, hp1, ho1, b1⟩; have W1 : Hid (TFs w P [] (.slice pa P.length pc) (.slice none 0 0) w1) := ⟨hp1, RO.nil _, fun j hj => by have := ho1 j hj; have := HZ.out; omega, fun j hj => by simp [Value.ownBlock] at hj, fun j _ e => by simp [Value.ownBlock] at e, by have := b1.size; have := HZ.out; omega, BA.out.trans (b1.mono BA.out.size)⟩; clear hp1 ho1 b1)
 clear PC BA HZ
 go_loopw [3, 5] (fun vo z wr => ∃ k : Nat, k <= P.length /\ z = .int .i64 k /\ TFs w P (P.take k) (.slice pa P.length pc) vo wr) (fun _ z _ => P.length - (intOf z).toNat)
 case atStart => exact ⟨0, Nat.zero_le _, rfl, by rw [List.take_zero]; exact W1.out⟩
 case round =>
  clear W1
  obtain ⟨k, hk, rfl, hF⟩ := hrel
  obtain ⟨oa, oc, rfl, _⟩ := hF.o.len
  by_cases hlt : k < P.length
  ·have klt : (k : Int) < (P.length : Int) := by omega
   obtain ⟨b, c, hv, hc, hcell⟩ := RO.cell (f := spCells) (fun _ => rfl) hF.p hlt
   simp only [Value.slice.injEq, true_and] at hv
   obtain ⟨hpa, -⟩ := hv
   obtain ⟨x, hx⟩ : ∃ x, P[k] = x := ⟨_, rfl⟩
   have HSP : Hid (∀ w', SPo w' (.slice pa P.length pc) P -> (fun w' : World => w'.cell? ⟨b, k * 8, none⟩ = some (.int .i64 x.t.prod) /\ w'.cell? ⟨b, k * 8 + 1, none⟩ = some (.int .i64 x.t.kind) /\ w'.cell? ⟨b, k * 8 + 2, none⟩ = some (.string x.t.tx) /\ w'.cell? ⟨b, k * 8 + 3, none⟩ = some (.slice x.t.ka x.t.kids.length x.t.kc)) w') := fun w' h' => by
    obtain ⟨b', c', hv', -, hcell'⟩ := RO.cell (f := spCells) (fun _ => rfl) h' hlt
    simp only [Value.slice.injEq, true_and] at hv'
    obtain ⟨hpa', -⟩ := hv'
    rw [hpa] at hpa'
    simp only [Option.some.injEq, Addr.mk.injEq, and_true] at hpa'
    subst hpa'
    rw [hx] at hcell'
    have c0 := hcell' 0 (by omega)
    have c1 := hcell' 1 (by omega)
    have c2 := hcell' 2 (by omega)
    have c3 := hcell' 3 (by omega)
    simp only [spCells, List.getElem?_cons_zero, List.getElem?_cons_succ, Nat.add_zero] at c0 c1 c2 c3
    exact ⟨c0, c1, c2, c3⟩
   have HT : Hid (P.take (k + 1) = P.take k ++ [x]) := by
    show _ = _
    rw [List.take_succ_eq_append_getElem hlt, hx]
   have HF : Hid (TFs w P (P.take k) (.slice pa P.length pc) (.slice oa (P.take k).length oc) wr) := hF
   have HTL : Hid ((P.take k).length <= 1000000000) := by show _ <= _; rw [List.length_take]; have := HSZ.out; omega
   have hs : Hid ((fun w' : World => w'.cell? ⟨b, k * 8, none⟩ = some (.int .i64 x.t.prod) /\ w'.cell? ⟨b, k * 8 + 1, none⟩ = some (.int .i64 x.t.kind) /\ w'.cell? ⟨b, k * 8 + 2, none⟩ = some (.string x.t.tx) /\ w'.cell? ⟨b, k * 8 + 3, none⟩ = some (.slice x.t.ka x.t.kids.length x.t.kc)) wr.drew) := HSP.out _ (hF.p.later (Below.refl _ _).drew)
   have HNX : Hid (∀ j u, (flCells x)[j]? = some u -> (wr.alloc (.cells #[.int .i64 x.t.prod, .int .i64 x.t.kind, .string x.t.tx, .int .i64 (x.t.kids.length : Int)] 128)).drew.cell? ⟨wr.heap.size, j, none⟩ = some u) := fun j u hu => by
    have := cellq_any (i := j) (heap_alloc_new wr (.cells #[.int .i64 x.t.prod, .int .i64 x.t.kind, .string x.t.tx, .int .i64 (x.t.kids.length : Int)] 128))
    refine Eq.trans this ?_
    rw [<- hu]
    simp [flCells]
   have hsz2 := HSZ.out
   clear hF hcell hc hx
   subst hpa
   generalize P.take k = T at *
   generalize x.t.prod = p at *
   generalize x.t.kind = kd at *
   generalize x.t.tx = tx at *
   generalize x.t.ka = ka at *
   generalize x.t.kids.length = kn at *
   generalize x.t.kc = kkc at *
   go_wp2
   refine wp_region_x (S := fun _ => (fun w' : World => w'.cell? ⟨b, k * 8, none⟩ = some (.int .i64 p) /\ w'.cell? ⟨b, k * 8 + 1, none⟩ = some (.int .i64 kd) /\ w'.cell? ⟨b, k * 8 + 2, none⟩ = some (.string tx) /\ w'.cell? ⟨b, k * 8 + 3, none⟩ = some (.slice ka kn kkc))) (by kernel_rfl) ?_
   refine takeF (i := 0) (v := ?_) rfl (by kernel_rfl) (by decide +kernel) (by decide +kernel) (fun _ _ _ h => h) (Or.inl ⟨by rfl, ?_⟩) hs.out ?_
   rotate_left
   ·(intro w hSw; (try dsimp only at hSw); go_simp; try (with_reducible rfl))
   (try simp only [Act.put, List.setIfInBounds_toArray, List.set_cons_zero, List.set_cons_succ])
   refine takeF (i := 1) (v := ?_) rfl (by kernel_rfl) (by decide +kernel) (by decide +kernel) (fun _ _ _ h => h) (Or.inl ⟨by rfl, ?_⟩) hs.out ?_
   rotate_left
   ·(intro w hSw; (try dsimp only at hSw); go_simp; try (with_reducible rfl))
   (try simp only [Act.put, List.setIfInBounds_toArray, List.set_cons_zero, List.set_cons_succ])
   refine takeF (i := 2) (v := ?_) rfl (by kernel_rfl) (by decide +kernel) (by decide +kernel) (fun _ _ _ h => h) (Or.inl ⟨by rfl, ?_⟩) hs.out ?_
   rotate_left
   ·(intro w hSw; (try dsimp only at hSw); go_simp; try (with_reducible rfl))
   (try simp only [Act.put, List.setIfInBounds_toArray, List.set_cons_zero, List.set_cons_succ])
   refine takeF (i := 3) (v := ?_) rfl (by kernel_rfl) (by decide +kernel) (by decide +kernel) (fun _ _ _ h => h) (Or.inl ⟨by rfl, ?_⟩) hs.out ?_
   rotate_left
   ·(intro w hSw; (try dsimp only at hSw); go_simp; try (with_reducible rfl))
   (try simp only [Act.put, List.setIfInBounds_toArray, List.set_cons_zero, List.set_cons_succ])
   refine takeF (i := 4) (v := ?_) rfl (by kernel_rfl) (by decide +kernel) (by decide +kernel) (fun _ _ _ h => h) (Or.inl ⟨by rfl, ?_⟩) hs.out ?_
   rotate_left
   ·(intro w hSw; (try dsimp only at hSw); go_simp; try (with_reducible rfl))
   (try simp only [Act.put, List.setIfInBounds_toArray, List.set_cons_zero, List.set_cons_succ])
   refine takeF (i := 5) (v := ?_) rfl (by kernel_rfl) (by decide +kernel) (by decide +kernel) (fun _ _ _ h => h) (Or.inl ⟨by rfl, ?_⟩) hs.out ?_
   rotate_left
   ·(intro w hSw; (try dsimp only at hSw); go_simp; try (with_reducible rfl))
   (try simp only [Act.put, List.setIfInBounds_toArray, List.set_cons_zero, List.set_cons_succ])
   refine takeF (i := 6) (v := ?_) rfl (by kernel_rfl) (by decide +kernel) (by decide +kernel) (fun _ _ _ h => h) (Or.inl ⟨by rfl, ?_⟩) hs.out ?_
   rotate_left
   ·(intro w hSw; (try dsimp only at hSw); go_simp; try (with_reducible rfl))
   (try simp only [Act.put, List.setIfInBounds_toArray, List.set_cons_zero, List.set_cons_succ])
   refine takeF (i := 7) (v := ?_) rfl (by kernel_rfl) (by decide +kernel) (by decide +kernel) (fun _ _ _ h => h) (Or.inl ⟨by rfl, ?_⟩) hs.out ?_
   rotate_left
   ·(intro w hSw; (try dsimp only at hSw); go_simp; try (with_reducible rfl))
   (try simp only [Act.put, List.setIfInBounds_toArray, List.set_cons_zero, List.set_cons_succ])
   refine takeF (i := 8) (v := ?_) rfl (by kernel_rfl) (by decide +kernel) (by decide +kernel) (fun _ _ _ h => h) (Or.inl ⟨by rfl, ?_⟩) hs.out ?_
   rotate_left
   ·(intro w hSw; (try dsimp only at hSw); go_simp; try (with_reducible rfl))
   (try simp only [Act.put, List.setIfInBounds_toArray, List.set_cons_zero, List.set_cons_succ])
   refine takeF (i := 9) (v := ?_) rfl (by kernel_rfl) (by decide +kernel) (by decide +kernel) (fun _ _ _ h => h) (Or.inl ⟨by rfl, ?_⟩) hs.out ?_
   rotate_left
   ·(intro w hSw; (try dsimp only at hSw); go_simp; try (with_reducible rfl))
   (try simp only [Act.put, List.setIfInBounds_toArray, List.set_cons_zero, List.set_cons_succ])
   refine takeF (i := 10) (v := ?_) rfl (by kernel_rfl) (by decide +kernel) (by decide +kernel) (fun _ _ _ h => h) (Or.inl ⟨by rfl, ?_⟩) hs.out ?_
   rotate_left
   ·(intro w hSw; (try dsimp only at hSw); go_simp; try (with_reducible rfl))
   (try simp only [Act.put, List.setIfInBounds_toArray, List.set_cons_zero, List.set_cons_succ])
   refine takeF (i := 11) (v := ?_) rfl (by kernel_rfl) (by decide +kernel) (by decide +kernel) (fun _ _ _ h => h) (Or.inl ⟨by rfl, ?_⟩) hs.out ?_
   rotate_left
   ·(intro w hSw; (try dsimp only at hSw); go_simp; try (with_reducible rfl))
   (try simp only [Act.put, List.setIfInBounds_toArray, List.set_cons_zero, List.set_cons_succ])
   refine takeF (i := 12) (v := ?_) rfl (by kernel_rfl) (by decide +kernel) (by decide +kernel) (fun _ _ _ h => h) (Or.inl ⟨by rfl, ?_⟩) hs.out ?_
   rotate_left
   ·(intro w hSw; (try dsimp only at hSw); go_simp; try (with_reducible rfl))
   (try simp only [Act.put, List.setIfInBounds_toArray, List.set_cons_zero, List.set_cons_succ])
   refine takeF (i := 13) (v := ?_) rfl (by kernel_rfl) (by decide +kernel) (by decide +kernel) (fun _ _ _ h => h) (Or.inl ⟨by rfl, ?_⟩) hs.out ?_
   rotate_left
   ·(intro w hSw; (try dsimp only at hSw); go_simp; try (with_reducible rfl))
   (try simp only [Act.put, List.setIfInBounds_toArray, List.set_cons_zero, List.set_cons_succ])
   refine takeF (i := 14) (v := ?_) rfl (by kernel_rfl) (by decide +kernel) (by decide +kernel) (fun _ _ _ h => h) (Or.inl ⟨by rfl, ?_⟩) hs.out ?_
   rotate_left
   ·(intro w hSw; (try dsimp only at hSw); go_simp; try (with_reducible rfl))
   (try simp only [Act.put, List.setIfInBounds_toArray, List.set_cons_zero, List.set_cons_succ])
   refine takeF (i := 15) (v := ?_) rfl (by kernel_rfl) (by decide +kernel) (by decide +kernel) (fun _ _ _ h => h) (Or.inl ⟨by rfl, ?_⟩) hs.out ?_
   rotate_left
   ·(intro w hSw; (try dsimp only at hSw); go_simp; try (with_reducible rfl))
   (try simp only [Act.put, List.setIfInBounds_toArray, List.set_cons_zero, List.set_cons_succ])
   refine takeF (i := 16) (v := ?_) rfl (by kernel_rfl) (by decide +kernel) (by decide +kernel) (fun _ _ _ h => h) (Or.inl ⟨by rfl, ?_⟩) hs.out ?_
   rotate_left
   ·(intro w hSw; (try dsimp only at hSw); go_simp; try (with_reducible rfl))
   (try simp only [Act.put, List.setIfInBounds_toArray, List.set_cons_zero, List.set_cons_succ])
   refine takeF (i := 17) (v := ?_) rfl (by kernel_rfl) (by decide +kernel) (by decide +kernel) (fun _ _ _ h => h) (Or.inl ⟨by rfl, ?_⟩) hs.out ?_
   rotate_left
   ·(intro w hSw; (try dsimp only at hSw); go_simp; try (with_reducible rfl))
   (try simp only [Act.put, List.setIfInBounds_toArray, List.set_cons_zero, List.set_cons_succ])
   refine takeF (i := 18) (v := ?_) rfl (by kernel_rfl) (by decide +kernel) (by decide +kernel) (fun _ _ _ h => h) (Or.inl ⟨by rfl, ?_⟩) hs.out ?_
   rotate_left
   ·(intro w hSw; (try dsimp only at hSw); go_simp; try (with_reducible rfl))
   (try simp only [Act.put, List.setIfInBounds_toArray, List.set_cons_zero, List.set_cons_succ])
   refine takeF (i := 19) (v := ?_) rfl (by kernel_rfl) (by decide +kernel) (by decide +kernel) (fun _ _ _ h => h) (Or.inl ⟨by rfl, ?_⟩) hs.out ?_
   rotate_left
   ·(intro w hSw; (try dsimp only at hSw); go_simp; try (with_reducible rfl))
   (try simp only [Act.put, List.setIfInBounds_toArray, List.set_cons_zero, List.set_cons_succ])
   refine takeF (i := 20) (v := ?_) rfl (by kernel_rfl) (by decide +kernel) (by decide +kernel) (fun _ _ _ h => h) (Or.inl ⟨by rfl, ?_⟩) hs.out ?_
   rotate_left
   ·(intro w hSw; (try dsimp only at hSw); go_simp; try (with_reducible rfl))
   (try simp only [Act.put, List.setIfInBounds_toArray, List.set_cons_zero, List.set_cons_succ])
   refine wpAnyX_one (j := 21) (by decide +kernel) rfl (fun K' hK => ?_)
   go_simp
   refine hK.out _ _ (HSP.out _ (HF.out.p.later (below_alloc _ _).drew)) ?_
   clear hK K'
   (try simp only [Act.put, List.setIfInBounds_toArray, List.set_cons_zero, List.set_cons_succ])
   refine wpAnyX_one (j := 22) (by decide +kernel) rfl (fun K' hK => ?_)
   refine step_ro_append rkFlat (by rfl) _ _ (by rfl) (.slice oa T.length oc) T (by rfl) (HF.out.o.later (below_alloc _ _).drew) wr.heap.size 1 x (by rfl) HNX.out HTL.out ?_
   intro a5 n5 c5 w5 ho5 hg5
   have W5 : Hid (TFs w P (T ++ [x]) (.slice (some ⟨b, 0, none⟩) P.length pc) (.slice a5 n5 c5) w5) := HF.out.out (below_alloc _ _).drew hg5 ho5
   refine hK.out _ _ (HSP.out _ W5.out.p) ?_
   clear hK K' ho5 hg5
   (try simp only [Act.put, List.setIfInBounds_toArray, List.set_cons_zero, List.set_cons_succ])
   refine wpAnyX_one (j := 23) (by decide +kernel) rfl (fun K' hK => ?_)
   go_simp
   refine hK.out _ _ (HSP.out _ W5.out.p) ?_
   clear hK K'
   (try simp only [Act.put, List.setIfInBounds_toArray, List.set_cons_zero, List.set_cons_succ])
   refine wpAnyX_done (by decide +kernel) ?_
   clear hs HSP HNX
   go_wp2
   go_roundw
   case rel => exact ⟨k + 1, by omega, by go_num, by rw [HT.out]; exact W5.out⟩
   case measure => simp [intOf]; omega
  ·obtain rfl : k = P.length := by omega
   rw [List.take_length] at hF
   have HF : Hid (FLo wr (.slice oa P.length oc) P /\ (∀ j, (Value.slice oa P.length oc).ownBlock = some j -> w.heap.size < j) /\ Below w.heap.size w wr) := ⟨hF.o, hF.oo, hF.bel⟩
   have klt : ¬ (P.length : Int) < (P.length : Int) := by omega
   clear hF
   go_wp2
   go_ret
   exact ⟨oa, oc, by simp, HF.out⟩
def maxU : List Nat -> Nat
 | [] => 0
 | n :: l => max n (maxU l)
def hgF : Nat -> TV -> Nat
 | 0, _ => 0
 | n + 1, t => if t.prod = -1 then 0 else maxU (t.kids.map (hgF n)) + 1
def hgT (t : TV) : Nat := hgF (tsz t) t
def hgL (l : List TV) : Nat := maxU (l.map hgT)
theorem map_congr' {α β : Type} {f f' : α -> β} : ∀ (l : List α), (∀ x ∈ l, f x = f' x) -> l.map f = l.map f'
 | [], _ => rfl
 | x :: l, h => by rw [List.map_cons, List.map_cons, h x (List.mem_cons_self ..), map_congr' l (fun y hy => h y (List.mem_cons_of_mem _ hy))]
theorem hgF_any : ∀ (n m : Nat) (t : TV), tsz t <= n -> tsz t <= m -> hgF n t = hgF m t
 | 0, _, t, h, _ => by have := tsz_pos t; omega
 | _ + 1, 0, t, _, h => by have := tsz_pos t; omega
 | n + 1, m + 1, t, h, h' => by
  rw [hgF, hgF, map_congr' t.kids (fun k hk => hgF_any n m k (by have := kid_lt hk; omega) (by have := kid_lt hk; omega))]
theorem hgT_eq (t : TV) : hgT t = if t.prod = -1 then 0 else hgL t.kids + 1 := by
 obtain ⟨n, hn⟩ : ∃ n, tsz t = n + 1 := ⟨tsz t - 1, by have := tsz_pos t; omega⟩
 unfold hgT hgL
 rw [hn, hgF, map_congr' t.kids (fun k hk => hgF_any n (tsz k) k (by have := kid_lt hk; omega) (Nat.le_refl _))]
 rfl
theorem hgL_mem : ∀ (l : List TV) (k : TV), k ∈ l -> hgT k <= hgL l
 | [], _, h => by cases h
 | t :: l, k, h => by
  show hgT k <= max (hgT t) (hgL l)
  rcases List.mem_cons.1 h with rfl | h
  ·exact Nat.le_max_left _ _
  ·exact Nat.le_trans (hgL_mem l k h) (Nat.le_max_right _ _)
def LeS (a b : BS) : Prop := ∀ n, n < 128 -> hasS a n = true -> hasS b n = true
theorem LeS.refl (a : BS) : LeS a a := fun _ _ h => h
theorem LeS.trans {a b c : BS} (h : LeS a b) (h' : LeS b c) : LeS a c := fun n hn q => h' n hn (h n hn q)
theorem leS_with {a b c : BS} (h : LeS a c) (h' : LeS b c) : LeS (withS a b) c := fun n hn q => by
 rw [hasS_with, Bool.or_eq_true] at q
 exact q.elim (h n hn) (h' n hn)
theorem leS_left (a b : BS) : LeS a (withS a b) := fun n _ q => by rw [hasS_with, q]; rfl
theorem leS_right (a b : BS) : LeS b (withS a b) := fun n _ q => by rw [hasS_with, q]; simp
theorem ahead_mono {N N' : List Bool} {F G : List BS} (hN : ∀ i, N.getD i false = true -> N'.getD i false = true) (hF : ∀ i, LeS (F.getD i (0, 0)) (G.getD i (0, 0))) (s : Int × Int) {a b : BS} (h : LeS a b) : LeS (aheadS N F s a) (aheadS N' G s b) := by
 unfold aheadS
 by_cases h1 : s.1 = 1
 ·rw [if_pos h1, if_pos h1]; exact LeS.refl _
 ·rw [if_neg h1, if_neg h1]
  by_cases h2 : N.getD s.2.toNat false = true
  ·rw [if_pos h2, if_pos (hN _ h2)]
   exact leS_with (h.trans (leS_left _ _)) ((hF _).trans (leS_right _ _))
  ·rw [if_neg h2]
   split
   ·exact (hF _).trans (leS_right _ _)
   ·exact hF _
theorem of_mono {N N' : List Bool} {F G : List BS} (hN : ∀ i, N.getD i false = true -> N'.getD i false = true) (hF : ∀ i, LeS (F.getD i (0, 0)) (G.getD i (0, 0))) {a b : BS} (h : LeS a b) : ∀ l : List (Int × Int), LeS (ofS N F l a) (ofS N' G l b)
 | [] => h
 | s :: l => ahead_mono hN hF s (of_mono hN hF h l)
def ClosF (N : List Bool) (ps : List PV) (F : List BS) : Prop := ∀ p ∈ ps, LeS (ofS N F p.right (0, 0)) (F.getD p.left.toNat (0, 0))
theorem step_in {N N' : List Bool} {F G : List BS} (hN : ∀ i, N.getD i false = true -> N'.getD i false = true) (hF : ∀ i, LeS (F.getD i (0, 0)) (G.getD i (0, 0))) {p : PV} (hp : LeS (ofS N' G p.right (0, 0)) (G.getD p.left.toNat (0, 0))) : ∀ i, LeS ((rStep N F p).getD i (0, 0)) (G.getD i (0, 0)) := fun i => by
 unfold rStep
 rw [getD_setS]
 split
 ·rename_i h
  rw [<- h.1]
  exact leS_with (hF _) ((of_mono hN hF (LeS.refl _) _).trans hp)
 ·exact hF i
theorem fold_in {N N' : List Bool} {G : List BS} (hN : ∀ i, N.getD i false = true -> N'.getD i false = true) : ∀ (ps : List PV) (F : List BS), ClosF N' ps G -> (∀ i, LeS (F.getD i (0, 0)) (G.getD i (0, 0))) -> ∀ i, LeS ((ps.foldl (rStep N) F).getD i (0, 0)) (G.getD i (0, 0))
 | [], _, _, h => h
 | p :: ps, F, hc, h => fold_in hN ps _ (fun q hq => hc q (List.mem_cons_of_mem _ hq)) (step_in hN h (hc p (List.mem_cons_self ..)))
theorem iter_in {N N' : List Bool} {ps : List PV} {F G : List BS} (hN : ∀ i, N.getD i false = true -> N'.getD i false = true) (hc : ClosF N' ps G) (h : ∀ i, LeS (F.getD i (0, 0)) (G.getD i (0, 0))) : ∀ k i, LeS ((iterS N ps F k).getD i (0, 0)) (G.getD i (0, 0))
 | 0 => h
 | k + 1 => fold_in hN ps _ hc (iter_in hN hc h k)
theorem rep_zero (n i : Nat) : (List.replicate n ((0, 0) : BS)).getD i (0, 0) = (0, 0) := by simp [List.getD, List.getElem?_replicate]; split <;> rfl
theorem LeastF.within {g : GV} {F G : List BS} {N' : List Bool} (h : LeastF g F) (hN : ∀ i, (nullU g.ps g.ns.length).getD i false = true -> N'.getD i false = true) (hc : ClosF N' g.ps G) : ∀ i, LeS (F.getD i (0, 0)) (G.getD i (0, 0)) := by
 obtain ⟨k, rfl, _⟩ := h
 exact iter_in hN hc (fun i n hn q => by rw [rep_zero, hasS_zero] at q; cases q) k
theorem LeF.antisymm {F G : List BS} (h : LeF F G) (h' : LeF G F) : F = G := by
 apply List.ext_getElem h.1.symm
 intro i h1 h2
 have a := h.2 i
 have b := h'.2 i
 simp only [List.getD, List.getElem?_eq_getElem h1, List.getElem?_eq_getElem h2, Option.getD_some] at a b
 exact Prod.ext (by omega) (by omega)
theorem fold_fix (N : List Bool) : ∀ (ps : List PV) (F : List BS), ps.foldl (rStep N) F = F -> ∀ p ∈ ps, rStep N F p = F
 | [], _, _, p, hp => absurd hp (List.not_mem_nil)
 | q :: ps, F, h, p, hp => by
  rw [List.foldl_cons] at h
  have e : rStep N F q = F := LeF.antisymm (by have := rFold_le N ps (rStep N F q); rwa [h] at this) (rStep_le N F q)
  rw [e] at h
  rcases List.mem_cons.1 hp with rfl | hp
  ·exact e
  ·exact fold_fix N ps F h p hp
theorem fix_closed {N : List Bool} {ps : List PV} {F : List BS} (h : roundS N ps F = F) (hl : ∀ p ∈ ps, p.left.toNat < F.length) : ClosF N ps F := fun p hp => by
 have e := fold_fix N ps F h p hp
 have e2 : (rStep N F p).getD p.left.toNat (0, 0) = F.getD p.left.toNat (0, 0) := by rw [e]
 unfold rStep at e2
 rw [getD_setS, if_pos ⟨rfl, hl p hp⟩] at e2
 have := leS_right (F.getD p.left.toNat (0, 0)) (ofS N F p.right (0, 0))
 rwa [e2] at this
theorem of_all {N : List Bool} {F : List BS} {R : Nat -> Prop} (hF : ∀ i n, n < 128 -> hasS (F.getD i (0, 0)) n = true -> R n) {look : BS} (hk : ∀ n, n < 128 -> hasS look n = true -> R n) : ∀ l : List (Int × Int), (∀ s ∈ l, s.1 = 1 -> 0 <= s.2 /\ s.2 < 128 /\ R s.2.toNat) -> ∀ n, n < 128 -> hasS (ofS N F l look) n = true -> R n
 | [], _ => hk
 | s :: l, hs => fun n hn q => by
  have ih := of_all (N := N) hF hk l (fun t ht => hs t (List.mem_cons_of_mem _ ht))
  have e : ofS N F (s :: l) look = aheadS N F s (ofS N F l look) := rfl
  rw [e] at q
  unfold aheadS at q
  by_cases h1 : s.1 = 1
  ·rw [if_pos h1] at q
   obtain ⟨a0, a1, a2⟩ := hs s (List.mem_cons_self ..) h1
   have := (setS_has (l := [s.2]) (fun x hx => by simp at hx; omega) n hn).1 q
   simp at this
   rw [show n = s.2.toNat by omega]; exact a2
  ·rw [if_neg h1] at q
   split at q
   ·rw [hasS_with, Bool.or_eq_true] at q
    exact q.elim (ih n hn) (hF _ n hn)
   ·exact hF _ n hn q
theorem fold_all {N : List Bool} {R : Nat -> Prop} : ∀ (ps : List PV) (F : List BS), (∀ p ∈ ps, ∀ s ∈ p.right, s.1 = 1 -> 0 <= s.2 /\ s.2 < 128 /\ R s.2.toNat) -> (∀ i n, n < 128 -> hasS (F.getD i (0, 0)) n = true -> R n) -> ∀ i n, n < 128 -> hasS ((ps.foldl (rStep N) F).getD i (0, 0)) n = true -> R n
 | [], _, _, h => h
 | p :: ps, F, hp, h => fold_all ps _ (fun q hq => hp q (List.mem_cons_of_mem _ hq)) (fun i n hn q => by
   unfold rStep at q
   rw [getD_setS] at q
   split at q
   ·rw [hasS_with, Bool.or_eq_true] at q
    exact q.elim (h _ n hn) (of_all h (fun n _ q => by rw [hasS_zero] at q; cases q) p.right (hp p (List.mem_cons_self ..)) n hn)
   ·exact h i n hn q)
theorem iter_all {N : List Bool} {ps : List PV} {R : Nat -> Prop} (m : Nat) (hp : ∀ p ∈ ps, ∀ s ∈ p.right, s.1 = 1 -> 0 <= s.2 /\ s.2 < 128 /\ R s.2.toNat) : ∀ k i n, n < 128 -> hasS ((iterS N ps (List.replicate m (0, 0)) k).getD i (0, 0)) n = true -> R n
 | 0 => fun i n hn q => by have e : iterS N ps (List.replicate m (0, 0)) 0 = List.replicate m (0, 0) := rfl; rw [e, rep_zero, hasS_zero] at q; cases q
 | k + 1 => fold_all ps _ hp (iter_all m hp k)
structure GP (g : GV) : Prop where
 left : ∀ p ∈ g.ps, 0 <= p.left /\ p.left < g.ns.length
 sym : ∀ p ∈ g.ps, ∀ s ∈ p.right, (s.1 = 1 /\ 0 <= s.2 /\ s.2 < g.ts.length) ∨ (s.1 = 2 /\ 0 <= s.2 /\ s.2 < g.ns.length)
 tl : g.ts.length <= 64
theorem psD {g : GV} {j : Nat} (hj : j < g.ps.length) : g.ps.getD j .none ∈ g.ps := by simp [List.getD, hj]
theorem LeastF.closed {g : GV} {F : List BS} (hg : GP g) (h : LeastF g F) : ClosF (nullU g.ps g.ns.length) g.ps F := by
 obtain ⟨k, _, h2, _, h4⟩ := h
 exact fix_closed h2 (fun p hp => by have := hg.left p hp; omega)
theorem LeastF.below {g : GV} {F : List BS} (hg : GP g) (h : LeastF g F) : ∀ i n, n < 128 -> hasS (F.getD i (0, 0)) n = true -> n < g.ts.length := by
 obtain ⟨k, rfl, _⟩ := h
 refine iter_all _ (fun p hp s hs e => ?_) k
 have := hg.tl
 rcases hg.sym p hp s hs with q | q <;> omega
def tkCells (x : SP) : List Value := [.int .i64 x.t.kind, .string x.t.tx]
theorem rkTok : RK 23 52 2 tkCells := by
 refine ⟨Tryz.underlying52, ?_, by decide, fun _ => rfl, fun x u hu => ?_⟩
 ·have h : (Tryz.prog.info? 23).map (fun i => (i.zero, i.size, i.bytes)) = some (some (.agg #[.int .i64 0, .string ByteArray.empty]), 2, 24) := by kernel_rfl
  cases e : Tryz.prog.info? 23 with
  | none => rw [e] at h; cases h
  | some i =>
   rw [e] at h
   simp at h
   exact ⟨i, _, rfl, h.1, h.2.1, by rw [h.2.2]; decide, rfl⟩
 ·simp [tkCells] at hu
  rcases hu with rfl | rfl <;> rfl
abbrev TKo := RO 23 2 tkCells
def leafs (l : List SP) : List SP := l.filter fun x => decide (x.t.prod = -1)
theorem leafs_take {l : List SP} {k : Nat} {x : SP} (h : l[k]? = some x) : leafs (l.take (k + 1)) = leafs (l.take k) ++ if x.t.prod = -1 then [x] else [] := by
 rw [List.take_add_one, h]
 unfold leafs
 rw [List.filter_append]
 congr 1
 by_cases q : x.t.prod = -1
 ·rw [if_pos q]; simp [q]
 ·rw [if_neg q]; simp [q]
structure YWs (w : World) (P O : List SP) (vp vo : Value) (wr : World) : Prop where
 p : SPo wr vp P
 o : TKo wr vo O
 po : ∀ j, vp.ownBlock = some j -> w.heap.size < j
 oo : ∀ j, vo.ownBlock = some j -> w.heap.size < j
 ne : ∀ j, vp.ownBlock = some j -> vo.ownBlock ≠ some j
 big : w.heap.size < wr.heap.size
 bel : Below w.heap.size w wr
theorem YWs.any {w wr w' : World} {P O : List SP} {vp vo : Value} (h : YWs w P O vp vo wr) (hb : Below wr.heap.size wr w') : YWs w P O vp vo w' :=
 ⟨h.p.later hb, h.o.later hb, h.po, h.oo, h.ne, Nat.lt_of_lt_of_le h.big hb.size, h.bel.trans (hb.mono (Nat.le_of_lt h.big))⟩
theorem YWs.out {w wr w1 w4 : World} {P O : List SP} {vp vo v' : Value} {y : SP} (h : YWs w P O vp vo wr) (hb : Below wr.heap.size wr w1) (hg : Grew w1 w4 vo v') (hi : TKo w4 v' (O ++ [y])) : YWs w P (O ++ [y]) vp v' w4 := by
 have h1 := h.any hb
 have hbig := h1.big
 refine ⟨h1.p.kept (fun j hj => hg.grown.block j (h1.p.lt j hj) (fun e => h.ne j hj e.symm)), hi, h.po, fun j hj => hg.own (n := w.heap.size + 1) hbig h.oo j hj, fun j hj e => ?_, Nat.lt_of_lt_of_le hbig hg.grown.size, hg.below h1.bel (Nat.le_refl _) (fun j hj => Nat.le_of_lt (h.oo j hj))⟩
 rcases hg.moved with q | ⟨i, q, hq⟩
 ·exact h.ne j hj (by rw [<- q]; exact e)
 ·rw [q] at e
  have := h1.p.lt j hj
  simp at e
  omega
set_option linter.unusedSimpArgs false in
set_option maxRecDepth 100000 in
set_option maxHeartbeats 8000000 in
theorem yield_S (t : TV) (w : World) (ht : TAt w t) (hsz : (plT 0 t).length <= 100000000) : Calls Tryz.prog 16 #[t.val] w fun e w' => ∃ a c, e = .returned (.slice a (leafs (plT 0 t)).length c) /\ TKo w' (.slice a (leafs (plT 0 t)).length c) (leafs (plT 0 t)) /\ Below w.heap.size w w' := by
 have PC : Hid (Calls Tryz.prog 38 #[t.val] (w.alloc (tBox t)) fun e w' => ∃ a c, e = .returned (.slice a (plT 0 t).length c) /\ SPo w' (.slice a (plT 0 t).length c) (plT 0 t) /\ (∀ j, (Value.slice a (plT 0 t).length c).ownBlock = some j -> (w.alloc (tBox t)).heap.size < j) /\ Below (w.alloc (tBox t)).heap.size (w.alloc (tBox t)) w') := places_S t _ (ht.later (below_alloc _ _)) hsz
 have BA : Hid (Below w.heap.size w (w.alloc (tBox t))) := below_alloc _ _
 have HZ : Hid ((w.alloc (tBox t)).heap.size = w.heap.size + 1) := by simp [Hid]
 have HSZ : Hid ((plT 0 t).length <= 100000000) := hsz
 generalize plT 0 t = P at *
 clear ht
 go_enter Tryz.func16, Tryz.ntmps16
 go_wp2_with (go_at_call 38; refine PC.out.mono ?_; rintro e w1 ⟨pa, pc, rfl, hp1, ho1, b1⟩; have W1 : Hid (YWs w P [] (.slice pa P.length pc) (.slice none 0 0) w1) := ⟨hp1, RO.nil _, fun j hj => by have := ho1 j hj; have := HZ.out; omega, fun j hj => by simp [Value.ownBlock] at hj, fun j _ e => by simp [Value.ownBlock] at e, by have := b1.size; have := HZ.out; omega, BA.out.trans (b1.mono BA.out.size)⟩; clear hp1 ho1 b1)
 clear PC BA HZ
 go_loopw [3, 5] (fun vo z wr => ∃ k : Nat, k <= P.length /\ z = .int .i64 k /\ YWs w P (leafs (P.take k)) (.slice pa P.length pc) vo wr) (fun _ z _ => P.length - (intOf z).toNat)
 case atStart => exact ⟨0, Nat.zero_le _, rfl, by rw [List.take_zero]; exact W1.out⟩
 case round =>
  clear W1
  obtain ⟨k, hk, rfl, hF⟩ := hrel
  obtain ⟨oa, oc, rfl, _⟩ := hF.o.len
  by_cases hlt : k < P.length
  ·have klt : (k : Int) < (P.length : Int) := by omega
   obtain ⟨b, c, hv, hc, hcell⟩ := RO.cell (f := spCells) (fun _ => rfl) hF.p hlt
   simp only [Value.slice.injEq, true_and] at hv
   obtain ⟨hpa, -⟩ := hv
   obtain ⟨x, hx⟩ : ∃ x, P[k] = x := ⟨_, rfl⟩
   rw [hx] at hcell
   have c0 := hcell 0 (by omega)
   have c1 := hcell 1 (by omega)
   have c2 := hcell 2 (by omega)
   simp only [spCells, List.getElem?_cons_zero, List.getElem?_cons_succ, Nat.add_zero] at c0 c1 c2
   have hPk : P[k]? = some x := by rw [<- hx]; exact List.getElem?_eq_getElem hlt
   have HT : Hid (leafs (P.take (k + 1)) = leafs (P.take k) ++ if x.t.prod = -1 then [x] else []) := leafs_take hPk
   have HTL : Hid ((leafs (P.take k)).length <= 1000000000) := by
    have h1 := List.length_filter_le (fun x : SP => decide (x.t.prod = -1)) (P.take k)
    have h2 := HSZ.out
    rw [List.length_take] at h1
    show (List.filter _ _).length <= _
    omega
   have HF : Hid (YWs w P (leafs (P.take k)) (.slice pa P.length pc) (.slice oa (leafs (P.take k)).length oc) wr) := hF
   have hsz2 := HSZ.out
   clear hF hcell hc hx hPk
   subst hpa
   by_cases hp : x.t.prod = -1
   ·have e0 : (x.t.prod == -1) = true := by simpa using hp
    rw [if_pos hp] at HT
    have HNX : Hid (∀ j u, (tkCells x)[j]? = some u -> (wr.alloc (.cells #[.int .i64 x.t.kind, .string x.t.tx] 23)).cell? ⟨wr.heap.size, j, none⟩ = some u) := fun j u hu => by
     rw [cellq_any (heap_alloc_new wr (.cells #[.int .i64 x.t.kind, .string x.t.tx] 23)), <- hu]
     simp [tkCells]
    clear hp
    generalize leafs (P.take k) = T at *
    go_wp2_with (at_builtin; refine wpList_ro_append rkTok rfl _ _ rfl (.slice oa T.length oc) T rfl (HF.out.o.later (below_alloc _ _)) wr.heap.size 1 x rfl HNX.out HTL.out ?_; intro a5 n5 c5 w5 ho5 hg5; have W5 : Hid (YWs w P (T ++ [x]) (.slice (some ⟨b, 0, none⟩) P.length pc) (.slice a5 n5 c5) w5) := HF.out.out (below_alloc _ _) hg5 ho5; clear ho5 hg5 c0 c1 c2)
    go_roundw
    case rel => exact ⟨k + 1, by omega, by go_num, by rw [HT.out]; exact W5.out⟩
    case measure => simp [intOf]; omega
   ·have e0 : (x.t.prod == -1) = false := by simpa using hp
    rw [if_neg hp, List.append_nil] at HT
    clear hp
    go_wp2
    go_roundw
    case rel => exact ⟨k + 1, by omega, by go_num, by rw [HT.out]; exact HF.out⟩
    case measure => simp [intOf]; omega
  ·obtain rfl : k = P.length := by omega
   rw [List.take_length] at hF
   have HF : Hid (TKo wr (.slice oa (leafs P).length oc) (leafs P) /\ Below w.heap.size w wr) := ⟨hF.o, hF.bel⟩
   have klt : ¬ (P.length : Int) < (P.length : Int) := by omega
   clear hF
   go_wp2
   go_ret
   exact ⟨oa, oc, by simp, HF.out⟩
theorem lv_kids {d : Int} : ∀ (l : List TV), lv (plL d l) = [] -> ∀ k ∈ l, lv (plT d k) = []
 | [], _, _, h => by cases h
 | t :: l, e, k, h => by
  rw [plL_cons, lv_append] at e
  obtain ⟨e1, e2⟩ := List.append_eq_nil_iff.1 e
  rcases List.mem_cons.1 h with rfl | h
  ·exact e1
  ·exact lv_kids l e2 k h
theorem RT.high {g : GV} (hg : GP g) (t : TV) (h : RT g t) : ∀ d, lv (plT d t) = [] -> (rootU g t).1 = 2 /\ (htU g.ps g.ns.length g.ns.length).getD (rootU g t).2.toNat 0 ≠ 0 /\ (htU g.ps g.ns.length g.ns.length).getD (rootU g t).2.toNat 0 <= (hgT t : Int) := by
 induction h using RT.ind with
 | leaf t hp h0 h1 hk =>
  intro d e
  rw [plT_eq, lv_cons, if_pos hp] at e
  cases e
 | node t h0 h1 hr hk ih =>
  intro d e
  have hm : g.ps.getD t.prod.toNat .none ∈ g.ps := psD (by omega)
  rw [plT_eq, lv_cons, if_neg (by show ¬ t.prod = -1; omega)] at e
  have hks := lv_kids t.kids e
  rw [root_node h0 h1]
  have hall : ∀ s ∈ (g.ps.getD t.prod.toNat .none).right, s.1 = 2 /\ (htU g.ps g.ns.length g.ns.length).getD s.2.toNat 0 ≠ 0 /\ (htU g.ps g.ns.length g.ns.length).getD s.2.toNat 0 <= (hgL t.kids : Int) := fun s hs => by
   have hs' : s ∈ t.kids.map (rootU g) := by rw [hr]; exact hs
   obtain ⟨k, hkm, rfl⟩ := List.mem_map.1 hs'
   obtain ⟨q1, q2, q3⟩ := ih k hkm (d + 1) (hks k hkm)
   have := hgL_mem t.kids k hkm
   exact ⟨q1, q2, by omega⟩
  have hl := hg.left _ hm
  refine ⟨rfl, htU_closed g.ps g.ns.length hg.left _ hm (fun s hs => ⟨(hall s hs).1, (hall s hs).2.1⟩), ?_⟩
  show (htU g.ps g.ns.length g.ns.length).getD (g.ps.getD t.prod.toNat .none).left.toNat 0 <= _
  rw [hgT_eq, if_neg (by omega)]
  by_cases hH : hgL t.kids + 1 <= g.ns.length
  ·obtain ⟨r, hr2⟩ : ∃ r, g.ns.length = hgL t.kids + 1 + r := ⟨g.ns.length - (hgL t.kids + 1), by omega⟩
   have hf : fitU (htU g.ps g.ns.length (hgL t.kids + 1)) (g.ps.getD t.prod.toNat .none).right (hgL t.kids) = true := by
    rw [fitU_iff]
    intro s hs
    obtain ⟨q1, q2, q3⟩ := hall s hs
    have e2 := htU_back g.ps g.ns.length (hgL t.kids + 1) s.2.toNat r (by rw [<- hr2]; exact q2) (by rw [<- hr2]; omega)
    rw [<- hr2] at e2
    exact ⟨q1, by rw [e2]; exact q2, by rw [e2]; exact q3⟩
   have h2 := htU_fit g.ps g.ns.length (hgL t.kids) _ hm hl.1 hl.2 hf
   have h3 := htU_keep g.ps g.ns.length (hgL t.kids + 1) _ h2 r
   rw [<- hr2] at h3
   rw [h3]
   have := (htU_bd g.ps g.ns.length (hgL t.kids + 1) (g.ps.getD t.prod.toNat .none).left.toNat).2
   omega
  ·have := (htU_bd g.ps g.ns.length g.ns.length (g.ps.getD t.prod.toNat .none).left.toNat).2
   omega
end Go.Proofs.YteciabdjkaackaaGreat
