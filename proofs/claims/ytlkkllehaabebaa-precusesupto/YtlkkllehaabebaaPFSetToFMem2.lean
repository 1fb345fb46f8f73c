import Derived.Test.YtlkkllehaabebaaPBBaseToGRow
import Derived.Laws.BitsAllLaws
import Derived.Laws.StructEq
import Derived.ChangeKeysEq
import Derived.RegionTactic
import Derived.BigRegion
import Derived.Deep.RegionWith
namespace Go.Proofs.Ytlkkllehaabebaa
set_option linter.unusedVariables false
set_option maxRecDepth 100000
set_option maxHeartbeats 16000000
open Go.RowKit
abbrev BS := Nat × Nat
def OkS (s : BS) : Prop := s.1 < 18446744073709551616 /\ s.2 < 18446744073709551616
def addS (s : BS) (n : Nat) : BS := if n < 64 then (s.1 ||| 2 ^ n, s.2) else (s.1, s.2 ||| 2 ^ (n - 64))
def hasS (s : BS) (n : Nat) : Bool := if n < 64 then s.1.testBit n else s.2.testBit (n - 64)
def withS (a b : BS) : BS := (a.1 ||| b.1, a.2 ||| b.2)
def setS (l : List Int) : BS := l.foldl (fun s n => addS s n.toNat) (0, 0)
def listS (s : BS) (n : Nat) : List Int := ((List.range n).filter (hasS s)).map fun (i : Nat) => (i : Int)
theorem pow64 {n : Nat} (h : n < 64) : 2 ^ n < 18446744073709551616 := by
 have := Nat.pow_lt_pow_right (a := 2) (by omega) h
 simpa using this
theorem or64 {a b : Nat} (ha : a < 18446744073709551616) (hb : b < 18446744073709551616) : a ||| b < 18446744073709551616 := Nat.or_lt_two_pow (n := 64) ha hb
theorem OkS.add {s : BS} (h : OkS s) {n : Nat} (hn : n < 128) : OkS (addS s n) := by
 unfold addS
 split
 ·exact ⟨or64 h.1 (pow64 (by omega)), h.2⟩
 ·exact ⟨h.1, or64 h.2 (pow64 (by omega))⟩
theorem OkS.with {a b : BS} (ha : OkS a) (hb : OkS b) : OkS (withS a b) := ⟨or64 ha.1 hb.1, or64 ha.2 hb.2⟩
theorem OkS.zero : OkS (0, 0) := ⟨by decide, by decide⟩
theorem hasS_add (s : BS) (n m : Nat) (hn : n < 128) (hm : m < 128) : hasS (addS s n) m = (hasS s m || decide (n = m)) := by
 unfold addS hasS
 by_cases h1 : n < 64 <;> by_cases h2 : m < 64 <;> simp only [h1, h2, if_true, if_false, Nat.testBit_or, Nat.testBit_two_pow]
 ·have e : decide (n = m) = false := by simp; omega
  simp [e]
 ·have e : decide (n = m) = false := by simp; omega
  simp [e]
 ·have e : decide (n - 64 = m - 64) = decide (n = m) := by simp only [decide_eq_decide]; omega
  rw [e]
theorem hasS_with (a b : BS) (n : Nat) : hasS (withS a b) n = (hasS a n || hasS b n) := by
 unfold hasS withS
 split <;> simp
theorem hasS_zero (n : Nat) : hasS (0, 0) n = false := by
 unfold hasS
 split <;> simp
theorem setS_ext {a b : BS} (ha : OkS a) (hb : OkS b) (h : ∀ n, n < 128 -> hasS a n = hasS b n) : a = b := by
 obtain ⟨a1, a2⟩ := a
 obtain ⟨b1, b2⟩ := b
 have k : ∀ (x y : Nat), x < 18446744073709551616 -> y < 18446744073709551616 -> (∀ i, i < 64 -> x.testBit i = y.testBit i) -> x = y := fun x y hx hy he => by
  apply Nat.eq_of_testBit_eq
  intro i
  by_cases hi : i < 64
  ·exact he i hi
  ·have p : 18446744073709551616 <= 2 ^ i := by
    have := Nat.pow_le_pow_right (n := 2) (by omega) (show 64 <= i by omega)
    simpa using this
   rw [Nat.testBit_lt_two_pow (by omega), Nat.testBit_lt_two_pow (by omega)]
 have e1 : a1 = b1 := k a1 b1 ha.1 hb.1 fun i hi => by
  have := h i (by omega)
  simpa [hasS, hi] using this
 have e2 : a2 = b2 := k a2 b2 ha.2 hb.2 fun i hi => by
  have := h (i + 64) (by omega)
  simpa [hasS, show ¬ i + 64 < 64 by omega] using this
 rw [e1, e2]
theorem within_iff {a b : BS} (ha : OkS a) (hb : OkS b) : withS a b = b ↔ ∀ n, n < 128 -> hasS a n = true -> hasS b n = true := by
 constructor
 ·intro h n _ hn
  rw [<- h, hasS_with, hn]
  rfl
 ·intro h
  refine setS_ext (ha.with hb) hb fun n hn => ?_
  rw [hasS_with]
  cases e : hasS a n
  ·simp
  ·simp [h n hn e]
theorem foldS_has : ∀ (l : List Int) (s : BS), (∀ x ∈ l, 0 <= x /\ x < 128) -> OkS s -> OkS (l.foldl (fun s n => addS s n.toNat) s) /\ ∀ n, n < 128 -> (hasS (l.foldl (fun s n => addS s n.toNat) s) n = true ↔ hasS s n = true ∨ (n : Int) ∈ l)
 | [], s, _, hs => ⟨hs, fun n _ => by simp⟩
 | x :: l, s, hl, hs => by
  have hx := hl x (by simp)
  obtain ⟨h1, h2⟩ := foldS_has l (addS s x.toNat) (fun y hy => hl y (by simp [hy])) (hs.add (by omega))
  refine ⟨h1, fun n hn => ?_⟩
  rw [List.foldl_cons, h2 n hn, hasS_add s x.toNat n (by omega) hn]
  simp only [Bool.or_eq_true, decide_eq_true_eq, List.mem_cons]
  constructor
  ·rintro ((h | h) | h)
   ·exact .inl h
   ·exact .inr (.inl (by omega))
   ·exact .inr (.inr h)
  ·rintro (h | h | h)
   ·exact .inl (.inl h)
   ·exact .inl (.inr (by omega))
   ·exact .inr h
theorem setS_ok {l : List Int} (h : ∀ x ∈ l, 0 <= x /\ x < 128) : OkS (setS l) := (foldS_has l (0, 0) h OkS.zero).1
theorem setS_has {l : List Int} (h : ∀ x ∈ l, 0 <= x /\ x < 128) (n : Nat) (hn : n < 128) : hasS (setS l) n = true ↔ (n : Int) ∈ l := by
 have := (foldS_has l (0, 0) h OkS.zero).2 n hn
 rw [hasS_zero] at this
 simpa [setS] using this
theorem listS_mem (s : BS) (n : Nat) (x : Int) : x ∈ listS s n ↔ 0 <= x /\ x < n /\ hasS s x.toNat = true := by
 unfold listS
 simp only [List.mem_map, List.mem_filter, List.mem_range]
 constructor
 ·rintro ⟨i, ⟨h1, h2⟩, rfl⟩
  exact ⟨by omega, by omega, by simpa using h2⟩
 ·rintro ⟨h1, h2, h3⟩
  exact ⟨x.toNat, ⟨by omega, h3⟩, by omega⟩
theorem listS_succ (s : BS) (n : Nat) : listS s (n + 1) = listS s n ++ (if hasS s n then [(n : Int)] else []) := by
 unfold listS
 rw [List.range_succ, List.filter_append, List.map_append]
 congr 1
 by_cases h : hasS s n = true <;> simp [h]
theorem listS_rises (s : BS) : ∀ n, (listS s n).Pairwise (· < ·)
 | 0 => by simp [listS]
 | n + 1 => by
  rw [listS_succ, List.pairwise_append]
  refine ⟨listS_rises s n, by split <;> simp, fun x hx y hy => ?_⟩
  have := (listS_mem s n x).1 hx
  split at hy
  ·obtain rfl := List.mem_singleton.1 hy; omega
  ·cases hy
def fitU (K : List Int) (l : List (Int × Int)) (most : Nat) : Bool := l.all fun s => decide (s.1 = 2) && decide (K.getD s.2.toNat 0 ≠ 0) && decide (K.getD s.2.toNat 0 <= (most : Int))
def hStep (most : Nat) (K : List Int) (p : PV) : List Int := if K.getD p.left.toNat 0 = 0 /\ fitU K p.right most = true then K.set p.left.toNat ((most : Int) + 1) else K
def hRound (ps : List PV) (K : List Int) (most : Nat) : List Int := ps.foldl (hStep most) K
def htU (ps : List PV) (n : Nat) : Nat -> List Int
 | 0 => List.replicate n 0
 | k + 1 => hRound ps (htU ps n k) k
def nullU (ps : List PV) (n : Nat) : List Bool := (htU ps n n).map fun h => decide (0 < h)
theorem getD_set_i {K : List Int} {i j : Nat} {v : Int} : (K.set i v).getD j 0 = if i = j /\ j < K.length then v else K.getD j 0 := by
 simp only [List.getD, List.getElem?_set]
 by_cases h1 : i = j
 ·subst h1
  by_cases h2 : i < K.length
  ·simp [h2]
  ·simp [h2]
 ·simp [h1]
structure HGo (v : Int) (K L : List Int) : Prop where
 len : L.length = K.length
 old : ∀ i, K.getD i 0 ≠ 0 -> L.getD i 0 = K.getD i 0
 new : ∀ i, K.getD i 0 = 0 -> L.getD i 0 = 0 ∨ L.getD i 0 = v
theorem HGo.refl (v : Int) (K : List Int) : HGo v K K := ⟨rfl, fun _ _ => rfl, fun _ h => .inl h⟩
theorem HGo.trans {v : Int} (hv : v ≠ 0) {K L M : List Int} (h : HGo v K L) (h' : HGo v L M) : HGo v K M :=
 ⟨h'.len.trans h.len, fun i hi => by have e := h.old i hi; rw [h'.old i (by rw [e]; exact hi), e], fun i hi => by
  rcases h.new i hi with e | e
  ·exact h'.new i e
  ·right; rw [h'.old i (by rw [e]; exact hv), e]⟩
theorem hStep_go (most : Nat) (K : List Int) (p : PV) : HGo ((most : Int) + 1) K (hStep most K p) := by
 unfold hStep
 split
 ·rename_i h
  refine ⟨by simp, fun i hi => ?_, fun i hi => ?_⟩
  ·rw [getD_set_i, if_neg]
   rintro ⟨e, _⟩
   rw [e] at h
   exact hi h.1
  ·rw [getD_set_i]
   split
   ·exact .inr rfl
   ·exact .inl hi
 ·exact HGo.refl _ _
theorem hFold_go (most : Nat) : ∀ (ps : List PV) (K : List Int), HGo ((most : Int) + 1) K (ps.foldl (hStep most) K)
 | [], K => HGo.refl _ _
 | p :: ps, K => (hStep_go most K p).trans (by omega) (hFold_go most ps _)
theorem hRound_go (ps : List PV) (K : List Int) (most : Nat) : HGo ((most : Int) + 1) K (hRound ps K most) := hFold_go most ps K
theorem htU_len (ps : List PV) (n : Nat) : ∀ k, (htU ps n k).length = n
 | 0 => by simp [htU]
 | k + 1 => by rw [htU, (hRound_go _ _ _).len, htU_len ps n k]
end Go.Proofs.Ytlkkllehaabebaa
namespace Go.Proofs.Ytlkkllehaabebaa
set_option linter.unusedVariables false
set_option maxRecDepth 100000
set_option maxHeartbeats 16000000
open Go.RowKit
theorem three_box (w : World) (a b c : Obj) : Below w.heap.size w (((w.alloc a).alloc b).alloc c) /\ (((w.alloc a).alloc b).alloc c).heap[w.heap.size]? = some a /\ (((w.alloc a).alloc b).alloc c).heap[w.heap.size + 1]? = some b /\ (((w.alloc a).alloc b).alloc c).heap[w.heap.size + 1 + 1]? = some c := by
 have b1 := below_alloc w a
 have b2 := below_alloc (w.alloc a) b
 have b3 := below_alloc ((w.alloc a).alloc b) c
 have s1 : (w.alloc a).heap.size = w.heap.size + 1 := by simp
 have s2 : ((w.alloc a).alloc b).heap.size = w.heap.size + 1 + 1 := by simp
 refine ⟨b1.trans ((b2.mono b1.size).trans (b3.mono (Nat.le_trans b1.size b2.size))), ?_, ?_, ?_⟩
 ·rw [b3.block _ (by omega), b2.block _ (by omega)]; exact heap_alloc_new _ _
 ·rw [b3.block _ (by omega), <- s1]; exact heap_alloc_new _ _
 ·rw [<- s2]; exact heap_alloc_new _ _
end Go.Proofs.Ytlkkllehaabebaa
