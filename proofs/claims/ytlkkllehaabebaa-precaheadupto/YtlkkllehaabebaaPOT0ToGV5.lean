import Derived.Test.YtlkkllehaabebaaPGDec12ToGDec14
import Derived.Test.YtlkkllehaabebaaPRegX
namespace Go.Proofs.Ytlkkllehaabebaa
set_option linter.unusedVariables false
set_option maxRecDepth 100000
set_option maxHeartbeats 16000000
open Go.RowKit
structure IsPerm (l : List Int) : Prop where
 lo : ∀ i, i < l.length -> 0 <= l.getD i 0 /\ l.getD i 0 < l.length
 one : ∀ i j, i < l.length -> j < i -> l.getD j 0 ≠ l.getD i 0
theorem nat_fit : ∀ (n : Nat) (l : List Nat), l.Nodup -> (∀ x ∈ l, x < n) -> l.length <= n
 | 0, l, _, h => by
  cases l with
  | nil => simp
  | cons a r => exact absurd (h a (by simp)) (by omega)
 | n + 1, l, hn, h => by
  by_cases hm : n ∈ l
  ·have h1 := nat_fit n (l.erase n) (hn.erase n) (fun x hx => by
    have h2 := h x (List.mem_of_mem_erase hx)
    have h3 : x ≠ n := fun e => by subst e; exact (List.Nodup.not_mem_erase hn) hx
    omega)
   rw [List.length_erase_of_mem hm] at h1
   omega
  ·have h1 := nat_fit n l hn (fun x hx => by
    have h2 := h x hx
    have h3 : x ≠ n := fun e => hm (e ▸ hx)
    omega)
   omega
theorem IsPerm.nodup {l : List Int} (h : IsPerm l) : (l.map Int.toNat).Nodup := by
 rw [List.nodup_iff_pairwise_ne, List.pairwise_iff_getElem]
 intro i j hi hj hij
 simp at hi hj
 have h1 := h.lo i hi
 have h2 := h.lo j hj
 have h3 := h.one j i hj hij
 simp [List.getD, hi, hj] at h1 h2 h3
 simp
 omega
theorem IsPerm.all {l : List Int} (h : IsPerm l) (k : Nat) (hk : k < l.length) : ∃ i, i < l.length /\ (l.getD i 0).toNat = k := by
 by_cases hm : k ∈ l.map Int.toNat
 ·obtain ⟨x, hx, e⟩ := List.mem_map.1 hm
  obtain ⟨i, hi, rfl⟩ := List.getElem_of_mem hx
  exact ⟨i, hi, by simp [List.getD, hi, e]⟩
 ·have h1 := nat_fit l.length (k :: l.map Int.toNat) (List.nodup_cons.2 ⟨hm, h.nodup⟩) (fun x hx => by
   rcases List.mem_cons.1 hx with rfl | hx
   ·exact hk
   ·obtain ⟨y, hy, rfl⟩ := List.mem_map.1 hx
    obtain ⟨i, hi, rfl⟩ := List.getElem_of_mem hy
    have := h.lo i hi
    simp [List.getD, hi] at this
    omega)
  simp at h1
  omega
def RB (w : World) (b : Nat) (t : TypeId) (xs : List Value) : Prop := ∃ cur, w.heap[b]? = some (.cells cur t (0, 0)) /\ xs.length <= cur.size /\ cur.toList.take xs.length = xs
theorem RB.lt {w : World} {b : Nat} {t : TypeId} {xs : List Value} (h : RB w b t xs) : b < w.heap.size := by
 obtain ⟨cur, h1, _⟩ := h
 exact lt_of_block h1
theorem RB.kept {w w' : World} {b : Nat} {t : TypeId} {xs : List Value} (h : RB w b t xs) (hb : w'.heap[b]? = w.heap[b]?) : RB w' b t xs := by
 obtain ⟨cur, h1, h2⟩ := h
 exact ⟨cur, hb.trans h1, h2⟩
theorem RB.later {w w' : World} {b : Nat} {t : TypeId} {xs : List Value} (h : RB w b t xs) (hb : Below w.heap.size w w') : RB w' b t xs := h.kept (hb.block b h.lt)
theorem RB.cell {w : World} {b : Nat} {t : TypeId} {xs : List Value} (h : RB w b t xs) {i : Nat} {u : Value} (hi : xs[i]? = some u) : w.cell? ⟨b, i, none⟩ = some u := by
 obtain ⟨cur, h1, h2, h3⟩ := h
 rw [cellq_any h1]
 have hlt : i < xs.length := (List.getElem?_eq_some_iff.1 hi).1
 rw [<- h3, List.getElem?_take] at hi
 rw [if_pos hlt] at hi
 simpa using hi
theorem RB.free {w : World} {b : Nat} {t : TypeId} {xs : List Value} (h : RB w b t xs) (i : Nat) : w.frozen? ⟨b, i, none⟩ = false := by
 obtain ⟨cur, h1, _⟩ := h
 simp [World.frozen?, h1]
theorem RB.set {w : World} {b : Nat} {t : TypeId} {xs : List Value} (h : RB w b t xs) (i : Nat) (u : Value) : RB (w.setCell ⟨b, i, none⟩ u) b t (xs.set i u) := by
 obtain ⟨cur, h1, h2, h3⟩ := h
 refine ⟨_, heap_set h1 i u, by simpa using h2, ?_⟩
 rw [Array.toList_setIfInBounds, List.length_set, List.take_set, h3]
theorem RB.other {w : World} {b b' : Nat} {t : TypeId} {xs : List Value} (h : RB w b t xs) (hne : b ≠ b') (i : Nat) (u : Value) : RB (w.setCell ⟨b', i, none⟩ u) b t xs := h.kept (Below.heap_setCell _ _ _ _ hne)
theorem RB.of_own {w : World} {base : Nat} {t : TypeId} {sz g n c : Nat} {xs : List Value} (h : w.ownsRow base t sz (.slice (some ⟨g, 0, none⟩) n c) n xs) : RB w g t xs /\ base <= g /\ n <= c := by
 obtain ⟨hl, h | ⟨g', cap, cur, e, h1, h2, h3, _, h5, h6⟩⟩ := h
 ·exact absurd h.1 (by simp)
 ·simp only [Value.slice.injEq, Option.some.injEq, Addr.mk.injEq, true_and, and_true] at e
  obtain ⟨rfl, rfl⟩ := e
  exact ⟨⟨cur, h2, by rw [h5, hl]; exact Nat.mul_le_mul_right _ h3, by rw [hl]; exact h6⟩, h1, h3⟩
end Go.Proofs.Ytlkkllehaabebaa
namespace Go.Proofs.Ytlkkllehaabebaa
set_option linter.unusedVariables false
set_option maxRecDepth 100000
set_option maxHeartbeats 16000000
open Go.RowKit
def ablk (a : Option Addr) : Nat := match a with
 | some x => x.block
 | none => 0
theorem proCells_set {l : List PV} {k : Nat} {q : PV} (hk : k < l.length) : proCells (l.set k q) = (((proCells l).set (k * 3) (.int .i64 q.left)).set (k * 3 + 1) (.slice q.ra q.right.length q.rc)).set (k * 3 + 2) (.int .i64 q.prec) := by
 induction l generalizing k with
 | nil => simp at hk
 | cons a r ih =>
  cases k with
  | zero => simp [proCells]
  | succ k =>
   have e1 : ∀ m : List PV, proCells (a :: m) = .int .i64 a.left :: .slice a.ra a.right.length a.rc :: .int .i64 a.prec :: proCells m := fun m => rfl
   rw [List.set_cons_succ, e1, e1, ih (by simpa using hk), show (k + 1) * 3 = k * 3 + 1 + 1 + 1 by omega, show k * 3 + 1 + 1 + 1 + 1 = (k * 3 + 1) + 1 + 1 + 1 by omega, show k * 3 + 1 + 1 + 1 + 2 = (k * 3 + 2) + 1 + 1 + 1 by omega]
   simp only [List.set_cons_succ]
theorem levCells_set {l : List LV} {k : Nat} {q : LV} (hk : k < l.length) : levCells (l.set k q) = ((levCells l).set (k * 2) (.int .i64 q.assoc)).set (k * 2 + 1) (.slice q.ta q.terms.length q.tc) := by
 induction l generalizing k with
 | nil => simp at hk
 | cons a r ih =>
  cases k with
  | zero => simp [levCells]
  | succ k =>
   have e1 : ∀ m : List LV, levCells (a :: m) = .int .i64 a.assoc :: .slice a.ta a.terms.length a.tc :: levCells m := fun m => rfl
   rw [List.set_cons_succ, e1, e1, ih (by simpa using hk), show (k + 1) * 2 = k * 2 + 1 + 1 by omega, show k * 2 + 1 + 1 + 1 = (k * 2 + 1) + 1 + 1 by omega]
   simp only [List.set_cons_succ]
theorem set_same {α : Type} {l : List α} {k : Nat} {x : α} (h : l[k]? = some x) : l.set k x = l := by
 obtain ⟨hk, rfl⟩ := List.getElem?_eq_some_iff.1 h
 exact List.set_getElem_self hk
theorem getD_set_eq {α : Type} {l : List α} {k : Nat} {q d : α} (hk : k < l.length) : (l.set k q).getD k d = q := by simp [List.getD, hk]
theorem getD_set_ne {α : Type} {l : List α} {k i : Nat} {q d : α} (h : i ≠ k) : (l.set k q).getD i d = l.getD i d := by
 simp only [List.getD, List.getElem?_set]
 rw [if_neg (fun e => h e.symm)]
structure PM (B H : Nat) (w : World) (pb k : Nat) (l : List PV) : Prop where
 row : RB w pb 83 (proCells l)
 lo : B <= pb /\ pb < H
 each : ∀ i, i < k -> (l.getD i .none).right ≠ [] -> (l.getD i .none).ra = some ⟨ablk (l.getD i .none).ra, 0, none⟩ /\ (B <= ablk (l.getD i .none).ra /\ ablk (l.getD i .none).ra < H) /\ ablk (l.getD i .none).ra ≠ pb /\ RB w (ablk (l.getD i .none).ra) 113 (symCells (l.getD i .none).right)
 two : ∀ i j, i < k -> j < k -> i ≠ j -> (l.getD i .none).right ≠ [] -> (l.getD j .none).right ≠ [] -> ablk (l.getD i .none).ra ≠ ablk (l.getD j .none).ra
structure LMt (B H : Nat) (w : World) (pb k : Nat) (l : List LV) : Prop where
 row : RB w pb 76 (levCells l)
 lo : B <= pb /\ pb < H
 each : ∀ i, i < k -> (l.getD i .none).terms ≠ [] -> (l.getD i .none).ta = some ⟨ablk (l.getD i .none).ta, 0, none⟩ /\ (B <= ablk (l.getD i .none).ta /\ ablk (l.getD i .none).ta < H) /\ ablk (l.getD i .none).ta ≠ pb /\ RB w (ablk (l.getD i .none).ta) 3 ((l.getD i .none).terms.map (.int .i64 ·))
 two : ∀ i j, i < k -> j < k -> i ≠ j -> (l.getD i .none).terms ≠ [] -> (l.getD j .none).terms ≠ [] -> ablk (l.getD i .none).ta ≠ ablk (l.getD j .none).ta
theorem PM.kept {B H : Nat} {w w' : World} {pb k : Nat} {l : List PV} (h : PM B H w pb k l) (hb : ∀ j, B <= j -> j < H -> w'.heap[j]? = w.heap[j]?) : PM B H w' pb k l :=
 ⟨h.row.kept (hb _ h.lo.1 h.lo.2), h.lo, fun i hi hr => ⟨(h.each i hi hr).1, (h.each i hi hr).2.1, (h.each i hi hr).2.2.1, (h.each i hi hr).2.2.2.kept (hb _ (h.each i hi hr).2.1.1 (h.each i hi hr).2.1.2)⟩, h.two⟩
theorem LMt.kept {B H : Nat} {w w' : World} {pb k : Nat} {l : List LV} (h : LMt B H w pb k l) (hb : ∀ j, B <= j -> j < H -> w'.heap[j]? = w.heap[j]?) : LMt B H w' pb k l :=
 ⟨h.row.kept (hb _ h.lo.1 h.lo.2), h.lo, fun i hi hr => ⟨(h.each i hi hr).1, (h.each i hi hr).2.1, (h.each i hi hr).2.2.1, (h.each i hi hr).2.2.2.kept (hb _ (h.each i hi hr).2.1.1 (h.each i hi hr).2.1.2)⟩, h.two⟩
theorem PM.mono {B H H' : Nat} {w : World} {pb k : Nat} {l : List PV} (h : PM B H w pb k l) (hH : H <= H') : PM B H' w pb k l :=
 ⟨h.row, ⟨h.lo.1, Nat.lt_of_lt_of_le h.lo.2 hH⟩, fun i hi hr => ⟨(h.each i hi hr).1, ⟨(h.each i hi hr).2.1.1, Nat.lt_of_lt_of_le (h.each i hi hr).2.1.2 hH⟩, (h.each i hi hr).2.2⟩, h.two⟩
theorem LMt.mono {B H H' : Nat} {w : World} {pb k : Nat} {l : List LV} (h : LMt B H w pb k l) (hH : H <= H') : LMt B H' w pb k l :=
 ⟨h.row, ⟨h.lo.1, Nat.lt_of_lt_of_le h.lo.2 hH⟩, fun i hi hr => ⟨(h.each i hi hr).1, ⟨(h.each i hi hr).2.1.1, Nat.lt_of_lt_of_le (h.each i hi hr).2.1.2 hH⟩, (h.each i hi hr).2.2⟩, h.two⟩
theorem PM.later {B H : Nat} {w w' : World} {pb k : Nat} {l : List PV} (h : PM B H w pb k l) (hH : H <= w.heap.size) (hb : Below w.heap.size w w') : PM B H w' pb k l := h.kept fun j _ hj => hb.block j (Nat.lt_of_lt_of_le hj hH)
theorem LMt.later {B H : Nat} {w w' : World} {pb k : Nat} {l : List LV} (h : LMt B H w pb k l) (hH : H <= w.heap.size) (hb : Below w.heap.size w w') : LMt B H w' pb k l := h.kept fun j _ hj => hb.block j (Nat.lt_of_lt_of_le hj hH)
theorem PM.push {B H : Nat} {w : World} {pb k : Nat} {l : List PV} (h : PM B H w pb k l) (hk : k < l.length) (a : Option Addr) (c : Nat) (H' : Nat) (hH : H <= H')
  (hn : (l.getD k .none).right ≠ [] -> ∃ b, a = some ⟨b, 0, none⟩ /\ H <= b /\ b < H' /\ RB w b 113 (symCells (l.getD k .none).right)) :
  PM B H' (w.setCell ⟨pb, k * 3 + 1, none⟩ (.slice a (l.getD k .none).right.length c)) pb (k + 1) (l.set k { l.getD k .none with ra := a, rc := c }) := by
 have hg := proCells_get l k hk
 have hcs : proCells (l.set k { l.getD k .none with ra := a, rc := c }) = (proCells l).set (k * 3 + 1) (.slice a (l.getD k .none).right.length c) := by
  rw [proCells_set hk, set_same hg.1, List.set_comm _ _ (by omega), set_same hg.2.2]
 have hB := h.lo.1
 refine ⟨hcs ▸ h.row.set _ _, ⟨h.lo.1, Nat.lt_of_lt_of_le h.lo.2 hH⟩, fun i hi hr => ?_, fun i j hi hj hij hri hrj => ?_⟩
 ·by_cases e : i = k
  ·subst e
   rw [getD_set_eq hk] at hr ⊢
   obtain ⟨b, rfl, h1, h2, h3⟩ := hn hr
   have hlo := h.lo
   have hne : b ≠ pb := by omega
   exact ⟨rfl, ⟨by show B <= b; omega, h2⟩, hne, h3.other hne _ _⟩
  ·rw [getD_set_ne e] at hr ⊢
   obtain ⟨h1, h2, h3, h4⟩ := h.each i (by omega) hr
   exact ⟨h1, ⟨h2.1, Nat.lt_of_lt_of_le h2.2 hH⟩, h3, h4.other h3 _ _⟩
 ·by_cases ei : i = k
  ·subst ei
   rw [getD_set_eq hk] at hri ⊢
   rw [getD_set_ne (Ne.symm hij)] at hrj ⊢
   obtain ⟨b, rfl, h1, _⟩ := hn hri
   have := (h.each j (by omega) hrj).2.1.2
   show b ≠ _
   omega
  ·rw [getD_set_ne ei] at hri ⊢
   by_cases ej : j = k
   ·subst ej
    rw [getD_set_eq hk] at hrj ⊢
    obtain ⟨b, rfl, h1, _⟩ := hn hrj
    have := (h.each i (by omega) hri).2.1.2
    show _ ≠ b
    omega
   ·rw [getD_set_ne ej] at hrj ⊢
    exact h.two i j (by omega) (by omega) hij hri hrj
theorem LMt.push {B H : Nat} {w : World} {pb k : Nat} {l : List LV} (h : LMt B H w pb k l) (hk : k < l.length) (a : Option Addr) (c : Nat) (H' : Nat) (hH : H <= H')
  (hn : (l.getD k .none).terms ≠ [] -> ∃ b, a = some ⟨b, 0, none⟩ /\ H <= b /\ b < H' /\ RB w b 3 ((l.getD k .none).terms.map (.int .i64 ·))) :
  LMt B H' (w.setCell ⟨pb, k * 2 + 1, none⟩ (.slice a (l.getD k .none).terms.length c)) pb (k + 1) (l.set k { l.getD k .none with ta := a, tc := c }) := by
 have hg := levCells_get l k hk
 have hcs : levCells (l.set k { l.getD k .none with ta := a, tc := c }) = (levCells l).set (k * 2 + 1) (.slice a (l.getD k .none).terms.length c) := by
  rw [levCells_set hk, set_same hg.1]
 have hB := h.lo.1
 refine ⟨hcs ▸ h.row.set _ _, ⟨h.lo.1, Nat.lt_of_lt_of_le h.lo.2 hH⟩, fun i hi hr => ?_, fun i j hi hj hij hri hrj => ?_⟩
 ·by_cases e : i = k
  ·subst e
   rw [getD_set_eq hk] at hr ⊢
   obtain ⟨b, rfl, h1, h2, h3⟩ := hn hr
   have hlo := h.lo
   have hne : b ≠ pb := by omega
   exact ⟨rfl, ⟨by show B <= b; omega, h2⟩, hne, h3.other hne _ _⟩
  ·rw [getD_set_ne e] at hr ⊢
   obtain ⟨h1, h2, h3, h4⟩ := h.each i (by omega) hr
   exact ⟨h1, ⟨h2.1, Nat.lt_of_lt_of_le h2.2 hH⟩, h3, h4.other h3 _ _⟩
 ·by_cases ei : i = k
  ·subst ei
   rw [getD_set_eq hk] at hri ⊢
   rw [getD_set_ne (Ne.symm hij)] at hrj ⊢
   obtain ⟨b, rfl, h1, _⟩ := hn hri
   have := (h.each j (by omega) hrj).2.1.2
   show b ≠ _
   omega
  ·rw [getD_set_ne ei] at hri ⊢
   by_cases ej : j = k
   ·subst ej
    rw [getD_set_eq hk] at hrj ⊢
    obtain ⟨b, rfl, h1, _⟩ := hn hrj
    have := (h.each i (by omega) hri).2.1.2
    show _ ≠ b
    omega
   ·rw [getD_set_ne ej] at hrj ⊢
    exact h.two i j (by omega) (by omega) hij hri hrj
theorem PM.turn {B H : Nat} {w w' : World} {pb k : Nat} {l : List PV} (h : PM B H w pb k l) (hkl : k <= l.length) {i : Nat} (hi : i < k) (hr : (l.getD i .none).right ≠ []) (r : List (Int × Int)) (hl : r.length = (l.getD i .none).right.length)
  (hb : ∀ j, B <= j -> j < H -> j ≠ ablk (l.getD i .none).ra -> w'.heap[j]? = w.heap[j]?) (hn : RB w' (ablk (l.getD i .none).ra) 113 (symCells r)) : PM B H w' pb k (l.set i { l.getD i .none with right := r }) := by
 have hil : i < l.length := by omega
 have hg := proCells_get l i hil
 have hcs : proCells (l.set i { l.getD i .none with right := r }) = proCells l := by
  rw [proCells_set hil, set_same hg.1]
  simp only [hl]
  rw [set_same hg.2.1, set_same hg.2.2]
 obtain ⟨q1, q2, q3, q4⟩ := h.each i hi hr
 have hrn : ∀ j, j < k -> j ≠ i -> (l.getD j .none).right ≠ [] -> ablk (l.getD j .none).ra ≠ ablk (l.getD i .none).ra := fun j hj hji hrj => h.two j i hj hi hji hrj hr
 refine ⟨hcs ▸ h.row.kept (hb _ h.lo.1 h.lo.2 (Ne.symm q3)), h.lo, fun j hj hrj => ?_, fun x y hx hy hxy hrx hry => ?_⟩
 ·by_cases e : j = i
  ·subst e
   rw [getD_set_eq hil]
   exact ⟨q1, q2, q3, hn⟩
  ·rw [getD_set_ne e] at hrj ⊢
   obtain ⟨h1, h2, h3, h4⟩ := h.each j hj hrj
   exact ⟨h1, h2, h3, h4.kept (hb _ h2.1 h2.2 (hrn j hj e hrj))⟩
 ·have hz : ∀ z, z < k -> ((l.set i { l.getD i .none with right := r }).getD z .none).right ≠ [] -> ((l.set i { l.getD i .none with right := r }).getD z .none).ra = (l.getD z .none).ra /\ (l.getD z .none).right ≠ [] := fun z _ hrz => by
   by_cases e : z = i
   ·subst e; rw [getD_set_eq hil]; exact ⟨rfl, hr⟩
   ·rw [getD_set_ne e] at hrz ⊢; exact ⟨rfl, hrz⟩
  rw [(hz x hx hrx).1, (hz y hy hry).1]
  exact h.two x y hx hy hxy (hz x hx hrx).2 (hz y hy hry).2
theorem LMt.turn {B H : Nat} {w w' : World} {pb k : Nat} {l : List LV} (h : LMt B H w pb k l) (hkl : k <= l.length) {i : Nat} (hi : i < k) (hr : (l.getD i .none).terms ≠ []) (r : List Int) (hl : r.length = (l.getD i .none).terms.length)
  (hb : ∀ j, B <= j -> j < H -> j ≠ ablk (l.getD i .none).ta -> w'.heap[j]? = w.heap[j]?) (hn : RB w' (ablk (l.getD i .none).ta) 3 (r.map (.int .i64 ·))) : LMt B H w' pb k (l.set i { l.getD i .none with terms := r }) := by
 have hil : i < l.length := by omega
 have hg := levCells_get l i hil
 have hcs : levCells (l.set i { l.getD i .none with terms := r }) = levCells l := by
  rw [levCells_set hil, set_same hg.1]
  simp only [hl]
  rw [set_same hg.2]
 obtain ⟨q1, q2, q3, q4⟩ := h.each i hi hr
 have hrn : ∀ j, j < k -> j ≠ i -> (l.getD j .none).terms ≠ [] -> ablk (l.getD j .none).ta ≠ ablk (l.getD i .none).ta := fun j hj hji hrj => h.two j i hj hi hji hrj hr
 refine ⟨hcs ▸ h.row.kept (hb _ h.lo.1 h.lo.2 (Ne.symm q3)), h.lo, fun j hj hrj => ?_, fun x y hx hy hxy hrx hry => ?_⟩
 ·by_cases e : j = i
  ·subst e
   rw [getD_set_eq hil]
   exact ⟨q1, q2, q3, hn⟩
  ·rw [getD_set_ne e] at hrj ⊢
   obtain ⟨h1, h2, h3, h4⟩ := h.each j hj hrj
   exact ⟨h1, h2, h3, h4.kept (hb _ h2.1 h2.2 (hrn j hj e hrj))⟩
 ·have hz : ∀ z, z < k -> ((l.set i { l.getD i .none with terms := r }).getD z .none).terms ≠ [] -> ((l.set i { l.getD i .none with terms := r }).getD z .none).ta = (l.getD z .none).ta /\ (l.getD z .none).terms ≠ [] := fun z _ hrz => by
   by_cases e : z = i
   ·subst e; rw [getD_set_eq hil]; exact ⟨rfl, hr⟩
   ·rw [getD_set_ne e] at hrz ⊢; exact ⟨rfl, hrz⟩
  rw [(hz x hx hrx).1, (hz y hy hry).1]
  exact h.two x y hx hy hxy (hz x hx hrx).2 (hz y hy hry).2
theorem PM.left {B H : Nat} {w : World} {pb k : Nat} {l : List PV} (h : PM B H w pb k l) {i : Nat} (hi : i < l.length) (x : Int) :
  PM B H (w.setCell ⟨pb, i * 3, none⟩ (.int .i64 x)) pb k (l.set i { l.getD i .none with left := x }) := by
 have hg := proCells_get l i hi
 have hcs : proCells (l.set i { l.getD i .none with left := x }) = (proCells l).set (i * 3) (.int .i64 x) := by
  rw [proCells_set hi]
  dsimp only
  rw [set_same (l := (proCells l).set (i * 3) (.int .i64 x)) (by rw [List.getElem?_set_ne (by omega)]; exact hg.2.1), set_same (l := (proCells l).set (i * 3) (.int .i64 x)) (by rw [List.getElem?_set_ne (by omega)]; exact hg.2.2)]
 have hz : ∀ z, ((l.set i { l.getD i .none with left := x }).getD z .none).ra = (l.getD z .none).ra /\ ((l.set i { l.getD i .none with left := x }).getD z .none).right = (l.getD z .none).right := fun z => by
  by_cases e : z = i
  ·subst e; rw [getD_set_eq hi]; exact ⟨rfl, rfl⟩
  ·rw [getD_set_ne e]; exact ⟨rfl, rfl⟩
 refine ⟨hcs ▸ h.row.set _ _, h.lo, fun j hj hr => ?_, fun a b ha hb hab hra hrb => ?_⟩
 ·rw [(hz j).2] at hr
  rw [(hz j).1, (hz j).2]
  obtain ⟨h1, h2, h3, h4⟩ := h.each j hj hr
  exact ⟨h1, h2, h3, h4.other h3 _ _⟩
 ·rw [(hz a).1, (hz b).1]
  rw [(hz a).2] at hra
  rw [(hz b).2] at hrb
  exact h.two a b ha hb hab hra hrb
theorem PM.prec {B H : Nat} {w : World} {pb k : Nat} {l : List PV} (h : PM B H w pb k l) {i : Nat} (hi : i < l.length) (x : Int) :
  PM B H (w.setCell ⟨pb, i * 3 + 2, none⟩ (.int .i64 x)) pb k (l.set i { l.getD i .none with prec := x }) := by
 have hg := proCells_get l i hi
 have hcs : proCells (l.set i { l.getD i .none with prec := x }) = (proCells l).set (i * 3 + 2) (.int .i64 x) := by
  rw [proCells_set hi]
  dsimp only
  rw [set_same hg.1, set_same hg.2.1]
 have hz : ∀ z, ((l.set i { l.getD i .none with prec := x }).getD z .none).ra = (l.getD z .none).ra /\ ((l.set i { l.getD i .none with prec := x }).getD z .none).right = (l.getD z .none).right := fun z => by
  by_cases e : z = i
  ·subst e; rw [getD_set_eq hi]; exact ⟨rfl, rfl⟩
  ·rw [getD_set_ne e]; exact ⟨rfl, rfl⟩
 refine ⟨hcs ▸ h.row.set _ _, h.lo, fun j hj hr => ?_, fun a b ha hb hab hra hrb => ?_⟩
 ·rw [(hz j).2] at hr
  rw [(hz j).1, (hz j).2]
  obtain ⟨h1, h2, h3, h4⟩ := h.each j hj hr
  exact ⟨h1, h2, h3, h4.other h3 _ _⟩
 ·rw [(hz a).1, (hz b).1]
  rw [(hz a).2] at hra
  rw [(hz b).2] at hrb
  exact h.two a b ha hb hab hra hrb
theorem symRow_of {w : World} {b : Nat} {l : List (Int × Int)} (h : RB w b 113 (symCells l)) : SymRow w (some ⟨b, 0, none⟩) l := by
 intro _
 refine ⟨b, 0, rfl, h.lt, fun i hi => ?_⟩
 obtain ⟨q1, q2⟩ := symCells_get l i hi
 have r1 := h.cell q1
 have r2 := h.cell q2
 exact ⟨by simpa using r1, by simpa [Nat.add_assoc] using r2⟩
theorem PM.at {B H : Nat} {w : World} {pb : Nat} {l : List PV} (h : PM B H w pb l.length l) : PrRow w (some ⟨pb, 0, none⟩) l := by
 refine ⟨fun _ => ⟨pb, 0, rfl, h.row.lt, fun i hi => ?_⟩, fun p hp => ?_⟩
 ·obtain ⟨q1, q2, q3⟩ := proCells_get l i hi
  exact ⟨by simpa using h.row.cell q1, by simpa [Nat.add_assoc] using h.row.cell q2, by simpa [Nat.add_assoc] using h.row.cell q3⟩
 ·obtain ⟨i, hi, rfl⟩ := List.getElem_of_mem hp
  have e : l.getD i .none = l[i] := by simp [List.getD, hi]
  intro hr
  have h2 := h.each i hi (by rw [e]; exact hr)
  rw [e] at h2
  have h3 := symRow_of h2.2.2.2 hr
  rw [h2.1]
  exact h3
theorem inRow_of {w : World} {b : Nat} {l : List Int} (h : RB w b 3 (l.map (.int .i64 ·))) : InRow w (some ⟨b, 0, none⟩) l := by
 intro _
 refine ⟨b, 0, rfl, h.lt, fun i hi => ?_⟩
 have r1 := h.cell (i := i) (u := .int .i64 (l.getD i 0)) (by simp [List.getD, hi])
 simpa using r1
theorem LMt.at {B H : Nat} {w : World} {pb : Nat} {l : List LV} (h : LMt B H w pb l.length l) : LvRow w (some ⟨pb, 0, none⟩) l := by
 refine ⟨fun _ => ⟨pb, 0, rfl, h.row.lt, fun i hi => ?_⟩, fun p hp => ?_⟩
 ·obtain ⟨q1, q2⟩ := levCells_get l i hi
  exact ⟨by simpa using h.row.cell q1, by simpa [Nat.add_assoc] using h.row.cell q2⟩
 ·obtain ⟨i, hi, rfl⟩ := List.getElem_of_mem hp
  have e : l.getD i .none = l[i] := by simp [List.getD, hi]
  intro hr
  have h2 := h.each i hi (by rw [e]; exact hr)
  rw [e] at h2
  have h3 := inRow_of h2.2.2.2 hr
  rw [h2.1]
  exact h3
structure CBx (n0 : Nat) (w0 : World) (arr : Array Value) (w : World) : Prop where
 box : w.heap[n0]? = some (.cells arr 26 (0, 0))
 out : w.heap[n0 + 1]? = some (.cells #[.slice none 0 0, .slice none 0 0, .int .i64 0, .slice none 0 0, .slice none 0 0] 26 (0, 0))
 bel : Below n0 w0 w
theorem CBx.later {n0 : Nat} {w0 w w' : World} {arr : Array Value} (h : CBx n0 w0 arr w) (hb : Below w.heap.size w w') : CBx n0 w0 arr w' :=
 ⟨(hb.block _ (lt_of_block h.box)).trans h.box, (hb.block _ (lt_of_block h.out)).trans h.out, h.bel.trans (hb.mono (Nat.le_of_lt (lt_of_block h.box)))⟩
theorem CBx.set {n0 : Nat} {w0 w : World} {arr : Array Value} (h : CBx n0 w0 arr w) (i : Nat) (u : Value) : CBx n0 w0 (arr.setIfInBounds i u) (w.setCell ⟨n0, i, none⟩ u) :=
 ⟨heap_set h.box i u, (Below.heap_setCell _ _ _ _ (show n0 + 1 ≠ n0 by omega)).trans h.out, h.bel.setCell (p := ⟨n0, i, none⟩) (Nat.le_refl _) u⟩
theorem CBx.put {n0 : Nat} {w0 w : World} {arr : Array Value} (h : CBx n0 w0 arr w) (b i : Nat) (u : Value) (hb : n0 + 2 <= b) : CBx n0 w0 arr (w.setCell ⟨b, i, none⟩ u) :=
 ⟨(Below.heap_setCell _ _ _ _ (show n0 ≠ b by omega)).trans h.box, (Below.heap_setCell _ _ _ _ (show n0 + 1 ≠ b by omega)).trans h.out, h.bel.setCell (p := ⟨b, i, none⟩) (by show n0 <= b; omega) u⟩
theorem strCells {w : World} {ao : Option Addr} {l : List ByteArray} (h : StrRow w ao l) : l.map Value.string ≠ [] -> ∃ b off, ao = some ⟨b, off, none⟩ /\ b < w.heap.size /\ ∀ j u, (l.map Value.string)[j]? = some u -> w.cell? ⟨b, off + j, none⟩ = some u := by
 intro hne
 obtain ⟨b, off, e, hb, hc⟩ := h (by intro e; subst e; simp at hne)
 refine ⟨b, off, e, hb, fun j u hu => ?_⟩
 have hj : j < l.length := by have := (List.getElem?_eq_some_iff.1 hu).1; simpa using this
 rw [hc j hj]
 simp [List.getD, hj] at hu ⊢
 exact hu
theorem wpAnyX_takeC {P : Program} {ops : Array Oper} {Q : Exit -> Act -> World -> Prop} {md : Region.Mode} {i : Nat} {oi : Oper} {v : Value} {S0 : World -> Prop} {fuel : Nat} {listed : Array Bool} {a : Act} {w : World} (hi' : ops.toList[i]? = some oi)
  (hs : Region.noSelect ops = true) (hf : Region.free md ops listed i = true) (hr : (Region.ready md ops listed).contains i = true)
  (hQ : ∀ c a w, Q (.panic c) (a.put oi.dst v) w -> Q (.panic c) a w) (hy : YieldsIf P ops S0 oi v a) (hS : S0 w)
  (h : wpAnyX P md ops Q (fun _ => S0) fuel (listed.setIfInBounds i true) (a.put oi.dst v) w) : wpAnyX P md ops Q (fun _ => S0) (fuel + 1) listed a w :=
 have hi : ops[i]? = some oi := by rw [<- Array.getElem?_toList]; exact hi'
 wpAnyX_first (Cl := fun _ => True) (T := S0) hi (Region.noSelect_spec hs) hQ (fun _ _ _ _ => trivial) (fun _ _ _ _ h => h) (fun _ _ => Iff.rfl) fuel listed a w (Region.free_spec hi hf) (by simpa using hr) trivial hy hS h
theorem alloc_at (w : World) (o : Obj) : (w.alloc o).heap[w.heap.size]? = some o := heap_alloc_new w o
theorem wtC {P : Program} {ops : Array Oper} {Q : Exit → Act → World → Prop} {md : Region.Mode} {i : Nat} {oi : Oper} {v : Value} {S0 : World → Prop} {fuel : Nat} {listed : Array Bool} {a : Act} {w : World} (hi' : ops.toList[i]? = some oi) (hy : YieldsIf P ops S0 oi v a) (hS : S0 w) (h : wpAnyX P md ops Q (fun _ => S0) fuel (listed.setIfInBounds i true) (a.put oi.dst v) w)
    (hs : Region.noSelect ops = true := by kernel_rfl) (hf : Region.free md ops listed i = true := by decide +kernel) (hr : (Region.ready md ops listed).contains i = true := by decide +kernel) (hQ : ∀ c a w, Q (.panic c) (a.put oi.dst v) w → Q (.panic c) a w := by exact fun _ _ _ h => h) : wpAnyX P md ops Q (fun _ => S0) (fuel + 1) listed a w := wpAnyX_takeC hi' hs hf hr hQ hy hS h
theorem cb_start (g : GV) (w : World) : CBx w.heap.size w #[.slice g.ta g.ts.length g.tc, .slice g.na g.ns.length g.nc, .int .i64 g.start, .slice g.pa g.ps.length g.pc, .slice g.la g.ls.length g.lc] ((w.alloc (.cells #[.slice g.ta g.ts.length g.tc, .slice g.na g.ns.length g.nc, .int .i64 g.start, .slice g.pa g.ps.length g.pc, .slice g.la g.ls.length g.lc] 26)).alloc (.cells #[.slice none 0 0, .slice none 0 0, .int .i64 0, .slice none 0 0, .slice none 0 0] 26)) := by
 obtain ⟨h1, h2, h3⟩ := two_alloc w (.cells #[.slice g.ta g.ts.length g.tc, .slice g.na g.ns.length g.nc, .int .i64 g.start, .slice g.pa g.ps.length g.pc, .slice g.la g.ls.length g.lc] 26) (.cells #[.slice none 0 0, .slice none 0 0, .int .i64 0, .slice none 0 0, .slice none 0 0] 26)
 exact ⟨h2, h3, h1⟩
theorem levCells_one (l : List LV) : ∀ u ∈ levCells l, u.oneCell' = true := by
 intro u hu
 obtain ⟨q, _, h⟩ := List.mem_flatMap.1 hu
 simp at h
 rcases h with rfl | rfl <;> rfl
theorem symCells_one (l : List (Int × Int)) : ∀ u ∈ symCells l, u.oneCell' = true := by
 intro u hu
 obtain ⟨q, _, h⟩ := List.mem_flatMap.1 hu
 simp at h
 rcases h with rfl | rfl <;> rfl
theorem levRow_cells {w : World} {ao : Option Addr} {l : List LV} (h : LvRow w ao l) : levCells l ≠ [] -> ∃ b off, ao = some ⟨b, off, none⟩ /\ b < w.heap.size /\ ∀ j u, (levCells l)[j]? = some u -> w.cell? ⟨b, off + j, none⟩ = some u := by
 intro hne
 obtain ⟨b, off, e, hb, hc⟩ := h.cells (by intro e; subst e; exact hne rfl)
 refine ⟨b, off, e, hb, fun j u hu => ?_⟩
 have hj : j < l.length * 2 := by have := (List.getElem?_eq_some_iff.1 hu).1; rwa [levCells_len] at this
 have hk : j / 2 < l.length := by omega
 obtain ⟨q1, q2⟩ := levCells_get l (j / 2) hk
 obtain ⟨c1, c2⟩ := hc (j / 2) hk
 have hm : j = j / 2 * 2 ∨ j = j / 2 * 2 + 1 := by omega
 rcases hm with e' | e'
 ·rw [e', q1] at hu; rw [e', <- hu]; exact c1
 ·rw [e', q2] at hu; rw [e', <- hu, <- Nat.add_assoc]; exact c2
theorem symRow_cells {w : World} {ao : Option Addr} {l : List (Int × Int)} (h : SymRow w ao l) : symCells l ≠ [] -> ∃ b off, ao = some ⟨b, off, none⟩ /\ b < w.heap.size /\ ∀ j u, (symCells l)[j]? = some u -> w.cell? ⟨b, off + j, none⟩ = some u := by
 intro hne
 obtain ⟨b, off, e, hb, hc⟩ := h (by intro e; subst e; exact hne rfl)
 refine ⟨b, off, e, hb, fun j u hu => ?_⟩
 have hj : j < l.length * 2 := by have := (List.getElem?_eq_some_iff.1 hu).1; rwa [symCells_len] at this
 have hk : j / 2 < l.length := by omega
 obtain ⟨q1, q2⟩ := symCells_get l (j / 2) hk
 obtain ⟨c1, c2⟩ := hc (j / 2) hk
 have hm : j = j / 2 * 2 ∨ j = j / 2 * 2 + 1 := by omega
 rcases hm with e' | e'
 ·rw [e', q1] at hu; rw [e', <- hu]; exact c1
 ·rw [e', q2] at hu; rw [e', <- hu, <- Nat.add_assoc]; exact c2
theorem inRow_cells {w : World} {ao : Option Addr} {l : List Int} (h : InRow w ao l) : (l.map (Value.int .i64 ·)) ≠ [] -> ∃ b off, ao = some ⟨b, off, none⟩ /\ b < w.heap.size /\ ∀ j u, (l.map (Value.int .i64 ·))[j]? = some u -> w.cell? ⟨b, off + j, none⟩ = some u := by
 intro hne
 obtain ⟨b, off, e, hb, hc⟩ := h (by intro e; subst e; exact hne rfl)
 refine ⟨b, off, e, hb, fun j u hu => ?_⟩
 have hj : j < l.length := by have := (List.getElem?_eq_some_iff.1 hu).1; simpa using this
 rw [hc j hj]
 simp [List.getD, hj] at hu ⊢
 exact hu
theorem str_one (l : List ByteArray) : ∀ u ∈ l.map Value.string, u.oneCell' = true := by
 intro u hu
 obtain ⟨s, _, rfl⟩ := List.mem_map.1 hu
 rfl
theorem int_one (l : List Int) : ∀ u ∈ l.map (Value.int .i64 ·), u.oneCell' = true := by
 intro u hu
 obtain ⟨s, _, rfl⟩ := List.mem_map.1 hu
 rfl
theorem CBx.five {n0 : Nat} {w0 w : World} {arr : Array Value} (h : CBx n0 w0 arr w) (a b c d e : Value) :
  Below n0 w0 (((((w.setCell ⟨n0 + 1, 0, none⟩ a).setCell ⟨n0 + 1, 1, none⟩ b).setCell ⟨n0 + 1, 2, none⟩ c).setCell ⟨n0 + 1, 3, none⟩ d).setCell ⟨n0 + 1, 4, none⟩ e) /\ ∀ j, j ≠ n0 + 1 -> (((((w.setCell ⟨n0 + 1, 0, none⟩ a).setCell ⟨n0 + 1, 1, none⟩ b).setCell ⟨n0 + 1, 2, none⟩ c).setCell ⟨n0 + 1, 3, none⟩ d).setCell ⟨n0 + 1, 4, none⟩ e).heap[j]? = w.heap[j]? := by
 refine ⟨((((h.bel.setCell (p := ⟨n0 + 1, 0, none⟩) (by show n0 <= n0 + 1; omega) _).setCell (p := ⟨n0 + 1, 1, none⟩) (by show n0 <= n0 + 1; omega) _).setCell (p := ⟨n0 + 1, 2, none⟩) (by show n0 <= n0 + 1; omega) _).setCell (p := ⟨n0 + 1, 3, none⟩) (by show n0 <= n0 + 1; omega) _).setCell (p := ⟨n0 + 1, 4, none⟩) (by show n0 <= n0 + 1; omega) _, fun j hj => ?_⟩
 rw [Below.heap_setCell _ _ _ _ hj, Below.heap_setCell _ _ _ _ hj, Below.heap_setCell _ _ _ _ hj, Below.heap_setCell _ _ _ _ hj, Below.heap_setCell _ _ _ _ hj]
theorem copy_sym (ao : Option Addr) (n c : Nat) (news : List Value) (w : World) (hl : news.length = n * 2) (hn : n <= 1048576) (hc : news ≠ [] -> ∃ b off, ao = some ⟨b, off, none⟩ /\ b < w.heap.size /\ ∀ j u, news[j]? = some u -> w.cell? ⟨b, off + j, none⟩ = some u) (h1 : ∀ u ∈ news, u.oneCell' = true) :
  Calls Try.prog 61 #[.slice ao n c] w fun e w' => ∃ a' c', e = .returned (.slice a' n c') /\ (n ≠ 0 -> ∃ b, a' = some ⟨b, 0, none⟩ /\ w.heap.size <= b /\ RB w' b 113 news) /\ n <= c' /\ Below w.heap.size w w' := by
 have HH : Hid (∀ u ∈ news, u.oneCell' = true) := h1
 obtain ⟨i0, hi, hz0, hz1, hz2⟩ := infoSym_parts
 cases ao with
 | none =>
  have h0 : n = 0 := by
   by_cases e : news = []
   ·subst e; simp at hl; omega
   ·obtain ⟨b, off, e', _⟩ := hc e
    cases e'
  subst h0
  clear hc h1
  have hap : ∀ (ty : TypeId) (wx : World), (Builtin.append_ #[81, 81] ty #[.slice none 0 0, .slice none 0 c]).run Try.prog wx = .ok (.slice none 0 0) wx := fun ty wx => by simp [Builtin.append_, run_underlying Try.underlying81, sizeOf, typeInfo, zeroValue, hi, hz0, Builtin.lenOf, Builtin.firstCells]
  go_enter Try.func61, Try.ntmps61
  go_wp2
  go_ret
  exact ⟨none, 0, rfl, fun e => absurd rfl e, Nat.le_refl _, Below.refl _ _⟩
 | some ad =>
  have hcc : Hid (∀ j u, news[j]? = some u -> w.cell? (ad.add j) = some u) := fun j u hu => by
   obtain ⟨b, off, e, hb, hcell⟩ := hc (fun e => by subst e; simp at hu)
   cases e
   rw [add_none]
   exact hcell j u hu
  clear hc h1
  go_enter Try.func61, Try.ntmps61
  go_wp2_with (at_builtin; refine wpList_append_own_at _ rfl _ _ 81 rfl w.heap.size 113 i0 _ 2 16 Try.underlying81 hi hz0 hz1 hz2 rfl (by decide) (.slice none 0 0) 0 [] rfl (World.ownsRow_nil w _ _ _) ad n c news rfl hl hcc.out HH.out (by unfold maxLen; omega) (by omega) (Nat.le_refl _) ?_)
  intro v' w1 hown hgrow hnil _
  have hB : Below w.heap.size w w1 := (Below.refl _ w).grown hgrow (Nat.le_refl _) (fun k e => by simp [Value.ownBlock] at e)
  have hown' : w1.ownsRow w.heap.size 113 2 v' n news := by simpa using hown
  obtain ⟨av, cv, rfl, hcap⟩ : ∃ av cv, v' = .slice av n cv /\ n <= cv := by
   rcases hown'.2 with ⟨e, h0⟩ | ⟨g, cap, cur, e, _, _, h5, _⟩
   ·exact ⟨none, 0, by rw [e, h0], by omega⟩
   ·exact ⟨_, cap, e, h5⟩
  have HO : Hid (w1.ownsRow w.heap.size 113 2 (.slice av n cv) n news) := hown'
  clear hown hown' hgrow hnil
  go_wp2
  go_ret
  refine ⟨av, cv, rfl, fun hne => ?_, hcap, hB⟩
  rcases HO.out.2 with ⟨_, h0⟩ | ⟨g, cap, cur, e, h5, _⟩
  ·exact absurd h0 hne
  ·cases e
   exact ⟨g, rfl, h5, (RB.of_own HO.out).1⟩
theorem copy_int (ao : Option Addr) (n c : Nat) (news : List Value) (w : World) (hl : news.length = n * 1) (hn : n <= 1048576) (hc : news ≠ [] -> ∃ b off, ao = some ⟨b, off, none⟩ /\ b < w.heap.size /\ ∀ j u, news[j]? = some u -> w.cell? ⟨b, off + j, none⟩ = some u) (h1 : ∀ u ∈ news, u.oneCell' = true) :
  Calls Try.prog 53 #[.slice ao n c] w fun e w' => ∃ a' c', e = .returned (.slice a' n c') /\ (n ≠ 0 -> ∃ b, a' = some ⟨b, 0, none⟩ /\ w.heap.size <= b /\ RB w' b 3 news) /\ n <= c' /\ Below w.heap.size w w' := by
 have HH : Hid (∀ u ∈ news, u.oneCell' = true) := h1
 obtain ⟨i0, hi, hz0, hz1, hz2⟩ := infoInt_parts
 cases ao with
 | none =>
  have h0 : n = 0 := by
   by_cases e : news = []
   ·subst e; simp at hl; omega
   ·obtain ⟨b, off, e', _⟩ := hc e
    cases e'
  subst h0
  clear hc h1
  have hap : ∀ (ty : TypeId) (wx : World), (Builtin.append_ #[45, 45] ty #[.slice none 0 0, .slice none 0 c]).run Try.prog wx = .ok (.slice none 0 0) wx := fun ty wx => by simp [Builtin.append_, run_underlying Try.underlying45, sizeOf, typeInfo, zeroValue, hi, hz0, Builtin.lenOf, Builtin.firstCells]
  go_enter Try.func53, Try.ntmps53
  go_wp2
  go_ret
  exact ⟨none, 0, rfl, fun e => absurd rfl e, Nat.le_refl _, Below.refl _ _⟩
 | some ad =>
  have hcc : Hid (∀ j u, news[j]? = some u -> w.cell? (ad.add j) = some u) := fun j u hu => by
   obtain ⟨b, off, e, hb, hcell⟩ := hc (fun e => by subst e; simp at hu)
   cases e
   rw [add_none]
   exact hcell j u hu
  clear hc h1
  go_enter Try.func53, Try.ntmps53
  go_wp2_with (at_builtin; refine wpList_append_own_at _ rfl _ _ 45 rfl w.heap.size 3 i0 _ 1 8 Try.underlying45 hi hz0 hz1 hz2 rfl (by decide) (.slice none 0 0) 0 [] rfl (World.ownsRow_nil w _ _ _) ad n c news rfl hl hcc.out HH.out (by unfold maxLen; omega) (by omega) (Nat.le_refl _) ?_)
  intro v' w1 hown hgrow hnil _
  have hB : Below w.heap.size w w1 := (Below.refl _ w).grown hgrow (Nat.le_refl _) (fun k e => by simp [Value.ownBlock] at e)
  have hown' : w1.ownsRow w.heap.size 3 1 v' n news := by simpa using hown
  obtain ⟨av, cv, rfl, hcap⟩ : ∃ av cv, v' = .slice av n cv /\ n <= cv := by
   rcases hown'.2 with ⟨e, h0⟩ | ⟨g, cap, cur, e, _, _, h5, _⟩
   ·exact ⟨none, 0, by rw [e, h0], by omega⟩
   ·exact ⟨_, cap, e, h5⟩
  have HO : Hid (w1.ownsRow w.heap.size 3 1 (.slice av n cv) n news) := hown'
  clear hown hown' hgrow hnil
  go_wp2
  go_ret
  refine ⟨av, cv, rfl, fun hne => ?_, hcap, hB⟩
  rcases HO.out.2 with ⟨_, h0⟩ | ⟨g, cap, cur, e, h5, _⟩
  ·exact absurd h0 hne
  ·cases e
   exact ⟨g, rfl, h5, (RB.of_own HO.out).1⟩
theorem run_cpsym {o : Oper} {a : Act} {t0 : TypeId} {v0 : Value} {x0 : Operand} (hop : o.op = Op.call { callee := Callee.value (Operand.func 61), args := #[x0], argTypes := #[t0] }) (h0 : a.eval x0 = v0) (w : World) : (execOp a.eval o).run Try.prog w = .ok (.enter 61 #[v0]) w := by
 have hf : a.eval (Operand.func 61) = .func (.func 61) #[] #[] := rfl
 simp [execOp, hop, resolve, invoke, h0, hf, Deferred.ofValue]
theorem run_cpint {o : Oper} {a : Act} {t0 : TypeId} {v0 : Value} {x0 : Operand} (hop : o.op = Op.call { callee := Callee.value (Operand.func 53), args := #[x0], argTypes := #[t0] }) (h0 : a.eval x0 = v0) (w : World) : (execOp a.eval o).run Try.prog w = .ok (.enter 53 #[v0]) w := by
 have hf : a.eval (Operand.func 53) = .func (.func 53) #[] #[] := rfl
 simp [execOp, hop, resolve, invoke, h0, hf, Deferred.ofValue]
set_option linter.unusedSimpArgs false in
theorem copyprod_G (pl pp : Int) (pra : Option Addr) (prc : Nat) (pr : List (Int × Int)) (w : World) (hr : SymRow w pra pr /\ pr.length <= 1048576) :
  Calls Try.prog 83 #[.agg #[.int .i64 pl, .slice pra pr.length prc, .int .i64 pp]] w fun e w' => ∃ a' c', e = .returned (.agg #[.int .i64 pl, .slice a' pr.length c', .int .i64 pp]) /\ (pr.length ≠ 0 -> ∃ b, a' = some ⟨b, 0, none⟩ /\ w.heap.size + 2 <= b /\ RB w' b 113 (symCells pr)) /\ Below w.heap.size w w' := by
 obtain ⟨hb0, hx0, hx1⟩ := two_alloc w (.cells #[.int .i64 pl, .slice pra pr.length prc, .int .i64 pp] 83) (.cells #[.int .i64 0, .slice none 0 0, .int .i64 0] 83)
 have BQ : Hid (Below w.heap.size w ((w.alloc (.cells #[.int .i64 pl, .slice pra pr.length prc, .int .i64 pp] 83)).alloc (.cells #[.int .i64 0, .slice none 0 0, .int .i64 0] 83)).drew) := hb0.drew
 have X0 : Hid (((w.alloc (.cells #[.int .i64 pl, .slice pra pr.length prc, .int .i64 pp] 83)).alloc (.cells #[.int .i64 0, .slice none 0 0, .int .i64 0] 83)).drew.heap[w.heap.size]? = some (.cells #[.int .i64 pl, .slice pra pr.length prc, .int .i64 pp] 83) /\ ((w.alloc (.cells #[.int .i64 pl, .slice pra pr.length prc, .int .i64 pp] 83)).alloc (.cells #[.int .i64 0, .slice none 0 0, .int .i64 0] 83)).drew.heap[w.heap.size + 1]? = some (.cells #[.int .i64 0, .slice none 0 0, .int .i64 0] 83) /\ ((w.alloc (.cells #[.int .i64 pl, .slice pra pr.length prc, .int .i64 pp] 83)).alloc (.cells #[.int .i64 0, .slice none 0 0, .int .i64 0] 83)).drew.heap.size = w.heap.size + 2) := ⟨hx0, hx1, by show ((w.alloc (.cells #[.int .i64 pl, .slice pra pr.length prc, .int .i64 pp] 83)).alloc (.cells #[.int .i64 0, .slice none 0 0, .int .i64 0] 83)).heap.size = _; simp⟩
 have hs0 : Hid ((fun w' => w'.cell? ⟨w.heap.size, 0, none⟩ = some (.int .i64 pl) /\ w'.cell? ⟨w.heap.size, 1, none⟩ = some (.slice pra pr.length prc) /\ w'.cell? ⟨w.heap.size, 2, none⟩ = some (.int .i64 pp)) ((w.alloc (.cells #[.int .i64 pl, .slice pra pr.length prc, .int .i64 pp] 83)).alloc (.cells #[.int .i64 0, .slice none 0 0, .int .i64 0] 83)).drew) := ⟨(cellq_any X0.out.1).trans rfl, (cellq_any X0.out.1).trans rfl, (cellq_any X0.out.1).trans rfl⟩
 have HR : Hid _ := hr
 clear hb0 hx0 hx1 hr
 go_enter Try.func83, Try.ntmps83
 go_wp2
 refine wp_region_x (S := fun _ => (fun w' => w'.cell? ⟨w.heap.size, 0, none⟩ = some (.int .i64 pl) /\ w'.cell? ⟨w.heap.size, 1, none⟩ = some (.slice pra pr.length prc) /\ w'.cell? ⟨w.heap.size, 2, none⟩ = some (.int .i64 pp))) (by kernel_rfl) ?_
 refine wtC (i := 0) (v := ?_) rfl (Or.inl ⟨by rfl, ?_⟩) hs0.out ?_
 rotate_left
 ·(intro w hSw; (try dsimp only at hSw); go_simp; try (with_reducible rfl))
 (try simp only [Act.put, lsA, lsZ, lsN])
 refine wtC (i := 1) (v := ?_) rfl (Or.inl ⟨by rfl, ?_⟩) hs0.out ?_
 rotate_left
 ·(intro w hSw; (try dsimp only at hSw); go_simp; try (with_reducible rfl))
 (try simp only [Act.put, lsA, lsZ, lsN])
 refine wtC (i := 2) (v := ?_) rfl (Or.inl ⟨by rfl, ?_⟩) hs0.out ?_
 rotate_left
 ·(intro w hSw; (try dsimp only at hSw); go_simp; try (with_reducible rfl))
 (try simp only [Act.put, lsA, lsZ, lsN])
 refine wtC (i := 3) (v := ?_) rfl (Or.inl ⟨by rfl, ?_⟩) hs0.out ?_
 rotate_left
 ·(intro w hSw; (try dsimp only at hSw); go_simp; try (with_reducible rfl))
 (try simp only [Act.put, lsA, lsZ, lsN])
 refine wtC (i := 5) (v := ?_) rfl (Or.inl ⟨by rfl, ?_⟩) hs0.out ?_
 rotate_left
 ·(intro w hSw; (try dsimp only at hSw); go_simp; try (with_reducible rfl))
 (try simp only [Act.put, lsA, lsZ, lsN])
 refine wtC (i := 6) (v := ?_) rfl (Or.inl ⟨by rfl, ?_⟩) hs0.out ?_
 rotate_left
 ·(intro w hSw; (try dsimp only at hSw); go_simp; try (with_reducible rfl))
 (try simp only [Act.put, lsA, lsZ, lsN])
 refine wpAnyX_one (j := 4) (by decide +kernel) rfl (fun K' hK => ?_)
 refine step_callX rfl 61 #[.slice pra pr.length prc] _ (run_cpsym (v0 := .slice pra pr.length prc) (by rfl) (by rfl) _) (copy_sym pra pr.length prc (symCells pr) _ (symCells_len _) HR.out.2 (symRow_cells (HR.out.1.later (Nat.le_refl _) BQ.out)) (symCells_one _)) ?_
 rintro e w3 ⟨a3, c3, rfl, k3, m3, b3⟩
 have s3 : Hid ((fun w' => w'.cell? ⟨w.heap.size, 0, none⟩ = some (.int .i64 pl) /\ w'.cell? ⟨w.heap.size, 1, none⟩ = some (.slice pra pr.length prc) /\ w'.cell? ⟨w.heap.size, 2, none⟩ = some (.int .i64 pp)) w3) := ⟨(b3.cell (p := ⟨w.heap.size, 0, none⟩) (by have := X0.out.2.2; show w.heap.size < _; omega)).trans hs0.out.1, (b3.cell (p := ⟨w.heap.size, 1, none⟩) (by have := X0.out.2.2; show w.heap.size < _; omega)).trans hs0.out.2.1, (b3.cell (p := ⟨w.heap.size, 2, none⟩) (by have := X0.out.2.2; show w.heap.size < _; omega)).trans hs0.out.2.2⟩
 refine ⟨_, rfl, hK.out _ _ s3.out ?_⟩
 clear hK K'
 refine wtC (i := 7) (v := ?_) rfl (Or.inl ⟨by rfl, ?_⟩) s3.out ?_
 rotate_left
 ·(intro w hSw; (try dsimp only at hSw); go_simp; try (with_reducible rfl))
 (try simp only [Act.put, lsA, lsZ, lsN])
 have z0 : w3.cell? ⟨w.heap.size + 1, 0, none⟩ = some (.int .i64 0) := (b3.cell (p := ⟨w.heap.size + 1, 0, none⟩) (by have := X0.out.2.2; show w.heap.size + 1 < _; omega)).trans ((cellq_any X0.out.2.1).trans rfl)
 have y0 : w3.frozen? ⟨w.heap.size + 1, 0, none⟩ = false := (World.frozen?_of_block (a := ⟨w.heap.size + 1, 0, none⟩) (b3.block _ (by have := X0.out.2.2; show w.heap.size + 1 < _; omega))).trans (by unfold World.frozen?; rw [X0.out.2.1]; rfl)
 have z1 : w3.cell? ⟨w.heap.size + 1, 1, none⟩ = some (.slice none 0 0) := (b3.cell (p := ⟨w.heap.size + 1, 1, none⟩) (by have := X0.out.2.2; show w.heap.size + 1 < _; omega)).trans ((cellq_any X0.out.2.1).trans rfl)
 have y1 : w3.frozen? ⟨w.heap.size + 1, 1, none⟩ = false := (World.frozen?_of_block (a := ⟨w.heap.size + 1, 1, none⟩) (b3.block _ (by have := X0.out.2.2; show w.heap.size + 1 < _; omega))).trans (by unfold World.frozen?; rw [X0.out.2.1]; rfl)
 have z2 : w3.cell? ⟨w.heap.size + 1, 2, none⟩ = some (.int .i64 0) := (b3.cell (p := ⟨w.heap.size + 1, 2, none⟩) (by have := X0.out.2.2; show w.heap.size + 1 < _; omega)).trans ((cellq_any X0.out.2.1).trans rfl)
 have y2 : w3.frozen? ⟨w.heap.size + 1, 2, none⟩ = false := (World.frozen?_of_block (a := ⟨w.heap.size + 1, 2, none⟩) (b3.block _ (by have := X0.out.2.2; show w.heap.size + 1 < _; omega))).trans (by unfold World.frozen?; rw [X0.out.2.1]; rfl)
 have hz : w.heap.size + 1 < w3.heap.size := by have := X0.out.2.2; have := b3.size; omega
 refine wpAnyX_one (j := 8) (by decide +kernel) rfl (fun K' hK => ?_)
 go_simp
 have KK : ∀ j, (((w3.setCell ⟨w.heap.size + 1, 0, none⟩ (.int .i64 pl)).setCell ⟨w.heap.size + 1, 1, none⟩ (.slice a3 pr.length c3)).setCell ⟨w.heap.size + 1, 2, none⟩ (.int .i64 pp)).cell? ⟨w.heap.size, j, none⟩ = w3.cell? ⟨w.heap.size, j, none⟩ := fun j => World.cell?_of_block (by rw [Below.heap_setCell _ _ _ _ (show w.heap.size ≠ w.heap.size + 1 by omega), Below.heap_setCell _ _ _ _ (show w.heap.size ≠ w.heap.size + 1 by omega), Below.heap_setCell _ _ _ _ (show w.heap.size ≠ w.heap.size + 1 by omega)])
 refine hK.out _ _ ⟨(KK 0).trans s3.out.1, (KK 1).trans s3.out.2.1, (KK 2).trans s3.out.2.2⟩ ?_
 clear hK K' KK
 refine wpAnyX_done (by decide +kernel) ?_
 go_wp2
 refine bodyPost_ret (v := .agg #[.int .i64 pl, .slice a3 pr.length c3, .int .i64 pp]) (by simp [results, Try.results83, go_sem, z0, z1, z2, hz]) rfl ?_
 refine ⟨a3, ⟨c3, rfl⟩, fun hne => ?_, ?_⟩
 ·obtain ⟨b, e1, e2, e3⟩ := k3 (fun e => hne (List.eq_nil_of_length_eq_zero e))
  have := X0.out.2.2
  refine ⟨b, e1, by omega, e3.kept ?_⟩
  rw [Below.heap_setCell _ _ _ _ (show b ≠ w.heap.size + 1 by omega), Below.heap_setCell _ _ _ _ (show b ≠ w.heap.size + 1 by omega), Below.heap_setCell _ _ _ _ (show b ≠ w.heap.size + 1 by omega)]
 ·have hB : Below w.heap.size w w3 := BQ.out.trans (b3.mono BQ.out.size)
  exact ((hB.setCell (p := ⟨w.heap.size + 1, 0, none⟩) (by show w.heap.size <= w.heap.size + 1; omega) _).setCell (p := ⟨w.heap.size + 1, 1, none⟩) (by show w.heap.size <= w.heap.size + 1; omega) _).setCell (p := ⟨w.heap.size + 1, 2, none⟩) (by show w.heap.size <= w.heap.size + 1; omega) _
set_option linter.unusedSimpArgs false in
theorem copylevel_G (la : Int) (lta : Option Addr) (ltc : Nat) (lt : List Int) (w : World) (hr : InRow w lta lt /\ lt.length <= 1048576) :
  Calls Try.prog 84 #[.agg #[.int .i64 la, .slice lta lt.length ltc]] w fun e w' => ∃ a' c', e = .returned (.agg #[.int .i64 la, .slice a' lt.length c']) /\ (lt.length ≠ 0 -> ∃ b, a' = some ⟨b, 0, none⟩ /\ w.heap.size + 2 <= b /\ RB w' b 3 (lt.map (.int .i64 ·))) /\ Below w.heap.size w w' := by
 obtain ⟨hb0, hx0, hx1⟩ := two_alloc w (.cells #[.int .i64 la, .slice lta lt.length ltc] 76) (.cells #[.int .i64 0, .slice none 0 0] 76)
 have BQ : Hid (Below w.heap.size w ((w.alloc (.cells #[.int .i64 la, .slice lta lt.length ltc] 76)).alloc (.cells #[.int .i64 0, .slice none 0 0] 76)).drew) := hb0.drew
 have X0 : Hid (((w.alloc (.cells #[.int .i64 la, .slice lta lt.length ltc] 76)).alloc (.cells #[.int .i64 0, .slice none 0 0] 76)).drew.heap[w.heap.size]? = some (.cells #[.int .i64 la, .slice lta lt.length ltc] 76) /\ ((w.alloc (.cells #[.int .i64 la, .slice lta lt.length ltc] 76)).alloc (.cells #[.int .i64 0, .slice none 0 0] 76)).drew.heap[w.heap.size + 1]? = some (.cells #[.int .i64 0, .slice none 0 0] 76) /\ ((w.alloc (.cells #[.int .i64 la, .slice lta lt.length ltc] 76)).alloc (.cells #[.int .i64 0, .slice none 0 0] 76)).drew.heap.size = w.heap.size + 2) := ⟨hx0, hx1, by show ((w.alloc (.cells #[.int .i64 la, .slice lta lt.length ltc] 76)).alloc (.cells #[.int .i64 0, .slice none 0 0] 76)).heap.size = _; simp⟩
 have hs0 : Hid ((fun w' => w'.cell? ⟨w.heap.size, 0, none⟩ = some (.int .i64 la) /\ w'.cell? ⟨w.heap.size, 1, none⟩ = some (.slice lta lt.length ltc)) ((w.alloc (.cells #[.int .i64 la, .slice lta lt.length ltc] 76)).alloc (.cells #[.int .i64 0, .slice none 0 0] 76)).drew) := ⟨(cellq_any X0.out.1).trans rfl, (cellq_any X0.out.1).trans rfl⟩
 have HR : Hid _ := hr
 clear hb0 hx0 hx1 hr
 go_enter Try.func84, Try.ntmps84
 go_wp2
 refine wp_region_x (S := fun _ => (fun w' => w'.cell? ⟨w.heap.size, 0, none⟩ = some (.int .i64 la) /\ w'.cell? ⟨w.heap.size, 1, none⟩ = some (.slice lta lt.length ltc))) (by kernel_rfl) ?_
 refine wtC (i := 0) (v := ?_) rfl (Or.inl ⟨by rfl, ?_⟩) hs0.out ?_
 rotate_left
 ·(intro w hSw; (try dsimp only at hSw); go_simp; try (with_reducible rfl))
 (try simp only [Act.put, lsA, lsZ, lsN])
 refine wtC (i := 1) (v := ?_) rfl (Or.inl ⟨by rfl, ?_⟩) hs0.out ?_
 rotate_left
 ·(intro w hSw; (try dsimp only at hSw); go_simp; try (with_reducible rfl))
 (try simp only [Act.put, lsA, lsZ, lsN])
 refine wtC (i := 2) (v := ?_) rfl (Or.inl ⟨by rfl, ?_⟩) hs0.out ?_
 rotate_left
 ·(intro w hSw; (try dsimp only at hSw); go_simp; try (with_reducible rfl))
 (try simp only [Act.put, lsA, lsZ, lsN])
 refine wtC (i := 3) (v := ?_) rfl (Or.inl ⟨by rfl, ?_⟩) hs0.out ?_
 rotate_left
 ·(intro w hSw; (try dsimp only at hSw); go_simp; try (with_reducible rfl))
 (try simp only [Act.put, lsA, lsZ, lsN])
 refine wpAnyX_one (j := 4) (by decide +kernel) rfl (fun K' hK => ?_)
 refine step_callX rfl 53 #[.slice lta lt.length ltc] _ (run_cpint (v0 := .slice lta lt.length ltc) (by rfl) (by rfl) _) (copy_int lta lt.length ltc (lt.map (Value.int .i64 ·)) _ (by simp) HR.out.2 (inRow_cells (HR.out.1.later BQ.out)) (int_one _)) ?_
 rintro e w3 ⟨a3, c3, rfl, k3, m3, b3⟩
 have s3 : Hid ((fun w' => w'.cell? ⟨w.heap.size, 0, none⟩ = some (.int .i64 la) /\ w'.cell? ⟨w.heap.size, 1, none⟩ = some (.slice lta lt.length ltc)) w3) := ⟨(b3.cell (p := ⟨w.heap.size, 0, none⟩) (by have := X0.out.2.2; show w.heap.size < _; omega)).trans hs0.out.1, (b3.cell (p := ⟨w.heap.size, 1, none⟩) (by have := X0.out.2.2; show w.heap.size < _; omega)).trans hs0.out.2⟩
 refine ⟨_, rfl, hK.out _ _ s3.out ?_⟩
 clear hK K'
 refine wtC (i := 5) (v := ?_) rfl (Or.inl ⟨by rfl, ?_⟩) s3.out ?_
 rotate_left
 ·(intro w hSw; (try dsimp only at hSw); go_simp; try (with_reducible rfl))
 (try simp only [Act.put, lsA, lsZ, lsN])
 have z0 : w3.cell? ⟨w.heap.size + 1, 0, none⟩ = some (.int .i64 0) := (b3.cell (p := ⟨w.heap.size + 1, 0, none⟩) (by have := X0.out.2.2; show w.heap.size + 1 < _; omega)).trans ((cellq_any X0.out.2.1).trans rfl)
 have y0 : w3.frozen? ⟨w.heap.size + 1, 0, none⟩ = false := (World.frozen?_of_block (a := ⟨w.heap.size + 1, 0, none⟩) (b3.block _ (by have := X0.out.2.2; show w.heap.size + 1 < _; omega))).trans (by unfold World.frozen?; rw [X0.out.2.1]; rfl)
 have z1 : w3.cell? ⟨w.heap.size + 1, 1, none⟩ = some (.slice none 0 0) := (b3.cell (p := ⟨w.heap.size + 1, 1, none⟩) (by have := X0.out.2.2; show w.heap.size + 1 < _; omega)).trans ((cellq_any X0.out.2.1).trans rfl)
 have y1 : w3.frozen? ⟨w.heap.size + 1, 1, none⟩ = false := (World.frozen?_of_block (a := ⟨w.heap.size + 1, 1, none⟩) (b3.block _ (by have := X0.out.2.2; show w.heap.size + 1 < _; omega))).trans (by unfold World.frozen?; rw [X0.out.2.1]; rfl)
 have hz : w.heap.size + 1 < w3.heap.size := by have := X0.out.2.2; have := b3.size; omega
 refine wpAnyX_one (j := 6) (by decide +kernel) rfl (fun K' hK => ?_)
 go_simp
 have KK : ∀ j, ((w3.setCell ⟨w.heap.size + 1, 0, none⟩ (.int .i64 la)).setCell ⟨w.heap.size + 1, 1, none⟩ (.slice a3 lt.length c3)).cell? ⟨w.heap.size, j, none⟩ = w3.cell? ⟨w.heap.size, j, none⟩ := fun j => World.cell?_of_block (by rw [Below.heap_setCell _ _ _ _ (show w.heap.size ≠ w.heap.size + 1 by omega), Below.heap_setCell _ _ _ _ (show w.heap.size ≠ w.heap.size + 1 by omega)])
 refine hK.out _ _ ⟨(KK 0).trans s3.out.1, (KK 1).trans s3.out.2⟩ ?_
 clear hK K' KK
 refine wpAnyX_done (by decide +kernel) ?_
 go_wp2
 refine bodyPost_ret (v := .agg #[.int .i64 la, .slice a3 lt.length c3]) (by simp [results, Try.results84, go_sem, z0, z1, hz]) rfl ?_
 refine ⟨a3, ⟨c3, rfl⟩, fun hne => ?_, ?_⟩
 ·obtain ⟨b, e1, e2, e3⟩ := k3 (fun e => hne (List.eq_nil_of_length_eq_zero e))
  have := X0.out.2.2
  refine ⟨b, e1, by omega, e3.kept ?_⟩
  rw [Below.heap_setCell _ _ _ _ (show b ≠ w.heap.size + 1 by omega), Below.heap_setCell _ _ _ _ (show b ≠ w.heap.size + 1 by omega)]
 ·have hB : Below w.heap.size w w3 := BQ.out.trans (b3.mono BQ.out.size)
  exact (hB.setCell (p := ⟨w.heap.size + 1, 0, none⟩) (by show w.heap.size <= w.heap.size + 1; omega) _).setCell (p := ⟨w.heap.size + 1, 1, none⟩) (by show w.heap.size <= w.heap.size + 1; omega) _
theorem new_row3 (w : World) (x y z : Value) (t : TypeId) : ∀ (j : Nat) (u : Value), [x, y, z][j]? = some u -> (w.alloc (.cells #[x, y, z] t)).cell? ⟨w.heap.size, j, none⟩ = some u := fun j u hu => by
 rw [cellq_any (alloc_at w _)]
 simpa using hu
theorem new_row2 (w : World) (x y : Value) (t : TypeId) : ∀ (j : Nat) (u : Value), [x, y][j]? = some u -> (w.alloc (.cells #[x, y] t)).cell? ⟨w.heap.size, j, none⟩ = some u := fun j u hu => by
 rw [cellq_any (alloc_at w _)]
 simpa using hu
structure PN (B : Nat) (w : World) (v : Value) (l : List PV) : Prop where
 row : PY w v l
 lo : ∀ j, v.ownBlock = some j -> B <= j
 each : ∀ i, i < l.length -> (l.getD i .none).right ≠ [] -> (l.getD i .none).ra = some ⟨ablk (l.getD i .none).ra, 0, none⟩ /\ B <= ablk (l.getD i .none).ra /\ v.ownBlock ≠ some (ablk (l.getD i .none).ra) /\ RB w (ablk (l.getD i .none).ra) 113 (symCells (l.getD i .none).right)
 two : ∀ i j, i < l.length -> j < l.length -> i ≠ j -> (l.getD i .none).right ≠ [] -> (l.getD j .none).right ≠ [] -> ablk (l.getD i .none).ra ≠ ablk (l.getD j .none).ra
theorem PN.nil (B : Nat) (w : World) : PN B w (.slice none 0 0) [] := ⟨PY.nil w, fun j hj => by simp [Value.ownBlock] at hj, fun i hi => absurd hi (Nat.not_lt_zero _), fun i j hi => absurd hi (Nat.not_lt_zero _)⟩
theorem PN.later {B : Nat} {w w' : World} {v : Value} {l : List PV} (h : PN B w v l) (hb : Below w.heap.size w w') : PN B w' v l :=
 ⟨h.row.later hb, h.lo, fun i hi hr => ⟨(h.each i hi hr).1, (h.each i hi hr).2.1, (h.each i hi hr).2.2.1, (h.each i hi hr).2.2.2.later hb⟩, h.two⟩
theorem getD_app_lt {α : Type} {l : List α} {q d : α} {i : Nat} (h : i < l.length) : (l ++ [q]).getD i d = l.getD i d := by simp [List.getD, List.getElem?_append_left h]
theorem getD_app_eq {α : Type} {l : List α} {q d : α} : (l ++ [q]).getD l.length d = q := by simp [List.getD]
theorem PN.append {B M : Nat} {w w' : World} {v v' : Value} {l : List PV} {q : PV} (h : PN B w v l) (h1 : PY w' v' (l ++ [q])) (hg : Grew w w' v v') (hB : B <= w.heap.size)
  (hM : ∀ i, i < l.length -> (l.getD i .none).right ≠ [] -> ablk (l.getD i .none).ra < M) (hv : ∀ j, v.ownBlock = some j -> j < M) (hBM : B <= M)
  (hq : q.right ≠ [] -> ∃ b, q.ra = some ⟨b, 0, none⟩ /\ M <= b /\ b < w.heap.size /\ RB w b 113 (symCells q.right)) : PN B w' v' (l ++ [q]) := by
 have hlo : ∀ j, v'.ownBlock = some j -> B <= j := fun j hj => by
  rcases hg.moved with e | ⟨z, e, hz⟩
  ·exact h.lo j (e ▸ hj)
  ·rw [hj] at e; have := Option.some.inj e; omega
 have hk : ∀ j, j < w.heap.size -> v.ownBlock ≠ some j -> w'.heap[j]? = w.heap[j]? := fun j hj hne => hg.grown.block j hj (fun e => hne e.symm)
 have hne : ∀ j, j < w.heap.size -> v.ownBlock ≠ some j -> v'.ownBlock ≠ some j := fun j hj hne e => by
  rcases hg.moved with e' | ⟨z, e', hz⟩
  ·exact hne (e' ▸ e)
  ·rw [e] at e'; have := Option.some.inj e'; omega
 refine ⟨h1, hlo, fun i hi hr => ?_, fun i j hi hj hij hri hrj => ?_⟩
 ·rw [List.length_append, List.length_singleton] at hi
  by_cases e : i = l.length
  ·subst e
   rw [getD_app_eq] at hr ⊢
   obtain ⟨b, e1, e2, e3, e4⟩ := hq hr
   rw [e1]
   have hvb : v.ownBlock ≠ some b := fun e => by have := hv b e; omega
   exact ⟨rfl, by show B <= b; omega, hne b e3 hvb, e4.kept (hk b e3 hvb)⟩
  ·have hil : i < l.length := by omega
   rw [getD_app_lt hil] at hr ⊢
   obtain ⟨q1, q2, q3, q4⟩ := h.each i hil hr
   exact ⟨q1, q2, hne _ q4.lt q3, q4.kept (hk _ q4.lt q3)⟩
 ·rw [List.length_append, List.length_singleton] at hi hj
  by_cases ei : i = l.length
  ·subst ei
   rw [getD_app_eq] at hri ⊢
   have hjl : j < l.length := by omega
   rw [getD_app_lt hjl] at hrj ⊢
   obtain ⟨b, e1, e2, _⟩ := hq hri
   have := hM j hjl hrj
   rw [e1]
   show b ≠ _
   omega
  ·have hil : i < l.length := by omega
   rw [getD_app_lt hil] at hri ⊢
   by_cases ej : j = l.length
   ·subst ej
    rw [getD_app_eq] at hrj ⊢
    obtain ⟨b, e1, e2, _⟩ := hq hrj
    have := hM i hil hri
    rw [e1]
    show _ ≠ b
    omega
   ·have hjl : j < l.length := by omega
    rw [getD_app_lt hjl] at hrj ⊢
    exact h.two i j hil hjl hij hri hrj
theorem PN.pm {B : Nat} {w : World} {v : Value} {l : List PV} (h : PN B w v l) (hne : l ≠ []) : ∃ pb c, v = .slice (some ⟨pb, 0, none⟩) l.length c /\ l.length <= c /\ PM B w.heap.size w pb l.length l := by
 rcases h.row.2 with ⟨_, h0⟩ | ⟨g, cap, cur, e, _, _, h5, _⟩
 ·exact absurd (List.eq_nil_of_length_eq_zero h0) hne
 ·have hr := h.row
  rw [e] at hr
  have hRB := (RB.of_own hr).1
  have hlo := h.lo g (by rw [e]; rfl)
  refine ⟨g, cap, e, h5, hRB, ⟨hlo, hRB.lt⟩, fun i hi hri => ?_, h.two⟩
  obtain ⟨q1, q2, q3, q4⟩ := h.each i hi hri
  exact ⟨q1, ⟨q2, q4.lt⟩, fun e2 => q3 (by rw [e, e2]; rfl), q4⟩
theorem copyprods_G (ao : Option Addr) (cap : Nat) (l : List PV) (w : World) (hl : l.length <= 1048576) (hr : PrRow w ao l) (hz : ∀ q ∈ l, q.right.length <= 1048576) :
  Calls Try.prog 57 #[.slice ao l.length cap] w fun e w' => ∃ v L, e = .returned v /\ L.map PV.core = l.map PV.core /\ PN w.heap.size w' v L /\ Below w.heap.size w w' := by
 have HR : Hid (PrRow w ao l /\ ∀ q ∈ l, q.right.length <= 1048576) := ⟨hr, hz⟩
 clear hr hz
 go_enter Try.func57, Try.ntmps57
 go_wp2
 go_loopw [3, 4] (fun v z wr => ∃ (k : Nat) (L : List PV), k <= l.length /\ z = .int .i64 k /\ L.map PV.core = (l.take k).map PV.core /\ PN w.heap.size wr v L /\ Below w.heap.size w wr) (fun _ z _ => l.length - (intOf z).toNat)
 case atStart => exact ⟨0, [], Nat.zero_le _, rfl, by simp, PN.nil _ _, Below.refl _ _⟩
 case round =>
  obtain ⟨k, L, hk, rfl, hM', hS', hb'⟩ := hrel
  have hLk : L.length = k := by
   have := congrArg List.length hM'
   rw [List.length_map, List.length_map, List.length_take] at this
   omega
  obtain ⟨va, vc, rfl⟩ := hS'.row.len
  rw [hLk] at hS'
  rw [hLk]
  have HM : Hid (L.map PV.core = (l.take k).map PV.core /\ L.length = k) := ⟨hM', hLk⟩
  have HS : Hid (PN w.heap.size wr (.slice va k vc) L /\ Below w.heap.size w wr) := ⟨hS', hb'⟩
  have HTL : Hid (L.length <= 2000000) := by show _ <= _; omega
  clear hS' hM' hLk
  by_cases hlt : k < l.length
  ·have hR := HR.out.1.later hb'
   obtain ⟨b, off, rfl, _, hc⟩ := hR.cells (by intro e; rw [e] at hlt; simp at hlt)
   obtain ⟨c0, c1, c2⟩ := hc k hlt
   have hmem : l.getD k .none ∈ l := by simp [List.getD, hlt]
   have HX : Hid (SymRow wr (l.getD k .none).ra (l.getD k .none).right /\ (l.getD k .none).right.length <= 1048576) := ⟨hR.rows _ hmem, HR.out.2 _ hmem⟩
   have HNX : Hid (l.take (k + 1) = l.take k ++ [l.getD k .none]) := by
    show _ = _
    rw [List.take_succ_eq_append_getElem hlt]
    simp [List.getD, hlt]
   clear hc hR hmem hb'
   generalize l.getD k .none = x at *
   obtain ⟨pl, pra, prc, pr, pp⟩ := x
   simp only at c0 c1 c2 HX
   go_wp2_with (first
    | (go_at_call 83; refine (copyprod_G pl pp pra prc pr wr HX.out).mono ?_; rintro e w2 ⟨a2, c2', rfl, k2', b2'⟩; have B2 : Hid (Below wr.heap.size wr w2) := b2'; have K2 : Hid (pr.length ≠ 0 -> ∃ b, a2 = some ⟨b, 0, none⟩ /\ wr.heap.size + 2 <= b /\ RB w2 b 113 (symCells pr)) := k2'; clear k2' b2')
    | (at_builtin; refine wpList_PY_append rfl _ _ rfl _ L rfl ((HS.out.1.later B2.out).later (below_alloc w2 _)).row _ 1 ⟨pl, a2, c2', pr, pp⟩ rfl (new_row3 w2 _ _ _ _) HTL.out ?_; intro a4 n4 c4 w4 ho4 hg4))
   go_roundw
   case rel =>
    have hb1 : Below w2.heap.size w2 (w2.alloc (.cells #[.int .i64 pl, .slice a2 pr.length c2', .int .i64 pp] 83)) := below_alloc w2 _
    have hs1 := HS.out.2.size
    have hs2 := B2.out.size
    have hBw : Below w.heap.size w (w2.alloc (.cells #[.int .i64 pl, .slice a2 pr.length c2', .int .i64 pp] 83)) := (HS.out.2.trans (B2.out.mono hs1)).trans (hb1.mono (by omega))
    refine ⟨k + 1, L ++ [⟨pl, a2, c2', pr, pp⟩], by omega, by go_num, ?_, ?_, ?_⟩
    ·rw [HNX.out, List.map_append, List.map_append, HM.out.1]; rfl
    ·refine ((HS.out.1.later B2.out).later hb1).append (M := wr.heap.size) ho4 hg4 (by simp; omega) (fun i hi hri => (HS.out.1.each i hi hri).2.2.2.lt) (fun j hj => HS.out.1.row.lt j hj) hs1 (fun hr => ?_)
     obtain ⟨b, e1, e2, e3⟩ := K2.out (fun e => hr (List.eq_nil_of_length_eq_zero e))
     exact ⟨b, e1, by omega, by have := e3.lt; simp; omega, e3.later hb1⟩
    ·exact hBw.grown hg4.grown hBw.size (fun j hj => HS.out.1.lo j hj)
   case measure => simp [intOf]; omega
  ·obtain rfl : k = l.length := by omega
   have HM2 : Hid (L.map PV.core = l.map PV.core) := by have := HM.out.1; rw [List.take_length] at this; exact this
   clear hb'
   go_wp2
   go_ret
   exact ⟨_, L, rfl, HM2.out, HS.out.1, HS.out.2⟩
structure LN (B : Nat) (w : World) (v : Value) (l : List LV) : Prop where
 row : LY w v l
 lo : ∀ j, v.ownBlock = some j -> B <= j
 each : ∀ i, i < l.length -> (l.getD i .none).terms ≠ [] -> (l.getD i .none).ta = some ⟨ablk (l.getD i .none).ta, 0, none⟩ /\ B <= ablk (l.getD i .none).ta /\ v.ownBlock ≠ some (ablk (l.getD i .none).ta) /\ RB w (ablk (l.getD i .none).ta) 3 ((l.getD i .none).terms.map (.int .i64 ·))
 two : ∀ i j, i < l.length -> j < l.length -> i ≠ j -> (l.getD i .none).terms ≠ [] -> (l.getD j .none).terms ≠ [] -> ablk (l.getD i .none).ta ≠ ablk (l.getD j .none).ta
theorem LN.nil (B : Nat) (w : World) : LN B w (.slice none 0 0) [] := ⟨LY.nil w, fun j hj => by simp [Value.ownBlock] at hj, fun i hi => absurd hi (Nat.not_lt_zero _), fun i j hi => absurd hi (Nat.not_lt_zero _)⟩
theorem LN.later {B : Nat} {w w' : World} {v : Value} {l : List LV} (h : LN B w v l) (hb : Below w.heap.size w w') : LN B w' v l :=
 ⟨h.row.later hb, h.lo, fun i hi hr => ⟨(h.each i hi hr).1, (h.each i hi hr).2.1, (h.each i hi hr).2.2.1, (h.each i hi hr).2.2.2.later hb⟩, h.two⟩
theorem LN.append {B M : Nat} {w w' : World} {v v' : Value} {l : List LV} {q : LV} (h : LN B w v l) (h1 : LY w' v' (l ++ [q])) (hg : Grew w w' v v') (hB : B <= w.heap.size)
  (hM : ∀ i, i < l.length -> (l.getD i .none).terms ≠ [] -> ablk (l.getD i .none).ta < M) (hv : ∀ j, v.ownBlock = some j -> j < M) (hBM : B <= M)
  (hq : q.terms ≠ [] -> ∃ b, q.ta = some ⟨b, 0, none⟩ /\ M <= b /\ b < w.heap.size /\ RB w b 3 (q.terms.map (.int .i64 ·))) : LN B w' v' (l ++ [q]) := by
 have hlo : ∀ j, v'.ownBlock = some j -> B <= j := fun j hj => by
  rcases hg.moved with e | ⟨z, e, hz⟩
  ·exact h.lo j (e ▸ hj)
  ·rw [hj] at e; have := Option.some.inj e; omega
 have hk : ∀ j, j < w.heap.size -> v.ownBlock ≠ some j -> w'.heap[j]? = w.heap[j]? := fun j hj hne => hg.grown.block j hj (fun e => hne e.symm)
 have hne : ∀ j, j < w.heap.size -> v.ownBlock ≠ some j -> v'.ownBlock ≠ some j := fun j hj hne e => by
  rcases hg.moved with e' | ⟨z, e', hz⟩
  ·exact hne (e' ▸ e)
  ·rw [e] at e'; have := Option.some.inj e'; omega
 refine ⟨h1, hlo, fun i hi hr => ?_, fun i j hi hj hij hri hrj => ?_⟩
 ·rw [List.length_append, List.length_singleton] at hi
  by_cases e : i = l.length
  ·subst e
   rw [getD_app_eq] at hr ⊢
   obtain ⟨b, e1, e2, e3, e4⟩ := hq hr
   rw [e1]
   have hvb : v.ownBlock ≠ some b := fun e => by have := hv b e; omega
   exact ⟨rfl, by show B <= b; omega, hne b e3 hvb, e4.kept (hk b e3 hvb)⟩
  ·have hil : i < l.length := by omega
   rw [getD_app_lt hil] at hr ⊢
   obtain ⟨q1, q2, q3, q4⟩ := h.each i hil hr
   exact ⟨q1, q2, hne _ q4.lt q3, q4.kept (hk _ q4.lt q3)⟩
 ·rw [List.length_append, List.length_singleton] at hi hj
  by_cases ei : i = l.length
  ·subst ei
   rw [getD_app_eq] at hri ⊢
   have hjl : j < l.length := by omega
   rw [getD_app_lt hjl] at hrj ⊢
   obtain ⟨b, e1, e2, _⟩ := hq hri
   have := hM j hjl hrj
   rw [e1]
   show b ≠ _
   omega
  ·have hil : i < l.length := by omega
   rw [getD_app_lt hil] at hri ⊢
   by_cases ej : j = l.length
   ·subst ej
    rw [getD_app_eq] at hrj ⊢
    obtain ⟨b, e1, e2, _⟩ := hq hrj
    have := hM i hil hri
    rw [e1]
    show _ ≠ b
    omega
   ·have hjl : j < l.length := by omega
    rw [getD_app_lt hjl] at hrj ⊢
    exact h.two i j hil hjl hij hri hrj
theorem LN.pm {B : Nat} {w : World} {v : Value} {l : List LV} (h : LN B w v l) (hne : l ≠ []) : ∃ pb c, v = .slice (some ⟨pb, 0, none⟩) l.length c /\ l.length <= c /\ LMt B w.heap.size w pb l.length l := by
 rcases h.row.2 with ⟨_, h0⟩ | ⟨g, cap, cur, e, _, _, h5, _⟩
 ·exact absurd (List.eq_nil_of_length_eq_zero h0) hne
 ·have hr := h.row
  rw [e] at hr
  have hRB := (RB.of_own hr).1
  have hlo := h.lo g (by rw [e]; rfl)
  refine ⟨g, cap, e, h5, hRB, ⟨hlo, hRB.lt⟩, fun i hi hri => ?_, h.two⟩
  obtain ⟨q1, q2, q3, q4⟩ := h.each i hi hri
  exact ⟨q1, ⟨q2, q4.lt⟩, fun e2 => q3 (by rw [e, e2]; rfl), q4⟩
theorem copylevels_G (ao : Option Addr) (cap : Nat) (l : List LV) (w : World) (hl : l.length <= 1048576) (hr : LvRow w ao l) (hz : ∀ q ∈ l, q.terms.length <= 1048576) :
  Calls Try.prog 58 #[.slice ao l.length cap] w fun e w' => ∃ v L, e = .returned v /\ L.map LV.core = l.map LV.core /\ LN w.heap.size w' v L /\ Below w.heap.size w w' := by
 have HR : Hid (LvRow w ao l /\ ∀ q ∈ l, q.terms.length <= 1048576) := ⟨hr, hz⟩
 clear hr hz
 go_enter Try.func58, Try.ntmps58
 go_wp2
 go_loopw [3, 4] (fun v z wr => ∃ (k : Nat) (L : List LV), k <= l.length /\ z = .int .i64 k /\ L.map LV.core = (l.take k).map LV.core /\ LN w.heap.size wr v L /\ Below w.heap.size w wr) (fun _ z _ => l.length - (intOf z).toNat)
 case atStart => exact ⟨0, [], Nat.zero_le _, rfl, by simp, LN.nil _ _, Below.refl _ _⟩
 case round =>
  obtain ⟨k, L, hk, rfl, hM', hS', hb'⟩ := hrel
  have hLk : L.length = k := by
   have := congrArg List.length hM'
   rw [List.length_map, List.length_map, List.length_take] at this
   omega
  obtain ⟨va, vc, rfl⟩ := hS'.row.len
  rw [hLk] at hS'
  rw [hLk]
  have HM : Hid (L.map LV.core = (l.take k).map LV.core /\ L.length = k) := ⟨hM', hLk⟩
  have HS : Hid (LN w.heap.size wr (.slice va k vc) L /\ Below w.heap.size w wr) := ⟨hS', hb'⟩
  have HTL : Hid (L.length <= 2000000) := by show _ <= _; omega
  clear hS' hM' hLk
  by_cases hlt : k < l.length
  ·have hR := HR.out.1.later hb'
   obtain ⟨b, off, rfl, _, hc⟩ := hR.cells (by intro e; rw [e] at hlt; simp at hlt)
   obtain ⟨c0, c1⟩ := hc k hlt
   have hmem : l.getD k .none ∈ l := by simp [List.getD, hlt]
   have HX : Hid (InRow wr (l.getD k .none).ta (l.getD k .none).terms /\ (l.getD k .none).terms.length <= 1048576) := ⟨hR.rows _ hmem, HR.out.2 _ hmem⟩
   have HNX : Hid (l.take (k + 1) = l.take k ++ [l.getD k .none]) := by
    show _ = _
    rw [List.take_succ_eq_append_getElem hlt]
    simp [List.getD, hlt]
   clear hc hR hmem hb'
   generalize l.getD k .none = x at *
   obtain ⟨pl, pra, prc, pr⟩ := x
   simp only at c0 c1 HX
   go_wp2_with (first
    | (go_at_call 84; refine (copylevel_G pl pra prc pr wr HX.out).mono ?_; rintro e w2 ⟨a2, c2', rfl, k2', b2'⟩; have B2 : Hid (Below wr.heap.size wr w2) := b2'; have K2 : Hid (pr.length ≠ 0 -> ∃ b, a2 = some ⟨b, 0, none⟩ /\ wr.heap.size + 2 <= b /\ RB w2 b 3 (pr.map (.int .i64 ·))) := k2'; clear k2' b2')
    | (at_builtin; refine wpList_LY_append rfl _ _ rfl _ L rfl ((HS.out.1.later B2.out).later (below_alloc w2 _)).row _ 1 ⟨pl, a2, c2', pr⟩ rfl (new_row2 w2 _ _ _) HTL.out ?_; intro a4 n4 c4 w4 ho4 hg4))
   go_roundw
   case rel =>
    have hb1 : Below w2.heap.size w2 (w2.alloc (.cells #[.int .i64 pl, .slice a2 pr.length c2'] 76)) := below_alloc w2 _
    have hs1 := HS.out.2.size
    have hs2 := B2.out.size
    have hBw : Below w.heap.size w (w2.alloc (.cells #[.int .i64 pl, .slice a2 pr.length c2'] 76)) := (HS.out.2.trans (B2.out.mono hs1)).trans (hb1.mono (by omega))
    refine ⟨k + 1, L ++ [⟨pl, a2, c2', pr⟩], by omega, by go_num, ?_, ?_, ?_⟩
    ·rw [HNX.out, List.map_append, List.map_append, HM.out.1]; rfl
    ·refine ((HS.out.1.later B2.out).later hb1).append (M := wr.heap.size) ho4 hg4 (by simp; omega) (fun i hi hri => (HS.out.1.each i hi hri).2.2.2.lt) (fun j hj => HS.out.1.row.lt j hj) hs1 (fun hr => ?_)
     obtain ⟨b, e1, e2, e3⟩ := K2.out (fun e => hr (List.eq_nil_of_length_eq_zero e))
     exact ⟨b, e1, by omega, by have := e3.lt; simp; omega, e3.later hb1⟩
    ·exact hBw.grown hg4.grown hBw.size (fun j hj => HS.out.1.lo j hj)
   case measure => simp [intOf]; omega
  ·obtain rfl : k = l.length := by omega
   have HM2 : Hid (L.map LV.core = l.map LV.core) := by have := HM.out.1; rw [List.take_length] at this; exact this
   clear hb'
   go_wp2
   go_ret
   exact ⟨_, L, rfl, HM2.out, HS.out.1, HS.out.2⟩
theorem run_cpstr {o : Oper} {a : Act} {t0 : TypeId} {v0 : Value} {x0 : Operand} (hop : o.op = Op.call { callee := Callee.value (Operand.func 56), args := #[x0], argTypes := #[t0] }) (h0 : a.eval x0 = v0) (w : World) : (execOp a.eval o).run Try.prog w = .ok (.enter 56 #[v0]) w := by
 have hf : a.eval (Operand.func 56) = .func (.func 56) #[] #[] := rfl
 simp [execOp, hop, resolve, invoke, h0, hf, Deferred.ofValue]
theorem run_cpprods {o : Oper} {a : Act} {t0 : TypeId} {v0 : Value} {x0 : Operand} (hop : o.op = Op.call { callee := Callee.value (Operand.func 57), args := #[x0], argTypes := #[t0] }) (h0 : a.eval x0 = v0) (w : World) : (execOp a.eval o).run Try.prog w = .ok (.enter 57 #[v0]) w := by
 have hf : a.eval (Operand.func 57) = .func (.func 57) #[] #[] := rfl
 simp [execOp, hop, resolve, invoke, h0, hf, Deferred.ofValue]
theorem run_cplevs {o : Oper} {a : Act} {t0 : TypeId} {v0 : Value} {x0 : Operand} (hop : o.op = Op.call { callee := Callee.value (Operand.func 58), args := #[x0], argTypes := #[t0] }) (h0 : a.eval x0 = v0) (w : World) : (execOp a.eval o).run Try.prog w = .ok (.enter 58 #[v0]) w := by
 have hf : a.eval (Operand.func 58) = .func (.func 58) #[] #[] := rfl
 simp [execOp, hop, resolve, invoke, h0, hf, Deferred.ofValue]
theorem cbS {g : GV} {n0 : Nat} {w0 w' : World} (h : CBx n0 w0 #[.slice g.ta g.ts.length g.tc, .slice g.na g.ns.length g.nc, .int .i64 g.start, .slice g.pa g.ps.length g.pc, .slice g.la g.ls.length g.lc] w') : w'.cell? ⟨n0, 0, none⟩ = some (.slice g.ta g.ts.length g.tc) /\ w'.cell? ⟨n0, 1, none⟩ = some (.slice g.na g.ns.length g.nc) /\ w'.cell? ⟨n0, 2, none⟩ = some (.int .i64 g.start) /\ w'.cell? ⟨n0, 3, none⟩ = some (.slice g.pa g.ps.length g.pc) /\ w'.cell? ⟨n0, 4, none⟩ = some (.slice g.la g.ls.length g.lc) :=
 ⟨(cellq_any h.box).trans rfl, (cellq_any h.box).trans rfl, (cellq_any h.box).trans rfl, (cellq_any h.box).trans rfl, (cellq_any h.box).trans rfl⟩
end Go.Proofs.Ytlkkllehaabebaa
