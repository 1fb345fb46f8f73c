import Derived.Test.YtlkkllehaabebaaPGDec12ToGDec14
import Derived.Test.YtlkkllehaabebaaPRegX
namespace Go.Proofs.Ytlkkllehaabebaa
set_option linter.unusedVariables false
set_option maxRecDepth 100000
set_option maxHeartbeats 16000000
open Go.RowKit
structure IsPerm (l : List Int) : Prop where
 lo : ∀ i, i < l.length -> 0 <= l.getD i 0 /\ l.getD i 0 < l.length
 one : ∀ i j, i < l.length -> j < i -> l.getD j 0 ≠ l.getD i 0
theorem nat_fit : ∀ (n : Nat) (l : List Nat), l.Nodup -> (∀ x ∈ l, x < n) -> l.length <= n
 | 0, l, _, h => by
  cases l with
  | nil => simp
  | cons a r => exact absurd (h a (by simp)) (by omega)
 | n + 1, l, hn, h => by
  by_cases hm : n ∈ l
  ·have h1 := nat_fit n (l.erase n) (hn.erase n) (fun x hx => by
    have h2 := h x (List.mem_of_mem_erase hx)
    have h3 : x ≠ n := fun e => by subst e; exact (List.Nodup.not_mem_erase hn) hx
    omega)
   rw [List.length_erase_of_mem hm] at h1
   omega
  ·have h1 := nat_fit n l hn (fun x hx => by
    have h2 := h x hx
    have h3 : x ≠ n := fun e => hm (e ▸ hx)
    omega)
   omega
theorem IsPerm.nodup {l : List Int} (h : IsPerm l) : (l.map Int.toNat).Nodup := by
 rw [List.nodup_iff_pairwise_ne, List.pairwise_iff_getElem]
 intro i j hi hj hij
 simp at hi hj
 have h1 := h.lo i hi
 have h2 := h.lo j hj
 have h3 := h.one j i hj hij
 simp [List.getD, hi, hj] at h1 h2 h3
 simp
 omega
theorem IsPerm.all {l : List Int} (h : IsPerm l) (k : Nat) (hk : k < l.length) : ∃ i, i < l.length /\ (l.getD i 0).toNat = k := by
 by_cases hm : k ∈ l.map Int.toNat
 ·obtain ⟨x, hx, e⟩ := List.mem_map.1 hm
  obtain ⟨i, hi, rfl⟩ := List.getElem_of_mem hx
  exact ⟨i, hi, by simp [List.getD, hi, e]⟩
 ·have h1 := nat_fit l.length (k :: l.map Int.toNat) (List.nodup_cons.2 ⟨hm, h.nodup⟩) (fun x hx => by
   rcases List.mem_cons.1 hx with rfl | hx
   ·exact hk
   ·obtain ⟨y, hy, rfl⟩ := List.mem_map.1 hx
    obtain ⟨i, hi, rfl⟩ := List.getElem_of_mem hy
    have := h.lo i hi
    simp [List.getD, hi] at this
    omega)
  simp at h1
  omega
def RB (w : World) (b : Nat) (t : TypeId) (xs : List Value) : Prop := ∃ cur, w.heap[b]? = some (.cells cur t (0, 0)) /\ xs.length <= cur.size /\ cur.toList.take xs.length = xs
theorem RB.lt {w : World} {b : Nat} {t : TypeId} {xs : List Value} (h : RB w b t xs) : b < w.heap.size := by
 obtain ⟨cur, h1, _⟩ := h
 exact lt_of_block h1
theorem RB.kept {w w' : World} {b : Nat} {t : TypeId} {xs : List Value} (h : RB w b t xs) (hb : w'.heap[b]? = w.heap[b]?) : RB w' b t xs := by
 obtain ⟨cur, h1, h2⟩ := h
 exact ⟨cur, hb.trans h1, h2⟩
theorem RB.later {w w' : World} {b : Nat} {t : TypeId} {xs : List Value} (h : RB w b t xs) (hb : Below w.heap.size w w') : RB w' b t xs := h.kept (hb.block b h.lt)
theorem RB.cell {w : World} {b : Nat} {t : TypeId} {xs : List Value} (h : RB w b t xs) {i : Nat} {u : Value} (hi : xs[i]? = some u) : w.cell? ⟨b, i, none⟩ = some u := by
 obtain ⟨cur, h1, h2, h3⟩ := h
 rw [cellq_any h1]
 have hlt : i < xs.length := (List.getElem?_eq_some_iff.1 hi).1
 rw [<- h3, List.getElem?_take] at hi
 rw [if_pos hlt] at hi
 simpa using hi
theorem RB.free {w : World} {b : Nat} {t : TypeId} {xs : List Value} (h : RB w b t xs) (i : Nat) : w.frozen? ⟨b, i, none⟩ = false := by
 obtain ⟨cur, h1, _⟩ := h
 simp [World.frozen?, h1]
theorem RB.set {w : World} {b : Nat} {t : TypeId} {xs : List Value} (h : RB w b t xs) (i : Nat) (u : Value) : RB (w.setCell ⟨b, i, none⟩ u) b t (xs.set i u) := by
 obtain ⟨cur, h1, h2, h3⟩ := h
 refine ⟨_, heap_set h1 i u, by simpa using h2, ?_⟩
 rw [Array.toList_setIfInBounds, List.length_set, List.take_set, h3]
theorem RB.other {w : World} {b b' : Nat} {t : TypeId} {xs : List Value} (h : RB w b t xs) (hne : b ≠ b') (i : Nat) (u : Value) : RB (w.setCell ⟨b', i, none⟩ u) b t xs := h.kept (Below.heap_setCell _ _ _ _ hne)
theorem RB.of_own {w : World} {base : Nat} {t : TypeId} {sz g n c : Nat} {xs : List Value} (h : w.ownsRow base t sz (.slice (some ⟨g, 0, none⟩) n c) n xs) : RB w g t xs /\ base <= g /\ n <= c := by
 obtain ⟨hl, h | ⟨g', cap, cur, e, h1, h2, h3, _, h5, h6⟩⟩ := h
 ·exact absurd h.1 (by simp)
 ·simp only [Value.slice.injEq, Option.some.injEq, Addr.mk.injEq, true_and, and_true] at e
  obtain ⟨rfl, rfl⟩ := e
  exact ⟨⟨cur, h2, by rw [h5, hl]; exact Nat.mul_le_mul_right _ h3, by rw [hl]; exact h6⟩, h1, h3⟩
end Go.Proofs.Ytlkkllehaabebaa
namespace Go.Proofs.Ytlkkllehaabebaa
set_option linter.unusedVariables false
set_option maxRecDepth 100000
set_option maxHeartbeats 16000000
open Go.RowKit
def ablk (a : Option Addr) : Nat := match a with
 | some x => x.block
 | none => 0
theorem proCells_set {l : List PV} {k : Nat} {q : PV} (hk : k < l.length) : proCells (l.set k q) = (((proCells l).set (k * 3) (.int .i64 q.left)).set (k * 3 + 1) (.slice q.ra q.right.length q.rc)).set (k * 3 + 2) (.int .i64 q.prec) := by
 induction l generalizing k with
 | nil => simp at hk
 | cons a r ih =>
  cases k with
  | zero => simp [proCells]
  | succ k =>
   have e1 : ∀ m : List PV, proCells (a :: m) = .int .i64 a.left :: .slice a.ra a.right.length a.rc :: .int .i64 a.prec :: proCells m := fun m => rfl
   rw [List.set_cons_succ, e1, e1, ih (by simpa using hk), show (k + 1) * 3 = k * 3 + 1 + 1 + 1 by omega, show k * 3 + 1 + 1 + 1 + 1 = (k * 3 + 1) + 1 + 1 + 1 by omega, show k * 3 + 1 + 1 + 1 + 2 = (k * 3 + 2) + 1 + 1 + 1 by omega]
   simp only [List.set_cons_succ]
theorem levCells_set {l : List LV} {k : Nat} {q : LV} (hk : k < l.length) : levCells (l.set k q) = ((levCells l).set (k * 2) (.int .i64 q.assoc)).set (k * 2 + 1) (.slice q.ta q.terms.length q.tc) := by
 induction l generalizing k with
 | nil => simp at hk
 | cons a r ih =>
  cases k with
  | zero => simp [levCells]
  | succ k =>
   have e1 : ∀ m : List LV, levCells (a :: m) = .int .i64 a.assoc :: .slice a.ta a.terms.length a.tc :: levCells m := fun m => rfl
   rw [List.set_cons_succ, e1, e1, ih (by simpa using hk), show (k + 1) * 2 = k * 2 + 1 + 1 by omega, show k * 2 + 1 + 1 + 1 = (k * 2 + 1) + 1 + 1 by omega]
   simp only [List.set_cons_succ]
theorem set_same {α : Type} {l : List α} {k : Nat} {x : α} (h : l[k]? = some x) : l.set k x = l := by
 obtain ⟨hk, rfl⟩ := List.getElem?_eq_some_iff.1 h
 exact List.set_getElem_self hk
theorem getD_set_eq {α : Type} {l : List α} {k : Nat} {q d : α} (hk : k < l.length) : (l.set k q).getD k d = q := by simp [List.getD, hk]
theorem getD_set_ne {α : Type} {l : List α} {k i : Nat} {q d : α} (h : i ≠ k) : (l.set k q).getD i d = l.getD i d := by
 simp only [List.getD, List.getElem?_set]
 rw [if_neg (fun e => h e.symm)]
structure PM (B H : Nat) (w : World) (pb k : Nat) (l : List PV) : Prop where
 row : RB w pb 83 (proCells l)
 lo : B <= pb /\ pb < H
 each : ∀ i, i < k -> (l.getD i .none).right ≠ [] -> (l.getD i .none).ra = some ⟨ablk (l.getD i .none).ra, 0, none⟩ /\ (B <= ablk (l.getD i .none).ra /\ ablk (l.getD i .none).ra < H) /\ ablk (l.getD i .none).ra ≠ pb /\ RB w (ablk (l.getD i .none).ra) 113 (symCells (l.getD i .none).right)
 two : ∀ i j, i < k -> j < k -> i ≠ j -> (l.getD i .none).right ≠ [] -> (l.getD j .none).right ≠ [] -> ablk (l.getD i .none).ra ≠ ablk (l.getD j .none).ra
structure LMt (B H : Nat) (w : World) (pb k : Nat) (l : List LV) : Prop where
 row : RB w pb 76 (levCells l)
 lo : B <= pb /\ pb < H
 each : ∀ i, i < k -> (l.getD i .none).terms ≠ [] -> (l.getD i .none).ta = some ⟨ablk (l.getD i .none).ta, 0, none⟩ /\ (B <= ablk (l.getD i .none).ta /\ ablk (l.getD i .none).ta < H) /\ ablk (l.getD i .none).ta ≠ pb /\ RB w (ablk (l.getD i .none).ta) 3 ((l.getD i .none).terms.map (.int .i64 ·))
 two : ∀ i j, i < k -> j < k -> i ≠ j -> (l.getD i .none).terms ≠ [] -> (l.getD j .none).terms ≠ [] -> ablk (l.getD i .none).ta ≠ ablk (l.getD j .none).ta
theorem PM.kept {B H : Nat} {w w' : World} {pb k : Nat} {l : List PV} (h : PM B H w pb k l) (hb : ∀ j, B <= j -> j < H -> w'.heap[j]? = w.heap[j]?) : PM B H w' pb k l :=
 ⟨h.row.kept (hb _ h.lo.1 h.lo.2), h.lo, fun i hi hr => ⟨(h.each i hi hr).1, (h.each i hi hr).2.1, (h.each i hi hr).2.2.1, (h.each i hi hr).2.2.2.kept (hb _ (h.each i hi hr).2.1.1 (h.each i hi hr).2.1.2)⟩, h.two⟩
theorem LMt.kept {B H : Nat} {w w' : World} {pb k : Nat} {l : List LV} (h : LMt B H w pb k l) (hb : ∀ j, B <= j -> j < H -> w'.heap[j]? = w.heap[j]?) : LMt B H w' pb k l :=
 ⟨h.row.kept (hb _ h.lo.1 h.lo.2), h.lo, fun i hi hr => ⟨(h.each i hi hr).1, (h.each i hi hr).2.1, (h.each i hi hr).2.2.1, (h.each i hi hr).2.2.2.kept (hb _ (h.each i hi hr).2.1.1 (h.each i hi hr).2.1.2)⟩, h.two⟩
theorem PM.mono {B H H' : Nat} {w : World} {pb k : Nat} {l : List PV} (h : PM B H w pb k l) (hH : H <= H') : PM B H' w pb k l :=
 ⟨h.row, ⟨h.lo.1, Nat.lt_of_lt_of_le h.lo.2 hH⟩, fun i hi hr => ⟨(h.each i hi hr).1, ⟨(h.each i hi hr).2.1.1, Nat.lt_of_lt_of_le (h.each i hi hr).2.1.2 hH⟩, (h.each i hi hr).2.2⟩, h.two⟩
theorem LMt.mono {B H H' : Nat} {w : World} {pb k : Nat} {l : List LV} (h : LMt B H w pb k l) (hH : H <= H') : LMt B H' w pb k l :=
 ⟨h.row, ⟨h.lo.1, Nat.lt_of_lt_of_le h.lo.2 hH⟩, fun i hi hr => ⟨(h.each i hi hr).1, ⟨(h.each i hi hr).2.1.1, Nat.lt_of_lt_of_le (h.each i hi hr).2.1.2 hH⟩, (h.each i hi hr).2.2⟩, h.two⟩
theorem PM.later {B H : Nat} {w w' : World} {pb k : Nat} {l : List PV} (h : PM B H w pb k l) (hH : H <= w.heap.size) (hb : Below w.heap.size w w') : PM B H w' pb k l := h.kept fun j _ hj => hb.block j (Nat.lt_of_lt_of_le hj hH)
theorem LMt.later {B H : Nat} {w w' : World} {pb k : Nat} {l : List LV} (h : LMt B H w pb k l) (hH : H <= w.heap.size) (hb : Below w.heap.size w w') : LMt B H w' pb k l := h.kept fun j _ hj => hb.block j (Nat.lt_of_lt_of_le hj hH)
theorem PM.push {B H : Nat} {w : World} {pb k : Nat} {l : List PV} (h : PM B H w pb k l) (hk : k < l.length) (a : Option Addr) (c : Nat) (H' : Nat) (hH : H <= H')
  (hn : (l.getD k .none).right ≠ [] -> ∃ b, a = some ⟨b, 0, none⟩ /\ H <= b /\ b < H' /\ RB w b 113 (symCells (l.getD k .none).right)) :
  PM B H' (w.setCell ⟨pb, k * 3 + 1, none⟩ (.slice a (l.getD k .none).right.length c)) pb (k + 1) (l.set k { l.getD k .none with ra := a, rc := c }) := by
 have hg := proCells_get l k hk
 have hcs : proCells (l.set k { l.getD k .none with ra := a, rc := c }) = (proCells l).set (k * 3 + 1) (.slice a (l.getD k .none).right.length c) := by
  rw [proCells_set hk, set_same hg.1, List.set_comm _ _ (by omega), set_same hg.2.2]
 have hB := h.lo.1
 refine ⟨hcs ▸ h.row.set _ _, ⟨h.lo.1, Nat.lt_of_lt_of_le h.lo.2 hH⟩, fun i hi hr => ?_, fun i j hi hj hij hri hrj => ?_⟩
 ·by_cases e : i = k
  ·subst e
   rw [getD_set_eq hk] at hr ⊢
   obtain ⟨b, rfl, h1, h2, h3⟩ := hn hr
   have hlo := h.lo
   have hne : b ≠ pb := by omega
   exact ⟨rfl, ⟨by show B <= b; omega, h2⟩, hne, h3.other hne _ _⟩
  ·rw [getD_set_ne e] at hr ⊢
   obtain ⟨h1, h2, h3, h4⟩ := h.each i (by omega) hr
   exact ⟨h1, ⟨h2.1, Nat.lt_of_lt_of_le h2.2 hH⟩, h3, h4.other h3 _ _⟩
 ·by_cases ei : i = k
  ·subst ei
   rw [getD_set_eq hk] at hri ⊢
   rw [getD_set_ne (Ne.symm hij)] at hrj ⊢
   obtain ⟨b, rfl, h1, _⟩ := hn hri
   have := (h.each j (by omega) hrj).2.1.2
   show b ≠ _
   omega
  ·rw [getD_set_ne ei] at hri ⊢
   by_cases ej : j = k
   ·subst ej
    rw [getD_set_eq hk] at hrj ⊢
    obtain ⟨b, rfl, h1, _⟩ := hn hrj
    have := (h.each i (by omega) hri).2.1.2
    show _ ≠ b
    omega
   ·rw [getD_set_ne ej] at hrj ⊢
    exact h.two i j (by omega) (by omega) hij hri hrj
theorem LMt.push {B H : Nat} {w : World} {pb k : Nat} {l : List LV} (h : LMt B H w pb k l) (hk : k < l.length) (a : Option Addr) (c : Nat) (H' : Nat) (hH : H <= H')
  (hn : (l.getD k .none).terms ≠ [] -> ∃ b, a = some ⟨b, 0, none⟩ /\ H <= b /\ b < H' /\ RB w b 3 ((l.getD k .none).terms.map (.int .i64 ·))) :
  LMt B H' (w.setCell ⟨pb, k * 2 + 1, none⟩ (.slice a (l.getD k .none).terms.length c)) pb (k + 1) (l.set k { l.getD k .none with ta := a, tc := c }) := by
 have hg := levCells_get l k hk
 have hcs : levCells (l.set k { l.getD k .none with ta := a, tc := c }) = (levCells l).set (k * 2 + 1) (.slice a (l.getD k .none).terms.length c) := by
  rw [levCells_set hk, set_same hg.1]
 have hB := h.lo.1
 refine ⟨hcs ▸ h.row.set _ _, ⟨h.lo.1, Nat.lt_of_lt_of_le h.lo.2 hH⟩, fun i hi hr => ?_, fun i j hi hj hij hri hrj => ?_⟩
 ·by_cases e : i = k
  ·subst e
   rw [getD_set_eq hk] at hr ⊢
   obtain ⟨b, rfl, h1, h2, h3⟩ := hn hr
   have hlo := h.lo
   have hne : b ≠ pb := by omega
   exact ⟨rfl, ⟨by show B <= b; omega, h2⟩, hne, h3.other hne _ _⟩
  ·rw [getD_set_ne e] at hr ⊢
   obtain ⟨h1, h2, h3, h4⟩ := h.each i (by omega) hr
   exact ⟨h1, ⟨h2.1, Nat.lt_of_lt_of_le h2.2 hH⟩, h3, h4.other h3 _ _⟩
 ·by_cases ei : i = k
  ·subst ei
   rw [getD_set_eq hk] at hri ⊢
   rw [getD_set_ne (Ne.symm hij)] at hrj ⊢
   obtain ⟨b, rfl, h1, _⟩ := hn hri
   have := (h.each j (by omega) hrj).2.1.2
   show b ≠ _
   omega
  ·rw [getD_set_ne ei] at hri ⊢
   by_cases ej : j = k
   ·subst ej
    rw [getD_set_eq hk] at hrj ⊢
    obtain ⟨b, rfl, h1, _⟩ := hn hrj
    have := (h.each i (by omega) hri).2.1.2
    show _ ≠ b
    omega
   ·rw [getD_set_ne ej] at hrj ⊢
    exact h.two i j (by omega) (by omega) hij hri hrj
theorem PM.turn {B H : Nat} {w w' : World} {pb k : Nat} {l : List PV} (h : PM B H w pb k l) (hkl : k <= l.length) {i : Nat} (hi : i < k) (hr : (l.getD i .none).right ≠ []) (r : List (Int × Int)) (hl : r.length = (l.getD i .none).right.length)
  (hb : ∀ j, B <= j -> j < H -> j ≠ ablk (l.getD i .none).ra -> w'.heap[j]? = w.heap[j]?) (hn : RB w' (ablk (l.getD i .none).ra) 113 (symCells r)) : PM B H w' pb k (l.set i { l.getD i .none with right := r }) := by
 have hil : i < l.length := by omega
 have hg := proCells_get l i hil
 have hcs : proCells (l.set i { l.getD i .none with right := r }) = proCells l := by
  rw [proCells_set hil, set_same hg.1]
  simp only [hl]
  rw [set_same hg.2.1, set_same hg.2.2]
 obtain ⟨q1, q2, q3, q4⟩ := h.each i hi hr
 have hrn : ∀ j, j < k -> j ≠ i -> (l.getD j .none).right ≠ [] -> ablk (l.getD j .none).ra ≠ ablk (l.getD i .none).ra := fun j hj hji hrj => h.two j i hj hi hji hrj hr
 refine ⟨hcs ▸ h.row.kept (hb _ h.lo.1 h.lo.2 (Ne.symm q3)), h.lo, fun j hj hrj => ?_, fun x y hx hy hxy hrx hry => ?_⟩
 ·by_cases e : j = i
  ·subst e
   rw [getD_set_eq hil]
   exact ⟨q1, q2, q3, hn⟩
  ·rw [getD_set_ne e] at hrj ⊢
   obtain ⟨h1, h2, h3, h4⟩ := h.each j hj hrj
   exact ⟨h1, h2, h3, h4.kept (hb _ h2.1 h2.2 (hrn j hj e hrj))⟩
 ·have hz : ∀ z, z < k -> ((l.set i { l.getD i .none with right := r }).getD z .none).right ≠ [] -> ((l.set i { l.getD i .none with right := r }).getD z .none).ra = (l.getD z .none).ra /\ (l.getD z .none).right ≠ [] := fun z _ hrz => by
   by_cases e : z = i
   ·subst e; rw [getD_set_eq hil]; exact ⟨rfl, hr⟩
   ·rw [getD_set_ne e] at hrz ⊢; exact ⟨rfl, hrz⟩
  rw [(hz x hx hrx).1, (hz y hy hry).1]
  exact h.two x y hx hy hxy (hz x hx hrx).2 (hz y hy hry).2
theorem LMt.turn {B H : Nat} {w w' : World} {pb k : Nat} {l : List LV} (h : LMt B H w pb k l) (hkl : k <= l.length) {i : Nat} (hi : i < k) (hr : (l.getD i .none).terms ≠ []) (r : List Int) (hl : r.length = (l.getD i .none).terms.length)
  (hb : ∀ j, B <= j -> j < H -> j ≠ ablk (l.getD i .none).ta -> w'.heap[j]? = w.heap[j]?) (hn : RB w' (ablk (l.getD i .none).ta) 3 (r.map (.int .i64 ·))) : LMt B H w' pb k (l.set i { l.getD i .none with terms := r }) := by
 have hil : i < l.length := by omega
 have hg := levCells_get l i hil
 have hcs : levCells (l.set i { l.getD i .none with terms := r }) = levCells l := by
  rw [levCells_set hil, set_same hg.1]
  simp only [hl]
  rw [set_same hg.2]
 obtain ⟨q1, q2, q3, q4⟩ := h.each i hi hr
 have hrn : ∀ j, j < k -> j ≠ i -> (l.getD j .none).terms ≠ [] -> ablk (l.getD j .none).ta ≠ ablk (l.getD i .none).ta := fun j hj hji hrj => h.two j i hj hi hji hrj hr
 refine ⟨hcs ▸ h.row.kept (hb _ h.lo.1 h.lo.2 (Ne.symm q3)), h.lo, fun j hj hrj => ?_, fun x y hx hy hxy hrx hry => ?_⟩
 ·by_cases e : j = i
  ·subst e
   rw [getD_set_eq hil]
   exact ⟨q1, q2, q3, hn⟩
  ·rw [getD_set_ne e] at hrj ⊢
   obtain ⟨h1, h2, h3, h4⟩ := h.each j hj hrj
   exact ⟨h1, h2, h3, h4.kept (hb _ h2.1 h2.2 (hrn j hj e hrj))⟩
 ·have hz : ∀ z, z < k -> ((l.set i { l.getD i .none with terms := r }).getD z .none).terms ≠ [] -> ((l.set i { l.getD i .none with terms := r }).getD z .none).ta = (l.getD z .none).ta /\ (l.getD z .none).terms ≠ [] := fun z _ hrz => by
   by_cases e : z = i
   ·subst e; rw [getD_set_eq hil]; exact ⟨rfl, hr⟩
   ·rw [getD_set_ne e] at hrz ⊢; exact ⟨rfl, hrz⟩
  rw [(hz x hx hrx).1, (hz y hy hry).1]
  exact h.two x y hx hy hxy (hz x hx hrx).2 (hz y hy hry).2
theorem PM.left {B H : Nat} {w : World} {pb k : Nat} {l : List PV} (h : PM B H w pb k l) {i : Nat} (hi : i < l.length) (x : Int) :
  PM B H (w.setCell ⟨pb, i * 3, none⟩ (.int .i64 x)) pb k (l.set i { l.getD i .none with left := x }) := by
 have hg := proCells_get l i hi
 have hcs : proCells (l.set i { l.getD i .none with left := x }) = (proCells l).set (i * 3) (.int .i64 x) := by
  rw [proCells_set hi]
  dsimp only
  rw [set_same (l := (proCells l).set (i * 3) (.int .i64 x)) (by rw [List.getElem?_set_ne (by omega)]; exact hg.2.1), set_same (l := (proCells l).set (i * 3) (.int .i64 x)) (by rw [List.getElem?_set_ne (by omega)]; exact hg.2.2)]
 have hz : ∀ z, ((l.set i { l.getD i .none with left := x }).getD z .none).ra = (l.getD z .none).ra /\ ((l.set i { l.getD i .none with left := x }).getD z .none).right = (l.getD z .none).right := fun z => by
  by_cases e : z = i
  ·subst e; rw [getD_set_eq hi]; exact ⟨rfl, rfl⟩
  ·rw [getD_set_ne e]; exact ⟨rfl, rfl⟩
 refine ⟨hcs ▸ h.row.set _ _, h.lo, fun j hj hr => ?_, fun a b ha hb hab hra hrb => ?_⟩
 ·rw [(hz j).2] at hr
  rw [(hz j).1, (hz j).2]
  obtain ⟨h1, h2, h3, h4⟩ := h.each j hj hr
  exact ⟨h1, h2, h3, h4.other h3 _ _⟩
 ·rw [(hz a).1, (hz b).1]
  rw [(hz a).2] at hra
  rw [(hz b).2] at hrb
  exact h.two a b ha hb hab hra hrb
theorem PM.prec {B H : Nat} {w : World} {pb k : Nat} {l : List PV} (h : PM B H w pb k l) {i : Nat} (hi : i < l.length) (x : Int) :
  PM B H (w.setCell ⟨pb, i * 3 + 2, none⟩ (.int .i64 x)) pb k (l.set i { l.getD i .none with prec := x }) := by
 have hg := proCells_get l i hi
 have hcs : proCells (l.set i { l.getD i .none with prec := x }) = (proCells l).set (i * 3 + 2) (.int .i64 x) := by
  rw [proCells_set hi]
  dsimp only
  rw [set_same hg.1, set_same hg.2.1]
 have hz : ∀ z, ((l.set i { l.getD i .none with prec := x }).getD z .none).ra = (l.getD z .none).ra /\ ((l.set i { l.getD i .none with prec := x }).getD z .none).right = (l.getD z .none).right := fun z => by
  by_cases e : z = i
  ·subst e; rw [getD_set_eq hi]; exact ⟨rfl, rfl⟩
  ·rw [getD_set_ne e]; exact ⟨rfl, rfl⟩
 refine ⟨hcs ▸ h.row.set _ _, h.lo, fun j hj hr => ?_, fun a b ha hb hab hra hrb => ?_⟩
 ·rw [(hz j).2] at hr
  rw [(hz j).1, (hz j).2]
  obtain ⟨h1, h2, h3, h4⟩ := h.each j hj hr
  exact ⟨h1, h2, h3, h4.other h3 _ _⟩
 ·rw [(hz a).1, (hz b).1]
  rw [(hz a).2] at hra
  rw [(hz b).2] at hrb
  exact h.two a b ha hb hab hra hrb
theorem symRow_of {w : World} {b : Nat} {l : List (Int × Int)} (h : RB w b 113 (symCells l)) : SymRow w (some ⟨b, 0, none⟩) l := by
 intro _
 refine ⟨b, 0, rfl, h.lt, fun i hi => ?_⟩
 obtain ⟨q1, q2⟩ := symCells_get l i hi
 have r1 := h.cell q1
 have r2 := h.cell q2
 exact ⟨by simpa using r1, by simpa [Nat.add_assoc] using r2⟩
theorem PM.at {B H : Nat} {w : World} {pb : Nat} {l : List PV} (h : PM B H w pb l.length l) : PrRow w (some ⟨pb, 0, none⟩) l := by
 refine ⟨fun _ => ⟨pb, 0, rfl, h.row.lt, fun i hi => ?_⟩, fun p hp => ?_⟩
 ·obtain ⟨q1, q2, q3⟩ := proCells_get l i hi
  exact ⟨by simpa using h.row.cell q1, by simpa [Nat.add_assoc] using h.row.cell q2, by simpa [Nat.add_assoc] using h.row.cell q3⟩
 ·obtain ⟨i, hi, rfl⟩ := List.getElem_of_mem hp
  have e : l.getD i .none = l[i] := by simp [List.getD, hi]
  intro hr
  have h2 := h.each i hi (by rw [e]; exact hr)
  rw [e] at h2
  have h3 := symRow_of h2.2.2.2 hr
  rw [h2.1]
  exact h3
theorem inRow_of {w : World} {b : Nat} {l : List Int} (h : RB w b 3 (l.map (.int .i64 ·))) : InRow w (some ⟨b, 0, none⟩) l := by
 intro _
 refine ⟨b, 0, rfl, h.lt, fun i hi => ?_⟩
 have r1 := h.cell (i := i) (u := .int .i64 (l.getD i 0)) (by simp [List.getD, hi])
 simpa using r1
theorem LMt.at {B H : Nat} {w : World} {pb : Nat} {l : List LV} (h : LMt B H w pb l.length l) : LvRow w (some ⟨pb, 0, none⟩) l := by
 refine ⟨fun _ => ⟨pb, 0, rfl, h.row.lt, fun i hi => ?_⟩, fun p hp => ?_⟩
 ·obtain ⟨q1, q2⟩ := levCells_get l i hi
  exact ⟨by simpa using h.row.cell q1, by simpa [Nat.add_assoc] using h.row.cell q2⟩
 ·obtain ⟨i, hi, rfl⟩ := List.getElem_of_mem hp
  have e : l.getD i .none = l[i] := by simp [List.getD, hi]
  intro hr
  have h2 := h.each i hi (by rw [e]; exact hr)
  rw [e] at h2
  have h3 := inRow_of h2.2.2.2 hr
  rw [h2.1]
  exact h3
structure CBx (n0 : Nat) (w0 : World) (arr : Array Value) (w : World) : Prop where
 box : w.heap[n0]? = some (.cells arr 26 (0, 0))
 out : w.heap[n0 + 1]? = some (.cells #[.slice none 0 0, .slice none 0 0, .int .i64 0, .slice none 0 0, .slice none 0 0] 26 (0, 0))
 bel : Below n0 w0 w
theorem CBx.later {n0 : Nat} {w0 w w' : World} {arr : Array Value} (h : CBx n0 w0 arr w) (hb : Below w.heap.size w w') : CBx n0 w0 arr w' :=
 ⟨(hb.block _ (lt_of_block h.box)).trans h.box, (hb.block _ (lt_of_block h.out)).trans h.out, h.bel.trans (hb.mono (Nat.le_of_lt (lt_of_block h.box)))⟩
theorem CBx.set {n0 : Nat} {w0 w : World} {arr : Array Value} (h : CBx n0 w0 arr w) (i : Nat) (u : Value) : CBx n0 w0 (arr.setIfInBounds i u) (w.setCell ⟨n0, i, none⟩ u) :=
 ⟨heap_set h.box i u, (Below.heap_setCell _ _ _ _ (show n0 + 1 ≠ n0 by omega)).trans h.out, h.bel.setCell (p := ⟨n0, i, none⟩) (Nat.le_refl _) u⟩
theorem CBx.put {n0 : Nat} {w0 w : World} {arr : Array Value} (h : CBx n0 w0 arr w) (b i : Nat) (u : Value) (hb : n0 + 2 <= b) : CBx n0 w0 arr (w.setCell ⟨b, i, none⟩ u) :=
 ⟨(Below.heap_setCell _ _ _ _ (show n0 ≠ b by omega)).trans h.box, (Below.heap_setCell _ _ _ _ (show n0 + 1 ≠ b by omega)).trans h.out, h.bel.setCell (p := ⟨b, i, none⟩) (by show n0 <= b; omega) u⟩
theorem strCells {w : World} {ao : Option Addr} {l : List ByteArray} (h : StrRow w ao l) : l.map Value.string ≠ [] -> ∃ b off, ao = some ⟨b, off, none⟩ /\ b < w.heap.size /\ ∀ j u, (l.map Value.string)[j]? = some u -> w.cell? ⟨b, off + j, none⟩ = some u := by
 intro hne
 obtain ⟨b, off, e, hb, hc⟩ := h (by intro e; subst e; simp at hne)
 refine ⟨b, off, e, hb, fun j u hu => ?_⟩
 have hj : j < l.length := by have := (List.getElem?_eq_some_iff.1 hu).1; simpa using this
 rw [hc j hj]
 simp [List.getD, hj] at hu ⊢
 exact hu
theorem wpAnyX_takeC {P : Program} {ops : Array Oper} {Q : Exit -> Act -> World -> Prop} {md : Region.Mode} {i : Nat} {oi : Oper} {v : Value} {S0 : World -> Prop} {fuel : Nat} {listed : Array Bool} {a : Act} {w : World} (hi' : ops.toList[i]? = some oi)
  (hs : Region.noSelect ops = true) (hf : Region.free md ops listed i = true) (hr : (Region.ready md ops listed).contains i = true)
  (hQ : ∀ c a w, Q (.panic c) (a.put oi.dst v) w -> Q (.panic c) a w) (hy : YieldsIf P ops S0 oi v a) (hS : S0 w)
  (h : wpAnyX P md ops Q (fun _ => S0) fuel (listed.setIfInBounds i true) (a.put oi.dst v) w) : wpAnyX P md ops Q (fun _ => S0) (fuel + 1) listed a w :=
 have hi : ops[i]? = some oi := by rw [<- Array.getElem?_toList]; exact hi'
 wpAnyX_first (Cl := fun _ => True) (T := S0) hi (Region.noSelect_spec hs) hQ (fun _ _ _ _ => trivial) (fun _ _ _ _ h => h) (fun _ _ => Iff.rfl) fuel listed a w (Region.free_spec hi hf) (by simpa using hr) trivial hy hS h
theorem alloc_at (w : World) (o : Obj) : (w.alloc o).heap[w.heap.size]? = some o := heap_alloc_new w o
theorem wtC {P : Program} {ops : Array Oper} {Q : Exit → Act → World → Prop} {md : Region.Mode} {i : Nat} {oi : Oper} {v : Value} {S0 : World → Prop} {fuel : Nat} {listed : Array Bool} {a : Act} {w : World} (hi' : ops.toList[i]? = some oi) (hy : YieldsIf P ops S0 oi v a) (hS : S0 w) (h : wpAnyX P md ops Q (fun _ => S0) fuel (listed.setIfInBounds i true) (a.put oi.dst v) w)
    (hs : Region.noSelect ops = true := by kernel_rfl) (hf : Region.free md ops listed i = true := by decide +kernel) (hr : (Region.ready md ops listed).contains i = true := by decide +kernel) (hQ : ∀ c a w, Q (.panic c) (a.put oi.dst v) w → Q (.panic c) a w := by exact fun _ _ _ h => h) : wpAnyX P md ops Q (fun _ => S0) (fuel + 1) listed a w := wpAnyX_takeC hi' hs hf hr hQ hy hS h
theorem cb_start (g : GV) (w : World) : CBx w.heap.size w #[.slice g.ta g.ts.length g.tc, .slice g.na g.ns.length g.nc, .int .i64 g.start, .slice g.pa g.ps.length g.pc, .slice g.la g.ls.length g.lc] ((w.alloc (.cells #[.slice g.ta g.ts.length g.tc, .slice g.na g.ns.length g.nc, .int .i64 g.start, .slice g.pa g.ps.length g.pc, .slice g.la g.ls.length g.lc] 26)).alloc (.cells #[.slice none 0 0, .slice none 0 0, .int .i64 0, .slice none 0 0, .slice none 0 0] 26)) := by
 obtain ⟨h1, h2, h3⟩ := two_alloc w (.cells #[.slice g.ta g.ts.length g.tc, .slice g.na g.ns.length g.nc, .int .i64 g.start, .slice g.pa g.ps.length g.pc, .slice g.la g.ls.length g.lc] 26) (.cells #[.slice none 0 0, .slice none 0 0, .int .i64 0, .slice none 0 0, .slice none 0 0] 26)
 exact ⟨h2, h3, h1⟩
theorem levCells_one (l : List LV) : ∀ u ∈ levCells l, u.oneCell' = true := by
 intro u hu
 obtain ⟨q, _, h⟩ := List.mem_flatMap.1 hu
 simp at h
 rcases h with rfl | rfl <;> rfl
theorem symCells_one (l : List (Int × Int)) : ∀ u ∈ symCells l, u.oneCell' = true := by
 intro u hu
 obtain ⟨q, _, h⟩ := List.mem_flatMap.1 hu
 simp at h
 rcases h with rfl | rfl <;> rfl
theorem levRow_cells {w : World} {ao : Option Addr} {l : List LV} (h : LvRow w ao l) : levCells l ≠ [] -> ∃ b off, ao = some ⟨b, off, none⟩ /\ b < w.heap.size /\ ∀ j u, (levCells l)[j]? = some u -> w.cell? ⟨b, off + j, none⟩ = some u := by
 intro hne
 obtain ⟨b, off, e, hb, hc⟩ := h.cells (by intro e; subst e; exact hne rfl)
 refine ⟨b, off, e, hb, fun j u hu => ?_⟩
 have hj : j < l.length * 2 := by have := (List.getElem?_eq_some_iff.1 hu).1; rwa [levCells_len] at this
 have hk : j / 2 < l.length := by omega
 obtain ⟨q1, q2⟩ := levCells_get l (j / 2) hk
 obtain ⟨c1, c2⟩ := hc (j / 2) hk
 have hm : j = j / 2 * 2 ∨ j = j / 2 * 2 + 1 := by omega
 rcases hm with e' | e'
 ·rw [e', q1] at hu; rw [e', <- hu]; exact c1
 ·rw [e', q2] at hu; rw [e', <- hu, <- Nat.add_assoc]; exact c2
theorem symRow_cells {w : World} {ao : Option Addr} {l : List (Int × Int)} (h : SymRow w ao l) : symCells l ≠ [] -> ∃ b off, ao = some ⟨b, off, none⟩ /\ b < w.heap.size /\ ∀ j u, (symCells l)[j]? = some u -> w.cell? ⟨b, off + j, none⟩ = some u := by
 intro hne
 obtain ⟨b, off, e, hb, hc⟩ := h (by intro e; subst e; exact hne rfl)
 refine ⟨b, off, e, hb, fun j u hu => ?_⟩
 have hj : j < l.length * 2 := by have := (List.getElem?_eq_some_iff.1 hu).1; rwa [symCells_len] at this
 have hk : j / 2 < l.length := by omega
 obtain ⟨q1, q2⟩ := symCells_get l (j / 2) hk
 obtain ⟨c1, c2⟩ := hc (j / 2) hk
 have hm : j = j / 2 * 2 ∨ j = j / 2 * 2 + 1 := by omega
 rcases hm with e' | e'
 ·rw [e', q1] at hu; rw [e', <- hu]; exact c1
 ·rw [e', q2] at hu; rw [e', <- hu, <- Nat.add_assoc]; exact c2
theorem inRow_cells {w : World} {ao : Option Addr} {l : List Int} (h : InRow w ao l) : (l.map (Value.int .i64 ·)) ≠ [] -> ∃ b off, ao = some ⟨b, off, none⟩ /\ b < w.heap.size /\ ∀ j u, (l.map (Value.int .i64 ·))[j]? = some u -> w.cell? ⟨b, off + j, none⟩ = some u := by
 intro hne
 obtain ⟨b, off, e, hb, hc⟩ := h (by intro e; subst e; exact hne rfl)
 refine ⟨b, off, e, hb, fun j u hu => ?_⟩
 have hj : j < l.length := by have := (List.getElem?_eq_some_iff.1 hu).1; simpa using this
 rw [hc j hj]
 simp [List.getD, hj] at hu ⊢
 exact hu
theorem str_one (l : List ByteArray) : ∀ u ∈ l.map Value.string, u.oneCell' = true := by
 intro u hu
 obtain ⟨s, _, rfl⟩ := List.mem_map.1 hu
 rfl
theorem int_one (l : List Int) : ∀ u ∈ l.map (Value.int .i64 ·), u.oneCell' = true := by
 intro u hu
 obtain ⟨s, _, rfl⟩ := List.mem_map.1 hu
 rfl
theorem CBx.five {n0 : Nat} {w0 w : World} {arr : Array Value} (h : CBx n0 w0 arr w) (a b c d e : Value) :
  Below n0 w0 (((((w.setCell ⟨n0 + 1, 0, none⟩ a).setCell ⟨n0 + 1, 1, none⟩ b).setCell ⟨n0 + 1, 2, none⟩ c).setCell ⟨n0 + 1, 3, none⟩ d).setCell ⟨n0 + 1, 4, none⟩ e) /\ ∀ j, j ≠ n0 + 1 -> (((((w.setCell ⟨n0 + 1, 0, none⟩ a).setCell ⟨n0 + 1, 1, none⟩ b).setCell ⟨n0 + 1, 2, none⟩ c).setCell ⟨n0 + 1, 3, none⟩ d).setCell ⟨n0 + 1, 4, none⟩ e).heap[j]? = w.heap[j]? := by
 refine ⟨((((h.bel.setCell (p := ⟨n0 + 1, 0, none⟩) (by show n0 <= n0 + 1; omega) _).setCell (p := ⟨n0 + 1, 1, none⟩) (by show n0 <= n0 + 1; omega) _).setCell (p := ⟨n0 + 1, 2, none⟩) (by show n0 <= n0 + 1; omega) _).setCell (p := ⟨n0 + 1, 3, none⟩) (by show n0 <= n0 + 1; omega) _).setCell (p := ⟨n0 + 1, 4, none⟩) (by show n0 <= n0 + 1; omega) _, fun j hj => ?_⟩
 rw [Below.heap_setCell _ _ _ _ hj, Below.heap_setCell _ _ _ _ hj, Below.heap_setCell _ _ _ _ hj, Below.heap_setCell _ _ _ _ hj, Below.heap_setCell _ _ _ _ hj]
end Go.Proofs.Ytlkkllehaabebaa
