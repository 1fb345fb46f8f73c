import Derived.Test.YtobhemaikomdaaaGreatDoorPGDecToGE1
import Derived.Test.YtobhemaikomdaaaGreatDoorPTW3ToRegX
import Derived.Shelf.SlicesQ.Reverse
import Derived.Test.YtobhemaikomdaaaGreatDoorPGCheckCToGCheckD
namespace Go.Proofs.YtobhemaikomdaaaGreatDoor
set_option linter.unusedVariables false
open Go.RowKit
structure IsPerm (l : List Int) : Prop where
 lo : ∀ i, i < l.length -> 0 <= l.getD i 0 /\ l.getD i 0 < l.length
 one : ∀ i j, i < l.length -> j < i -> l.getD j 0 ≠ l.getD i 0
theorem nat_fit : ∀ (n : Nat) (l : List Nat), l.Nodup -> (∀ x ∈ l, x < n) -> l.length <= n
 | 0, l, _, h => by
  cases l with
  | nil => simp
  | cons a r => exact absurd (h a (by simp)) (by omega)
 | n + 1, l, hn, h => by
  by_cases hm : n ∈ l
  ·have h1 := nat_fit n (l.erase n) (hn.erase n) (fun x hx => by
    have h2 := h x (List.mem_of_mem_erase hx)
    have h3 : x ≠ n := fun e => by subst e; exact (List.Nodup.not_mem_erase hn) hx
    omega)
   rw [List.length_erase_of_mem hm] at h1
   omega
  ·have h1 := nat_fit n l hn (fun x hx => by
    have h2 := h x hx
    have h3 : x ≠ n := fun e => hm (e ▸ hx)
    omega)
   omega
theorem IsPerm.nodup {l : List Int} (h : IsPerm l) : (l.map Int.toNat).Nodup := by
 rw [List.nodup_iff_pairwise_ne, List.pairwise_iff_getElem]
 intro i j hi hj hij
 simp at hi hj
 have h1 := h.lo i hi
 have h2 := h.lo j hj
 have h3 := h.one j i hj hij
 simp [List.getD, hi, hj] at h1 h2 h3
 simp
 omega
theorem IsPerm.all {l : List Int} (h : IsPerm l) (k : Nat) (hk : k < l.length) : ∃ i, i < l.length /\ (l.getD i 0).toNat = k := by
 by_cases hm : k ∈ l.map Int.toNat
 ·obtain ⟨x, hx, e⟩ := List.mem_map.1 hm
  obtain ⟨i, hi, rfl⟩ := List.getElem_of_mem hx
  exact ⟨i, hi, by simp [List.getD, hi, e]⟩
 ·have h1 := nat_fit l.length (k :: l.map Int.toNat) (List.nodup_cons.2 ⟨hm, h.nodup⟩) (fun x hx => by
   rcases List.mem_cons.1 hx with rfl | hx
   ·exact hk
   ·obtain ⟨y, hy, rfl⟩ := List.mem_map.1 hx
    obtain ⟨i, hi, rfl⟩ := List.getElem_of_mem hy
    have := h.lo i hi
    simp [List.getD, hi] at this
    omega)
  simp at h1
  omega
def RB (w : World) (b : Nat) (t : TypeId) (xs : List Value) (c s : Nat) : Prop := ∃ cur, w.heap[b]? = some (.cells cur t (0, 0)) /\ xs.length <= cur.size /\ cur.toList.take xs.length = xs /\ cur.size = c * s /\ c <= maxLen
theorem RB.lt {w : World} {b : Nat} {t : TypeId} {xs : List Value} {c s : Nat} (h : RB w b t xs c s) : b < w.heap.size := by
 obtain ⟨cur, h1, _⟩ := h
 exact lt_of_block h1
theorem RB.kept {w w' : World} {b : Nat} {t : TypeId} {xs : List Value} {c s : Nat} (h : RB w b t xs c s) (hb : w'.heap[b]? = w.heap[b]?) : RB w' b t xs c s := by
 obtain ⟨cur, h1, h2⟩ := h
 exact ⟨cur, hb.trans h1, h2⟩
theorem RB.later {w w' : World} {b : Nat} {t : TypeId} {xs : List Value} {c s : Nat} (h : RB w b t xs c s) (hb : Below w.heap.size w w') : RB w' b t xs c s := h.kept (hb.block b h.lt)
theorem RB.cell {w : World} {b : Nat} {t : TypeId} {xs : List Value} {c s : Nat} (h : RB w b t xs c s) {i : Nat} {u : Value} (hi : xs[i]? = some u) : w.cell? ⟨b, i, none⟩ = some u := by
 obtain ⟨cur, h1, h2, h3, _⟩ := h
 rw [cellq_any h1]
 have hlt : i < xs.length := (List.getElem?_eq_some_iff.1 hi).1
 rw [<- h3, List.getElem?_take] at hi
 rw [if_pos hlt] at hi
 simpa using hi
theorem RB.free {w : World} {b : Nat} {t : TypeId} {xs : List Value} {c s : Nat} (h : RB w b t xs c s) (i : Nat) : w.frozen? ⟨b, i, none⟩ = false := by
 obtain ⟨cur, h1, _⟩ := h
 simp [World.frozen?, h1]
theorem RB.set {w : World} {b : Nat} {t : TypeId} {xs : List Value} {c s : Nat} (h : RB w b t xs c s) (i : Nat) (u : Value) : RB (w.setCell ⟨b, i, none⟩ u) b t (xs.set i u) c s := by
 obtain ⟨cur, h1, h2, h3, h4, h5⟩ := h
 refine ⟨_, heap_set h1 i u, by simpa using h2, ?_, by simpa using h4, h5⟩
 rw [Array.toList_setIfInBounds, List.length_set, List.take_set, h3]
theorem RB.other {w : World} {b b' : Nat} {t : TypeId} {xs : List Value} {c s : Nat} (h : RB w b t xs c s) (hne : b ≠ b') (i : Nat) (u : Value) : RB (w.setCell ⟨b', i, none⟩ u) b t xs c s := h.kept (Below.heap_setCell _ _ _ _ hne)
theorem RB.own {w : World} {t : TypeId} {sz g n c : Nat} {xs : List Value} (h : RB w g t xs c sz) (hl : xs.length = n * sz) (hn : n <= c) : w.ownsRow 0 t sz (.slice (some ⟨g, 0, none⟩) n c) n xs := by
 obtain ⟨cur, h1, h2, h3, h4, h5⟩ := h
 exact ⟨hl, .inr ⟨g, c, cur, rfl, Nat.zero_le _, h1, hn, h5, h4, hl ▸ h3⟩⟩
def ablk (a : Option Addr) : Nat := match a with
 | some x => x.block
 | none => 0
theorem proCells_set {l : List PV} {k : Nat} {q : PV} (hk : k < l.length) : proCells (l.set k q) = (((proCells l).set (k * 3) (.int .i64 q.left)).set (k * 3 + 1) (.slice q.ra q.right.length q.rc)).set (k * 3 + 2) (.int .i64 q.prec) := by
 induction l generalizing k with
 | nil => simp at hk
 | cons a r ih =>
  cases k with
  | zero => simp [proCells]
  | succ k =>
   have e1 : ∀ m : List PV, proCells (a :: m) = .int .i64 a.left :: .slice a.ra a.right.length a.rc :: .int .i64 a.prec :: proCells m := fun m => rfl
   rw [List.set_cons_succ, e1, e1, ih (by simpa using hk), show (k + 1) * 3 = k * 3 + 1 + 1 + 1 by omega, show k * 3 + 1 + 1 + 1 + 1 = (k * 3 + 1) + 1 + 1 + 1 by omega, show k * 3 + 1 + 1 + 1 + 2 = (k * 3 + 2) + 1 + 1 + 1 by omega]
   simp only [List.set_cons_succ]
theorem levCells_set {l : List LV} {k : Nat} {q : LV} (hk : k < l.length) : levCells (l.set k q) = ((levCells l).set (k * 2) (.int .i64 q.assoc)).set (k * 2 + 1) (.slice q.ta q.terms.length q.tc) := by
 induction l generalizing k with
 | nil => simp at hk
 | cons a r ih =>
  cases k with
  | zero => simp [levCells]
  | succ k =>
   have e1 : ∀ m : List LV, levCells (a :: m) = .int .i64 a.assoc :: .slice a.ta a.terms.length a.tc :: levCells m := fun m => rfl
   rw [List.set_cons_succ, e1, e1, ih (by simpa using hk), show (k + 1) * 2 = k * 2 + 1 + 1 by omega, show k * 2 + 1 + 1 + 1 = (k * 2 + 1) + 1 + 1 by omega]
   simp only [List.set_cons_succ]
theorem set_same {α : Type} {l : List α} {k : Nat} {x : α} (h : l[k]? = some x) : l.set k x = l := by
 obtain ⟨hk, rfl⟩ := List.getElem?_eq_some_iff.1 h
 exact List.set_getElem_self hk
theorem getD_set_eq {α : Type} {l : List α} {k : Nat} {q d : α} (hk : k < l.length) : (l.set k q).getD k d = q := by simp [List.getD, hk]
theorem getD_set_ne {α : Type} {l : List α} {k i : Nat} {q d : α} (h : i ≠ k) : (l.set k q).getD i d = l.getD i d := by
 simp only [List.getD, List.getElem?_set]
 rw [if_neg (fun e => h e.symm)]
structure PM (B H : Nat) (w : World) (pb pc k : Nat) (l : List PV) : Prop where
 row : RB w pb 61 (proCells l) pc 3
 lo : B <= pb /\ pb < H
 each : ∀ i, i < k -> (l.getD i .none).right ≠ [] -> (l.getD i .none).ra = some ⟨ablk (l.getD i .none).ra, 0, none⟩ /\ (B <= ablk (l.getD i .none).ra /\ ablk (l.getD i .none).ra < H) /\ ablk (l.getD i .none).ra ≠ pb /\ RB w (ablk (l.getD i .none).ra) 58 (symCells (l.getD i .none).right) (l.getD i .none).rc 2
 two : ∀ i j, i < k -> j < k -> i ≠ j -> (l.getD i .none).right ≠ [] -> (l.getD j .none).right ≠ [] -> ablk (l.getD i .none).ra ≠ ablk (l.getD j .none).ra
structure LMt (B H : Nat) (w : World) (pb pc k : Nat) (l : List LV) : Prop where
 row : RB w pb 151 (levCells l) pc 2
 lo : B <= pb /\ pb < H
 each : ∀ i, i < k -> (l.getD i .none).terms ≠ [] -> (l.getD i .none).ta = some ⟨ablk (l.getD i .none).ta, 0, none⟩ /\ (B <= ablk (l.getD i .none).ta /\ ablk (l.getD i .none).ta < H) /\ ablk (l.getD i .none).ta ≠ pb /\ RB w (ablk (l.getD i .none).ta) 3 ((l.getD i .none).terms.map (.int .i64 ·)) (l.getD i .none).tc 1
 two : ∀ i j, i < k -> j < k -> i ≠ j -> (l.getD i .none).terms ≠ [] -> (l.getD j .none).terms ≠ [] -> ablk (l.getD i .none).ta ≠ ablk (l.getD j .none).ta
theorem PM.kept {B H : Nat} {w w' : World} {pb pc k : Nat} {l : List PV} (h : PM B H w pb pc k l) (hb : ∀ j, B <= j -> j < H -> w'.heap[j]? = w.heap[j]?) : PM B H w' pb pc k l :=
 ⟨h.row.kept (hb _ h.lo.1 h.lo.2), h.lo, fun i hi hr => ⟨(h.each i hi hr).1, (h.each i hi hr).2.1, (h.each i hi hr).2.2.1, (h.each i hi hr).2.2.2.kept (hb _ (h.each i hi hr).2.1.1 (h.each i hi hr).2.1.2)⟩, h.two⟩
theorem LMt.kept {B H : Nat} {w w' : World} {pb pc k : Nat} {l : List LV} (h : LMt B H w pb pc k l) (hb : ∀ j, B <= j -> j < H -> w'.heap[j]? = w.heap[j]?) : LMt B H w' pb pc k l :=
 ⟨h.row.kept (hb _ h.lo.1 h.lo.2), h.lo, fun i hi hr => ⟨(h.each i hi hr).1, (h.each i hi hr).2.1, (h.each i hi hr).2.2.1, (h.each i hi hr).2.2.2.kept (hb _ (h.each i hi hr).2.1.1 (h.each i hi hr).2.1.2)⟩, h.two⟩
theorem PM.mono {B H H' : Nat} {w : World} {pb pc k : Nat} {l : List PV} (h : PM B H w pb pc k l) (hH : H <= H') : PM B H' w pb pc k l :=
 ⟨h.row, ⟨h.lo.1, Nat.lt_of_lt_of_le h.lo.2 hH⟩, fun i hi hr => ⟨(h.each i hi hr).1, ⟨(h.each i hi hr).2.1.1, Nat.lt_of_lt_of_le (h.each i hi hr).2.1.2 hH⟩, (h.each i hi hr).2.2⟩, h.two⟩
theorem LMt.mono {B H H' : Nat} {w : World} {pb pc k : Nat} {l : List LV} (h : LMt B H w pb pc k l) (hH : H <= H') : LMt B H' w pb pc k l :=
 ⟨h.row, ⟨h.lo.1, Nat.lt_of_lt_of_le h.lo.2 hH⟩, fun i hi hr => ⟨(h.each i hi hr).1, ⟨(h.each i hi hr).2.1.1, Nat.lt_of_lt_of_le (h.each i hi hr).2.1.2 hH⟩, (h.each i hi hr).2.2⟩, h.two⟩
theorem PM.later {B H : Nat} {w w' : World} {pb pc k : Nat} {l : List PV} (h : PM B H w pb pc k l) (hH : H <= w.heap.size) (hb : Below w.heap.size w w') : PM B H w' pb pc k l := h.kept fun j _ hj => hb.block j (Nat.lt_of_lt_of_le hj hH)
theorem LMt.later {B H : Nat} {w w' : World} {pb pc k : Nat} {l : List LV} (h : LMt B H w pb pc k l) (hH : H <= w.heap.size) (hb : Below w.heap.size w w') : LMt B H w' pb pc k l := h.kept fun j _ hj => hb.block j (Nat.lt_of_lt_of_le hj hH)
theorem PM.turn {B H : Nat} {w w' : World} {pb pc k : Nat} {l : List PV} (h : PM B H w pb pc k l) (hkl : k <= l.length) {i : Nat} (hi : i < k) (hr : (l.getD i .none).right ≠ []) (r : List (Int × Int)) (hl : r.length = (l.getD i .none).right.length)
  (hb : ∀ j, B <= j -> j < H -> j ≠ ablk (l.getD i .none).ra -> w'.heap[j]? = w.heap[j]?) (hn : RB w' (ablk (l.getD i .none).ra) 58 (symCells r) (l.getD i .none).rc 2) : PM B H w' pb pc k (l.set i { l.getD i .none with right := r }) := by
 have hil : i < l.length := by omega
 have hg := proCells_get l i hil
 have hcs : proCells (l.set i { l.getD i .none with right := r }) = proCells l := by
  rw [proCells_set hil, set_same hg.1]
  simp only [hl]
  rw [set_same hg.2.1, set_same hg.2.2]
 obtain ⟨q1, q2, q3, q4⟩ := h.each i hi hr
 have hrn : ∀ j, j < k -> j ≠ i -> (l.getD j .none).right ≠ [] -> ablk (l.getD j .none).ra ≠ ablk (l.getD i .none).ra := fun j hj hji hrj => h.two j i hj hi hji hrj hr
 refine ⟨hcs ▸ h.row.kept (hb _ h.lo.1 h.lo.2 (Ne.symm q3)), h.lo, fun j hj hrj => ?_, fun x y hx hy hxy hrx hry => ?_⟩
 ·by_cases e : j = i
  ·subst e
   rw [getD_set_eq hil]
   exact ⟨q1, q2, q3, hn⟩
  ·rw [getD_set_ne e] at hrj ⊢
   obtain ⟨h1, h2, h3, h4⟩ := h.each j hj hrj
   exact ⟨h1, h2, h3, h4.kept (hb _ h2.1 h2.2 (hrn j hj e hrj))⟩
 ·have hz : ∀ z, z < k -> ((l.set i { l.getD i .none with right := r }).getD z .none).right ≠ [] -> ((l.set i { l.getD i .none with right := r }).getD z .none).ra = (l.getD z .none).ra /\ (l.getD z .none).right ≠ [] := fun z _ hrz => by
   by_cases e : z = i
   ·subst e; rw [getD_set_eq hil]; exact ⟨rfl, hr⟩
   ·rw [getD_set_ne e] at hrz ⊢; exact ⟨rfl, hrz⟩
  rw [(hz x hx hrx).1, (hz y hy hry).1]
  exact h.two x y hx hy hxy (hz x hx hrx).2 (hz y hy hry).2
theorem LMt.turn {B H : Nat} {w w' : World} {pb pc k : Nat} {l : List LV} (h : LMt B H w pb pc k l) (hkl : k <= l.length) {i : Nat} (hi : i < k) (hr : (l.getD i .none).terms ≠ []) (r : List Int) (hl : r.length = (l.getD i .none).terms.length)
  (hb : ∀ j, B <= j -> j < H -> j ≠ ablk (l.getD i .none).ta -> w'.heap[j]? = w.heap[j]?) (hn : RB w' (ablk (l.getD i .none).ta) 3 (r.map (.int .i64 ·)) (l.getD i .none).tc 1) : LMt B H w' pb pc k (l.set i { l.getD i .none with terms := r }) := by
 have hil : i < l.length := by omega
 have hg := levCells_get l i hil
 have hcs : levCells (l.set i { l.getD i .none with terms := r }) = levCells l := by
  rw [levCells_set hil, set_same hg.1]
  simp only [hl]
  rw [set_same hg.2]
 obtain ⟨q1, q2, q3, q4⟩ := h.each i hi hr
 have hrn : ∀ j, j < k -> j ≠ i -> (l.getD j .none).terms ≠ [] -> ablk (l.getD j .none).ta ≠ ablk (l.getD i .none).ta := fun j hj hji hrj => h.two j i hj hi hji hrj hr
 refine ⟨hcs ▸ h.row.kept (hb _ h.lo.1 h.lo.2 (Ne.symm q3)), h.lo, fun j hj hrj => ?_, fun x y hx hy hxy hrx hry => ?_⟩
 ·by_cases e : j = i
  ·subst e
   rw [getD_set_eq hil]
   exact ⟨q1, q2, q3, hn⟩
  ·rw [getD_set_ne e] at hrj ⊢
   obtain ⟨h1, h2, h3, h4⟩ := h.each j hj hrj
   exact ⟨h1, h2, h3, h4.kept (hb _ h2.1 h2.2 (hrn j hj e hrj))⟩
 ·have hz : ∀ z, z < k -> ((l.set i { l.getD i .none with terms := r }).getD z .none).terms ≠ [] -> ((l.set i { l.getD i .none with terms := r }).getD z .none).ta = (l.getD z .none).ta /\ (l.getD z .none).terms ≠ [] := fun z _ hrz => by
   by_cases e : z = i
   ·subst e; rw [getD_set_eq hil]; exact ⟨rfl, hr⟩
   ·rw [getD_set_ne e] at hrz ⊢; exact ⟨rfl, hrz⟩
  rw [(hz x hx hrx).1, (hz y hy hry).1]
  exact h.two x y hx hy hxy (hz x hx hrx).2 (hz y hy hry).2
theorem PM.left {B H : Nat} {w : World} {pb pc k : Nat} {l : List PV} (h : PM B H w pb pc k l) {i : Nat} (hi : i < l.length) (x : Int) :
  PM B H (w.setCell ⟨pb, i * 3, none⟩ (.int .i64 x)) pb pc k (l.set i { l.getD i .none with left := x }) := by
 have hg := proCells_get l i hi
 have hcs : proCells (l.set i { l.getD i .none with left := x }) = (proCells l).set (i * 3) (.int .i64 x) := by
  rw [proCells_set hi]
  dsimp only
  rw [set_same (l := (proCells l).set (i * 3) (.int .i64 x)) (by rw [List.getElem?_set_ne (by omega)]; exact hg.2.1), set_same (l := (proCells l).set (i * 3) (.int .i64 x)) (by rw [List.getElem?_set_ne (by omega)]; exact hg.2.2)]
 have hz : ∀ z, ((l.set i { l.getD i .none with left := x }).getD z .none).ra = (l.getD z .none).ra /\ ((l.set i { l.getD i .none with left := x }).getD z .none).right = (l.getD z .none).right /\ ((l.set i { l.getD i .none with left := x }).getD z .none).rc = (l.getD z .none).rc := fun z => by
  by_cases e : z = i
  ·subst e; rw [getD_set_eq hi]; exact ⟨rfl, rfl, rfl⟩
  ·rw [getD_set_ne e]; exact ⟨rfl, rfl, rfl⟩
 refine ⟨hcs ▸ h.row.set _ _, h.lo, fun j hj hr => ?_, fun a b ha hb hab hra hrb => ?_⟩
 ·rw [(hz j).2.1] at hr
  rw [(hz j).1, (hz j).2.1, (hz j).2.2]
  obtain ⟨h1, h2, h3, h4⟩ := h.each j hj hr
  exact ⟨h1, h2, h3, h4.other h3 _ _⟩
 ·rw [(hz a).1, (hz b).1]
  rw [(hz a).2.1] at hra
  rw [(hz b).2.1] at hrb
  exact h.two a b ha hb hab hra hrb
theorem PM.prec {B H : Nat} {w : World} {pb pc k : Nat} {l : List PV} (h : PM B H w pb pc k l) {i : Nat} (hi : i < l.length) (x : Int) :
  PM B H (w.setCell ⟨pb, i * 3 + 2, none⟩ (.int .i64 x)) pb pc k (l.set i { l.getD i .none with prec := x }) := by
 have hg := proCells_get l i hi
 have hcs : proCells (l.set i { l.getD i .none with prec := x }) = (proCells l).set (i * 3 + 2) (.int .i64 x) := by
  rw [proCells_set hi]
  dsimp only
  rw [set_same hg.1, set_same hg.2.1]
 have hz : ∀ z, ((l.set i { l.getD i .none with prec := x }).getD z .none).ra = (l.getD z .none).ra /\ ((l.set i { l.getD i .none with prec := x }).getD z .none).right = (l.getD z .none).right /\ ((l.set i { l.getD i .none with prec := x }).getD z .none).rc = (l.getD z .none).rc := fun z => by
  by_cases e : z = i
  ·subst e; rw [getD_set_eq hi]; exact ⟨rfl, rfl, rfl⟩
  ·rw [getD_set_ne e]; exact ⟨rfl, rfl, rfl⟩
 refine ⟨hcs ▸ h.row.set _ _, h.lo, fun j hj hr => ?_, fun a b ha hb hab hra hrb => ?_⟩
 ·rw [(hz j).2.1] at hr
  rw [(hz j).1, (hz j).2.1, (hz j).2.2]
  obtain ⟨h1, h2, h3, h4⟩ := h.each j hj hr
  exact ⟨h1, h2, h3, h4.other h3 _ _⟩
 ·rw [(hz a).1, (hz b).1]
  rw [(hz a).2.1] at hra
  rw [(hz b).2.1] at hrb
  exact h.two a b ha hb hab hra hrb
theorem symRow_of {w : World} {b c s : Nat} {l : List (Int × Int)} (h : RB w b 58 (symCells l) c s) : SymRow w (some ⟨b, 0, none⟩) l := by
 intro _
 refine ⟨b, 0, rfl, h.lt, fun i hi => ?_⟩
 obtain ⟨q1, q2⟩ := symCells_get l i hi
 have r1 := h.cell q1
 have r2 := h.cell q2
 exact ⟨by simpa using r1, by simpa [Nat.add_assoc] using r2⟩
theorem PM.at {B H : Nat} {w : World} {pb pc : Nat} {l : List PV} (h : PM B H w pb pc l.length l) : PrRow w (some ⟨pb, 0, none⟩) l := by
 refine ⟨fun _ => ⟨pb, 0, rfl, h.row.lt, fun i hi => ?_⟩, fun p hp => ?_⟩
 ·obtain ⟨q1, q2, q3⟩ := proCells_get l i hi
  exact ⟨by simpa using h.row.cell q1, by simpa [Nat.add_assoc] using h.row.cell q2, by simpa [Nat.add_assoc] using h.row.cell q3⟩
 ·obtain ⟨i, hi, rfl⟩ := List.getElem_of_mem hp
  have e : l.getD i .none = l[i] := by simp [List.getD, hi]
  intro hr
  have h2 := h.each i hi (by rw [e]; exact hr)
  rw [e] at h2
  have h3 := symRow_of h2.2.2.2 hr
  rw [h2.1]
  exact h3
theorem inRow_of {w : World} {b c s : Nat} {l : List Int} (h : RB w b 3 (l.map (.int .i64 ·)) c s) : InRow w (some ⟨b, 0, none⟩) l := by
 intro _
 refine ⟨b, 0, rfl, h.lt, fun i hi => ?_⟩
 have r1 := h.cell (i := i) (u := .int .i64 (l.getD i 0)) (by simp [List.getD, hi])
 simpa using r1
theorem LMt.at {B H : Nat} {w : World} {pb pc : Nat} {l : List LV} (h : LMt B H w pb pc l.length l) : LvRow w (some ⟨pb, 0, none⟩) l := by
 refine ⟨fun _ => ⟨pb, 0, rfl, h.row.lt, fun i hi => ?_⟩, fun p hp => ?_⟩
 ·obtain ⟨q1, q2⟩ := levCells_get l i hi
  exact ⟨by simpa using h.row.cell q1, by simpa [Nat.add_assoc] using h.row.cell q2⟩
 ·obtain ⟨i, hi, rfl⟩ := List.getElem_of_mem hp
  have e : l.getD i .none = l[i] := by simp [List.getD, hi]
  intro hr
  have h2 := h.each i hi (by rw [e]; exact hr)
  rw [e] at h2
  have h3 := inRow_of h2.2.2.2 hr
  rw [h2.1]
  exact h3
structure CBx (n0 : Nat) (w0 : World) (arr : Array Value) (w : World) : Prop where
 box : w.heap[n0]? = some (.cells arr 27 (0, 0))
 out : w.heap[n0 + 1]? = some (.cells #[.slice none 0 0, .slice none 0 0, .int .i64 0, .slice none 0 0, .slice none 0 0] 27 (0, 0))
 bel : Below n0 w0 w
theorem CBx.later {n0 : Nat} {w0 w w' : World} {arr : Array Value} (h : CBx n0 w0 arr w) (hb : Below w.heap.size w w') : CBx n0 w0 arr w' :=
 ⟨(hb.block _ (lt_of_block h.box)).trans h.box, (hb.block _ (lt_of_block h.out)).trans h.out, h.bel.trans (hb.mono (Nat.le_of_lt (lt_of_block h.box)))⟩
theorem CBx.set {n0 : Nat} {w0 w : World} {arr : Array Value} (h : CBx n0 w0 arr w) (i : Nat) (u : Value) : CBx n0 w0 (arr.setIfInBounds i u) (w.setCell ⟨n0, i, none⟩ u) :=
 ⟨heap_set h.box i u, (Below.heap_setCell _ _ _ _ (show n0 + 1 ≠ n0 by omega)).trans h.out, h.bel.setCell (p := ⟨n0, i, none⟩) (Nat.le_refl _) u⟩
theorem CBx.put {n0 : Nat} {w0 w : World} {arr : Array Value} (h : CBx n0 w0 arr w) (b i : Nat) (u : Value) (hb : n0 + 2 <= b) : CBx n0 w0 arr (w.setCell ⟨b, i, none⟩ u) :=
 ⟨(Below.heap_setCell _ _ _ _ (show n0 ≠ b by omega)).trans h.box, (Below.heap_setCell _ _ _ _ (show n0 + 1 ≠ b by omega)).trans h.out, h.bel.setCell (p := ⟨b, i, none⟩) (by show n0 <= b; omega) u⟩
theorem strCells {w : World} {ao : Option Addr} {l : List ByteArray} (h : StrRow w ao l) : l.map Value.string ≠ [] -> ∃ b off, ao = some ⟨b, off, none⟩ /\ b < w.heap.size /\ ∀ j u, (l.map Value.string)[j]? = some u -> w.cell? ⟨b, off + j, none⟩ = some u := by
 intro hne
 obtain ⟨b, off, e, hb, hc⟩ := h (by intro e; subst e; simp at hne)
 refine ⟨b, off, e, hb, fun j u hu => ?_⟩
 have hj : j < l.length := by have := (List.getElem?_eq_some_iff.1 hu).1; simpa using this
 rw [hc j hj]
 simp [List.getD, hj] at hu ⊢
 exact hu
structure MG (B : Nat) (w : World) (g : GV) (A H E pb lb tb nb : Nat) : Prop where
 ord : B <= A /\ A <= H /\ H <= E /\ E <= w.heap.size
 t : g.ta = some ⟨tb, 0, none⟩ /\ RB w tb 9 (g.ts.map .string) g.tc 1 /\ (tb < A ∨ E <= tb) /\ B <= tb
 n_ : g.na = some ⟨nb, 0, none⟩ /\ RB w nb 9 (g.ns.map .string) g.nc 1 /\ (nb < A ∨ E <= nb) /\ B <= nb
 pa : g.pa = some ⟨pb, 0, none⟩
 p : PM A H w pb g.pc g.ps.length g.ps
 pc : g.ps.length <= g.pc
 l : g.ls ≠ [] -> g.la = some ⟨lb, 0, none⟩ /\ LMt H E w lb g.lc g.ls.length g.ls
 tn : tb ≠ nb
open Go.RowKit Go.Shelf Go.Sort
theorem RB.holds {w : World} {b : Nat} {t : TypeId} {xs : List Value} {c s : Nat} (h : RB w b t xs c s) : Holds id w b 0 xs.toArray := fun j hj => by
 have hj' : j < xs.length := by simpa using hj
 refine ⟨?_, h.free _⟩
 rw [Nat.zero_add, h.cell (i := j) (u := xs[j]) (List.getElem?_eq_getElem hj')]
 simp [hj']
theorem heap_put {w : World} {b n : Nat} {F : Array Value} {cur : Array Value} {t : TypeId} (hb : w.heap[b]? = some (.cells cur t (0, 0))) : (putRow id (Sort.ahead w n) b 0 F).heap[b]? = some (.cells (putCells id 0 F cur) t (0, 0)) := by
 simp [putRow, mapBlock, Sort.ahead, Array.getElem?_modify, hb, onCells]
theorem RB.put {w : World} {b : Nat} {t : TypeId} {xs ys : List Value} {c s : Nat} (h : RB w b t xs c s) (n : Nat) (hl : ys.length = xs.length) : RB (putRow id (Sort.ahead w n) b 0 ys.toArray) b t ys c s := by
 obtain ⟨cur, h1, h2, _, h4, h5⟩ := h
 refine ⟨_, heap_put h1, by simp [putCells]; omega, ?_, by simpa [putCells] using h4, h5⟩
 apply List.ext_getElem?
 intro j
 by_cases hj : j < ys.length
 ·rw [List.getElem?_take_of_lt hj, Array.getElem?_toList]
  simp [putCells, hj, show j < cur.size by omega]
 ·rw [List.getElem?_take_eq_none (by omega), List.getElem?_eq_none (by omega)]
theorem mem_getD {α : Type} {l : List α} {d : α} {j : Nat} (h : j < l.length) : l.getD j d ∈ l := by
 have e : l.getD j d = l[j] := by simp [List.getD, h]
 rw [e]; exact List.getElem_mem h
theorem firstU_all {f : Nat -> Int} : ∀ (c i : Nat), (firstU f c i).1 = 0 -> ∀ j, j < c -> f (i + j) = 0
 | 0, _, _, j, hj => absurd hj (by omega)
 | c + 1, i, h, j, hj => by
  unfold firstU at h
  by_cases hz : f i = 0
  ·rw [if_neg (by simpa using hz)] at h
   match j with
   | 0 => exact hz
   | j + 1 =>
    have := firstU_all c (i + 1) h j (by omega)
    rw [show i + (j + 1) = i + 1 + j by omega]
    exact this
  ·rw [if_pos hz] at h
   exact absurd h hz
theorem wordS_size {s : ByteArray} (h : wordS s = true) : s.size <= 32 := by
 simp only [wordS, Bool.and_eq_true, decide_eq_true_eq] at h
 exact h.1.1.2
theorem quotedS_size {s : ByteArray} (h : quotedS s = true) : s.size <= 32 := by
 simp only [quotedS, Bool.and_eq_true, decide_eq_true_eq] at h
 exact h.1.1.1.2
theorem termS_size {s : ByteArray} (h : termS s = true) : s.size <= 32 := by
 simp only [termS, Bool.or_eq_true] at h
 exact h.elim wordS_size quotedS_size
theorem formsF_each {form : ByteArray -> Bool} : ∀ (ss seen : List ByteArray), (formsF form ss seen).1 = 0 -> ∀ s ∈ ss, form s = true
 | [], _, _, s, hs => by cases hs
 | a :: r, seen, h, s, hs => by
  unfold formsF at h
  by_cases h1 : form a = false
  ·rw [if_pos h1] at h; exact absurd h (by simp)
  ·rw [if_neg h1] at h
   by_cases h2 : inB seen a = true
   ·rw [if_pos h2] at h; exact absurd h (by simp)
   ·rw [if_neg h2] at h
    rcases List.mem_cons.1 hs with rfl | hs
    ·simpa using h1
    ·exact formsF_each r _ h s hs
theorem checkF_each {ts ns : List ByteArray} (h : (checkF ts ns).1 = 0) : (∀ s ∈ ts, s.size <= 32) /\ ∀ s ∈ ns, s.size <= 32 := by
 unfold checkF at h
 split at h
 ·exact absurd h (by simp)
 ·split at h
  ·exact absurd h (by simp)
  ·by_cases h1 : (formsF termS ts []).1 = 0
   ·rw [if_neg (by simpa using h1)] at h
    by_cases h2 : (formsF wordS ns (formsF termS ts []).2.2).1 = 0
    ·exact ⟨fun s hs => termS_size (formsF_each _ _ h1 s hs), fun s hs => wordS_size (formsF_each _ _ h2 s hs)⟩
    ·rw [if_pos h2] at h; exact absurd h h2
   ·rw [if_pos h1] at h; exact absurd h h1
structure OkC (g : GV) : Prop where
 tl : 1 <= g.ts.length /\ g.ts.length <= 64
 nl : 1 <= g.ns.length /\ g.ns.length <= 64
 ts : ∀ s ∈ g.ts, s.size <= 32
 ns : ∀ s ∈ g.ns, s.size <= 32
 st : 0 <= g.start /\ g.start < g.ns.length
 pl : 1 <= g.ps.length /\ g.ps.length <= 256
 ps : ∀ i, i < g.ps.length -> prodU g i = 0
 ll : g.ls.length <= 32
 ls : ∀ i, i < g.ls.length -> levelU g i = 0
theorem OkC.of {g : GV} (h : (checkG g (checkF g.ts g.ns)).1 = 0) : OkC g := by
 unfold checkG at h
 by_cases h1 : g.ts.length = 0 ∨ 64 < g.ts.length
 ·rw [if_pos h1] at h; exact absurd h (by simp)
 rw [if_neg h1] at h
 by_cases h2 : g.ns.length = 0 ∨ 64 < g.ns.length
 ·rw [if_pos h2] at h; exact absurd h (by simp)
 rw [if_neg h2] at h
 by_cases h3 : (checkF g.ts g.ns).1 = 0
 case neg => rw [if_pos h3] at h; exact absurd h h3
 rw [if_neg (by simpa using h3)] at h
 by_cases h4 : inN g g.start = false
 ·rw [if_pos h4] at h; exact absurd h (by simp)
 rw [if_neg h4] at h
 by_cases h5 : g.ps.length = 0 ∨ 256 < g.ps.length
 ·rw [if_pos h5] at h; exact absurd h (by simp)
 rw [if_neg h5] at h
 by_cases h6 : (firstU (prodU g) g.ps.length 0).1 = 0
 case neg => rw [if_pos h6] at h; exact absurd h h6
 rw [if_neg (by simpa using h6)] at h
 by_cases h7 : 32 < g.ls.length
 ·rw [if_pos h7] at h; exact absurd h (by simp)
 rw [if_neg h7] at h
 have hn := checkF_each h3
 refine ⟨by omega, by omega, hn.1, hn.2, ?_, by omega, fun i hi => ?_, by omega, fun i hi => ?_⟩
 ·simpa [inN] using h4
 ·simpa using firstU_all _ _ h6 i hi
 ·simpa using firstU_all _ _ h i hi
theorem OkC.left {g : GV} (h : OkC g) (i : Nat) (hi : i < g.ps.length) : 0 <= (g.ps.getD i .none).left /\ (g.ps.getD i .none).left < g.ns.length := by
 have := h.ps i hi
 unfold prodU at this
 by_cases h1 : inN g (g.ps.getD i .none).left = false
 ·rw [if_pos h1] at this; exact absurd this (by omega)
 ·simpa [inN] using h1
theorem OkC.right {g : GV} (h : OkC g) (i : Nat) (hi : i < g.ps.length) : (g.ps.getD i .none).right.length <= 16 := by
 have := h.ps i hi
 unfold prodU at this
 by_cases h1 : inN g (g.ps.getD i .none).left = false
 ·rw [if_pos h1] at this; exact absurd this (by omega)
 rw [if_neg h1] at this
 by_cases h2 : 16 < (g.ps.getD i .none).right.length
 ·rw [if_pos h2] at this; exact absurd this (by omega)
 ·omega
theorem OkC.inG {g : GV} (h : OkC g) (i : Nat) (hi : i < g.ps.length) : ∀ s ∈ (g.ps.getD i .none).right, inG g s.1 s.2 = true := by
 have := h.ps i hi
 unfold prodU at this
 by_cases h1 : inN g (g.ps.getD i .none).left = false
 ·rw [if_pos h1] at this; exact absurd this (by omega)
 rw [if_neg h1] at this
 by_cases h2 : 16 < (g.ps.getD i .none).right.length
 ·rw [if_pos h2] at this; exact absurd this (by omega)
 rw [if_neg h2] at this
 by_cases h3 : ((g.ps.getD i .none).right.any fun s => !Go.Proofs.YtobhemaikomdaaaGreatDoor.inG g s.1 s.2) = true
 ·rw [if_pos h3] at this; exact absurd this (by omega)
 ·intro s hs
  have h4 := Bool.not_eq_true _ ▸ h3
  rw [List.any_eq_false] at h4
  simpa using h4 s hs
theorem OkC.prec {g : GV} (h : OkC g) (i : Nat) (hi : i < g.ps.length) : -1 <= (g.ps.getD i .none).prec /\ (g.ps.getD i .none).prec < g.ts.length := by
 have := h.ps i hi
 unfold prodU at this
 split at this
 ·exact absurd this (by omega)
 split at this
 ·exact absurd this (by omega)
 split at this
 ·exact absurd this (by omega)
 split at this
 ·exact absurd this (by omega)
 by_cases h5 : (g.ps.getD i .none).prec = -1
 ·rw [h5]; omega
 ·by_cases h6 : inT g (g.ps.getD i .none).prec = false
  ·rw [if_pos ⟨h5, h6⟩] at this; exact absurd this (by omega)
  ·have : 0 <= (g.ps.getD i .none).prec /\ (g.ps.getD i .none).prec < g.ts.length := by simpa [inT] using h6
   omega
theorem OkC.level {g : GV} (h : OkC g) (i : Nat) (hi : i < g.ls.length) : (1 <= (g.ls.getD i .none).assoc /\ (g.ls.getD i .none).assoc <= 3) /\ (∀ n ∈ (g.ls.getD i .none).terms, 0 <= n /\ n < g.ts.length) /\ risesU (g.ls.getD i .none).terms = true := by
 have := h.ls i hi
 unfold levelU at this
 by_cases h1 : (g.ls.getD i .none).assoc < 1 ∨ 3 < (g.ls.getD i .none).assoc ∨ (g.ls.getD i .none).terms.length = 0
 ·rw [if_pos h1] at this; exact absurd this (by omega)
 rw [if_neg h1] at this
 by_cases h2 : ((g.ls.getD i .none).terms.any fun n => !inT g n) = true
 ·rw [if_pos h2] at this; exact absurd this (by omega)
 rw [if_neg h2] at this
 by_cases h3 : risesU (g.ls.getD i .none).terms = false
 ·rw [if_pos h3] at this; exact absurd this (by omega)
 refine ⟨by omega, fun n hn => ?_, by simpa using h3⟩
 have h4 := Bool.not_eq_true _ ▸ h2
 rw [List.any_eq_false] at h4
 simpa [inT] using h4 n hn
theorem rises_le {l : List Int} (h : risesU l = true) : ∀ j, j < l.length -> l.getD 0 0 + j <= l.getD j 0
 | 0, _ => by simp
 | j + 1, hj => by
  have ih := rises_le h j (by omega)
  unfold risesU at h
  rw [List.all_eq_true] at h
  have := h j (by simp; omega)
  simp only [decide_eq_true_eq] at this
  omega
theorem rises_len {l : List Int} {n : Nat} (h : risesU l = true) (hb : ∀ x ∈ l, 0 <= x /\ x < n) : l.length <= n := by
 rcases Nat.eq_zero_or_pos l.length with e | e
 ·omega
 ·have h1 := rises_le h (l.length - 1) (by omega)
  have m0 : l.getD 0 0 ∈ l := mem_getD e
  have m1 : l.getD (l.length - 1) 0 ∈ l := mem_getD (by omega)
  have := hb _ m0
  have := hb _ m1
  omega
theorem OkC.terms {g : GV} (h : OkC g) (i : Nat) (hi : i < g.ls.length) : (g.ls.getD i .none).terms.length <= 64 := by
 obtain ⟨_, h1, h2⟩ := h.level i hi
 exact Nat.le_trans (rises_len h2 h1) h.tl.2
theorem getD_mem {α : Type} {l : List α} {d x : α} (h : x ∈ l) : ∃ i, i < l.length /\ x = l.getD i d := by
 obtain ⟨i, hi, rfl⟩ := List.getElem_of_mem h
 exact ⟨i, hi, by simp [List.getD, hi]⟩
theorem GAt.ok {n : Nat} {w : World} {g : GV} (h : GAt n w g) (ok : OkC g) : GAt 1048576 w g := by
 have h1 := ok.tl
 have h2 := ok.nl
 have h3 := ok.pl
 have h4 := ok.ll
 refine ⟨h.t, h.n_, h.p, h.l, h.tz, h.nz, by omega, by omega, by omega, by omega, fun p hp => ?_, fun p hp => ?_⟩
 ·obtain ⟨i, hi, rfl⟩ := getD_mem (d := PV.none) hp
  have := ok.right i hi
  omega
 ·obtain ⟨i, hi, rfl⟩ := getD_mem (d := LV.none) hp
  have := ok.terms i hi
  omega
set_option maxRecDepth 100000 in
set_option maxHeartbeats 1000000 in
theorem newreader_own (ao : Option Addr) (n cap : Nat) (xs : List Int) (w : World) (hn : n = xs.length) (hl : xs.length <= 140737488355328) (hr : C.RowAt w ao xs) (hc : ao = none -> cap = 0) : Calls Tryz.prog 36 #[.slice ao n cap] w fun e w' => ∃ r ao N c, e = .returned (.pointer (some ⟨r, 0, none⟩)) /\ C.RInv w' r ao N c xs 0 0 /\ w.heap.size <= r /\ (∀ g, ao = some ⟨g, 0, none⟩ -> w.heap.size <= g /\ g < w'.heap.size) /\ Below w.heap.size w w' := by
 subst hn
 match ao with
 | none =>
  obtain rfl := hc rfl
  have hn : xs = [] := by
   by_cases hn : xs = []
   ·exact hn
   ·obtain ⟨b, off, he, _⟩ := hr.2 hn; cases he
  subst hn
  exact (C.newreader_none w).mono fun e w' ⟨h1, h2, h3⟩ => ⟨_, _, _, _, h1, h2, Nat.le_refl _, fun g h => (by cases h), h3⟩
 | some ad =>
  go_enter Tryz.func36, Tryz.ntmps36
  go_wp2_with (go_at_call 64; refine (C.clone_at ad xs.length cap xs w rfl hl hr).mono ?_; rintro e w1 ⟨g, N1, c1, rfl, ho, hg, hb⟩)
  go_ret
  have hz := hb.size
  exact ⟨w1.heap.size, some ⟨g, 0, none⟩, N1, c1, rfl, ⟨heap_alloc_new _ _, (C.own_len ho).1, (C.own_len ho).2.1.later (below_alloc _ _), C.no_nil, C.own_cap ho, Nat.zero_le _, hl, .inr ⟨g, rfl⟩⟩, hz, fun g' e => (by simp at e; subst e; exact ⟨hg, Nat.lt_of_lt_of_le (ho.lt g rfl) (below_alloc w1 _).size⟩), hb.trans ((below_alloc w1 _).mono hz)⟩
theorem DG.kept {B : Nat} {w w' : World} {g : GV} (h : DG B w g) (hb : ∀ k, B <= k -> k < w.heap.size -> w'.heap[k]? = w.heap[k]?) : DG B w' g := ⟨h.t.kept hb, h.n_.kept hb, h.p.kept hb, h.l.kept hb, h.tn⟩
theorem DG.mono {B B' : Nat} {w : World} {g : GV} (h : DG B w g) (hB : B' <= B) : DG B' w g := ⟨h.t.mono hB, h.n_.mono hB, h.p.mono hB, h.l.mono hB, h.tn⟩
theorem flat_len {α : Type} (f : α -> List Int) (k : Nat) : ∀ l : List α, (∀ x ∈ l, (f x).length <= k) -> (l.flatMap f).length <= l.length * k
 | [], _ => by simp
 | a :: r, h => by
  have h1 := h a (by simp)
  have h2 := flat_len f k r (fun x hx => h x (by simp [hx]))
  simp only [List.flatMap_cons, List.length_append, List.length_cons, Nat.add_mul, Nat.one_mul]
  omega
theorem encL_len {α : Type} (f : α -> List Int) (k : Nat) (l : List α) (h : ∀ x ∈ l, (f x).length <= k) : (encL f l).length <= 10 + l.length * k := by
 have h1 := C.enc_len 10 (l.length : Int)
 have h2 := flat_len f k l h
 simp only [encL, List.length_append]
 omega
theorem OkC.enc_len {g : GV} (h : OkC g) : (encG g).length <= 16777216 := by
 have tl := h.tl
 have nl := h.nl
 have pl := h.pl
 have ll := h.ll
 have e1 := encL_len encS 42 g.ts (fun s hs => by
  have := h.ts s hs
  have := C.enc_len 10 (s.size : Int)
  have := C.strBytes_len s
  simp only [encS, List.length_append]; omega)
 have e2 := encL_len encS 42 g.ns (fun s hs => by
  have := h.ns s hs
  have := C.enc_len 10 (s.size : Int)
  have := C.strBytes_len s
  simp only [encS, List.length_append]; omega)
 have e3 := C.enc_len 10 g.start
 have e4 := encL_len encP 190 g.ps (fun q hq => by
  obtain ⟨i, hi, rfl⟩ := getD_mem (d := PV.none) hq
  have r := h.right i hi
  have a1 := C.enc_len 10 (g.ps.getD i .none).left
  have a2 := encL_len encY 10 (g.ps.getD i .none).right (fun s _ => C.enc_len 10 _)
  have a3 := C.enc_len 10 (C.foldS (g.ps.getD i .none).prec)
  simp only [encP, List.length_append]; omega)
 have e5 := encL_len encV 660 g.ls (fun q hq => by
  obtain ⟨i, hi, rfl⟩ := getD_mem (d := LV.none) hq
  have r := h.terms i hi
  have a1 := C.enc_len 10 (g.ls.getD i .none).assoc
  have a2 := encL_len encI 10 (g.ls.getD i .none).terms (fun s _ => C.enc_len 10 _)
  simp only [encV, List.length_append]; omega)
 simp only [encG, List.length_append]
 omega
theorem MG.later {B : Nat} {w w' : World} {g : GV} {A H E pb lb tb nb : Nat} (h : MG B w g A H E pb lb tb nb) (hb : Below w.heap.size w w') : MG B w' g A H E pb lb tb nb := by
 have ho := h.ord
 have hbs := hb.size
 exact ⟨⟨ho.1, ho.2.1, ho.2.2.1, by omega⟩, ⟨h.t.1, h.t.2.1.later hb, h.t.2.2⟩, ⟨h.n_.1, h.n_.2.1.later hb, h.n_.2.2⟩, h.pa, h.p.later (by omega) hb, h.pc, fun hl => ⟨(h.l hl).1, (h.l hl).2.later ho.2.2.2 hb⟩, h.tn⟩
theorem strRow_of {w : World} {b c s : Nat} {l : List ByteArray} (h : RB w b 9 (l.map .string) c s) : StrRow w (some ⟨b, 0, none⟩) l := by
 intro _
 refine ⟨b, 0, rfl, h.lt, fun i hi => ?_⟩
 have r1 := h.cell (i := i) (u := .string (l.getD i ByteArray.empty)) (by simp [List.getD, hi])
 simpa using r1
theorem MG.at {B : Nat} {w : World} {g : GV} {A H E pb lb tb nb : Nat} (h : MG B w g A H E pb lb tb nb) (n : Nat) (tz : ∀ s ∈ g.ts, s.size <= maxLen) (nz : ∀ s ∈ g.ns, s.size <= maxLen) (tl : g.ts.length <= n) (nl : g.ns.length <= n) (pl : g.ps.length <= n) (ll : g.ls.length <= n) (rl : ∀ p ∈ g.ps, p.right.length <= n) (vl : ∀ p ∈ g.ls, p.terms.length <= n) : GAt n w g := by
 refine ⟨?_, ?_, ?_, ?_, tz, nz, tl, nl, pl, ll, rl, vl⟩
 ·rw [h.t.1]; exact strRow_of h.t.2.1
 ·rw [h.n_.1]; exact strRow_of h.n_.2.1
 ·rw [h.pa]; exact h.p.at
 ·by_cases hl : g.ls = []
  ·rw [hl]; exact ⟨fun e => absurd rfl e, fun p hp => by cases hp⟩
  ·rw [(h.l hl).1]; exact (h.l hl).2.at
theorem MG.kept {B : Nat} {w w' : World} {g : GV} {A H E pb lb tb nb : Nat} (h : MG B w g A H E pb lb tb nb) (hs : w.heap.size <= w'.heap.size) (hk : ∀ j, B <= j -> j < w.heap.size -> w'.heap[j]? = w.heap[j]?) : MG B w' g A H E pb lb tb nb := by
 have ho := h.ord
 exact ⟨⟨ho.1, ho.2.1, ho.2.2.1, by omega⟩, ⟨h.t.1, h.t.2.1.kept (hk _ h.t.2.2.2 h.t.2.1.lt), h.t.2.2⟩, ⟨h.n_.1, h.n_.2.1.kept (hk _ h.n_.2.2.2 h.n_.2.1.lt), h.n_.2.2⟩, h.pa, h.p.kept fun j hj hj2 => hk j (by omega) (by omega), h.pc, fun hl => ⟨(h.l hl).1, (h.l hl).2.kept fun j hj hj2 => hk j (by omega) (by omega)⟩, h.tn⟩
theorem MG.mono {B B' : Nat} {w : World} {g : GV} {A H E pb lb tb nb : Nat} (h : MG B w g A H E pb lb tb nb) (hB : B' <= B) : MG B' w g A H E pb lb tb nb := by
 have ho := h.ord
 have h1 := h.t.2.2.2
 have h2 := h.n_.2.2.2
 exact ⟨⟨by omega, ho.2⟩, ⟨h.t.1, h.t.2.1, h.t.2.2.1, by omega⟩, ⟨h.n_.1, h.n_.2.1, h.n_.2.2.1, by omega⟩, h.pa, h.p, h.pc, h.l, h.tn⟩
theorem CBx.five {n0 : Nat} {w0 w : World} {arr : Array Value} (h : CBx n0 w0 arr w) (a b c d e : Value) :
  Below n0 w0 (((((w.setCell ⟨n0 + 1, 0, none⟩ a).setCell ⟨n0 + 1, 1, none⟩ b).setCell ⟨n0 + 1, 2, none⟩ c).setCell ⟨n0 + 1, 3, none⟩ d).setCell ⟨n0 + 1, 4, none⟩ e) /\ ∀ j, j ≠ n0 + 1 -> (((((w.setCell ⟨n0 + 1, 0, none⟩ a).setCell ⟨n0 + 1, 1, none⟩ b).setCell ⟨n0 + 1, 2, none⟩ c).setCell ⟨n0 + 1, 3, none⟩ d).setCell ⟨n0 + 1, 4, none⟩ e).heap[j]? = w.heap[j]? := by
 refine ⟨((((h.bel.setCell (p := ⟨n0 + 1, 0, none⟩) (by show n0 <= n0 + 1; omega) _).setCell (p := ⟨n0 + 1, 1, none⟩) (by show n0 <= n0 + 1; omega) _).setCell (p := ⟨n0 + 1, 2, none⟩) (by show n0 <= n0 + 1; omega) _).setCell (p := ⟨n0 + 1, 3, none⟩) (by show n0 <= n0 + 1; omega) _).setCell (p := ⟨n0 + 1, 4, none⟩) (by show n0 <= n0 + 1; omega) _, fun j hj => ?_⟩
 rw [Below.heap_setCell _ _ _ _ hj, Below.heap_setCell _ _ _ _ hj, Below.heap_setCell _ _ _ _ hj, Below.heap_setCell _ _ _ _ hj, Below.heap_setCell _ _ _ _ hj]
end Go.Proofs.YtobhemaikomdaaaGreatDoor
