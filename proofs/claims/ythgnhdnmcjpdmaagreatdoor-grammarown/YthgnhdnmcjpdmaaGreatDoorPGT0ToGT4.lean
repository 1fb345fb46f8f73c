import Derived.Test.YthgnhdnmcjpdmaaGreatDoorPGDec12ToGDec14
import Derived.Test.YthgnhdnmcjpdmaaGreatDoorPRegX
namespace Go.Proofs.YthgnhdnmcjpdmaaGreatDoor
set_option linter.unusedVariables false
set_option maxRecDepth 100000
set_option maxHeartbeats 16000000
open Go.RowKit
def moveU (l0 names : List ByteArray) (nums : List Int) : Nat -> List ByteArray
 | 0 => l0
 | k + 1 => (moveU l0 names nums k).set (nums.getD k 0).toNat (names.getD k ByteArray.empty)
theorem moveU_len (l0 names : List ByteArray) (nums : List Int) : ∀ k, (moveU l0 names nums k).length = l0.length
 | 0 => rfl
 | k + 1 => by simp [moveU, moveU_len l0 names nums k]
structure IsPerm (l : List Int) : Prop where
 lo : ∀ i, i < l.length -> 0 <= l.getD i 0 /\ l.getD i 0 < l.length
 one : ∀ i j, i < l.length -> j < i -> l.getD j 0 ≠ l.getD i 0
theorem nat_fit : ∀ (n : Nat) (l : List Nat), l.Nodup -> (∀ x ∈ l, x < n) -> l.length <= n
 | 0, l, _, h => by
  cases l with
  | nil => simp
  | cons a r => exact absurd (h a (by simp)) (by omega)
 | n + 1, l, hn, h => by
  by_cases hm : n ∈ l
  ·have h1 := nat_fit n (l.erase n) (hn.erase n) (fun x hx => by
    have h2 := h x (List.mem_of_mem_erase hx)
    have h3 : x ≠ n := fun e => by subst e; exact (List.Nodup.not_mem_erase hn) hx
    omega)
   rw [List.length_erase_of_mem hm] at h1
   omega
  ·have h1 := nat_fit n l hn (fun x hx => by
    have h2 := h x hx
    have h3 : x ≠ n := fun e => hm (e ▸ hx)
    omega)
   omega
theorem IsPerm.nodup {l : List Int} (h : IsPerm l) : (l.map Int.toNat).Nodup := by
 rw [List.nodup_iff_pairwise_ne, List.pairwise_iff_getElem]
 intro i j hi hj hij
 simp at hi hj
 have h1 := h.lo i hi
 have h2 := h.lo j hj
 have h3 := h.one j i hj hij
 simp [List.getD, hi, hj] at h1 h2 h3
 simp
 omega
theorem IsPerm.all {l : List Int} (h : IsPerm l) (k : Nat) (hk : k < l.length) : ∃ i, i < l.length /\ (l.getD i 0).toNat = k := by
 by_cases hm : k ∈ l.map Int.toNat
 ·obtain ⟨x, hx, e⟩ := List.mem_map.1 hm
  obtain ⟨i, hi, rfl⟩ := List.getElem_of_mem hx
  exact ⟨i, hi, by simp [List.getD, hi, e]⟩
 ·have h1 := nat_fit l.length (k :: l.map Int.toNat) (List.nodup_cons.2 ⟨hm, h.nodup⟩) (fun x hx => by
   rcases List.mem_cons.1 hx with rfl | hx
   ·exact hk
   ·obtain ⟨y, hy, rfl⟩ := List.mem_map.1 hx
    obtain ⟨i, hi, rfl⟩ := List.getElem_of_mem hy
    have := h.lo i hi
    simp [List.getD, hi] at this
    omega)
  simp at h1
  omega
theorem moveU_get {names : List ByteArray} {nums : List Int} (h : IsPerm nums) (l0 : List ByteArray) (hl : l0.length = nums.length) : ∀ (k i : Nat), k <= nums.length -> i < k -> (moveU l0 names nums k)[(nums.getD i 0).toNat]? = some (names.getD i ByteArray.empty)
 | 0, i, _, hi => by omega
 | k + 1, i, hk, hi => by
  have hb := h.lo k (by omega)
  have hbi := h.lo i (by omega)
  rw [moveU, List.getElem?_set]
  by_cases e : i = k
  ·subst e
   rw [if_pos rfl, if_pos (by rw [moveU_len]; omega)]
  ·have := h.one k i (by omega) (by omega)
   rw [if_neg (by omega)]
   exact moveU_get h l0 hl k i (by omega) (by omega)
theorem moveU_any {names : List ByteArray} {nums : List Int} (h : IsPerm nums) (l0 l1 : List ByteArray) (h0 : l0.length = nums.length) (h1 : l1.length = nums.length) : moveU l0 names nums nums.length = moveU l1 names nums nums.length := by
 refine List.ext_getElem? fun k => ?_
 by_cases hk : k < nums.length
 ·obtain ⟨i, hi, rfl⟩ := h.all k hk
  rw [moveU_get h l0 h0 _ i (Nat.le_refl _) hi, moveU_get h l1 h1 _ i (Nat.le_refl _) hi]
 ·rw [List.getElem?_eq_none (by rw [moveU_len]; omega), List.getElem?_eq_none (by rw [moveU_len]; omega)]
def sortU (l : List Int) : List Int := l.mergeSort fun x y => decide (x <= y)
theorem sortU_sorted (l : List Int) : (sortU l).Pairwise (· <= ·) := by
 have := List.pairwise_mergeSort (le := fun x y : Int => decide (x <= y)) (fun a b c h1 h2 => by simp at h1 h2 ⊢; omega) (fun a b => by simp; omega) l
 simpa [sortU] using this
theorem sortU_perm (l : List Int) : (sortU l).Perm l := List.mergeSort_perm l _
theorem rises_pair {l : List Int} (h : risesU l = true) : ∀ (j i : Nat), i < j -> j < l.length -> l.getD i 0 < l.getD j 0
 | 0, i, hi, _ => by omega
 | j + 1, i, hi, hj => by
  have h1 : l.getD j 0 < l.getD (j + 1) 0 := by
   unfold risesU at h
   rw [List.all_eq_true] at h
   simpa using h j (List.mem_range.2 (by omega))
  by_cases e : i = j
  ·subst e; exact h1
  ·have := rises_pair h j i (by omega) (by omega)
   omega
theorem rises_nodup {m : List Int} (hs : m.Pairwise (· <= ·)) : risesU m = decide m.Nodup := by
 cases h : risesU m with
 | true =>
  symm
  rw [decide_eq_true_eq, List.nodup_iff_pairwise_ne, List.pairwise_iff_getElem]
  intro i j hi hj hij e
  have := rises_pair h j i hij hj
  simp [List.getD, hi, hj] at this
  omega
 | false =>
  symm
  rw [decide_eq_false_iff_not]
  intro hn
  have : risesU m = true := by
   unfold risesU
   rw [List.all_eq_true]
   intro i hi
   have hi' := List.mem_range.1 hi
   rw [List.pairwise_iff_getElem] at hs
   rw [List.nodup_iff_pairwise_ne, List.pairwise_iff_getElem] at hn
   have h1 := hs i (i + 1) (by omega) (by omega) (by omega)
   have h2 := hn i (i + 1) (by omega) (by omega) (by omega)
   simp [List.getD, show i < m.length by omega, show i + 1 < m.length by omega]
   omega
  rw [h] at this
  cases this
theorem rises_sort (l : List Int) : risesU (sortU l) = decide l.Nodup := by
 rw [rises_nodup (sortU_sorted l)]
 exact decide_eq_decide.2 (sortU_perm l).nodup_iff
def PV.rev (p : PV) : PV := { p with right := p.right.reverse }
def GV.rev (g : GV) : GV := { g with ps := g.ps.map PV.rev }
def renS (ts ns : List Int) (s : Int × Int) : Int × Int := if s.1 = 1 then (s.1, ts.getD s.2.toNat 0) else (s.1, ns.getD s.2.toNat 0)
def PV.ren (ts ns : List Int) (p : PV) : PV := { p with left := ns.getD p.left.toNat 0, right := p.right.map (renS ts ns), prec := if p.prec = -1 then -1 else ts.getD p.prec.toNat 0 }
def LV.ren (ts : List Int) (l : LV) : LV := { l with terms := sortU (l.terms.map fun x => ts.getD x.toNat 0) }
def GV.ren (g : GV) (ts ns : List Int) : GV := { g with ts := moveU g.ts g.ts ts g.ts.length, ns := moveU g.ns g.ns ns g.ns.length, start := ns.getD g.start.toNat 0, ps := g.ps.map (PV.ren ts ns), ls := g.ls.map (LV.ren ts) }
def RB (w : World) (b : Nat) (t : TypeId) (xs : List Value) (c s : Nat) : Prop := ∃ cur, w.heap[b]? = some (.cells cur t (0, 0)) /\ xs.length <= cur.size /\ cur.toList.take xs.length = xs /\ cur.size = c * s /\ c <= maxLen
theorem RB.lt {w : World} {b : Nat} {t : TypeId} {xs : List Value} {c s : Nat} (h : RB w b t xs c s) : b < w.heap.size := by
 obtain ⟨cur, h1, _⟩ := h
 exact lt_of_block h1
theorem RB.kept {w w' : World} {b : Nat} {t : TypeId} {xs : List Value} {c s : Nat} (h : RB w b t xs c s) (hb : w'.heap[b]? = w.heap[b]?) : RB w' b t xs c s := by
 obtain ⟨cur, h1, h2⟩ := h
 exact ⟨cur, hb.trans h1, h2⟩
theorem RB.later {w w' : World} {b : Nat} {t : TypeId} {xs : List Value} {c s : Nat} (h : RB w b t xs c s) (hb : Below w.heap.size w w') : RB w' b t xs c s := h.kept (hb.block b h.lt)
theorem RB.cell {w : World} {b : Nat} {t : TypeId} {xs : List Value} {c s : Nat} (h : RB w b t xs c s) {i : Nat} {u : Value} (hi : xs[i]? = some u) : w.cell? ⟨b, i, none⟩ = some u := by
 obtain ⟨cur, h1, h2, h3, _⟩ := h
 rw [cellq_any h1]
 have hlt : i < xs.length := (List.getElem?_eq_some_iff.1 hi).1
 rw [<- h3, List.getElem?_take] at hi
 rw [if_pos hlt] at hi
 simpa using hi
theorem RB.free {w : World} {b : Nat} {t : TypeId} {xs : List Value} {c s : Nat} (h : RB w b t xs c s) (i : Nat) : w.frozen? ⟨b, i, none⟩ = false := by
 obtain ⟨cur, h1, _⟩ := h
 simp [World.frozen?, h1]
theorem RB.set {w : World} {b : Nat} {t : TypeId} {xs : List Value} {c s : Nat} (h : RB w b t xs c s) (i : Nat) (u : Value) : RB (w.setCell ⟨b, i, none⟩ u) b t (xs.set i u) c s := by
 obtain ⟨cur, h1, h2, h3, h4, h5⟩ := h
 refine ⟨_, heap_set h1 i u, by simpa using h2, ?_, by simpa using h4, h5⟩
 rw [Array.toList_setIfInBounds, List.length_set, List.take_set, h3]
theorem RB.other {w : World} {b b' : Nat} {t : TypeId} {xs : List Value} {c s : Nat} (h : RB w b t xs c s) (hne : b ≠ b') (i : Nat) (u : Value) : RB (w.setCell ⟨b', i, none⟩ u) b t xs c s := h.kept (Below.heap_setCell _ _ _ _ hne)
theorem RB.of_own {w : World} {base : Nat} {t : TypeId} {sz g n c : Nat} {xs : List Value} (h : w.ownsRow base t sz (.slice (some ⟨g, 0, none⟩) n c) n xs) : RB w g t xs c sz /\ base <= g /\ n <= c := by
 obtain ⟨hl, h | ⟨g', cap, cur, e, h1, h2, h3, h4, h5, h6⟩⟩ := h
 ·exact absurd h.1 (by simp)
 ·simp only [Value.slice.injEq, Option.some.injEq, Addr.mk.injEq, true_and, and_true] at e
  obtain ⟨rfl, rfl⟩ := e
  exact ⟨⟨cur, h2, by rw [h5, hl]; exact Nat.mul_le_mul_right _ h3, by rw [hl]; exact h6, h5, h4⟩, h1, h3⟩
theorem RB.own {w : World} {t : TypeId} {sz g n c : Nat} {xs : List Value} (h : RB w g t xs c sz) (hl : xs.length = n * sz) (hn : n <= c) : w.ownsRow 0 t sz (.slice (some ⟨g, 0, none⟩) n c) n xs := by
 obtain ⟨cur, h1, h2, h3, h4, h5⟩ := h
 exact ⟨hl, .inr ⟨g, c, cur, rfl, Nat.zero_le _, h1, hn, h5, h4, hl ▸ h3⟩⟩
theorem clone_str (ao : Option Addr) (n c : Nat) (news : List Value) (w : World) (hl : news.length = n * 1) (hn : n <= 1048576) (hc : news ≠ [] -> ∃ b off, ao = some ⟨b, off, none⟩ /\ b < w.heap.size /\ ∀ j u, news[j]? = some u -> w.cell? ⟨b, off + j, none⟩ = some u) (h1 : ∀ u ∈ news, u.oneCell' = true) :
  Calls Tryz.prog 67 #[.slice ao n c] w fun e w' => ∃ a' c', e = .returned (.slice a' n c') /\ (n ≠ 0 -> ∃ b, a' = some ⟨b, 0, none⟩ /\ w.heap.size <= b /\ RB w' b 9 news c' 1) /\ n <= c' /\ Below w.heap.size w w' := by
 have hne := fun wx a n c => Lib.run_eql_slice_nil (P := Tryz.prog) (w := wx) 22 9 a n c 0 0 Tryz.underlying22
 have HH : Hid (∀ u ∈ news, u.oneCell' = true) := h1
 cases ao with
 | none =>
  have h0 : n = 0 := by
   by_cases e : news = []
   ·subst e; simp at hl; omega
   ·obtain ⟨b, off, e', _⟩ := hc e
    cases e'
  subst h0
  clear hc h1
  go_enter Tryz.func67, Tryz.ntmps67
  go_wp2
  go_ret
  exact ⟨none, 0, rfl, fun e => absurd rfl e, Nat.le_refl _, Below.refl _ _⟩
 | some ad =>
  have hcc : Hid (∀ j u, news[j]? = some u -> (w.alloc (.cells #[] 9)).cell? (ad.add j) = some u) := fun j u hu => by
   obtain ⟨b, off, e, hb, hcell⟩ := hc (fun e => by subst e; simp at hu)
   cases e
   rw [add_none]
   exact ((below_alloc w _).cell (p := ⟨b, off + j, none⟩) hb).trans (hcell j u hu)
  obtain ⟨i0, hi, hz0, hz1, hz2⟩ := infoStr_parts
  clear hc h1
  go_enter Tryz.func67, Tryz.ntmps67
  go_wp2_with (at_builtin; refine wpList_append_own_at _ rfl _ _ 22 rfl w.heap.size 9 i0 _ 1 16 Tryz.underlying22 hi hz0 hz1 hz2 rfl (by decide) _ 0 [] rfl (World.ownsRow_made w #[] 0 (Nat.le_refl _) (Nat.zero_le _) rfl) ad n c news rfl hl hcc.out HH.out (by unfold maxLen; omega) (by omega) (by simp) ?_)
  intro v' w1 hown hgrow hnil _
  go_wp2
  go_ret
  obtain ⟨g, cap, rfl⟩ : ∃ g cap, v' = .slice (some ⟨g, 0, none⟩) n cap := by
   rcases hown.2 with ⟨e, _⟩ | ⟨g, cap, cur, e, _⟩
   ·exact absurd e hnil
   ·exact ⟨g, cap, by simpa using e⟩
  have hown' : w1.ownsRow w.heap.size 9 1 (.slice (some ⟨g, 0, none⟩) n cap) n news := by simpa using hown
  obtain ⟨hr, hb, hcap⟩ := RB.of_own hown'
  exact ⟨_, cap, rfl, fun _ => ⟨g, rfl, hb, hr⟩, hcap, (below_alloc w _).grown hgrow (by simp) (fun k e => by simp [Value.ownBlock] at e; omega)⟩
theorem clone_prod (ao : Option Addr) (n c : Nat) (news : List Value) (w : World) (hl : news.length = n * 3) (hn : n <= 1048576) (hc : news ≠ [] -> ∃ b off, ao = some ⟨b, off, none⟩ /\ b < w.heap.size /\ ∀ j u, news[j]? = some u -> w.cell? ⟨b, off + j, none⟩ = some u) (h1 : ∀ u ∈ news, u.oneCell' = true) :
  Calls Tryz.prog 68 #[.slice ao n c] w fun e w' => ∃ a' c', e = .returned (.slice a' n c') /\ (n ≠ 0 -> ∃ b, a' = some ⟨b, 0, none⟩ /\ w.heap.size <= b /\ RB w' b 75 news c' 3) /\ n <= c' /\ Below w.heap.size w w' := by
 have hne := fun wx a n c => Lib.run_eql_slice_nil (P := Tryz.prog) (w := wx) 23 75 a n c 0 0 Tryz.underlying23
 have HH : Hid (∀ u ∈ news, u.oneCell' = true) := h1
 cases ao with
 | none =>
  have h0 : n = 0 := by
   by_cases e : news = []
   ·subst e; simp at hl; omega
   ·obtain ⟨b, off, e', _⟩ := hc e
    cases e'
  subst h0
  clear hc h1
  go_enter Tryz.func68, Tryz.ntmps68
  go_wp2
  go_ret
  exact ⟨none, 0, rfl, fun e => absurd rfl e, Nat.le_refl _, Below.refl _ _⟩
 | some ad =>
  have hcc : Hid (∀ j u, news[j]? = some u -> (w.alloc (.cells #[] 75)).cell? (ad.add j) = some u) := fun j u hu => by
   obtain ⟨b, off, e, hb, hcell⟩ := hc (fun e => by subst e; simp at hu)
   cases e
   rw [add_none]
   exact ((below_alloc w _).cell (p := ⟨b, off + j, none⟩) hb).trans (hcell j u hu)
  obtain ⟨i0, hi, hz0, hz1, hz2⟩ := infoPro_parts
  clear hc h1
  go_enter Tryz.func68, Tryz.ntmps68
  go_wp2_with (at_builtin; refine wpList_append_own_at _ rfl _ _ 23 rfl w.heap.size 75 i0 _ 3 40 Tryz.underlying23 hi hz0 hz1 hz2 rfl (by decide) _ 0 [] rfl (World.ownsRow_made w #[] 0 (Nat.le_refl _) (Nat.zero_le _) rfl) ad n c news rfl hl hcc.out HH.out (by unfold maxLen; omega) (by omega) (by simp) ?_)
  intro v' w1 hown hgrow hnil _
  go_wp2
  go_ret
  obtain ⟨g, cap, rfl⟩ : ∃ g cap, v' = .slice (some ⟨g, 0, none⟩) n cap := by
   rcases hown.2 with ⟨e, _⟩ | ⟨g, cap, cur, e, _⟩
   ·exact absurd e hnil
   ·exact ⟨g, cap, by simpa using e⟩
  have hown' : w1.ownsRow w.heap.size 75 3 (.slice (some ⟨g, 0, none⟩) n cap) n news := by simpa using hown
  obtain ⟨hr, hb, hcap⟩ := RB.of_own hown'
  exact ⟨_, cap, rfl, fun _ => ⟨g, rfl, hb, hr⟩, hcap, (below_alloc w _).grown hgrow (by simp) (fun k e => by simp [Value.ownBlock] at e; omega)⟩
theorem clone_sym (ao : Option Addr) (n c : Nat) (news : List Value) (w : World) (hl : news.length = n * 2) (hn : n <= 1048576) (hc : news ≠ [] -> ∃ b off, ao = some ⟨b, off, none⟩ /\ b < w.heap.size /\ ∀ j u, news[j]? = some u -> w.cell? ⟨b, off + j, none⟩ = some u) (h1 : ∀ u ∈ news, u.oneCell' = true) :
  Calls Tryz.prog 69 #[.slice ao n c] w fun e w' => ∃ a' c', e = .returned (.slice a' n c') /\ (n ≠ 0 -> ∃ b, a' = some ⟨b, 0, none⟩ /\ w.heap.size <= b /\ RB w' b 30 news c' 2) /\ n <= c' /\ Below w.heap.size w w' := by
 have hne := fun wx a n c => Lib.run_eql_slice_nil (P := Tryz.prog) (w := wx) 73 30 a n c 0 0 Tryz.underlying73
 have HH : Hid (∀ u ∈ news, u.oneCell' = true) := h1
 cases ao with
 | none =>
  have h0 : n = 0 := by
   by_cases e : news = []
   ·subst e; simp at hl; omega
   ·obtain ⟨b, off, e', _⟩ := hc e
    cases e'
  subst h0
  clear hc h1
  go_enter Tryz.func69, Tryz.ntmps69
  go_wp2
  go_ret
  exact ⟨none, 0, rfl, fun e => absurd rfl e, Nat.le_refl _, Below.refl _ _⟩
 | some ad =>
  have hcc : Hid (∀ j u, news[j]? = some u -> (w.alloc (.cells #[] 30)).cell? (ad.add j) = some u) := fun j u hu => by
   obtain ⟨b, off, e, hb, hcell⟩ := hc (fun e => by subst e; simp at hu)
   cases e
   rw [add_none]
   exact ((below_alloc w _).cell (p := ⟨b, off + j, none⟩) hb).trans (hcell j u hu)
  obtain ⟨i0, hi, hz0, hz1, hz2⟩ := infoSym_parts
  clear hc h1
  go_enter Tryz.func69, Tryz.ntmps69
  go_wp2_with (at_builtin; refine wpList_append_own_at _ rfl _ _ 73 rfl w.heap.size 30 i0 _ 2 16 Tryz.underlying73 hi hz0 hz1 hz2 rfl (by decide) _ 0 [] rfl (World.ownsRow_made w #[] 0 (Nat.le_refl _) (Nat.zero_le _) rfl) ad n c news rfl hl hcc.out HH.out (by unfold maxLen; omega) (by omega) (by simp) ?_)
  intro v' w1 hown hgrow hnil _
  go_wp2
  go_ret
  obtain ⟨g, cap, rfl⟩ : ∃ g cap, v' = .slice (some ⟨g, 0, none⟩) n cap := by
   rcases hown.2 with ⟨e, _⟩ | ⟨g, cap, cur, e, _⟩
   ·exact absurd e hnil
   ·exact ⟨g, cap, by simpa using e⟩
  have hown' : w1.ownsRow w.heap.size 30 2 (.slice (some ⟨g, 0, none⟩) n cap) n news := by simpa using hown
  obtain ⟨hr, hb, hcap⟩ := RB.of_own hown'
  exact ⟨_, cap, rfl, fun _ => ⟨g, rfl, hb, hr⟩, hcap, (below_alloc w _).grown hgrow (by simp) (fun k e => by simp [Value.ownBlock] at e; omega)⟩
theorem clone_lev (ao : Option Addr) (n c : Nat) (news : List Value) (w : World) (hl : news.length = n * 2) (hn : n <= 1048576) (hc : news ≠ [] -> ∃ b off, ao = some ⟨b, off, none⟩ /\ b < w.heap.size /\ ∀ j u, news[j]? = some u -> w.cell? ⟨b, off + j, none⟩ = some u) (h1 : ∀ u ∈ news, u.oneCell' = true) :
  Calls Tryz.prog 70 #[.slice ao n c] w fun e w' => ∃ a' c', e = .returned (.slice a' n c') /\ (n ≠ 0 -> ∃ b, a' = some ⟨b, 0, none⟩ /\ w.heap.size <= b /\ RB w' b 92 news c' 2) /\ n <= c' /\ Below w.heap.size w w' := by
 have hne := fun wx a n c => Lib.run_eql_slice_nil (P := Tryz.prog) (w := wx) 24 92 a n c 0 0 Tryz.underlying24
 have HH : Hid (∀ u ∈ news, u.oneCell' = true) := h1
 cases ao with
 | none =>
  have h0 : n = 0 := by
   by_cases e : news = []
   ·subst e; simp at hl; omega
   ·obtain ⟨b, off, e', _⟩ := hc e
    cases e'
  subst h0
  clear hc h1
  go_enter Tryz.func70, Tryz.ntmps70
  go_wp2
  go_ret
  exact ⟨none, 0, rfl, fun e => absurd rfl e, Nat.le_refl _, Below.refl _ _⟩
 | some ad =>
  have hcc : Hid (∀ j u, news[j]? = some u -> (w.alloc (.cells #[] 92)).cell? (ad.add j) = some u) := fun j u hu => by
   obtain ⟨b, off, e, hb, hcell⟩ := hc (fun e => by subst e; simp at hu)
   cases e
   rw [add_none]
   exact ((below_alloc w _).cell (p := ⟨b, off + j, none⟩) hb).trans (hcell j u hu)
  obtain ⟨i0, hi, hz0, hz1, hz2⟩ := infoLev_parts
  clear hc h1
  go_enter Tryz.func70, Tryz.ntmps70
  go_wp2_with (at_builtin; refine wpList_append_own_at _ rfl _ _ 24 rfl w.heap.size 92 i0 _ 2 32 Tryz.underlying24 hi hz0 hz1 hz2 rfl (by decide) _ 0 [] rfl (World.ownsRow_made w #[] 0 (Nat.le_refl _) (Nat.zero_le _) rfl) ad n c news rfl hl hcc.out HH.out (by unfold maxLen; omega) (by omega) (by simp) ?_)
  intro v' w1 hown hgrow hnil _
  go_wp2
  go_ret
  obtain ⟨g, cap, rfl⟩ : ∃ g cap, v' = .slice (some ⟨g, 0, none⟩) n cap := by
   rcases hown.2 with ⟨e, _⟩ | ⟨g, cap, cur, e, _⟩
   ·exact absurd e hnil
   ·exact ⟨g, cap, by simpa using e⟩
  have hown' : w1.ownsRow w.heap.size 92 2 (.slice (some ⟨g, 0, none⟩) n cap) n news := by simpa using hown
  obtain ⟨hr, hb, hcap⟩ := RB.of_own hown'
  exact ⟨_, cap, rfl, fun _ => ⟨g, rfl, hb, hr⟩, hcap, (below_alloc w _).grown hgrow (by simp) (fun k e => by simp [Value.ownBlock] at e; omega)⟩
theorem clone_int (ao : Option Addr) (n c : Nat) (news : List Value) (w : World) (hl : news.length = n * 1) (hn : n <= 1048576) (hc : news ≠ [] -> ∃ b off, ao = some ⟨b, off, none⟩ /\ b < w.heap.size /\ ∀ j u, news[j]? = some u -> w.cell? ⟨b, off + j, none⟩ = some u) (h1 : ∀ u ∈ news, u.oneCell' = true) :
  Calls Tryz.prog 71 #[.slice ao n c] w fun e w' => ∃ a' c', e = .returned (.slice a' n c') /\ (n ≠ 0 -> ∃ b, a' = some ⟨b, 0, none⟩ /\ w.heap.size <= b /\ RB w' b 3 news c' 1) /\ n <= c' /\ Below w.heap.size w w' := by
 have hne := fun wx a n c => Lib.run_eql_slice_nil (P := Tryz.prog) (w := wx) 27 3 a n c 0 0 Tryz.underlying27
 have HH : Hid (∀ u ∈ news, u.oneCell' = true) := h1
 cases ao with
 | none =>
  have h0 : n = 0 := by
   by_cases e : news = []
   ·subst e; simp at hl; omega
   ·obtain ⟨b, off, e', _⟩ := hc e
    cases e'
  subst h0
  clear hc h1
  go_enter Tryz.func71, Tryz.ntmps71
  go_wp2
  go_ret
  exact ⟨none, 0, rfl, fun e => absurd rfl e, Nat.le_refl _, Below.refl _ _⟩
 | some ad =>
  have hcc : Hid (∀ j u, news[j]? = some u -> (w.alloc (.cells #[] 3)).cell? (ad.add j) = some u) := fun j u hu => by
   obtain ⟨b, off, e, hb, hcell⟩ := hc (fun e => by subst e; simp at hu)
   cases e
   rw [add_none]
   exact ((below_alloc w _).cell (p := ⟨b, off + j, none⟩) hb).trans (hcell j u hu)
  obtain ⟨i0, hi, hz0, hz1, hz2⟩ := infoInt_parts
  clear hc h1
  go_enter Tryz.func71, Tryz.ntmps71
  go_wp2_with (at_builtin; refine wpList_append_own_at _ rfl _ _ 27 rfl w.heap.size 3 i0 _ 1 8 Tryz.underlying27 hi hz0 hz1 hz2 rfl (by decide) _ 0 [] rfl (World.ownsRow_made w #[] 0 (Nat.le_refl _) (Nat.zero_le _) rfl) ad n c news rfl hl hcc.out HH.out (by unfold maxLen; omega) (by omega) (by simp) ?_)
  intro v' w1 hown hgrow hnil _
  go_wp2
  go_ret
  obtain ⟨g, cap, rfl⟩ : ∃ g cap, v' = .slice (some ⟨g, 0, none⟩) n cap := by
   rcases hown.2 with ⟨e, _⟩ | ⟨g, cap, cur, e, _⟩
   ·exact absurd e hnil
   ·exact ⟨g, cap, by simpa using e⟩
  have hown' : w1.ownsRow w.heap.size 3 1 (.slice (some ⟨g, 0, none⟩) n cap) n news := by simpa using hown
  obtain ⟨hr, hb, hcap⟩ := RB.of_own hown'
  exact ⟨_, cap, rfl, fun _ => ⟨g, rfl, hb, hr⟩, hcap, (below_alloc w _).grown hgrow (by simp) (fun k e => by simp [Value.ownBlock] at e; omega)⟩
def ablk (a : Option Addr) : Nat := match a with
 | some x => x.block
 | none => 0
theorem proCells_set {l : List PV} {k : Nat} {q : PV} (hk : k < l.length) : proCells (l.set k q) = (((proCells l).set (k * 3) (.int .i64 q.left)).set (k * 3 + 1) (.slice q.ra q.right.length q.rc)).set (k * 3 + 2) (.int .i64 q.prec) := by
 induction l generalizing k with
 | nil => simp at hk
 | cons a r ih =>
  cases k with
  | zero => simp [proCells]
  | succ k =>
   have e1 : ∀ m : List PV, proCells (a :: m) = .int .i64 a.left :: .slice a.ra a.right.length a.rc :: .int .i64 a.prec :: proCells m := fun m => rfl
   rw [List.set_cons_succ, e1, e1, ih (by simpa using hk), show (k + 1) * 3 = k * 3 + 1 + 1 + 1 by omega, show k * 3 + 1 + 1 + 1 + 1 = (k * 3 + 1) + 1 + 1 + 1 by omega, show k * 3 + 1 + 1 + 1 + 2 = (k * 3 + 2) + 1 + 1 + 1 by omega]
   simp only [List.set_cons_succ]
theorem levCells_set {l : List LV} {k : Nat} {q : LV} (hk : k < l.length) : levCells (l.set k q) = ((levCells l).set (k * 2) (.int .i64 q.assoc)).set (k * 2 + 1) (.slice q.ta q.terms.length q.tc) := by
 induction l generalizing k with
 | nil => simp at hk
 | cons a r ih =>
  cases k with
  | zero => simp [levCells]
  | succ k =>
   have e1 : ∀ m : List LV, levCells (a :: m) = .int .i64 a.assoc :: .slice a.ta a.terms.length a.tc :: levCells m := fun m => rfl
   rw [List.set_cons_succ, e1, e1, ih (by simpa using hk), show (k + 1) * 2 = k * 2 + 1 + 1 by omega, show k * 2 + 1 + 1 + 1 = (k * 2 + 1) + 1 + 1 by omega]
   simp only [List.set_cons_succ]
theorem set_same {α : Type} {l : List α} {k : Nat} {x : α} (h : l[k]? = some x) : l.set k x = l := by
 obtain ⟨hk, rfl⟩ := List.getElem?_eq_some_iff.1 h
 exact List.set_getElem_self hk
theorem getD_set_eq {α : Type} {l : List α} {k : Nat} {q d : α} (hk : k < l.length) : (l.set k q).getD k d = q := by simp [List.getD, hk]
theorem getD_set_ne {α : Type} {l : List α} {k i : Nat} {q d : α} (h : i ≠ k) : (l.set k q).getD i d = l.getD i d := by
 simp only [List.getD, List.getElem?_set]
 rw [if_neg (fun e => h e.symm)]
structure PM (B H : Nat) (w : World) (pb pc k : Nat) (l : List PV) : Prop where
 row : RB w pb 75 (proCells l) pc 3
 lo : B <= pb /\ pb < H
 each : ∀ i, i < k -> (l.getD i .none).right ≠ [] -> (l.getD i .none).ra = some ⟨ablk (l.getD i .none).ra, 0, none⟩ /\ (B <= ablk (l.getD i .none).ra /\ ablk (l.getD i .none).ra < H) /\ ablk (l.getD i .none).ra ≠ pb /\ RB w (ablk (l.getD i .none).ra) 30 (symCells (l.getD i .none).right) (l.getD i .none).rc 2
 two : ∀ i j, i < k -> j < k -> i ≠ j -> (l.getD i .none).right ≠ [] -> (l.getD j .none).right ≠ [] -> ablk (l.getD i .none).ra ≠ ablk (l.getD j .none).ra
structure LMt (B H : Nat) (w : World) (pb pc k : Nat) (l : List LV) : Prop where
 row : RB w pb 92 (levCells l) pc 2
 lo : B <= pb /\ pb < H
 each : ∀ i, i < k -> (l.getD i .none).terms ≠ [] -> (l.getD i .none).ta = some ⟨ablk (l.getD i .none).ta, 0, none⟩ /\ (B <= ablk (l.getD i .none).ta /\ ablk (l.getD i .none).ta < H) /\ ablk (l.getD i .none).ta ≠ pb /\ RB w (ablk (l.getD i .none).ta) 3 ((l.getD i .none).terms.map (.int .i64 ·)) (l.getD i .none).tc 1
 two : ∀ i j, i < k -> j < k -> i ≠ j -> (l.getD i .none).terms ≠ [] -> (l.getD j .none).terms ≠ [] -> ablk (l.getD i .none).ta ≠ ablk (l.getD j .none).ta
theorem PM.kept {B H : Nat} {w w' : World} {pb pc k : Nat} {l : List PV} (h : PM B H w pb pc k l) (hb : ∀ j, B <= j -> j < H -> w'.heap[j]? = w.heap[j]?) : PM B H w' pb pc k l :=
 ⟨h.row.kept (hb _ h.lo.1 h.lo.2), h.lo, fun i hi hr => ⟨(h.each i hi hr).1, (h.each i hi hr).2.1, (h.each i hi hr).2.2.1, (h.each i hi hr).2.2.2.kept (hb _ (h.each i hi hr).2.1.1 (h.each i hi hr).2.1.2)⟩, h.two⟩
theorem LMt.kept {B H : Nat} {w w' : World} {pb pc k : Nat} {l : List LV} (h : LMt B H w pb pc k l) (hb : ∀ j, B <= j -> j < H -> w'.heap[j]? = w.heap[j]?) : LMt B H w' pb pc k l :=
 ⟨h.row.kept (hb _ h.lo.1 h.lo.2), h.lo, fun i hi hr => ⟨(h.each i hi hr).1, (h.each i hi hr).2.1, (h.each i hi hr).2.2.1, (h.each i hi hr).2.2.2.kept (hb _ (h.each i hi hr).2.1.1 (h.each i hi hr).2.1.2)⟩, h.two⟩
theorem PM.mono {B H H' : Nat} {w : World} {pb pc k : Nat} {l : List PV} (h : PM B H w pb pc k l) (hH : H <= H') : PM B H' w pb pc k l :=
 ⟨h.row, ⟨h.lo.1, Nat.lt_of_lt_of_le h.lo.2 hH⟩, fun i hi hr => ⟨(h.each i hi hr).1, ⟨(h.each i hi hr).2.1.1, Nat.lt_of_lt_of_le (h.each i hi hr).2.1.2 hH⟩, (h.each i hi hr).2.2⟩, h.two⟩
theorem LMt.mono {B H H' : Nat} {w : World} {pb pc k : Nat} {l : List LV} (h : LMt B H w pb pc k l) (hH : H <= H') : LMt B H' w pb pc k l :=
 ⟨h.row, ⟨h.lo.1, Nat.lt_of_lt_of_le h.lo.2 hH⟩, fun i hi hr => ⟨(h.each i hi hr).1, ⟨(h.each i hi hr).2.1.1, Nat.lt_of_lt_of_le (h.each i hi hr).2.1.2 hH⟩, (h.each i hi hr).2.2⟩, h.two⟩
theorem PM.later {B H : Nat} {w w' : World} {pb pc k : Nat} {l : List PV} (h : PM B H w pb pc k l) (hH : H <= w.heap.size) (hb : Below w.heap.size w w') : PM B H w' pb pc k l := h.kept fun j _ hj => hb.block j (Nat.lt_of_lt_of_le hj hH)
theorem LMt.later {B H : Nat} {w w' : World} {pb pc k : Nat} {l : List LV} (h : LMt B H w pb pc k l) (hH : H <= w.heap.size) (hb : Below w.heap.size w w') : LMt B H w' pb pc k l := h.kept fun j _ hj => hb.block j (Nat.lt_of_lt_of_le hj hH)
theorem PM.push {B H : Nat} {w : World} {pb pc k : Nat} {l : List PV} (h : PM B H w pb pc k l) (hk : k < l.length) (a : Option Addr) (c : Nat) (H' : Nat) (hH : H <= H')
  (hn : (l.getD k .none).right ≠ [] -> ∃ b, a = some ⟨b, 0, none⟩ /\ H <= b /\ b < H' /\ RB w b 30 (symCells (l.getD k .none).right) c 2) :
  PM B H' (w.setCell ⟨pb, k * 3 + 1, none⟩ (.slice a (l.getD k .none).right.length c)) pb pc (k + 1) (l.set k { l.getD k .none with ra := a, rc := c }) := by
 have hg := proCells_get l k hk
 have hcs : proCells (l.set k { l.getD k .none with ra := a, rc := c }) = (proCells l).set (k * 3 + 1) (.slice a (l.getD k .none).right.length c) := by
  rw [proCells_set hk, set_same hg.1, List.set_comm _ _ (by omega), set_same hg.2.2]
 have hB := h.lo.1
 refine ⟨hcs ▸ h.row.set _ _, ⟨h.lo.1, Nat.lt_of_lt_of_le h.lo.2 hH⟩, fun i hi hr => ?_, fun i j hi hj hij hri hrj => ?_⟩
 ·by_cases e : i = k
  ·subst e
   rw [getD_set_eq hk] at hr ⊢
   obtain ⟨b, rfl, h1, h2, h3⟩ := hn hr
   have hlo := h.lo
   have hne : b ≠ pb := by omega
   exact ⟨rfl, ⟨by show B <= b; omega, h2⟩, hne, h3.other hne _ _⟩
  ·rw [getD_set_ne e] at hr ⊢
   obtain ⟨h1, h2, h3, h4⟩ := h.each i (by omega) hr
   exact ⟨h1, ⟨h2.1, Nat.lt_of_lt_of_le h2.2 hH⟩, h3, h4.other h3 _ _⟩
 ·by_cases ei : i = k
  ·subst ei
   rw [getD_set_eq hk] at hri ⊢
   rw [getD_set_ne (Ne.symm hij)] at hrj ⊢
   obtain ⟨b, rfl, h1, _⟩ := hn hri
   have := (h.each j (by omega) hrj).2.1.2
   show b ≠ _
   omega
  ·rw [getD_set_ne ei] at hri ⊢
   by_cases ej : j = k
   ·subst ej
    rw [getD_set_eq hk] at hrj ⊢
    obtain ⟨b, rfl, h1, _⟩ := hn hrj
    have := (h.each i (by omega) hri).2.1.2
    show _ ≠ b
    omega
   ·rw [getD_set_ne ej] at hrj ⊢
    exact h.two i j (by omega) (by omega) hij hri hrj
theorem LMt.push {B H : Nat} {w : World} {pb pc k : Nat} {l : List LV} (h : LMt B H w pb pc k l) (hk : k < l.length) (a : Option Addr) (c : Nat) (H' : Nat) (hH : H <= H')
  (hn : (l.getD k .none).terms ≠ [] -> ∃ b, a = some ⟨b, 0, none⟩ /\ H <= b /\ b < H' /\ RB w b 3 ((l.getD k .none).terms.map (.int .i64 ·)) c 1) :
  LMt B H' (w.setCell ⟨pb, k * 2 + 1, none⟩ (.slice a (l.getD k .none).terms.length c)) pb pc (k + 1) (l.set k { l.getD k .none with ta := a, tc := c }) := by
 have hg := levCells_get l k hk
 have hcs : levCells (l.set k { l.getD k .none with ta := a, tc := c }) = (levCells l).set (k * 2 + 1) (.slice a (l.getD k .none).terms.length c) := by
  rw [levCells_set hk, set_same hg.1]
 have hB := h.lo.1
 refine ⟨hcs ▸ h.row.set _ _, ⟨h.lo.1, Nat.lt_of_lt_of_le h.lo.2 hH⟩, fun i hi hr => ?_, fun i j hi hj hij hri hrj => ?_⟩
 ·by_cases e : i = k
  ·subst e
   rw [getD_set_eq hk] at hr ⊢
   obtain ⟨b, rfl, h1, h2, h3⟩ := hn hr
   have hlo := h.lo
   have hne : b ≠ pb := by omega
   exact ⟨rfl, ⟨by show B <= b; omega, h2⟩, hne, h3.other hne _ _⟩
  ·rw [getD_set_ne e] at hr ⊢
   obtain ⟨h1, h2, h3, h4⟩ := h.each i (by omega) hr
   exact ⟨h1, ⟨h2.1, Nat.lt_of_lt_of_le h2.2 hH⟩, h3, h4.other h3 _ _⟩
 ·by_cases ei : i = k
  ·subst ei
   rw [getD_set_eq hk] at hri ⊢
   rw [getD_set_ne (Ne.symm hij)] at hrj ⊢
   obtain ⟨b, rfl, h1, _⟩ := hn hri
   have := (h.each j (by omega) hrj).2.1.2
   show b ≠ _
   omega
  ·rw [getD_set_ne ei] at hri ⊢
   by_cases ej : j = k
   ·subst ej
    rw [getD_set_eq hk] at hrj ⊢
    obtain ⟨b, rfl, h1, _⟩ := hn hrj
    have := (h.each i (by omega) hri).2.1.2
    show _ ≠ b
    omega
   ·rw [getD_set_ne ej] at hrj ⊢
    exact h.two i j (by omega) (by omega) hij hri hrj
theorem PM.turn {B H : Nat} {w w' : World} {pb pc k : Nat} {l : List PV} (h : PM B H w pb pc k l) (hkl : k <= l.length) {i : Nat} (hi : i < k) (hr : (l.getD i .none).right ≠ []) (r : List (Int × Int)) (hl : r.length = (l.getD i .none).right.length)
  (hb : ∀ j, B <= j -> j < H -> j ≠ ablk (l.getD i .none).ra -> w'.heap[j]? = w.heap[j]?) (hn : RB w' (ablk (l.getD i .none).ra) 30 (symCells r) (l.getD i .none).rc 2) : PM B H w' pb pc k (l.set i { l.getD i .none with right := r }) := by
 have hil : i < l.length := by omega
 have hg := proCells_get l i hil
 have hcs : proCells (l.set i { l.getD i .none with right := r }) = proCells l := by
  rw [proCells_set hil, set_same hg.1]
  simp only [hl]
  rw [set_same hg.2.1, set_same hg.2.2]
 obtain ⟨q1, q2, q3, q4⟩ := h.each i hi hr
 have hrn : ∀ j, j < k -> j ≠ i -> (l.getD j .none).right ≠ [] -> ablk (l.getD j .none).ra ≠ ablk (l.getD i .none).ra := fun j hj hji hrj => h.two j i hj hi hji hrj hr
 refine ⟨hcs ▸ h.row.kept (hb _ h.lo.1 h.lo.2 (Ne.symm q3)), h.lo, fun j hj hrj => ?_, fun x y hx hy hxy hrx hry => ?_⟩
 ·by_cases e : j = i
  ·subst e
   rw [getD_set_eq hil]
   exact ⟨q1, q2, q3, hn⟩
  ·rw [getD_set_ne e] at hrj ⊢
   obtain ⟨h1, h2, h3, h4⟩ := h.each j hj hrj
   exact ⟨h1, h2, h3, h4.kept (hb _ h2.1 h2.2 (hrn j hj e hrj))⟩
 ·have hz : ∀ z, z < k -> ((l.set i { l.getD i .none with right := r }).getD z .none).right ≠ [] -> ((l.set i { l.getD i .none with right := r }).getD z .none).ra = (l.getD z .none).ra /\ (l.getD z .none).right ≠ [] := fun z _ hrz => by
   by_cases e : z = i
   ·subst e; rw [getD_set_eq hil]; exact ⟨rfl, hr⟩
   ·rw [getD_set_ne e] at hrz ⊢; exact ⟨rfl, hrz⟩
  rw [(hz x hx hrx).1, (hz y hy hry).1]
  exact h.two x y hx hy hxy (hz x hx hrx).2 (hz y hy hry).2
theorem LMt.turn {B H : Nat} {w w' : World} {pb pc k : Nat} {l : List LV} (h : LMt B H w pb pc k l) (hkl : k <= l.length) {i : Nat} (hi : i < k) (hr : (l.getD i .none).terms ≠ []) (r : List Int) (hl : r.length = (l.getD i .none).terms.length)
  (hb : ∀ j, B <= j -> j < H -> j ≠ ablk (l.getD i .none).ta -> w'.heap[j]? = w.heap[j]?) (hn : RB w' (ablk (l.getD i .none).ta) 3 (r.map (.int .i64 ·)) (l.getD i .none).tc 1) : LMt B H w' pb pc k (l.set i { l.getD i .none with terms := r }) := by
 have hil : i < l.length := by omega
 have hg := levCells_get l i hil
 have hcs : levCells (l.set i { l.getD i .none with terms := r }) = levCells l := by
  rw [levCells_set hil, set_same hg.1]
  simp only [hl]
  rw [set_same hg.2]
 obtain ⟨q1, q2, q3, q4⟩ := h.each i hi hr
 have hrn : ∀ j, j < k -> j ≠ i -> (l.getD j .none).terms ≠ [] -> ablk (l.getD j .none).ta ≠ ablk (l.getD i .none).ta := fun j hj hji hrj => h.two j i hj hi hji hrj hr
 refine ⟨hcs ▸ h.row.kept (hb _ h.lo.1 h.lo.2 (Ne.symm q3)), h.lo, fun j hj hrj => ?_, fun x y hx hy hxy hrx hry => ?_⟩
 ·by_cases e : j = i
  ·subst e
   rw [getD_set_eq hil]
   exact ⟨q1, q2, q3, hn⟩
  ·rw [getD_set_ne e] at hrj ⊢
   obtain ⟨h1, h2, h3, h4⟩ := h.each j hj hrj
   exact ⟨h1, h2, h3, h4.kept (hb _ h2.1 h2.2 (hrn j hj e hrj))⟩
 ·have hz : ∀ z, z < k -> ((l.set i { l.getD i .none with terms := r }).getD z .none).terms ≠ [] -> ((l.set i { l.getD i .none with terms := r }).getD z .none).ta = (l.getD z .none).ta /\ (l.getD z .none).terms ≠ [] := fun z _ hrz => by
   by_cases e : z = i
   ·subst e; rw [getD_set_eq hil]; exact ⟨rfl, hr⟩
   ·rw [getD_set_ne e] at hrz ⊢; exact ⟨rfl, hrz⟩
  rw [(hz x hx hrx).1, (hz y hy hry).1]
  exact h.two x y hx hy hxy (hz x hx hrx).2 (hz y hy hry).2
theorem PM.left {B H : Nat} {w : World} {pb pc k : Nat} {l : List PV} (h : PM B H w pb pc k l) {i : Nat} (hi : i < l.length) (x : Int) :
  PM B H (w.setCell ⟨pb, i * 3, none⟩ (.int .i64 x)) pb pc k (l.set i { l.getD i .none with left := x }) := by
 have hg := proCells_get l i hi
 have hcs : proCells (l.set i { l.getD i .none with left := x }) = (proCells l).set (i * 3) (.int .i64 x) := by
  rw [proCells_set hi]
  dsimp only
  rw [set_same (l := (proCells l).set (i * 3) (.int .i64 x)) (by rw [List.getElem?_set_ne (by omega)]; exact hg.2.1), set_same (l := (proCells l).set (i * 3) (.int .i64 x)) (by rw [List.getElem?_set_ne (by omega)]; exact hg.2.2)]
 have hz : ∀ z, ((l.set i { l.getD i .none with left := x }).getD z .none).ra = (l.getD z .none).ra /\ ((l.set i { l.getD i .none with left := x }).getD z .none).right = (l.getD z .none).right /\ ((l.set i { l.getD i .none with left := x }).getD z .none).rc = (l.getD z .none).rc := fun z => by
  by_cases e : z = i
  ·subst e; rw [getD_set_eq hi]; exact ⟨rfl, rfl, rfl⟩
  ·rw [getD_set_ne e]; exact ⟨rfl, rfl, rfl⟩
 refine ⟨hcs ▸ h.row.set _ _, h.lo, fun j hj hr => ?_, fun a b ha hb hab hra hrb => ?_⟩
 ·rw [(hz j).2.1] at hr
  rw [(hz j).1, (hz j).2.1, (hz j).2.2]
  obtain ⟨h1, h2, h3, h4⟩ := h.each j hj hr
  exact ⟨h1, h2, h3, h4.other h3 _ _⟩
 ·rw [(hz a).1, (hz b).1]
  rw [(hz a).2.1] at hra
  rw [(hz b).2.1] at hrb
  exact h.two a b ha hb hab hra hrb
theorem PM.prec {B H : Nat} {w : World} {pb pc k : Nat} {l : List PV} (h : PM B H w pb pc k l) {i : Nat} (hi : i < l.length) (x : Int) :
  PM B H (w.setCell ⟨pb, i * 3 + 2, none⟩ (.int .i64 x)) pb pc k (l.set i { l.getD i .none with prec := x }) := by
 have hg := proCells_get l i hi
 have hcs : proCells (l.set i { l.getD i .none with prec := x }) = (proCells l).set (i * 3 + 2) (.int .i64 x) := by
  rw [proCells_set hi]
  dsimp only
  rw [set_same hg.1, set_same hg.2.1]
 have hz : ∀ z, ((l.set i { l.getD i .none with prec := x }).getD z .none).ra = (l.getD z .none).ra /\ ((l.set i { l.getD i .none with prec := x }).getD z .none).right = (l.getD z .none).right /\ ((l.set i { l.getD i .none with prec := x }).getD z .none).rc = (l.getD z .none).rc := fun z => by
  by_cases e : z = i
  ·subst e; rw [getD_set_eq hi]; exact ⟨rfl, rfl, rfl⟩
  ·rw [getD_set_ne e]; exact ⟨rfl, rfl, rfl⟩
 refine ⟨hcs ▸ h.row.set _ _, h.lo, fun j hj hr => ?_, fun a b ha hb hab hra hrb => ?_⟩
 ·rw [(hz j).2.1] at hr
  rw [(hz j).1, (hz j).2.1, (hz j).2.2]
  obtain ⟨h1, h2, h3, h4⟩ := h.each j hj hr
  exact ⟨h1, h2, h3, h4.other h3 _ _⟩
 ·rw [(hz a).1, (hz b).1]
  rw [(hz a).2.1] at hra
  rw [(hz b).2.1] at hrb
  exact h.two a b ha hb hab hra hrb
theorem symRow_of {w : World} {b c s : Nat} {l : List (Int × Int)} (h : RB w b 30 (symCells l) c s) : SymRow w (some ⟨b, 0, none⟩) l := by
 intro _
 refine ⟨b, 0, rfl, h.lt, fun i hi => ?_⟩
 obtain ⟨q1, q2⟩ := symCells_get l i hi
 have r1 := h.cell q1
 have r2 := h.cell q2
 exact ⟨by simpa using r1, by simpa [Nat.add_assoc] using r2⟩
theorem PM.at {B H : Nat} {w : World} {pb pc : Nat} {l : List PV} (h : PM B H w pb pc l.length l) : PrRow w (some ⟨pb, 0, none⟩) l := by
 refine ⟨fun _ => ⟨pb, 0, rfl, h.row.lt, fun i hi => ?_⟩, fun p hp => ?_⟩
 ·obtain ⟨q1, q2, q3⟩ := proCells_get l i hi
  exact ⟨by simpa using h.row.cell q1, by simpa [Nat.add_assoc] using h.row.cell q2, by simpa [Nat.add_assoc] using h.row.cell q3⟩
 ·obtain ⟨i, hi, rfl⟩ := List.getElem_of_mem hp
  have e : l.getD i .none = l[i] := by simp [List.getD, hi]
  intro hr
  have h2 := h.each i hi (by rw [e]; exact hr)
  rw [e] at h2
  have h3 := symRow_of h2.2.2.2 hr
  rw [h2.1]
  exact h3
theorem inRow_of {w : World} {b c s : Nat} {l : List Int} (h : RB w b 3 (l.map (.int .i64 ·)) c s) : InRow w (some ⟨b, 0, none⟩) l := by
 intro _
 refine ⟨b, 0, rfl, h.lt, fun i hi => ?_⟩
 have r1 := h.cell (i := i) (u := .int .i64 (l.getD i 0)) (by simp [List.getD, hi])
 simpa using r1
theorem LMt.at {B H : Nat} {w : World} {pb pc : Nat} {l : List LV} (h : LMt B H w pb pc l.length l) : LvRow w (some ⟨pb, 0, none⟩) l := by
 refine ⟨fun _ => ⟨pb, 0, rfl, h.row.lt, fun i hi => ?_⟩, fun p hp => ?_⟩
 ·obtain ⟨q1, q2⟩ := levCells_get l i hi
  exact ⟨by simpa using h.row.cell q1, by simpa [Nat.add_assoc] using h.row.cell q2⟩
 ·obtain ⟨i, hi, rfl⟩ := List.getElem_of_mem hp
  have e : l.getD i .none = l[i] := by simp [List.getD, hi]
  intro hr
  have h2 := h.each i hi (by rw [e]; exact hr)
  rw [e] at h2
  have h3 := inRow_of h2.2.2.2 hr
  rw [h2.1]
  exact h3
structure CBx (n0 : Nat) (w0 : World) (arr : Array Value) (w : World) : Prop where
 box : w.heap[n0]? = some (.cells arr 26 (0, 0))
 out : w.heap[n0 + 1]? = some (.cells #[.slice none 0 0, .slice none 0 0, .int .i64 0, .slice none 0 0, .slice none 0 0] 26 (0, 0))
 bel : Below n0 w0 w
theorem CBx.later {n0 : Nat} {w0 w w' : World} {arr : Array Value} (h : CBx n0 w0 arr w) (hb : Below w.heap.size w w') : CBx n0 w0 arr w' :=
 ⟨(hb.block _ (lt_of_block h.box)).trans h.box, (hb.block _ (lt_of_block h.out)).trans h.out, h.bel.trans (hb.mono (Nat.le_of_lt (lt_of_block h.box)))⟩
theorem CBx.set {n0 : Nat} {w0 w : World} {arr : Array Value} (h : CBx n0 w0 arr w) (i : Nat) (u : Value) : CBx n0 w0 (arr.setIfInBounds i u) (w.setCell ⟨n0, i, none⟩ u) :=
 ⟨heap_set h.box i u, (Below.heap_setCell _ _ _ _ (show n0 + 1 ≠ n0 by omega)).trans h.out, h.bel.setCell (p := ⟨n0, i, none⟩) (Nat.le_refl _) u⟩
theorem CBx.put {n0 : Nat} {w0 w : World} {arr : Array Value} (h : CBx n0 w0 arr w) (b i : Nat) (u : Value) (hb : n0 + 2 <= b) : CBx n0 w0 arr (w.setCell ⟨b, i, none⟩ u) :=
 ⟨(Below.heap_setCell _ _ _ _ (show n0 ≠ b by omega)).trans h.box, (Below.heap_setCell _ _ _ _ (show n0 + 1 ≠ b by omega)).trans h.out, h.bel.setCell (p := ⟨b, i, none⟩) (by show n0 <= b; omega) u⟩
theorem strCells {w : World} {ao : Option Addr} {l : List ByteArray} (h : StrRow w ao l) : l.map Value.string ≠ [] -> ∃ b off, ao = some ⟨b, off, none⟩ /\ b < w.heap.size /\ ∀ j u, (l.map Value.string)[j]? = some u -> w.cell? ⟨b, off + j, none⟩ = some u := by
 intro hne
 obtain ⟨b, off, e, hb, hc⟩ := h (by intro e; subst e; simp at hne)
 refine ⟨b, off, e, hb, fun j u hu => ?_⟩
 have hj : j < l.length := by have := (List.getElem?_eq_some_iff.1 hu).1; simpa using this
 rw [hc j hj]
 simp [List.getD, hj] at hu ⊢
 exact hu
theorem wpAnyX_takeC {P : Program} {ops : Array Oper} {Q : Exit -> Act -> World -> Prop} {md : Region.Mode} {i : Nat} {oi : Oper} {v : Value} {S0 : World -> Prop} {fuel : Nat} {listed : Array Bool} {a : Act} {w : World} (hi' : ops.toList[i]? = some oi)
  (hs : Region.noSelect ops = true) (hf : Region.free md ops listed i = true) (hr : (Region.ready md ops listed).contains i = true)
  (hQ : ∀ c a w, Q (.panic c) (a.put oi.dst v) w -> Q (.panic c) a w) (hy : YieldsIf P ops S0 oi v a) (hS : S0 w)
  (h : wpAnyX P md ops Q (fun _ => S0) fuel (listed.setIfInBounds i true) (a.put oi.dst v) w) : wpAnyX P md ops Q (fun _ => S0) (fuel + 1) listed a w :=
 have hi : ops[i]? = some oi := by rw [<- Array.getElem?_toList]; exact hi'
 wpAnyX_first (Cl := fun _ => True) (T := S0) hi (Region.noSelect_spec hs) hQ (fun _ _ _ _ => trivial) (fun _ _ _ _ h => h) (fun _ _ => Iff.rfl) fuel listed a w (Region.free_spec hi hf) (by simpa using hr) trivial hy hS h
theorem wpAnyX_takeW {P : Program} {ops : Array Oper} {Q : Exit -> Act -> World -> Prop} {md : Region.Mode} {m i : Nat} {oi : Oper} {v : Value} {S0 S1 : World -> Prop} {fuel : Nat} {listed : Array Bool} {a : Act} {w : World} (hi' : ops.toList[i]? = some oi)
  (hs : Region.noSelect ops = true) (hw : Region.waitsFor md ops m i = true) (him : i ≠ m) (hf : Region.free md ops listed i = true) (hr : (Region.ready md ops listed).contains i = true)
  (hQ : ∀ c a w, Q (.panic c) (a.put oi.dst v) w -> Q (.panic c) a w) (hc0 : listed.getD m false = false) (hy : YieldsIf P ops (fun w => S0 w /\ S1 w) oi v a) (hS : SX m S0 S1 listed w)
  (h : wpAnyX P md ops Q (SX m S0 S1) fuel (listed.setIfInBounds i true) (a.put oi.dst v) w) : wpAnyX P md ops Q (SX m S0 S1) (fuel + 1) listed a w :=
 have hi : ops[i]? = some oi := by rw [<- Array.getElem?_toList]; exact hi'
 wpAnyX_first (Cl := fun L => L.getD m false = true -> L.getD i false = true) (T := fun w => S0 w /\ S1 w) hi (Region.noSelect_spec hs) hQ
  (fun L j hL hj hm => by
   by_cases hjm : j = m
   ·subst hjm
    obtain ⟨_, oj, hoj, hall⟩ := mem_ready.1 hj
    obtain ⟨o', ho', e, he, hb, hon⟩ := Region.waitsFor_spec hw
    obtain rfl : o' = oj := Option.some.inj (ho'.symm.trans hoj)
    have h2 := hall e he hb
    rw [hon] at h2
    exact getD_set_true h2
   ·rw [Go.getD_set_ne false hjm] at hm
    exact getD_set_true (hL hm))
  (fun L w hc hun hS => ⟨hS.1, hS.2 (by
   cases e : L.getD m false with
   | false => rfl
   | true => have := hc e; rw [getD_both hun] at this; cases this)⟩)
  (fun L w => by
   have e : (L.setIfInBounds i true).getD m false = L.getD m false := Go.getD_set_ne false him
   unfold SX
   rw [e]) fuel listed a w (Region.free_spec hi hf) (by simpa using hr) (fun e => by rw [hc0] at e; cases e) hy hS h
theorem wpAnyX_take0 {P : Program} {ops : Array Oper} {Q : Exit -> Act -> World -> Prop} {md : Region.Mode} {m i : Nat} {oi : Oper} {v : Value} {S0 S1 : World -> Prop} {fuel : Nat} {listed : Array Bool} {a : Act} {w : World} (hi' : ops.toList[i]? = some oi)
  (hs : Region.noSelect ops = true) (him : i ≠ m) (hf : Region.free md ops listed i = true) (hr : (Region.ready md ops listed).contains i = true)
  (hQ : ∀ c a w, Q (.panic c) (a.put oi.dst v) w -> Q (.panic c) a w) (hy : YieldsIf P ops S0 oi v a) (hS : SX m S0 S1 listed w)
  (h : wpAnyX P md ops Q (SX m S0 S1) fuel (listed.setIfInBounds i true) (a.put oi.dst v) w) : wpAnyX P md ops Q (SX m S0 S1) (fuel + 1) listed a w :=
 have hi : ops[i]? = some oi := by rw [<- Array.getElem?_toList]; exact hi'
 wpAnyX_first (Cl := fun _ => True) (T := S0) hi (Region.noSelect_spec hs) hQ (fun _ _ _ _ => trivial) (fun _ _ _ _ h => h.1)
  (fun L w => by
   have e : (L.setIfInBounds i true).getD m false = L.getD m false := Go.getD_set_ne false him
   unfold SX
   rw [e]) fuel listed a w (Region.free_spec hi hf) (by simpa using hr) trivial hy hS h
theorem alloc_at (w : World) (o : Obj) : (w.alloc o).heap[w.heap.size]? = some o := heap_alloc_new w o
theorem wtC {P : Program} {ops : Array Oper} {Q : Exit → Act → World → Prop} {md : Region.Mode} {i : Nat} {oi : Oper} {v : Value} {S0 : World → Prop} {fuel : Nat} {listed : Array Bool} {a : Act} {w : World} (hi' : ops.toList[i]? = some oi) (hy : YieldsIf P ops S0 oi v a) (hS : S0 w) (h : wpAnyX P md ops Q (fun _ => S0) fuel (listed.setIfInBounds i true) (a.put oi.dst v) w)
    (hs : Region.noSelect ops = true := by kernel_rfl) (hf : Region.free md ops listed i = true := by decide +kernel) (hr : (Region.ready md ops listed).contains i = true := by decide +kernel) (hQ : ∀ c a w, Q (.panic c) (a.put oi.dst v) w → Q (.panic c) a w := by exact fun _ _ _ h => h) : wpAnyX P md ops Q (fun _ => S0) (fuel + 1) listed a w := wpAnyX_takeC hi' hs hf hr hQ hy hS h
theorem wtW {P : Program} {ops : Array Oper} {Q : Exit → Act → World → Prop} {md : Region.Mode} {m i : Nat} {oi : Oper} {v : Value} {S0 S1 : World → Prop} {fuel : Nat} {listed : Array Bool} {a : Act} {w : World} (hi' : ops.toList[i]? = some oi) (hy : YieldsIf P ops (fun w => S0 w ∧ S1 w) oi v a) (hS : SX m S0 S1 listed w) (h : wpAnyX P md ops Q (SX m S0 S1) fuel (listed.setIfInBounds i true) (a.put oi.dst v) w)
    (hs : Region.noSelect ops = true := by kernel_rfl) (hw : Region.waitsFor md ops m i = true := by decide +kernel) (him : i ≠ m := by decide) (hf : Region.free md ops listed i = true := by decide +kernel) (hr : (Region.ready md ops listed).contains i = true := by decide +kernel) (hQ : ∀ c a w, Q (.panic c) (a.put oi.dst v) w → Q (.panic c) a w := by exact fun _ _ _ h => h) (hc0 : listed.getD m false = false := by kernel_rfl) : wpAnyX P md ops Q (SX m S0 S1) (fuel + 1) listed a w := wpAnyX_takeW hi' hs hw him hf hr hQ hc0 hy hS h
theorem wt0 {P : Program} {ops : Array Oper} {Q : Exit → Act → World → Prop} {md : Region.Mode} {m i : Nat} {oi : Oper} {v : Value} {S0 S1 : World → Prop} {fuel : Nat} {listed : Array Bool} {a : Act} {w : World} (hi' : ops.toList[i]? = some oi) (hy : YieldsIf P ops S0 oi v a) (hS : SX m S0 S1 listed w) (h : wpAnyX P md ops Q (SX m S0 S1) fuel (listed.setIfInBounds i true) (a.put oi.dst v) w)
    (hs : Region.noSelect ops = true := by kernel_rfl) (him : i ≠ m := by decide) (hf : Region.free md ops listed i = true := by decide +kernel) (hr : (Region.ready md ops listed).contains i = true := by decide +kernel) (hQ : ∀ c a w, Q (.panic c) (a.put oi.dst v) w → Q (.panic c) a w := by exact fun _ _ _ h => h) : wpAnyX P md ops Q (SX m S0 S1) (fuel + 1) listed a w := wpAnyX_take0 hi' hs him hf hr hQ hy hS h
theorem cb_start (g : GV) (w : World) : CBx w.heap.size w #[.slice g.ta g.ts.length g.tc, .slice g.na g.ns.length g.nc, .int .i64 g.start, .slice g.pa g.ps.length g.pc, .slice g.la g.ls.length g.lc] ((w.alloc (.cells #[.slice g.ta g.ts.length g.tc, .slice g.na g.ns.length g.nc, .int .i64 g.start, .slice g.pa g.ps.length g.pc, .slice g.la g.ls.length g.lc] 26)).alloc (.cells #[.slice none 0 0, .slice none 0 0, .int .i64 0, .slice none 0 0, .slice none 0 0] 26)) := by
 obtain ⟨h1, h2, h3⟩ := two_alloc w (.cells #[.slice g.ta g.ts.length g.tc, .slice g.na g.ns.length g.nc, .int .i64 g.start, .slice g.pa g.ps.length g.pc, .slice g.la g.ls.length g.lc] 26) (.cells #[.slice none 0 0, .slice none 0 0, .int .i64 0, .slice none 0 0, .slice none 0 0] 26)
 exact ⟨h2, h3, h1⟩
theorem proCells_one (l : List PV) : ∀ u ∈ proCells l, u.oneCell' = true := by
 intro u hu
 obtain ⟨q, _, h⟩ := List.mem_flatMap.1 hu
 simp at h
 rcases h with rfl | rfl | rfl <;> rfl
theorem levCells_one (l : List LV) : ∀ u ∈ levCells l, u.oneCell' = true := by
 intro u hu
 obtain ⟨q, _, h⟩ := List.mem_flatMap.1 hu
 simp at h
 rcases h with rfl | rfl <;> rfl
theorem symCells_one (l : List (Int × Int)) : ∀ u ∈ symCells l, u.oneCell' = true := by
 intro u hu
 obtain ⟨q, _, h⟩ := List.mem_flatMap.1 hu
 simp at h
 rcases h with rfl | rfl <;> rfl
theorem proRow_cells {w : World} {ao : Option Addr} {l : List PV} (h : PrRow w ao l) : proCells l ≠ [] -> ∃ b off, ao = some ⟨b, off, none⟩ /\ b < w.heap.size /\ ∀ j u, (proCells l)[j]? = some u -> w.cell? ⟨b, off + j, none⟩ = some u := by
 intro hne
 obtain ⟨b, off, e, hb, hc⟩ := h.cells (by intro e; subst e; exact hne rfl)
 refine ⟨b, off, e, hb, fun j u hu => ?_⟩
 have hj : j < l.length * 3 := by have := (List.getElem?_eq_some_iff.1 hu).1; rwa [proCells_len] at this
 have hk : j / 3 < l.length := by omega
 obtain ⟨q1, q2, q3⟩ := proCells_get l (j / 3) hk
 obtain ⟨c1, c2, c3⟩ := hc (j / 3) hk
 have hm : j = j / 3 * 3 ∨ j = j / 3 * 3 + 1 ∨ j = j / 3 * 3 + 2 := by omega
 rcases hm with e' | e' | e'
 ·rw [e', q1] at hu; rw [e', <- hu]; exact c1
 ·rw [e', q2] at hu; rw [e', <- hu, <- Nat.add_assoc]; exact c2
 ·rw [e', q3] at hu; rw [e', <- hu, <- Nat.add_assoc]; exact c3
theorem levRow_cells {w : World} {ao : Option Addr} {l : List LV} (h : LvRow w ao l) : levCells l ≠ [] -> ∃ b off, ao = some ⟨b, off, none⟩ /\ b < w.heap.size /\ ∀ j u, (levCells l)[j]? = some u -> w.cell? ⟨b, off + j, none⟩ = some u := by
 intro hne
 obtain ⟨b, off, e, hb, hc⟩ := h.cells (by intro e; subst e; exact hne rfl)
 refine ⟨b, off, e, hb, fun j u hu => ?_⟩
 have hj : j < l.length * 2 := by have := (List.getElem?_eq_some_iff.1 hu).1; rwa [levCells_len] at this
 have hk : j / 2 < l.length := by omega
 obtain ⟨q1, q2⟩ := levCells_get l (j / 2) hk
 obtain ⟨c1, c2⟩ := hc (j / 2) hk
 have hm : j = j / 2 * 2 ∨ j = j / 2 * 2 + 1 := by omega
 rcases hm with e' | e'
 ·rw [e', q1] at hu; rw [e', <- hu]; exact c1
 ·rw [e', q2] at hu; rw [e', <- hu, <- Nat.add_assoc]; exact c2
theorem symRow_cells {w : World} {ao : Option Addr} {l : List (Int × Int)} (h : SymRow w ao l) : symCells l ≠ [] -> ∃ b off, ao = some ⟨b, off, none⟩ /\ b < w.heap.size /\ ∀ j u, (symCells l)[j]? = some u -> w.cell? ⟨b, off + j, none⟩ = some u := by
 intro hne
 obtain ⟨b, off, e, hb, hc⟩ := h (by intro e; subst e; exact hne rfl)
 refine ⟨b, off, e, hb, fun j u hu => ?_⟩
 have hj : j < l.length * 2 := by have := (List.getElem?_eq_some_iff.1 hu).1; rwa [symCells_len] at this
 have hk : j / 2 < l.length := by omega
 obtain ⟨q1, q2⟩ := symCells_get l (j / 2) hk
 obtain ⟨c1, c2⟩ := hc (j / 2) hk
 have hm : j = j / 2 * 2 ∨ j = j / 2 * 2 + 1 := by omega
 rcases hm with e' | e'
 ·rw [e', q1] at hu; rw [e', <- hu]; exact c1
 ·rw [e', q2] at hu; rw [e', <- hu, <- Nat.add_assoc]; exact c2
theorem inRow_cells {w : World} {ao : Option Addr} {l : List Int} (h : InRow w ao l) : (l.map (Value.int .i64 ·)) ≠ [] -> ∃ b off, ao = some ⟨b, off, none⟩ /\ b < w.heap.size /\ ∀ j u, (l.map (Value.int .i64 ·))[j]? = some u -> w.cell? ⟨b, off + j, none⟩ = some u := by
 intro hne
 obtain ⟨b, off, e, hb, hc⟩ := h (by intro e; subst e; exact hne rfl)
 refine ⟨b, off, e, hb, fun j u hu => ?_⟩
 have hj : j < l.length := by have := (List.getElem?_eq_some_iff.1 hu).1; simpa using this
 rw [hc j hj]
 simp [List.getD, hj] at hu ⊢
 exact hu
theorem core_setP {L : List PV} {k : Nat} (hk : k < L.length) (a : Option Addr) (c : Nat) : (L.set k { L.getD k .none with ra := a, rc := c }).map PV.core = L.map PV.core := by
 rw [List.map_set]
 refine set_same ?_
 simp [List.getD, hk, PV.core]
theorem core_setL {L : List LV} {k : Nat} (hk : k < L.length) (a : Option Addr) (c : Nat) : (L.set k { L.getD k .none with ta := a, tc := c }).map LV.core = L.map LV.core := by
 rw [List.map_set]
 refine set_same ?_
 simp [List.getD, hk, LV.core]
structure MG (B : Nat) (w : World) (g : GV) (A H E pb lb tb nb : Nat) : Prop where
 ord : B <= A /\ A <= H /\ H <= E /\ E <= w.heap.size
 t : g.ta = some ⟨tb, 0, none⟩ /\ RB w tb 9 (g.ts.map .string) g.tc 1 /\ (tb < A ∨ E <= tb) /\ B <= tb
 n_ : g.na = some ⟨nb, 0, none⟩ /\ RB w nb 9 (g.ns.map .string) g.nc 1 /\ (nb < A ∨ E <= nb) /\ B <= nb
 pa : g.pa = some ⟨pb, 0, none⟩
 p : PM A H w pb g.pc g.ps.length g.ps
 pc : g.ps.length <= g.pc
 l : g.ls ≠ [] -> g.la = some ⟨lb, 0, none⟩ /\ LMt H E w lb g.lc g.ls.length g.ls
 tn : tb ≠ nb
theorem str_one (l : List ByteArray) : ∀ u ∈ l.map Value.string, u.oneCell' = true := by
 intro u hu
 obtain ⟨s, _, rfl⟩ := List.mem_map.1 hu
 rfl
theorem int_one (l : List Int) : ∀ u ∈ l.map (Value.int .i64 ·), u.oneCell' = true := by
 intro u hu
 obtain ⟨s, _, rfl⟩ := List.mem_map.1 hu
 rfl
theorem run_csym {o : Oper} {a : Act} {t0 : TypeId} {v0 : Value} {x0 : Operand} (hop : o.op = Op.call { callee := Callee.value (Operand.func 69), args := #[x0], argTypes := #[t0] }) (h0 : a.eval x0 = v0) (w : World) : (execOp a.eval o).run Tryz.prog w = .ok (.enter 69 #[v0]) w := by
 have hf : a.eval (Operand.func 69) = .func (.func 69) #[] #[] := rfl
 simp [execOp, hop, resolve, invoke, h0, hf, Deferred.ofValue]
theorem run_cint {o : Oper} {a : Act} {t0 : TypeId} {v0 : Value} {x0 : Operand} (hop : o.op = Op.call { callee := Callee.value (Operand.func 71), args := #[x0], argTypes := #[t0] }) (h0 : a.eval x0 = v0) (w : World) : (execOp a.eval o).run Tryz.prog w = .ok (.enter 71 #[v0]) w := by
 have hf : a.eval (Operand.func 71) = .func (.func 71) #[] #[] := rfl
 simp [execOp, hop, resolve, invoke, h0, hf, Deferred.ofValue]
set_option linter.unusedSimpArgs false in
theorem clone_G (g : GV) (w : World) (h : GAt 1048576 w g) (ht : g.ts ≠ []) (hn : g.ns ≠ []) (hp : g.ps ≠ []) :
  Calls Tryz.prog 21 #[g.val] w fun e w' => ∃ g' A H E pb lb tb nb, e = .returned g'.val /\ SameG g g' /\ MG w.heap.size w' g' A H E pb lb tb nb /\ Below w.heap.size w w' := by
 have HGA : Hid (∀ w', Below w.heap.size w w' -> GAt 1048576 w' g) := fun w' hb => h.later hb
 have CB0 : Hid (CBx w.heap.size w #[.slice (g.ta) g.ts.length g.tc, .slice (g.na) g.ns.length g.nc, .int .i64 g.start, .slice (g.pa) g.ps.length g.pc, .slice (g.la) g.ls.length g.lc] ((w.alloc (.cells (gA g) 26)).alloc (.cells #[.slice none 0 0, .slice none 0 0, .int .i64 0, .slice none 0 0, .slice none 0 0] 26))) := cb_start g w
 have SZ0 : Hid (((w.alloc (.cells (gA g) 26)).alloc (.cells #[.slice none 0 0, .slice none 0 0, .int .i64 0, .slice none 0 0, .slice none 0 0] 26)).heap.size = w.heap.size + 2) := by show _ = _; simp
 have HL : Hid (g.ts.length <= 1048576 /\ g.ns.length <= 1048576 /\ g.ps.length <= 1048576 /\ g.ls.length <= 1048576) := ⟨h.tl, h.nl, h.pl, h.ll⟩
 have HN : Hid (g.ts.length ≠ 0 /\ g.ns.length ≠ 0 /\ g.ps.length ≠ 0) := ⟨fun e => ht (List.eq_nil_of_length_eq_zero e), fun e => hn (List.eq_nil_of_length_eq_zero e), fun e => hp (List.eq_nil_of_length_eq_zero e)⟩
 have hpl := h.pl
 have hll := h.ll
 clear h ht hn hp
 go_enter Tryz.func21, Tryz.ntmps21
 go_wp2_with (first
  | (go_at_call 68; refine (clone_prod g.pa g.ps.length g.pc (proCells g.ps) _ (proCells_len _) HL.out.2.2.1 (proRow_cells (HGA.out _ C2.out.bel).p) (proCells_one _)).mono ?_; rintro e w3 ⟨aX, c3, rfl, k3, m3, b3⟩; obtain ⟨pb, rfl, l3, r3⟩ := k3 HN.out.2.2; have D3 : Hid (CBx w.heap.size w #[.slice (some ⟨tb, 0, none⟩) g.ts.length c1, .slice (some ⟨nb, 0, none⟩) g.ns.length c2, .int .i64 g.start, .slice (g.pa) g.ps.length g.pc, .slice (g.la) g.ls.length g.lc] w3) := C2.out.later b3; have C3 : Hid (CBx w.heap.size w #[.slice (some ⟨tb, 0, none⟩) g.ts.length c1, .slice (some ⟨nb, 0, none⟩) g.ns.length c2, .int .i64 g.start, .slice (some ⟨pb, 0, none⟩) g.ps.length c3, .slice (g.la) g.ls.length g.lc] (w3.setCell ⟨w.heap.size, 3, none⟩ (.slice (some ⟨pb, 0, none⟩) g.ps.length c3))) := D3.out.set 3 _; have R3 : Hid (RB (w3.setCell ⟨w.heap.size, 3, none⟩ (.slice (some ⟨pb, 0, none⟩) g.ps.length c3)) pb 75 (proCells g.ps) c3 3 /\ (w2.setCell ⟨w.heap.size, 1, none⟩ (.slice (some ⟨nb, 0, none⟩) g.ns.length c2)).heap.size <= pb /\ g.ps.length <= c3) := ⟨r3.other (by have := T2.out.2.2.2; omega) _ _, l3, m3⟩; have T3 : Hid (RB (w3.setCell ⟨w.heap.size, 3, none⟩ (.slice (some ⟨pb, 0, none⟩) g.ps.length c3)) tb 9 (g.ts.map .string) c1 1 /\ RB (w3.setCell ⟨w.heap.size, 3, none⟩ (.slice (some ⟨pb, 0, none⟩) g.ps.length c3)) nb 9 (g.ns.map .string) c2 1) := ⟨(T2.out.1.later b3).other (by have := T2.out.2.2.2; omega) _ _, (T2.out.2.1.later b3).other (by have := T2.out.2.2.2; omega) _ _⟩; have q0 : w3.cell? ⟨w.heap.size, 3, none⟩ = some (.slice g.pa g.ps.length g.pc) := (cellq_any D3.out.box).trans rfl; have y0 : w3.frozen? ⟨w.heap.size, 3, none⟩ = false := (by simp [World.frozen?, D3.out.box]); have hz3 : w.heap.size < w3.heap.size := lt_of_block D3.out.box; clear k3 l3 r3 m3 b3)
  | (go_at_call 67; refine (clone_str g.na g.ns.length g.nc (g.ns.map .string) _ (by simp) HL.out.2.1 (strCells (HGA.out _ C1.out.bel).n_) (str_one _)).mono ?_; rintro e w2 ⟨aX, c2, rfl, k2, m2, b2⟩; obtain ⟨nb, rfl, l2, r2⟩ := k2 HN.out.2.1; have TN : Hid (tb < nb) := Nat.lt_of_lt_of_le T1.out.1.lt l2; have D2 : Hid (CBx w.heap.size w #[.slice (some ⟨tb, 0, none⟩) g.ts.length c1, .slice (g.na) g.ns.length g.nc, .int .i64 g.start, .slice (g.pa) g.ps.length g.pc, .slice (g.la) g.ls.length g.lc] w2) := C1.out.later b2; have C2 : Hid (CBx w.heap.size w #[.slice (some ⟨tb, 0, none⟩) g.ts.length c1, .slice (some ⟨nb, 0, none⟩) g.ns.length c2, .int .i64 g.start, .slice (g.pa) g.ps.length g.pc, .slice (g.la) g.ls.length g.lc] (w2.setCell ⟨w.heap.size, 1, none⟩ (.slice (some ⟨nb, 0, none⟩) g.ns.length c2))) := D2.out.set 1 _; have T2 : Hid (RB (w2.setCell ⟨w.heap.size, 1, none⟩ (.slice (some ⟨nb, 0, none⟩) g.ns.length c2)) tb 9 (g.ts.map .string) c1 1 /\ RB (w2.setCell ⟨w.heap.size, 1, none⟩ (.slice (some ⟨nb, 0, none⟩) g.ns.length c2)) nb 9 (g.ns.map .string) c2 1 /\ (tb < (w2.setCell ⟨w.heap.size, 1, none⟩ (.slice (some ⟨nb, 0, none⟩) g.ns.length c2)).heap.size /\ nb < (w2.setCell ⟨w.heap.size, 1, none⟩ (.slice (some ⟨nb, 0, none⟩) g.ns.length c2)).heap.size) /\ (w.heap.size + 2 <= tb /\ w.heap.size + 2 <= nb /\ w.heap.size + 2 <= (w2.setCell ⟨w.heap.size, 1, none⟩ (.slice (some ⟨nb, 0, none⟩) g.ns.length c2)).heap.size)) := (by have h1 := T1.out.2; have h2 := lt_of_block C1.out.out; have r2' := r2.other (show nb ≠ w.heap.size by omega) 1 (.slice (some ⟨nb, 0, none⟩) g.ns.length c2); have t2' := (T1.out.1.later b2).other (show tb ≠ w.heap.size by omega) 1 (.slice (some ⟨nb, 0, none⟩) g.ns.length c2); exact ⟨t2', r2', ⟨t2'.lt, r2'.lt⟩, h1, by omega, lt_of_block C2.out.out⟩); have q1 : w2.cell? ⟨w.heap.size, 1, none⟩ = some (.slice g.na g.ns.length g.nc) := (cellq_any D2.out.box).trans rfl; have y1 : w2.frozen? ⟨w.heap.size, 1, none⟩ = false := (by simp [World.frozen?, D2.out.box]); have q3 : w2.cell? ⟨w.heap.size, 3, none⟩ = some (.slice g.pa g.ps.length g.pc) := (cellq_any D2.out.box).trans rfl; have hz2 : w.heap.size < w2.heap.size := lt_of_block D2.out.box; clear k2 l2 r2 m2 b2)
  | (go_at_call 67; refine (clone_str g.ta g.ts.length g.tc (g.ts.map .string) _ (by simp) HL.out.1 (strCells (HGA.out _ CB0.out.bel).t) (str_one _)).mono ?_; rintro e w1 ⟨aX, c1, rfl, k1, m1, b1⟩; obtain ⟨tb, rfl, l1, r1⟩ := k1 HN.out.1; have D1 : Hid (CBx w.heap.size w #[.slice (g.ta) g.ts.length g.tc, .slice (g.na) g.ns.length g.nc, .int .i64 g.start, .slice (g.pa) g.ps.length g.pc, .slice (g.la) g.ls.length g.lc] w1) := CB0.out.later b1; have C1 : Hid (CBx w.heap.size w #[.slice (some ⟨tb, 0, none⟩) g.ts.length c1, .slice (g.na) g.ns.length g.nc, .int .i64 g.start, .slice (g.pa) g.ps.length g.pc, .slice (g.la) g.ls.length g.lc] (w1.setCell ⟨w.heap.size, 0, none⟩ (.slice (some ⟨tb, 0, none⟩) g.ts.length c1))) := D1.out.set 0 _; have T1 : Hid (RB (w1.setCell ⟨w.heap.size, 0, none⟩ (.slice (some ⟨tb, 0, none⟩) g.ts.length c1)) tb 9 (g.ts.map .string) c1 1 /\ w.heap.size + 2 <= tb) := (by have hh := SZ0.out; rw [hh] at l1; exact ⟨r1.other (by omega) _ _, l1⟩); have q0 : w1.cell? ⟨w.heap.size, 0, none⟩ = some (.slice g.ta g.ts.length g.tc) := (cellq_any D1.out.box).trans rfl; have y0 : w1.frozen? ⟨w.heap.size, 0, none⟩ = false := (by simp [World.frozen?, D1.out.box]); have q1 : w1.cell? ⟨w.heap.size, 1, none⟩ = some (.slice g.na g.ns.length g.nc) := (cellq_any D1.out.box).trans rfl; have hz1 : w.heap.size < w1.heap.size := lt_of_block D1.out.box; clear k1 l1 r1 m1 b1))
 obtain ⟨A, RA'⟩ : ∃ A, w.heap.size + 2 <= A /\ tb < A /\ nb < A /\ A <= pb := ⟨_, T2.out.2.2.2.2.2, T2.out.2.2.1.1, T2.out.2.2.1.2, R3.out.2.1⟩
 have RA : Hid (w.heap.size + 2 <= A /\ tb < A /\ nb < A /\ A <= pb /\ g.ps.length <= c3) := ⟨RA'.1, RA'.2.1, RA'.2.2.1, RA'.2.2.2, R3.out.2.2⟩
 have NEQ : Hid (w.heap.size + 2 <= tb /\ w.heap.size + 2 <= nb /\ tb < nb) := ⟨T2.out.2.2.2.1, T2.out.2.2.2.2.1, TN.out⟩
 clear RA'
 go_loopw [22] (fun z wr => ∃ (k H : Nat) (L : List PV), k <= g.ps.length /\ z = .int .i64 k /\ CBx w.heap.size w #[.slice (some ⟨tb, 0, none⟩) g.ts.length c1, .slice (some ⟨nb, 0, none⟩) g.ns.length c2, .int .i64 g.start, .slice (some ⟨pb, 0, none⟩) g.ps.length c3, .slice (g.la) g.ls.length g.lc] wr /\ (RB wr tb 9 (g.ts.map .string) c1 1 /\ RB wr nb 9 (g.ns.map .string) c2 1) /\ PM A H wr pb c3 k L /\ H <= wr.heap.size /\ L.map PV.core = g.ps.map PV.core /\ ∀ i, k <= i -> L.getD i .none = g.ps.getD i .none) (fun z _ => g.ps.length - (intOf z).toNat)
 case atStart => exact ⟨0, _, g.ps, Nat.zero_le _, rfl, C3.out, T3.out, ⟨R3.out.1, ⟨RA.out.2.2.2.1, R3.out.1.lt⟩, fun i hi => absurd hi (Nat.not_lt_zero _), fun i j hi => absurd hi (Nat.not_lt_zero _)⟩, Nat.le_refl _, rfl, fun _ _ => rfl⟩
 case round =>
  clear q0 y0 q1 y1 q3 C1 C2 C3 D1 D2 D3 T1 T2 T3 R3 CB0 SZ0 hz1 hz2 hz3
  obtain ⟨k, H, L, hk, rfl, hC, hT, hP, hH, hcore, hrest⟩ := hrel
  have hLl : L.length = g.ps.length := by simpa using congrArg List.length hcore
  have NE : Hid (w.heap.size + 2 <= tb /\ w.heap.size + 2 <= nb /\ tb < nb) := NEQ.out
  have b3 : wr.cell? ⟨w.heap.size, 3, none⟩ = some (.slice (some ⟨pb, 0, none⟩) g.ps.length c3) := (cellq_any hC.box).trans rfl
  have HC : Hid (CBx w.heap.size w #[.slice (some ⟨tb, 0, none⟩) g.ts.length c1, .slice (some ⟨nb, 0, none⟩) g.ns.length c2, .int .i64 g.start, .slice (some ⟨pb, 0, none⟩) g.ps.length c3, .slice (g.la) g.ls.length g.lc] wr /\ (RB wr tb 9 (g.ts.map .string) c1 1 /\ RB wr nb 9 (g.ns.map .string) c2 1) /\ PM A H wr pb c3 k L /\ H <= wr.heap.size /\ L.map PV.core = g.ps.map PV.core /\ ∀ i, k <= i -> L.getD i .none = g.ps.getD i .none) := ⟨hC, hT, hP, hH, hcore, hrest⟩
  by_cases hlt : k < g.ps.length
  ·obtain ⟨p0, p1, p2⟩ := proCells_get L k (by omega)
   have c0 := hP.row.cell p0
   have c1' := hP.row.cell p1
   have c2' := hP.row.cell p2
   have hmem : L.getD k .none ∈ g.ps := by rw [hrest k (Nat.le_refl _)]; simp [List.getD, hlt]
   have GA := HGA.out wr hC.bel
   have HR : Hid (SymRow wr (L.getD k .none).ra (L.getD k .none).right /\ (L.getD k .none).right.length <= 1048576) := ⟨GA.p.rows _ hmem, GA.rl _ hmem⟩
   clear hC hT hP hH hcore hrest p0 p1 p2 hmem GA
   generalize hx : L.getD k .none = x at *
   have HX : Hid (L.getD k .none = x) := hx
   clear hx
   obtain ⟨pl, pra, prc, pr, pp⟩ := x
   simp only at c0 c1' c2' HR
   go_wp2
   have BQ : Hid (Below wr.heap.size wr (wr.alloc (.cells #[.int .i64 pl, .slice pra pr.length prc, .int .i64 pp] 75)).drew) := by show Below _ _ _; go_grown
   have hs0 : Hid ((fun w' => w'.cell? ⟨w.heap.size, 3, none⟩ = some (.slice (some ⟨pb, 0, none⟩) g.ps.length c3) /\ w'.cell? ⟨wr.heap.size, 1, none⟩ = some (.slice pra pr.length prc)) (wr.alloc (.cells #[.int .i64 pl, .slice pra pr.length prc, .int .i64 pp] 75)).drew) := ⟨(cellq_any (HC.out.1.later BQ.out).box).trans rfl, by show (wr.alloc (.cells #[.int .i64 pl, .slice pra pr.length prc, .int .i64 pp] 75)).cell? _ = _; rw [cellq_any (alloc_at wr _)]; rfl⟩
   refine wp_region_x (S := fun _ => (fun w' => w'.cell? ⟨w.heap.size, 3, none⟩ = some (.slice (some ⟨pb, 0, none⟩) g.ps.length c3) /\ w'.cell? ⟨wr.heap.size, 1, none⟩ = some (.slice pra pr.length prc))) (by kernel_rfl) ?_
   refine wtC (i := 0) (v := ?_) rfl (Or.inl ⟨by rfl, ?_⟩) hs0.out ?_
   rotate_left
   ·(intro w hSw; (try dsimp only at hSw); go_simp; try (with_reducible rfl))
   (try simp only [Act.put, lsA, lsZ, lsN])
   refine wtC (i := 1) (v := ?_) rfl (Or.inl ⟨by rfl, ?_⟩) hs0.out ?_
   rotate_left
   ·(intro w hSw; (try dsimp only at hSw); go_simp; try (with_reducible rfl))
   (try simp only [Act.put, lsA, lsZ, lsN])
   refine wtC (i := 2) (v := ?_) rfl (Or.inl ⟨by rfl, ?_⟩) hs0.out ?_
   rotate_left
   ·(intro w hSw; (try dsimp only at hSw); go_simp; try (with_reducible rfl))
   (try simp only [Act.put, lsA, lsZ, lsN])
   refine wtC (i := 3) (v := ?_) rfl (Or.inl ⟨by rfl, ?_⟩) hs0.out ?_
   rotate_left
   ·(intro w hSw; (try dsimp only at hSw); go_simp; try (with_reducible rfl))
   (try simp only [Act.put, lsA, lsZ, lsN])
   refine wtC (i := 4) (v := ?_) rfl (Or.inl ⟨by rfl, ?_⟩) hs0.out ?_
   rotate_left
   ·(intro w hSw; (try dsimp only at hSw); go_simp; try (with_reducible rfl))
   (try simp only [Act.put, lsA, lsZ, lsN])
   refine wpAnyX_one (j := 5) (by decide +kernel) rfl (fun K' hK => ?_)
   refine step_callX rfl 69 #[.slice pra pr.length prc] _ (run_csym (v0 := .slice pra pr.length prc) (by rfl) (by rfl) _) (clone_sym pra pr.length prc (symCells pr) _ (symCells_len _) HR.out.2 (symRow_cells (HR.out.1.later (Nat.le_refl _) BQ.out)) (symCells_one _)) ?_
   rintro e w4 ⟨a4, c4, rfl, k4, m4, b4⟩
   have B4 : Hid (Below wr.heap.size wr w4) := BQ.out.trans (b4.mono BQ.out.size)
   have s4 : Hid ((fun w' => w'.cell? ⟨w.heap.size, 3, none⟩ = some (.slice (some ⟨pb, 0, none⟩) g.ps.length c3) /\ w'.cell? ⟨wr.heap.size, 1, none⟩ = some (.slice pra pr.length prc)) w4) := ⟨(cellq_any (HC.out.1.later B4.out).box).trans rfl, (b4.cell (p := ⟨wr.heap.size, 1, none⟩) (by show _ < (wr.alloc (.cells #[.int .i64 pl, .slice pra pr.length prc, .int .i64 pp] 75)).heap.size; simp)).trans hs0.out.2⟩
   have P4 : Hid (PM A H w4 pb c3 k L) := HC.out.2.2.1.later HC.out.2.2.2.1 B4.out
   refine ⟨_, rfl, hK.out _ _ s4.out ?_⟩
   clear hK K'
   refine wtC (i := 6) (v := ?_) rfl (Or.inl ⟨by rfl, ?_⟩) s4.out ?_
   rotate_left
   ·(intro w hSw; (try dsimp only at hSw); go_simp; try (with_reducible rfl))
   (try simp only [Act.put, lsA, lsZ, lsN])
   refine wtC (i := 7) (v := ?_) rfl (Or.inl ⟨by rfl, ?_⟩) s4.out ?_
   rotate_left
   ·(intro w hSw; (try dsimp only at hSw); go_simp; try (with_reducible rfl))
   (try simp only [Act.put, lsA, lsZ, lsN])
   have x1 : w4.cell? ⟨pb, k * 3 + 1, none⟩ = some (.slice pra pr.length prc) := (by have hh := P4.out.row.cell (proCells_get L k (by omega)).2.1; rw [HX.out] at hh; exact hh)
   have x2 : w4.frozen? ⟨pb, k * 3 + 1, none⟩ = false := P4.out.row.free _
   have x3 : pb < w4.heap.size := P4.out.row.lt
   refine wpAnyX_one (j := 8) (by decide +kernel) rfl (fun K' hK => ?_)
   go_simp
   refine hK.out _ _ (by have hh := s4.out; exact ⟨(cellq_any ((HC.out.1.later B4.out).put pb _ _ (by have := RA.out; omega)).box).trans rfl, (World.cell?_of_block (Below.heap_setCell _ _ _ _ (show wr.heap.size ≠ pb by have := HC.out.2.2.1.lo.2; have := HC.out.2.2.2.1; omega))).trans hh.2⟩) ?_
   clear hK K'
   refine wpAnyX_done (by decide +kernel) ?_
   go_wp2
   go_roundw
   case rel =>
    have PP := P4.out.push (by omega) a4 c4 w4.heap.size (Nat.le_trans HC.out.2.2.2.1 B4.out.size) (fun hr => by
     rw [HX.out] at hr ⊢
     obtain ⟨b, e1, e2, e3⟩ := k4 (fun e => hr (List.eq_nil_of_length_eq_zero e))
     exact ⟨b, e1, Nat.le_trans (Nat.le_trans HC.out.2.2.2.1 BQ.out.size) e2, e3.lt, e3⟩)
    have hlo := HC.out.2.2.1.lo
    have hra := RA.out
    have CR := core_setP (L := L) (k := k) (by omega) a4 c4
    have GN : ∀ i, k + 1 <= i -> (L.set k { L.getD k .none with ra := a4, rc := c4 }).getD i .none = g.ps.getD i .none := fun i hi => by rw [getD_set_ne (by omega)]; exact HC.out.2.2.2.2.2 i (by omega)
    rw [HX.out] at PP CR GN
    refine ⟨k + 1, w4.heap.size, _, by omega, by go_num, (HC.out.1.later B4.out).put pb _ _ (by omega), ⟨(HC.out.2.1.1.later B4.out).other (by omega) _ _, (HC.out.2.1.2.later B4.out).other (by omega) _ _⟩, PP, by simp, CR.trans HC.out.2.2.2.2.1, GN⟩
   case measure => simp [intOf]; omega
  ·obtain rfl : k = g.ps.length := by omega
   have b4 : wr.cell? ⟨w.heap.size, 4, none⟩ = some (.slice g.la g.ls.length g.lc) := (cellq_any hC.box).trans rfl
   have CO : Hid (L.map PV.core = g.ps.map PV.core) := hcore
   have w0' : Hid (H <= wr.heap.size) := hH
   obtain ⟨HB, hHB⟩ : ∃ HB, HB = wr.heap.size := ⟨_, rfl⟩
   have HHB : Hid (HB = wr.heap.size /\ H <= HB /\ A <= HB) := ⟨hHB, by omega, by have := hP.lo; omega⟩
   clear hC hT hP hH hcore hrest hHB
   go_wp2_with (go_at_call 70; refine (clone_lev g.la g.ls.length g.lc (levCells g.ls) _ (levCells_len _) HL.out.2.2.2 (levRow_cells (HGA.out _ HC.out.1.bel).l) (levCells_one _)).mono ?_; rintro e w5 ⟨a5, c5, rfl, k5, m5, b5⟩; have C5 : Hid (CBx w.heap.size w #[.slice (some ⟨tb, 0, none⟩) g.ts.length c1, .slice (some ⟨nb, 0, none⟩) g.ns.length c2, .int .i64 g.start, .slice (some ⟨pb, 0, none⟩) g.ps.length c3, .slice (g.la) g.ls.length g.lc] w5) := HC.out.1.later b5; have D5 : Hid (CBx w.heap.size w #[.slice (some ⟨tb, 0, none⟩) g.ts.length c1, .slice (some ⟨nb, 0, none⟩) g.ns.length c2, .int .i64 g.start, .slice (some ⟨pb, 0, none⟩) g.ps.length c3, .slice (a5) g.ls.length c5] (w5.setCell ⟨w.heap.size, 4, none⟩ (.slice a5 g.ls.length c5))) := C5.out.set 4 _; have T5 : Hid (RB (w5.setCell ⟨w.heap.size, 4, none⟩ (.slice a5 g.ls.length c5)) tb 9 (g.ts.map .string) c1 1 /\ RB (w5.setCell ⟨w.heap.size, 4, none⟩ (.slice a5 g.ls.length c5)) nb 9 (g.ns.map .string) c2 1) := ⟨(HC.out.2.1.1.later b5).other (by have := NE.out.1; omega) _ _, (HC.out.2.1.2.later b5).other (by have := NE.out.2; omega) _ _⟩; have P5 : Hid (PM A H (w5.setCell ⟨w.heap.size, 4, none⟩ (.slice a5 g.ls.length c5)) pb c3 g.ps.length L) := (HC.out.2.2.1.later HC.out.2.2.2.1 b5).kept (fun j hj _ => Below.heap_setCell _ _ _ _ (show j ≠ w.heap.size by have := RA.out.1; omega)); have K5 : Hid (g.ls ≠ [] -> ∃ lb, a5 = some ⟨lb, 0, none⟩ /\ HB <= lb /\ RB (w5.setCell ⟨w.heap.size, 4, none⟩ (.slice a5 g.ls.length c5)) lb 92 (levCells g.ls) c5 2) := (fun hl => by obtain ⟨lb, e1, e2, e3⟩ := k5 (fun e => hl (List.eq_nil_of_length_eq_zero e)); have := RA.out.1; have := HHB.out; exact ⟨lb, e1, by omega, e3.other (by omega) _ _⟩); have S5 : Hid (HB <= (w5.setCell ⟨w.heap.size, 4, none⟩ (.slice a5 g.ls.length c5)).heap.size) := (by show HB <= _; rw [HHB.out.1]; simpa using b5.size); have q4 : w5.cell? ⟨w.heap.size, 4, none⟩ = some (.slice g.la g.ls.length g.lc) := (cellq_any C5.out.box).trans rfl; have y4 : w5.frozen? ⟨w.heap.size, 4, none⟩ = false := (by simp [World.frozen?, C5.out.box]); have hz5 : w.heap.size < w5.heap.size := lt_of_block C5.out.box; clear k5 m5 b5)
   clear b3 b4 HC
   go_loopw [43] (fun z wr => ∃ (k E : Nat) (M : List LV), k <= g.ls.length /\ z = .int .i64 k /\ (CBx w.heap.size w #[.slice (some ⟨tb, 0, none⟩) g.ts.length c1, .slice (some ⟨nb, 0, none⟩) g.ns.length c2, .int .i64 g.start, .slice (some ⟨pb, 0, none⟩) g.ps.length c3, .slice (a5) g.ls.length c5] wr /\ (RB wr tb 9 (g.ts.map .string) c1 1 /\ RB wr nb 9 (g.ns.map .string) c2 1) /\ PM A H wr pb c3 g.ps.length L) /\ (g.ls ≠ [] -> ∃ lb, a5 = some ⟨lb, 0, none⟩ /\ LMt HB E wr lb c5 k M) /\ (HB <= E /\ E <= wr.heap.size) /\ M.map LV.core = g.ls.map LV.core /\ ∀ i, k <= i -> M.getD i .none = g.ls.getD i .none) (fun z _ => g.ls.length - (intOf z).toNat)
   case atStart =>
    refine ⟨0, _, g.ls, Nat.zero_le _, rfl, ⟨D5.out, T5.out, P5.out⟩, fun hl => ?_, ⟨S5.out, Nat.le_refl _⟩, rfl, fun _ _ => rfl⟩
    obtain ⟨lb, e1, e2, e3⟩ := K5.out hl
    exact ⟨lb, e1, e3, ⟨e2, e3.lt⟩, fun i hi => absurd hi (Nat.not_lt_zero _), fun i j hi => absurd hi (Nat.not_lt_zero _)⟩
   case round =>
    clear q4 y4 C5 D5 T5 P5 K5 S5 hz5
    obtain ⟨k, E, M, hk, rfl, hC, hP, hH, hcore, hrest⟩ := hrel
    have hLl : M.length = g.ls.length := by simpa using congrArg List.length hcore
    by_cases hlt : k < g.ls.length
    ·have hls : g.ls ≠ [] := by intro e; rw [e] at hlt; simp at hlt
     obtain ⟨lb, e5, hP2⟩ := hP hls
     clear hP
     subst e5
     have hP := hP2
     clear hP2
     have b3 : wr.cell? ⟨w.heap.size, 4, none⟩ = some (.slice (some ⟨lb, 0, none⟩) g.ls.length c5) := (cellq_any hC.1.box).trans rfl
     have HC : Hid ((CBx w.heap.size w #[.slice (some ⟨tb, 0, none⟩) g.ts.length c1, .slice (some ⟨nb, 0, none⟩) g.ns.length c2, .int .i64 g.start, .slice (some ⟨pb, 0, none⟩) g.ps.length c3, .slice (some ⟨lb, 0, none⟩) g.ls.length c5] wr /\ (RB wr tb 9 (g.ts.map .string) c1 1 /\ RB wr nb 9 (g.ns.map .string) c2 1) /\ PM A H wr pb c3 g.ps.length L) /\ LMt HB E wr lb c5 k M /\ (HB <= E /\ E <= wr.heap.size) /\ M.map LV.core = g.ls.map LV.core /\ ∀ i, k <= i -> M.getD i .none = g.ls.getD i .none) := ⟨hC, hP, hH, hcore, hrest⟩
     obtain ⟨p0, p1⟩ := levCells_get M k (by omega)
     have c0 := hP.row.cell p0
     have c1' := hP.row.cell p1
     have hmem : M.getD k .none ∈ g.ls := by rw [hrest k (Nat.le_refl _)]; simp [List.getD, hlt]
     have GA := HGA.out wr hC.1.bel
     have HR : Hid (InRow wr (M.getD k .none).ta (M.getD k .none).terms /\ (M.getD k .none).terms.length <= 1048576) := ⟨GA.l.rows _ hmem, GA.vl _ hmem⟩
     clear hC hP hH hcore hrest p0 p1 hmem GA
     generalize hx : M.getD k .none = x at *
     have HX : Hid (M.getD k .none = x) := hx
     clear hx
     obtain ⟨pl, pra, prc, pr⟩ := x
     simp only at c0 c1' HR
     go_wp2
     have BQ : Hid (Below wr.heap.size wr (wr.alloc (.cells #[.int .i64 pl, .slice pra pr.length prc] 92)).drew) := by show Below _ _ _; go_grown
     have hs0 : Hid ((fun w' => w'.cell? ⟨w.heap.size, 4, none⟩ = some (.slice (some ⟨lb, 0, none⟩) g.ls.length c5) /\ w'.cell? ⟨wr.heap.size, 1, none⟩ = some (.slice pra pr.length prc)) (wr.alloc (.cells #[.int .i64 pl, .slice pra pr.length prc] 92)).drew) := ⟨(cellq_any (HC.out.1.1.later BQ.out).box).trans rfl, by show (wr.alloc (.cells #[.int .i64 pl, .slice pra pr.length prc] 92)).cell? _ = _; rw [cellq_any (alloc_at wr _)]; rfl⟩
     refine wp_region_x (S := fun _ => (fun w' => w'.cell? ⟨w.heap.size, 4, none⟩ = some (.slice (some ⟨lb, 0, none⟩) g.ls.length c5) /\ w'.cell? ⟨wr.heap.size, 1, none⟩ = some (.slice pra pr.length prc))) (by kernel_rfl) ?_
     refine wtC (i := 0) (v := ?_) rfl (Or.inl ⟨by rfl, ?_⟩) hs0.out ?_
     rotate_left
     ·(intro w hSw; (try dsimp only at hSw); go_simp; try (with_reducible rfl))
     (try simp only [Act.put, lsA, lsZ, lsN])
     refine wtC (i := 1) (v := ?_) rfl (Or.inl ⟨by rfl, ?_⟩) hs0.out ?_
     rotate_left
     ·(intro w hSw; (try dsimp only at hSw); go_simp; try (with_reducible rfl))
     (try simp only [Act.put, lsA, lsZ, lsN])
     refine wtC (i := 2) (v := ?_) rfl (Or.inl ⟨by rfl, ?_⟩) hs0.out ?_
     rotate_left
     ·(intro w hSw; (try dsimp only at hSw); go_simp; try (with_reducible rfl))
     (try simp only [Act.put, lsA, lsZ, lsN])
     refine wtC (i := 3) (v := ?_) rfl (Or.inl ⟨by rfl, ?_⟩) hs0.out ?_
     rotate_left
     ·(intro w hSw; (try dsimp only at hSw); go_simp; try (with_reducible rfl))
     (try simp only [Act.put, lsA, lsZ, lsN])
     refine wtC (i := 4) (v := ?_) rfl (Or.inl ⟨by rfl, ?_⟩) hs0.out ?_
     rotate_left
     ·(intro w hSw; (try dsimp only at hSw); go_simp; try (with_reducible rfl))
     (try simp only [Act.put, lsA, lsZ, lsN])
     refine wpAnyX_one (j := 5) (by decide +kernel) rfl (fun K' hK => ?_)
     refine step_callX rfl 71 #[.slice pra pr.length prc] _ (run_cint (v0 := .slice pra pr.length prc) (by rfl) (by rfl) _) (clone_int pra pr.length prc (pr.map (Value.int .i64 ·)) _ (by simp) HR.out.2 (inRow_cells (HR.out.1.later BQ.out)) (int_one _)) ?_
     rintro e w4 ⟨a4, c4, rfl, k4, m4, b4⟩
     have B4 : Hid (Below wr.heap.size wr w4) := BQ.out.trans (b4.mono BQ.out.size)
     have s4 : Hid ((fun w' => w'.cell? ⟨w.heap.size, 4, none⟩ = some (.slice (some ⟨lb, 0, none⟩) g.ls.length c5) /\ w'.cell? ⟨wr.heap.size, 1, none⟩ = some (.slice pra pr.length prc)) w4) := ⟨(cellq_any (HC.out.1.1.later B4.out).box).trans rfl, (b4.cell (p := ⟨wr.heap.size, 1, none⟩) (by show _ < (wr.alloc (.cells #[.int .i64 pl, .slice pra pr.length prc] 92)).heap.size; simp)).trans hs0.out.2⟩
     have P4 : Hid (LMt HB E w4 lb c5 k M) := HC.out.2.1.later HC.out.2.2.1.2 B4.out
     refine ⟨_, rfl, hK.out _ _ s4.out ?_⟩
     clear hK K'
     refine wtC (i := 6) (v := ?_) rfl (Or.inl ⟨by rfl, ?_⟩) s4.out ?_
     rotate_left
     ·(intro w hSw; (try dsimp only at hSw); go_simp; try (with_reducible rfl))
     (try simp only [Act.put, lsA, lsZ, lsN])
     refine wtC (i := 7) (v := ?_) rfl (Or.inl ⟨by rfl, ?_⟩) s4.out ?_
     rotate_left
     ·(intro w hSw; (try dsimp only at hSw); go_simp; try (with_reducible rfl))
     (try simp only [Act.put, lsA, lsZ, lsN])
     have x1 : w4.cell? ⟨lb, k * 2 + 1, none⟩ = some (.slice pra pr.length prc) := (by have hh := P4.out.row.cell (levCells_get M k (by omega)).2; rw [HX.out] at hh; exact hh)
     have x2 : w4.frozen? ⟨lb, k * 2 + 1, none⟩ = false := P4.out.row.free _
     have x3 : lb < w4.heap.size := P4.out.row.lt
     have LB : Hid (w.heap.size + 2 <= lb /\ tb < lb /\ nb < lb /\ H <= lb /\ lb < wr.heap.size) := by
      have h1 := HC.out.2.1.lo; have h2 := RA.out; have h3 := HHB.out; have h4 := HC.out.2.2.1.2
      exact ⟨by omega, by omega, by omega, by omega, by omega⟩
     refine wpAnyX_one (j := 8) (by decide +kernel) rfl (fun K' hK => ?_)
     go_simp
     refine hK.out _ _ (by have hh := s4.out; exact ⟨(cellq_any ((HC.out.1.1.later B4.out).put lb _ _ LB.out.1).box).trans rfl, (World.cell?_of_block (Below.heap_setCell _ _ _ _ (show wr.heap.size ≠ lb by have := LB.out; omega))).trans hh.2⟩) ?_
     clear hK K'
     refine wpAnyX_done (by decide +kernel) ?_
     go_wp2
     go_roundw
     case rel =>
      have PP := P4.out.push (by omega) a4 c4 w4.heap.size (Nat.le_trans HC.out.2.2.1.2 B4.out.size) (fun hr => by
       rw [HX.out] at hr ⊢
       obtain ⟨b, e1, e2, e3⟩ := k4 (fun e => hr (List.eq_nil_of_length_eq_zero e))
       exact ⟨b, e1, Nat.le_trans (Nat.le_trans HC.out.2.2.1.2 BQ.out.size) e2, e3.lt, e3⟩)
      have hlb := LB.out
      have CR := core_setL (L := M) (k := k) (by omega) a4 c4
      have GN : ∀ i, k + 1 <= i -> (M.set k { M.getD k .none with ta := a4, tc := c4 }).getD i .none = g.ls.getD i .none := fun i hi => by rw [getD_set_ne (by omega)]; exact HC.out.2.2.2.2 i (by omega)
      rw [HX.out] at PP CR GN
      refine ⟨k + 1, w4.heap.size, _, by omega, by go_num, ⟨(HC.out.1.1.later B4.out).put lb _ _ (by omega), ⟨(HC.out.1.2.1.1.later B4.out).other (by omega) _ _, (HC.out.1.2.1.2.later B4.out).other (by omega) _ _⟩, (HC.out.1.2.2.later (Nat.le_trans HHB.out.2.1 (Nat.le_trans HC.out.2.2.1.1 HC.out.2.2.1.2)) B4.out).kept (fun j _ hj => Below.heap_setCell _ _ _ _ (show j ≠ lb by omega))⟩, fun _ => ⟨lb, rfl, PP⟩, ⟨Nat.le_trans HC.out.2.2.1.1 (Nat.le_trans HC.out.2.2.1.2 B4.out.size), by simp⟩, CR.trans HC.out.2.2.2.1, GN⟩
     case measure => simp [intOf]; omega
    ·obtain rfl : k = g.ls.length := by omega
     have b0 : wr.cell? ⟨w.heap.size, 0, none⟩ = some (.slice (some ⟨tb, 0, none⟩) g.ts.length c1) := (cellq_any hC.1.box).trans rfl
     have b1 : wr.cell? ⟨w.heap.size, 1, none⟩ = some (.slice (some ⟨nb, 0, none⟩) g.ns.length c2) := (cellq_any hC.1.box).trans rfl
     have b2 : wr.cell? ⟨w.heap.size, 2, none⟩ = some (.int .i64 g.start) := (cellq_any hC.1.box).trans rfl
     have b3 : wr.cell? ⟨w.heap.size, 3, none⟩ = some (.slice (some ⟨pb, 0, none⟩) g.ps.length c3) := (cellq_any hC.1.box).trans rfl
     have b4 : wr.cell? ⟨w.heap.size, 4, none⟩ = some (.slice a5 g.ls.length c5) := (cellq_any hC.1.box).trans rfl
     have r0 : wr.cell? ⟨w.heap.size + 1, 0, none⟩ = some (.slice none 0 0) := (cellq_any hC.1.out).trans rfl
     have y0 : wr.frozen? ⟨w.heap.size + 1, 0, none⟩ = false := by simp [World.frozen?, hC.1.out]
     have r1 : wr.cell? ⟨w.heap.size + 1, 1, none⟩ = some (.slice none 0 0) := (cellq_any hC.1.out).trans rfl
     have y1 : wr.frozen? ⟨w.heap.size + 1, 1, none⟩ = false := by simp [World.frozen?, hC.1.out]
     have r2 : wr.cell? ⟨w.heap.size + 1, 2, none⟩ = some (.int .i64 0) := (cellq_any hC.1.out).trans rfl
     have y2 : wr.frozen? ⟨w.heap.size + 1, 2, none⟩ = false := by simp [World.frozen?, hC.1.out]
     have r3 : wr.cell? ⟨w.heap.size + 1, 3, none⟩ = some (.slice none 0 0) := (cellq_any hC.1.out).trans rfl
     have y3 : wr.frozen? ⟨w.heap.size + 1, 3, none⟩ = false := by simp [World.frozen?, hC.1.out]
     have r4 : wr.cell? ⟨w.heap.size + 1, 4, none⟩ = some (.slice none 0 0) := (cellq_any hC.1.out).trans rfl
     have y4 : wr.frozen? ⟨w.heap.size + 1, 4, none⟩ = false := by simp [World.frozen?, hC.1.out]
     have hz : w.heap.size + 1 < wr.heap.size := lt_of_block hC.1.out
     have HF : Hid ((CBx w.heap.size w #[.slice (some ⟨tb, 0, none⟩) g.ts.length c1, .slice (some ⟨nb, 0, none⟩) g.ns.length c2, .int .i64 g.start, .slice (some ⟨pb, 0, none⟩) g.ps.length c3, .slice a5 g.ls.length c5] wr /\ (RB wr tb 9 (g.ts.map .string) c1 1 /\ RB wr nb 9 (g.ns.map .string) c2 1) /\ PM A H wr pb c3 g.ps.length L) /\ (g.ls ≠ [] -> ∃ lb, a5 = some ⟨lb, 0, none⟩ /\ LMt HB E wr lb c5 g.ls.length M) /\ (HB <= E /\ E <= wr.heap.size) /\ M.map LV.core = g.ls.map LV.core) := ⟨hC, hP, hH, hcore⟩
     clear hC hP hH hcore hrest
     go_wp2
     refine bodyPost_ret (v := .agg #[.slice (some ⟨tb, 0, none⟩) g.ts.length c1, .slice (some ⟨nb, 0, none⟩) g.ns.length c2, .int .i64 g.start, .slice (some ⟨pb, 0, none⟩) g.ps.length c3, .slice a5 g.ls.length c5]) (by simp [results, Tryz.results21, go_sem, r0, r1, r2, r3, r4, hz]) rfl ?_
     obtain ⟨⟨hC, hT, hPM⟩, hP, hH, hcore⟩ := HF.out
     have hra := RA.out
     have hhb := HHB.out
     have hne := NEQ.out
     have e1 : L.length = g.ps.length := by simpa using congrArg List.length CO.out
     have hk : ∀ j, j ≠ w.heap.size + 1 -> (((((wr.setCell ⟨w.heap.size + 1, 0, none⟩ (.slice (some ⟨tb, 0, none⟩) g.ts.length c1)).setCell ⟨w.heap.size + 1, 1, none⟩ (.slice (some ⟨nb, 0, none⟩) g.ns.length c2)).setCell ⟨w.heap.size + 1, 2, none⟩ (.int .i64 g.start)).setCell ⟨w.heap.size + 1, 3, none⟩ (.slice (some ⟨pb, 0, none⟩) g.ps.length c3)).setCell ⟨w.heap.size + 1, 4, none⟩ (.slice a5 g.ls.length c5)).heap[j]? = wr.heap[j]? := fun j hj => by
      rw [Below.heap_setCell _ _ _ _ hj, Below.heap_setCell _ _ _ _ hj, Below.heap_setCell _ _ _ _ hj, Below.heap_setCell _ _ _ _ hj, Below.heap_setCell _ _ _ _ hj]
     refine ⟨⟨some ⟨tb, 0, none⟩, c1, g.ts, some ⟨nb, 0, none⟩, c2, g.ns, g.start, some ⟨pb, 0, none⟩, c3, L, a5, c5, M⟩, A, HB, E, pb, ablk a5, tb, nb, ?_, ⟨rfl, rfl, rfl, CO.out, hcore⟩, ⟨?_, ⟨rfl, hT.1.kept (hk _ (by omega)), .inl hra.2.1, by omega⟩, ⟨rfl, hT.2.kept (hk _ (by omega)), .inl hra.2.2.1, by omega⟩, rfl, ?_, ?_, ?_, by omega⟩, ?_⟩
     ·simp only [GV.val, e1, hLl]
     ·refine ⟨by omega, hhb.2.2, hH.1, ?_⟩
      simpa using hH.2
     ·show PM A HB _ pb c3 L.length L
      rw [e1]
      exact (hPM.kept (fun j hj _ => hk j (by omega))).mono hhb.2.1
     ·show L.length <= c3
      omega
     ·intro hl
      obtain ⟨lb, e5, hP2⟩ := hP (fun e => hl (by simpa [e] using hLl))
      subst e5
      refine ⟨rfl, ?_⟩
      show LMt HB E _ lb c5 M.length M
      rw [hLl]
      exact hP2.kept (fun j hj _ => hk j (by omega))
     ·exact ((((hC.bel.setCell (p := ⟨w.heap.size + 1, 0, none⟩) (by show w.heap.size <= w.heap.size + 1; omega) _).setCell (p := ⟨w.heap.size + 1, 1, none⟩) (by show w.heap.size <= w.heap.size + 1; omega) _).setCell (p := ⟨w.heap.size + 1, 2, none⟩) (by show w.heap.size <= w.heap.size + 1; omega) _).setCell (p := ⟨w.heap.size + 1, 3, none⟩) (by show w.heap.size <= w.heap.size + 1; omega) _).setCell (p := ⟨w.heap.size + 1, 4, none⟩) (by show w.heap.size <= w.heap.size + 1; omega) _
end Go.Proofs.YthgnhdnmcjpdmaaGreatDoor
