import Derived.Test.YtccednepbkjajaaPGDec9ToGDec13
namespace Go.Proofs.Ytccednepbkjajaa
set_option linter.unusedVariables false
open Go.RowKit
structure IsPerm (l : List Int) : Prop where
 lo : ∀ i, i < l.length -> 0 <= l.getD i 0 /\ l.getD i 0 < l.length
 one : ∀ i j, i < l.length -> j < i -> l.getD j 0 ≠ l.getD i 0
theorem nat_fit : ∀ (n : Nat) (l : List Nat), l.Nodup -> (∀ x ∈ l, x < n) -> l.length <= n
 | 0, l, _, h => by
  cases l with
  | nil => simp
  | cons a r => exact absurd (h a (by simp)) (by omega)
 | n + 1, l, hn, h => by
  by_cases hm : n ∈ l
  ·have h1 := nat_fit n (l.erase n) (hn.erase n) (fun x hx => by
    have h2 := h x (List.mem_of_mem_erase hx)
    have h3 : x ≠ n := fun e => by subst e; exact (List.Nodup.not_mem_erase hn) hx
    omega)
   rw [List.length_erase_of_mem hm] at h1
   omega
  ·have h1 := nat_fit n l hn (fun x hx => by
    have h2 := h x hx
    have h3 : x ≠ n := fun e => hm (e ▸ hx)
    omega)
   omega
theorem IsPerm.nodup {l : List Int} (h : IsPerm l) : (l.map Int.toNat).Nodup := by
 rw [List.nodup_iff_pairwise_ne, List.pairwise_iff_getElem]
 intro i j hi hj hij
 simp at hi hj
 have h1 := h.lo i hi
 have h2 := h.lo j hj
 have h3 := h.one j i hj hij
 simp [List.getD, hi, hj] at h1 h2 h3
 simp
 omega
theorem IsPerm.all {l : List Int} (h : IsPerm l) (k : Nat) (hk : k < l.length) : ∃ i, i < l.length /\ (l.getD i 0).toNat = k := by
 by_cases hm : k ∈ l.map Int.toNat
 ·obtain ⟨x, hx, e⟩ := List.mem_map.1 hm
  obtain ⟨i, hi, rfl⟩ := List.getElem_of_mem hx
  exact ⟨i, hi, by simp [List.getD, hi, e]⟩
 ·have h1 := nat_fit l.length (k :: l.map Int.toNat) (List.nodup_cons.2 ⟨hm, h.nodup⟩) (fun x hx => by
   rcases List.mem_cons.1 hx with rfl | hx
   ·exact hk
   ·obtain ⟨y, hy, rfl⟩ := List.mem_map.1 hx
    obtain ⟨i, hi, rfl⟩ := List.getElem_of_mem hy
    have := h.lo i hi
    simp [List.getD, hi] at this
    omega)
  simp at h1
  omega
def PV.rev (p : PV) : PV := { p with right := p.right.reverse }
def GV.rev (g : GV) : GV := { g with ps := g.ps.map PV.rev }
def RB (w : World) (b : Nat) (t : TypeId) (xs : List Value) (c s : Nat) : Prop := ∃ cur, w.heap[b]? = some (.cells cur t (0, 0)) /\ xs.length <= cur.size /\ cur.toList.take xs.length = xs /\ cur.size = c * s /\ c <= maxLen
theorem RB.lt {w : World} {b : Nat} {t : TypeId} {xs : List Value} {c s : Nat} (h : RB w b t xs c s) : b < w.heap.size := by
 obtain ⟨cur, h1, _⟩ := h
 exact lt_of_block h1
theorem RB.kept {w w' : World} {b : Nat} {t : TypeId} {xs : List Value} {c s : Nat} (h : RB w b t xs c s) (hb : w'.heap[b]? = w.heap[b]?) : RB w' b t xs c s := by
 obtain ⟨cur, h1, h2⟩ := h
 exact ⟨cur, hb.trans h1, h2⟩
theorem RB.later {w w' : World} {b : Nat} {t : TypeId} {xs : List Value} {c s : Nat} (h : RB w b t xs c s) (hb : Below w.heap.size w w') : RB w' b t xs c s := h.kept (hb.block b h.lt)
theorem RB.cell {w : World} {b : Nat} {t : TypeId} {xs : List Value} {c s : Nat} (h : RB w b t xs c s) {i : Nat} {u : Value} (hi : xs[i]? = some u) : w.cell? ⟨b, i, none⟩ = some u := by
 obtain ⟨cur, h1, h2, h3, _⟩ := h
 rw [cellq_any h1]
 have hlt : i < xs.length := (List.getElem?_eq_some_iff.1 hi).1
 rw [<- h3, List.getElem?_take] at hi
 rw [if_pos hlt] at hi
 simpa using hi
theorem RB.free {w : World} {b : Nat} {t : TypeId} {xs : List Value} {c s : Nat} (h : RB w b t xs c s) (i : Nat) : w.frozen? ⟨b, i, none⟩ = false := by
 obtain ⟨cur, h1, _⟩ := h
 simp [World.frozen?, h1]
theorem RB.set {w : World} {b : Nat} {t : TypeId} {xs : List Value} {c s : Nat} (h : RB w b t xs c s) (i : Nat) (u : Value) : RB (w.setCell ⟨b, i, none⟩ u) b t (xs.set i u) c s := by
 obtain ⟨cur, h1, h2, h3, h4, h5⟩ := h
 refine ⟨_, heap_set h1 i u, by simpa using h2, ?_, by simpa using h4, h5⟩
 rw [Array.toList_setIfInBounds, List.length_set, List.take_set, h3]
theorem RB.other {w : World} {b b' : Nat} {t : TypeId} {xs : List Value} {c s : Nat} (h : RB w b t xs c s) (hne : b ≠ b') (i : Nat) (u : Value) : RB (w.setCell ⟨b', i, none⟩ u) b t xs c s := h.kept (Below.heap_setCell _ _ _ _ hne)
theorem RB.of_own {w : World} {base : Nat} {t : TypeId} {sz g n c : Nat} {xs : List Value} (h : w.ownsRow base t sz (.slice (some ⟨g, 0, none⟩) n c) n xs) : RB w g t xs c sz /\ base <= g /\ n <= c := by
 obtain ⟨hl, h | ⟨g', cap, cur, e, h1, h2, h3, h4, h5, h6⟩⟩ := h
 ·exact absurd h.1 (by simp)
 ·simp only [Value.slice.injEq, Option.some.injEq, Addr.mk.injEq, true_and, and_true] at e
  obtain ⟨rfl, rfl⟩ := e
  exact ⟨⟨cur, h2, by rw [h5, hl]; exact Nat.mul_le_mul_right _ h3, by rw [hl]; exact h6, h5, h4⟩, h1, h3⟩
theorem RB.own {w : World} {t : TypeId} {sz g n c : Nat} {xs : List Value} (h : RB w g t xs c sz) (hl : xs.length = n * sz) (hn : n <= c) : w.ownsRow 0 t sz (.slice (some ⟨g, 0, none⟩) n c) n xs := by
 obtain ⟨cur, h1, h2, h3, h4, h5⟩ := h
 exact ⟨hl, .inr ⟨g, c, cur, rfl, Nat.zero_le _, h1, hn, h5, h4, hl ▸ h3⟩⟩
set_option maxRecDepth 100000 in
set_option maxHeartbeats 1000000 in
theorem clone_str (ao : Option Addr) (n c : Nat) (news : List Value) (w : World) (hl : news.length = n * 1) (hn : n <= 1048576) (hc : news ≠ [] -> ∃ b off, ao = some ⟨b, off, none⟩ /\ b < w.heap.size /\ ∀ j u, news[j]? = some u -> w.cell? ⟨b, off + j, none⟩ = some u) (h1 : ∀ u ∈ news, u.oneCell' = true) :
  Calls Try.prog 90 #[.slice ao n c] w fun e w' => ∃ a' c', e = .returned (.slice a' n c') /\ (n ≠ 0 -> ∃ b, a' = some ⟨b, 0, none⟩ /\ w.heap.size <= b /\ RB w' b 9 news c' 1) /\ n <= c' /\ Below w.heap.size w w' := by
 have hne := fun wx a n c => Lib.run_eql_slice_nil (P := Try.prog) (w := wx) 22 9 a n c 0 0 Try.underlying22
 have HH : Hid (∀ u ∈ news, u.oneCell' = true) := h1
 cases ao with
 | none =>
  have h0 : n = 0 := by
   by_cases e : news = []
   ·subst e; simp at hl; omega
   ·obtain ⟨b, off, e', _⟩ := hc e
    cases e'
  subst h0
  clear hc h1
  go_enter Try.func90, Try.ntmps90
  go_wp2
  go_ret
  exact ⟨none, 0, rfl, fun e => absurd rfl e, Nat.le_refl _, Below.refl _ _⟩
 | some ad =>
  have hcc : Hid (∀ j u, news[j]? = some u -> (w.alloc (.cells #[] 9)).cell? (ad.add j) = some u) := fun j u hu => by
   obtain ⟨b, off, e, hb, hcell⟩ := hc (fun e => by subst e; simp at hu)
   cases e
   rw [add_none]
   exact ((below_alloc w _).cell (p := ⟨b, off + j, none⟩) hb).trans (hcell j u hu)
  obtain ⟨i0, hi, hz0, hz1, hz2⟩ := infoStr_parts
  clear hc h1
  go_enter Try.func90, Try.ntmps90
  go_wp2_with (at_builtin; refine wpList_append_own_at _ rfl _ _ 22 rfl w.heap.size 9 i0 _ 1 16 Try.underlying22 hi hz0 hz1 hz2 rfl (by decide) _ 0 [] rfl (World.ownsRow_made w #[] 0 (Nat.le_refl _) (Nat.zero_le _) rfl) ad n c news rfl hl hcc.out HH.out (by unfold maxLen; omega) (by omega) (by simp) ?_)
  intro v' w1 hown hgrow hnil _
  go_wp2
  go_ret
  obtain ⟨g, cap, rfl⟩ : ∃ g cap, v' = .slice (some ⟨g, 0, none⟩) n cap := by
   rcases hown.2 with ⟨e, _⟩ | ⟨g, cap, cur, e, _⟩
   ·exact absurd e hnil
   ·exact ⟨g, cap, by simpa using e⟩
  have hown' : w1.ownsRow w.heap.size 9 1 (.slice (some ⟨g, 0, none⟩) n cap) n news := by simpa using hown
  obtain ⟨hr, hb, hcap⟩ := RB.of_own hown'
  exact ⟨_, cap, rfl, fun _ => ⟨g, rfl, hb, hr⟩, hcap, (below_alloc w _).grown hgrow (by simp) (fun k e => by simp [Value.ownBlock] at e; omega)⟩
set_option maxRecDepth 100000 in
set_option maxHeartbeats 1000000 in
theorem clone_prod (ao : Option Addr) (n c : Nat) (news : List Value) (w : World) (hl : news.length = n * 3) (hn : n <= 1048576) (hc : news ≠ [] -> ∃ b off, ao = some ⟨b, off, none⟩ /\ b < w.heap.size /\ ∀ j u, news[j]? = some u -> w.cell? ⟨b, off + j, none⟩ = some u) (h1 : ∀ u ∈ news, u.oneCell' = true) :
  Calls Try.prog 91 #[.slice ao n c] w fun e w' => ∃ a' c', e = .returned (.slice a' n c') /\ (n ≠ 0 -> ∃ b, a' = some ⟨b, 0, none⟩ /\ w.heap.size <= b /\ RB w' b 52 news c' 3) /\ n <= c' /\ Below w.heap.size w w' := by
 have hne := fun wx a n c => Lib.run_eql_slice_nil (P := Try.prog) (w := wx) 23 52 a n c 0 0 Try.underlying23
 have HH : Hid (∀ u ∈ news, u.oneCell' = true) := h1
 cases ao with
 | none =>
  have h0 : n = 0 := by
   by_cases e : news = []
   ·subst e; simp at hl; omega
   ·obtain ⟨b, off, e', _⟩ := hc e
    cases e'
  subst h0
  clear hc h1
  go_enter Try.func91, Try.ntmps91
  go_wp2
  go_ret
  exact ⟨none, 0, rfl, fun e => absurd rfl e, Nat.le_refl _, Below.refl _ _⟩
 | some ad =>
  have hcc : Hid (∀ j u, news[j]? = some u -> (w.alloc (.cells #[] 52)).cell? (ad.add j) = some u) := fun j u hu => by
   obtain ⟨b, off, e, hb, hcell⟩ := hc (fun e => by subst e; simp at hu)
   cases e
   rw [add_none]
   exact ((below_alloc w _).cell (p := ⟨b, off + j, none⟩) hb).trans (hcell j u hu)
  obtain ⟨i0, hi, hz0, hz1, hz2⟩ := infoPro_parts
  clear hc h1
  go_enter Try.func91, Try.ntmps91
  go_wp2_with (at_builtin; refine wpList_append_own_at _ rfl _ _ 23 rfl w.heap.size 52 i0 _ 3 40 Try.underlying23 hi hz0 hz1 hz2 rfl (by decide) _ 0 [] rfl (World.ownsRow_made w #[] 0 (Nat.le_refl _) (Nat.zero_le _) rfl) ad n c news rfl hl hcc.out HH.out (by unfold maxLen; omega) (by omega) (by simp) ?_)
  intro v' w1 hown hgrow hnil _
  go_wp2
  go_ret
  obtain ⟨g, cap, rfl⟩ : ∃ g cap, v' = .slice (some ⟨g, 0, none⟩) n cap := by
   rcases hown.2 with ⟨e, _⟩ | ⟨g, cap, cur, e, _⟩
   ·exact absurd e hnil
   ·exact ⟨g, cap, by simpa using e⟩
  have hown' : w1.ownsRow w.heap.size 52 3 (.slice (some ⟨g, 0, none⟩) n cap) n news := by simpa using hown
  obtain ⟨hr, hb, hcap⟩ := RB.of_own hown'
  exact ⟨_, cap, rfl, fun _ => ⟨g, rfl, hb, hr⟩, hcap, (below_alloc w _).grown hgrow (by simp) (fun k e => by simp [Value.ownBlock] at e; omega)⟩
set_option maxRecDepth 100000 in
set_option maxHeartbeats 1000000 in
theorem clone_sym (ao : Option Addr) (n c : Nat) (news : List Value) (w : World) (hl : news.length = n * 2) (hn : n <= 1048576) (hc : news ≠ [] -> ∃ b off, ao = some ⟨b, off, none⟩ /\ b < w.heap.size /\ ∀ j u, news[j]? = some u -> w.cell? ⟨b, off + j, none⟩ = some u) (h1 : ∀ u ∈ news, u.oneCell' = true) :
  Calls Try.prog 92 #[.slice ao n c] w fun e w' => ∃ a' c', e = .returned (.slice a' n c') /\ (n ≠ 0 -> ∃ b, a' = some ⟨b, 0, none⟩ /\ w.heap.size <= b /\ RB w' b 47 news c' 2) /\ n <= c' /\ Below w.heap.size w w' := by
 have hne := fun wx a n c => Lib.run_eql_slice_nil (P := Try.prog) (w := wx) 50 47 a n c 0 0 Try.underlying50
 have HH : Hid (∀ u ∈ news, u.oneCell' = true) := h1
 cases ao with
 | none =>
  have h0 : n = 0 := by
   by_cases e : news = []
   ·subst e; simp at hl; omega
   ·obtain ⟨b, off, e', _⟩ := hc e
    cases e'
  subst h0
  clear hc h1
  go_enter Try.func92, Try.ntmps92
  go_wp2
  go_ret
  exact ⟨none, 0, rfl, fun e => absurd rfl e, Nat.le_refl _, Below.refl _ _⟩
 | some ad =>
  have hcc : Hid (∀ j u, news[j]? = some u -> (w.alloc (.cells #[] 47)).cell? (ad.add j) = some u) := fun j u hu => by
   obtain ⟨b, off, e, hb, hcell⟩ := hc (fun e => by subst e; simp at hu)
   cases e
   rw [add_none]
   exact ((below_alloc w _).cell (p := ⟨b, off + j, none⟩) hb).trans (hcell j u hu)
  obtain ⟨i0, hi, hz0, hz1, hz2⟩ := infoSym_parts
  clear hc h1
  go_enter Try.func92, Try.ntmps92
  go_wp2_with (at_builtin; refine wpList_append_own_at _ rfl _ _ 50 rfl w.heap.size 47 i0 _ 2 16 Try.underlying50 hi hz0 hz1 hz2 rfl (by decide) _ 0 [] rfl (World.ownsRow_made w #[] 0 (Nat.le_refl _) (Nat.zero_le _) rfl) ad n c news rfl hl hcc.out HH.out (by unfold maxLen; omega) (by omega) (by simp) ?_)
  intro v' w1 hown hgrow hnil _
  go_wp2
  go_ret
  obtain ⟨g, cap, rfl⟩ : ∃ g cap, v' = .slice (some ⟨g, 0, none⟩) n cap := by
   rcases hown.2 with ⟨e, _⟩ | ⟨g, cap, cur, e, _⟩
   ·exact absurd e hnil
   ·exact ⟨g, cap, by simpa using e⟩
  have hown' : w1.ownsRow w.heap.size 47 2 (.slice (some ⟨g, 0, none⟩) n cap) n news := by simpa using hown
  obtain ⟨hr, hb, hcap⟩ := RB.of_own hown'
  exact ⟨_, cap, rfl, fun _ => ⟨g, rfl, hb, hr⟩, hcap, (below_alloc w _).grown hgrow (by simp) (fun k e => by simp [Value.ownBlock] at e; omega)⟩
set_option maxRecDepth 100000 in
set_option maxHeartbeats 1000000 in
theorem clone_lev (ao : Option Addr) (n c : Nat) (news : List Value) (w : World) (hl : news.length = n * 2) (hn : n <= 1048576) (hc : news ≠ [] -> ∃ b off, ao = some ⟨b, off, none⟩ /\ b < w.heap.size /\ ∀ j u, news[j]? = some u -> w.cell? ⟨b, off + j, none⟩ = some u) (h1 : ∀ u ∈ news, u.oneCell' = true) :
  Calls Try.prog 93 #[.slice ao n c] w fun e w' => ∃ a' c', e = .returned (.slice a' n c') /\ (n ≠ 0 -> ∃ b, a' = some ⟨b, 0, none⟩ /\ w.heap.size <= b /\ RB w' b 99 news c' 2) /\ n <= c' /\ Below w.heap.size w w' := by
 have hne := fun wx a n c => Lib.run_eql_slice_nil (P := Try.prog) (w := wx) 24 99 a n c 0 0 Try.underlying24
 have HH : Hid (∀ u ∈ news, u.oneCell' = true) := h1
 cases ao with
 | none =>
  have h0 : n = 0 := by
   by_cases e : news = []
   ·subst e; simp at hl; omega
   ·obtain ⟨b, off, e', _⟩ := hc e
    cases e'
  subst h0
  clear hc h1
  go_enter Try.func93, Try.ntmps93
  go_wp2
  go_ret
  exact ⟨none, 0, rfl, fun e => absurd rfl e, Nat.le_refl _, Below.refl _ _⟩
 | some ad =>
  have hcc : Hid (∀ j u, news[j]? = some u -> (w.alloc (.cells #[] 99)).cell? (ad.add j) = some u) := fun j u hu => by
   obtain ⟨b, off, e, hb, hcell⟩ := hc (fun e => by subst e; simp at hu)
   cases e
   rw [add_none]
   exact ((below_alloc w _).cell (p := ⟨b, off + j, none⟩) hb).trans (hcell j u hu)
  obtain ⟨i0, hi, hz0, hz1, hz2⟩ := infoLev_parts
  clear hc h1
  go_enter Try.func93, Try.ntmps93
  go_wp2_with (at_builtin; refine wpList_append_own_at _ rfl _ _ 24 rfl w.heap.size 99 i0 _ 2 32 Try.underlying24 hi hz0 hz1 hz2 rfl (by decide) _ 0 [] rfl (World.ownsRow_made w #[] 0 (Nat.le_refl _) (Nat.zero_le _) rfl) ad n c news rfl hl hcc.out HH.out (by unfold maxLen; omega) (by omega) (by simp) ?_)
  intro v' w1 hown hgrow hnil _
  go_wp2
  go_ret
  obtain ⟨g, cap, rfl⟩ : ∃ g cap, v' = .slice (some ⟨g, 0, none⟩) n cap := by
   rcases hown.2 with ⟨e, _⟩ | ⟨g, cap, cur, e, _⟩
   ·exact absurd e hnil
   ·exact ⟨g, cap, by simpa using e⟩
  have hown' : w1.ownsRow w.heap.size 99 2 (.slice (some ⟨g, 0, none⟩) n cap) n news := by simpa using hown
  obtain ⟨hr, hb, hcap⟩ := RB.of_own hown'
  exact ⟨_, cap, rfl, fun _ => ⟨g, rfl, hb, hr⟩, hcap, (below_alloc w _).grown hgrow (by simp) (fun k e => by simp [Value.ownBlock] at e; omega)⟩
set_option maxRecDepth 100000 in
set_option maxHeartbeats 1000000 in
theorem clone_int (ao : Option Addr) (n c : Nat) (news : List Value) (w : World) (hl : news.length = n * 1) (hn : n <= 1048576) (hc : news ≠ [] -> ∃ b off, ao = some ⟨b, off, none⟩ /\ b < w.heap.size /\ ∀ j u, news[j]? = some u -> w.cell? ⟨b, off + j, none⟩ = some u) (h1 : ∀ u ∈ news, u.oneCell' = true) :
  Calls Try.prog 67 #[.slice ao n c] w fun e w' => ∃ a' c', e = .returned (.slice a' n c') /\ (n ≠ 0 -> ∃ b, a' = some ⟨b, 0, none⟩ /\ w.heap.size <= b /\ RB w' b 3 news c' 1) /\ n <= c' /\ Below w.heap.size w w' := by
 have hne := fun wx a n c => Lib.run_eql_slice_nil (P := Try.prog) (w := wx) 36 3 a n c 0 0 Try.underlying36
 have HH : Hid (∀ u ∈ news, u.oneCell' = true) := h1
 cases ao with
 | none =>
  have h0 : n = 0 := by
   by_cases e : news = []
   ·subst e; simp at hl; omega
   ·obtain ⟨b, off, e', _⟩ := hc e
    cases e'
  subst h0
  clear hc h1
  go_enter Try.func67, Try.ntmps67
  go_wp2
  go_ret
  exact ⟨none, 0, rfl, fun e => absurd rfl e, Nat.le_refl _, Below.refl _ _⟩
 | some ad =>
  have hcc : Hid (∀ j u, news[j]? = some u -> (w.alloc (.cells #[] 3)).cell? (ad.add j) = some u) := fun j u hu => by
   obtain ⟨b, off, e, hb, hcell⟩ := hc (fun e => by subst e; simp at hu)
   cases e
   rw [add_none]
   exact ((below_alloc w _).cell (p := ⟨b, off + j, none⟩) hb).trans (hcell j u hu)
  obtain ⟨i0, hi, hz0, hz1, hz2⟩ := infoInt_parts
  clear hc h1
  go_enter Try.func67, Try.ntmps67
  go_wp2_with (at_builtin; refine wpList_append_own_at _ rfl _ _ 36 rfl w.heap.size 3 i0 _ 1 8 Try.underlying36 hi hz0 hz1 hz2 rfl (by decide) _ 0 [] rfl (World.ownsRow_made w #[] 0 (Nat.le_refl _) (Nat.zero_le _) rfl) ad n c news rfl hl hcc.out HH.out (by unfold maxLen; omega) (by omega) (by simp) ?_)
  intro v' w1 hown hgrow hnil _
  go_wp2
  go_ret
  obtain ⟨g, cap, rfl⟩ : ∃ g cap, v' = .slice (some ⟨g, 0, none⟩) n cap := by
   rcases hown.2 with ⟨e, _⟩ | ⟨g, cap, cur, e, _⟩
   ·exact absurd e hnil
   ·exact ⟨g, cap, by simpa using e⟩
  have hown' : w1.ownsRow w.heap.size 3 1 (.slice (some ⟨g, 0, none⟩) n cap) n news := by simpa using hown
  obtain ⟨hr, hb, hcap⟩ := RB.of_own hown'
  exact ⟨_, cap, rfl, fun _ => ⟨g, rfl, hb, hr⟩, hcap, (below_alloc w _).grown hgrow (by simp) (fun k e => by simp [Value.ownBlock] at e; omega)⟩
def ablk (a : Option Addr) : Nat := match a with
 | some x => x.block
 | none => 0
theorem proCells_set {l : List PV} {k : Nat} {q : PV} (hk : k < l.length) : proCells (l.set k q) = (((proCells l).set (k * 3) (.int .i64 q.left)).set (k * 3 + 1) (.slice q.ra q.right.length q.rc)).set (k * 3 + 2) (.int .i64 q.prec) := by
 induction l generalizing k with
 | nil => simp at hk
 | cons a r ih =>
  cases k with
  | zero => simp [proCells]
  | succ k =>
   have e1 : ∀ m : List PV, proCells (a :: m) = .int .i64 a.left :: .slice a.ra a.right.length a.rc :: .int .i64 a.prec :: proCells m := fun m => rfl
   rw [List.set_cons_succ, e1, e1, ih (by simpa using hk), show (k + 1) * 3 = k * 3 + 1 + 1 + 1 by omega, show k * 3 + 1 + 1 + 1 + 1 = (k * 3 + 1) + 1 + 1 + 1 by omega, show k * 3 + 1 + 1 + 1 + 2 = (k * 3 + 2) + 1 + 1 + 1 by omega]
   simp only [List.set_cons_succ]
theorem levCells_set {l : List LV} {k : Nat} {q : LV} (hk : k < l.length) : levCells (l.set k q) = ((levCells l).set (k * 2) (.int .i64 q.assoc)).set (k * 2 + 1) (.slice q.ta q.terms.length q.tc) := by
 induction l generalizing k with
 | nil => simp at hk
 | cons a r ih =>
  cases k with
  | zero => simp [levCells]
  | succ k =>
   have e1 : ∀ m : List LV, levCells (a :: m) = .int .i64 a.assoc :: .slice a.ta a.terms.length a.tc :: levCells m := fun m => rfl
   rw [List.set_cons_succ, e1, e1, ih (by simpa using hk), show (k + 1) * 2 = k * 2 + 1 + 1 by omega, show k * 2 + 1 + 1 + 1 = (k * 2 + 1) + 1 + 1 by omega]
   simp only [List.set_cons_succ]
theorem set_same {α : Type} {l : List α} {k : Nat} {x : α} (h : l[k]? = some x) : l.set k x = l := by
 obtain ⟨hk, rfl⟩ := List.getElem?_eq_some_iff.1 h
 exact List.set_getElem_self hk
theorem getD_set_eq {α : Type} {l : List α} {k : Nat} {q d : α} (hk : k < l.length) : (l.set k q).getD k d = q := by simp [List.getD, hk]
theorem getD_set_ne {α : Type} {l : List α} {k i : Nat} {q d : α} (h : i ≠ k) : (l.set k q).getD i d = l.getD i d := by
 simp only [List.getD, List.getElem?_set]
 rw [if_neg (fun e => h e.symm)]
structure PM (B H : Nat) (w : World) (pb pc k : Nat) (l : List PV) : Prop where
 row : RB w pb 52 (proCells l) pc 3
 lo : B <= pb /\ pb < H
 each : ∀ i, i < k -> (l.getD i .none).right ≠ [] -> (l.getD i .none).ra = some ⟨ablk (l.getD i .none).ra, 0, none⟩ /\ (B <= ablk (l.getD i .none).ra /\ ablk (l.getD i .none).ra < H) /\ ablk (l.getD i .none).ra ≠ pb /\ RB w (ablk (l.getD i .none).ra) 47 (symCells (l.getD i .none).right) (l.getD i .none).rc 2
 two : ∀ i j, i < k -> j < k -> i ≠ j -> (l.getD i .none).right ≠ [] -> (l.getD j .none).right ≠ [] -> ablk (l.getD i .none).ra ≠ ablk (l.getD j .none).ra
structure LMt (B H : Nat) (w : World) (pb pc k : Nat) (l : List LV) : Prop where
 row : RB w pb 99 (levCells l) pc 2
 lo : B <= pb /\ pb < H
 each : ∀ i, i < k -> (l.getD i .none).terms ≠ [] -> (l.getD i .none).ta = some ⟨ablk (l.getD i .none).ta, 0, none⟩ /\ (B <= ablk (l.getD i .none).ta /\ ablk (l.getD i .none).ta < H) /\ ablk (l.getD i .none).ta ≠ pb /\ RB w (ablk (l.getD i .none).ta) 3 ((l.getD i .none).terms.map (.int .i64 ·)) (l.getD i .none).tc 1
 two : ∀ i j, i < k -> j < k -> i ≠ j -> (l.getD i .none).terms ≠ [] -> (l.getD j .none).terms ≠ [] -> ablk (l.getD i .none).ta ≠ ablk (l.getD j .none).ta
theorem PM.kept {B H : Nat} {w w' : World} {pb pc k : Nat} {l : List PV} (h : PM B H w pb pc k l) (hb : ∀ j, B <= j -> j < H -> w'.heap[j]? = w.heap[j]?) : PM B H w' pb pc k l :=
 ⟨h.row.kept (hb _ h.lo.1 h.lo.2), h.lo, fun i hi hr => ⟨(h.each i hi hr).1, (h.each i hi hr).2.1, (h.each i hi hr).2.2.1, (h.each i hi hr).2.2.2.kept (hb _ (h.each i hi hr).2.1.1 (h.each i hi hr).2.1.2)⟩, h.two⟩
theorem LMt.kept {B H : Nat} {w w' : World} {pb pc k : Nat} {l : List LV} (h : LMt B H w pb pc k l) (hb : ∀ j, B <= j -> j < H -> w'.heap[j]? = w.heap[j]?) : LMt B H w' pb pc k l :=
 ⟨h.row.kept (hb _ h.lo.1 h.lo.2), h.lo, fun i hi hr => ⟨(h.each i hi hr).1, (h.each i hi hr).2.1, (h.each i hi hr).2.2.1, (h.each i hi hr).2.2.2.kept (hb _ (h.each i hi hr).2.1.1 (h.each i hi hr).2.1.2)⟩, h.two⟩
theorem PM.mono {B H H' : Nat} {w : World} {pb pc k : Nat} {l : List PV} (h : PM B H w pb pc k l) (hH : H <= H') : PM B H' w pb pc k l :=
 ⟨h.row, ⟨h.lo.1, Nat.lt_of_lt_of_le h.lo.2 hH⟩, fun i hi hr => ⟨(h.each i hi hr).1, ⟨(h.each i hi hr).2.1.1, Nat.lt_of_lt_of_le (h.each i hi hr).2.1.2 hH⟩, (h.each i hi hr).2.2⟩, h.two⟩
theorem LMt.mono {B H H' : Nat} {w : World} {pb pc k : Nat} {l : List LV} (h : LMt B H w pb pc k l) (hH : H <= H') : LMt B H' w pb pc k l :=
 ⟨h.row, ⟨h.lo.1, Nat.lt_of_lt_of_le h.lo.2 hH⟩, fun i hi hr => ⟨(h.each i hi hr).1, ⟨(h.each i hi hr).2.1.1, Nat.lt_of_lt_of_le (h.each i hi hr).2.1.2 hH⟩, (h.each i hi hr).2.2⟩, h.two⟩
theorem PM.later {B H : Nat} {w w' : World} {pb pc k : Nat} {l : List PV} (h : PM B H w pb pc k l) (hH : H <= w.heap.size) (hb : Below w.heap.size w w') : PM B H w' pb pc k l := h.kept fun j _ hj => hb.block j (Nat.lt_of_lt_of_le hj hH)
theorem LMt.later {B H : Nat} {w w' : World} {pb pc k : Nat} {l : List LV} (h : LMt B H w pb pc k l) (hH : H <= w.heap.size) (hb : Below w.heap.size w w') : LMt B H w' pb pc k l := h.kept fun j _ hj => hb.block j (Nat.lt_of_lt_of_le hj hH)
theorem PM.push {B H : Nat} {w : World} {pb pc k : Nat} {l : List PV} (h : PM B H w pb pc k l) (hk : k < l.length) (a : Option Addr) (c : Nat) (H' : Nat) (hH : H <= H')
  (hn : (l.getD k .none).right ≠ [] -> ∃ b, a = some ⟨b, 0, none⟩ /\ H <= b /\ b < H' /\ RB w b 47 (symCells (l.getD k .none).right) c 2) :
  PM B H' (w.setCell ⟨pb, k * 3 + 1, none⟩ (.slice a (l.getD k .none).right.length c)) pb pc (k + 1) (l.set k { l.getD k .none with ra := a, rc := c }) := by
 have hg := proCells_get l k hk
 have hcs : proCells (l.set k { l.getD k .none with ra := a, rc := c }) = (proCells l).set (k * 3 + 1) (.slice a (l.getD k .none).right.length c) := by
  rw [proCells_set hk, set_same hg.1, List.set_comm _ _ (by omega), set_same hg.2.2]
 have hB := h.lo.1
 refine ⟨hcs ▸ h.row.set _ _, ⟨h.lo.1, Nat.lt_of_lt_of_le h.lo.2 hH⟩, fun i hi hr => ?_, fun i j hi hj hij hri hrj => ?_⟩
 ·by_cases e : i = k
  ·subst e
   rw [getD_set_eq hk] at hr ⊢
   obtain ⟨b, rfl, h1, h2, h3⟩ := hn hr
   have hlo := h.lo
   have hne : b ≠ pb := by omega
   exact ⟨rfl, ⟨by show B <= b; omega, h2⟩, hne, h3.other hne _ _⟩
  ·rw [getD_set_ne e] at hr ⊢
   obtain ⟨h1, h2, h3, h4⟩ := h.each i (by omega) hr
   exact ⟨h1, ⟨h2.1, Nat.lt_of_lt_of_le h2.2 hH⟩, h3, h4.other h3 _ _⟩
 ·by_cases ei : i = k
  ·subst ei
   rw [getD_set_eq hk] at hri ⊢
   rw [getD_set_ne (Ne.symm hij)] at hrj ⊢
   obtain ⟨b, rfl, h1, _⟩ := hn hri
   have := (h.each j (by omega) hrj).2.1.2
   show b ≠ _
   omega
  ·rw [getD_set_ne ei] at hri ⊢
   by_cases ej : j = k
   ·subst ej
    rw [getD_set_eq hk] at hrj ⊢
    obtain ⟨b, rfl, h1, _⟩ := hn hrj
    have := (h.each i (by omega) hri).2.1.2
    show _ ≠ b
    omega
   ·rw [getD_set_ne ej] at hrj ⊢
    exact h.two i j (by omega) (by omega) hij hri hrj
theorem LMt.push {B H : Nat} {w : World} {pb pc k : Nat} {l : List LV} (h : LMt B H w pb pc k l) (hk : k < l.length) (a : Option Addr) (c : Nat) (H' : Nat) (hH : H <= H')
  (hn : (l.getD k .none).terms ≠ [] -> ∃ b, a = some ⟨b, 0, none⟩ /\ H <= b /\ b < H' /\ RB w b 3 ((l.getD k .none).terms.map (.int .i64 ·)) c 1) :
  LMt B H' (w.setCell ⟨pb, k * 2 + 1, none⟩ (.slice a (l.getD k .none).terms.length c)) pb pc (k + 1) (l.set k { l.getD k .none with ta := a, tc := c }) := by
 have hg := levCells_get l k hk
 have hcs : levCells (l.set k { l.getD k .none with ta := a, tc := c }) = (levCells l).set (k * 2 + 1) (.slice a (l.getD k .none).terms.length c) := by
  rw [levCells_set hk, set_same hg.1]
 have hB := h.lo.1
 refine ⟨hcs ▸ h.row.set _ _, ⟨h.lo.1, Nat.lt_of_lt_of_le h.lo.2 hH⟩, fun i hi hr => ?_, fun i j hi hj hij hri hrj => ?_⟩
 ·by_cases e : i = k
  ·subst e
   rw [getD_set_eq hk] at hr ⊢
   obtain ⟨b, rfl, h1, h2, h3⟩ := hn hr
   have hlo := h.lo
   have hne : b ≠ pb := by omega
   exact ⟨rfl, ⟨by show B <= b; omega, h2⟩, hne, h3.other hne _ _⟩
  ·rw [getD_set_ne e] at hr ⊢
   obtain ⟨h1, h2, h3, h4⟩ := h.each i (by omega) hr
   exact ⟨h1, ⟨h2.1, Nat.lt_of_lt_of_le h2.2 hH⟩, h3, h4.other h3 _ _⟩
 ·by_cases ei : i = k
  ·subst ei
   rw [getD_set_eq hk] at hri ⊢
   rw [getD_set_ne (Ne.symm hij)] at hrj ⊢
   obtain ⟨b, rfl, h1, _⟩ := hn hri
   have := (h.each j (by omega) hrj).2.1.2
   show b ≠ _
   omega
  ·rw [getD_set_ne ei] at hri ⊢
   by_cases ej : j = k
   ·subst ej
    rw [getD_set_eq hk] at hrj ⊢
    obtain ⟨b, rfl, h1, _⟩ := hn hrj
    have := (h.each i (by omega) hri).2.1.2
    show _ ≠ b
    omega
   ·rw [getD_set_ne ej] at hrj ⊢
    exact h.two i j (by omega) (by omega) hij hri hrj
theorem PM.turn {B H : Nat} {w w' : World} {pb pc k : Nat} {l : List PV} (h : PM B H w pb pc k l) (hkl : k <= l.length) {i : Nat} (hi : i < k) (hr : (l.getD i .none).right ≠ []) (r : List (Int × Int)) (hl : r.length = (l.getD i .none).right.length)
  (hb : ∀ j, B <= j -> j < H -> j ≠ ablk (l.getD i .none).ra -> w'.heap[j]? = w.heap[j]?) (hn : RB w' (ablk (l.getD i .none).ra) 47 (symCells r) (l.getD i .none).rc 2) : PM B H w' pb pc k (l.set i { l.getD i .none with right := r }) := by
 have hil : i < l.length := by omega
 have hg := proCells_get l i hil
 have hcs : proCells (l.set i { l.getD i .none with right := r }) = proCells l := by
  rw [proCells_set hil, set_same hg.1]
  simp only [hl]
  rw [set_same hg.2.1, set_same hg.2.2]
 obtain ⟨q1, q2, q3, q4⟩ := h.each i hi hr
 have hrn : ∀ j, j < k -> j ≠ i -> (l.getD j .none).right ≠ [] -> ablk (l.getD j .none).ra ≠ ablk (l.getD i .none).ra := fun j hj hji hrj => h.two j i hj hi hji hrj hr
 refine ⟨hcs ▸ h.row.kept (hb _ h.lo.1 h.lo.2 (Ne.symm q3)), h.lo, fun j hj hrj => ?_, fun x y hx hy hxy hrx hry => ?_⟩
 ·by_cases e : j = i
  ·subst e
   rw [getD_set_eq hil]
   exact ⟨q1, q2, q3, hn⟩
  ·rw [getD_set_ne e] at hrj ⊢
   obtain ⟨h1, h2, h3, h4⟩ := h.each j hj hrj
   exact ⟨h1, h2, h3, h4.kept (hb _ h2.1 h2.2 (hrn j hj e hrj))⟩
 ·have hz : ∀ z, z < k -> ((l.set i { l.getD i .none with right := r }).getD z .none).right ≠ [] -> ((l.set i { l.getD i .none with right := r }).getD z .none).ra = (l.getD z .none).ra /\ (l.getD z .none).right ≠ [] := fun z _ hrz => by
   by_cases e : z = i
   ·subst e; rw [getD_set_eq hil]; exact ⟨rfl, hr⟩
   ·rw [getD_set_ne e] at hrz ⊢; exact ⟨rfl, hrz⟩
  rw [(hz x hx hrx).1, (hz y hy hry).1]
  exact h.two x y hx hy hxy (hz x hx hrx).2 (hz y hy hry).2
theorem LMt.turn {B H : Nat} {w w' : World} {pb pc k : Nat} {l : List LV} (h : LMt B H w pb pc k l) (hkl : k <= l.length) {i : Nat} (hi : i < k) (hr : (l.getD i .none).terms ≠ []) (r : List Int) (hl : r.length = (l.getD i .none).terms.length)
  (hb : ∀ j, B <= j -> j < H -> j ≠ ablk (l.getD i .none).ta -> w'.heap[j]? = w.heap[j]?) (hn : RB w' (ablk (l.getD i .none).ta) 3 (r.map (.int .i64 ·)) (l.getD i .none).tc 1) : LMt B H w' pb pc k (l.set i { l.getD i .none with terms := r }) := by
 have hil : i < l.length := by omega
 have hg := levCells_get l i hil
 have hcs : levCells (l.set i { l.getD i .none with terms := r }) = levCells l := by
  rw [levCells_set hil, set_same hg.1]
  simp only [hl]
  rw [set_same hg.2]
 obtain ⟨q1, q2, q3, q4⟩ := h.each i hi hr
 have hrn : ∀ j, j < k -> j ≠ i -> (l.getD j .none).terms ≠ [] -> ablk (l.getD j .none).ta ≠ ablk (l.getD i .none).ta := fun j hj hji hrj => h.two j i hj hi hji hrj hr
 refine ⟨hcs ▸ h.row.kept (hb _ h.lo.1 h.lo.2 (Ne.symm q3)), h.lo, fun j hj hrj => ?_, fun x y hx hy hxy hrx hry => ?_⟩
 ·by_cases e : j = i
  ·subst e
   rw [getD_set_eq hil]
   exact ⟨q1, q2, q3, hn⟩
  ·rw [getD_set_ne e] at hrj ⊢
   obtain ⟨h1, h2, h3, h4⟩ := h.each j hj hrj
   exact ⟨h1, h2, h3, h4.kept (hb _ h2.1 h2.2 (hrn j hj e hrj))⟩
 ·have hz : ∀ z, z < k -> ((l.set i { l.getD i .none with terms := r }).getD z .none).terms ≠ [] -> ((l.set i { l.getD i .none with terms := r }).getD z .none).ta = (l.getD z .none).ta /\ (l.getD z .none).terms ≠ [] := fun z _ hrz => by
   by_cases e : z = i
   ·subst e; rw [getD_set_eq hil]; exact ⟨rfl, hr⟩
   ·rw [getD_set_ne e] at hrz ⊢; exact ⟨rfl, hrz⟩
  rw [(hz x hx hrx).1, (hz y hy hry).1]
  exact h.two x y hx hy hxy (hz x hx hrx).2 (hz y hy hry).2
theorem PM.left {B H : Nat} {w : World} {pb pc k : Nat} {l : List PV} (h : PM B H w pb pc k l) {i : Nat} (hi : i < l.length) (x : Int) :
  PM B H (w.setCell ⟨pb, i * 3, none⟩ (.int .i64 x)) pb pc k (l.set i { l.getD i .none with left := x }) := by
 have hg := proCells_get l i hi
 have hcs : proCells (l.set i { l.getD i .none with left := x }) = (proCells l).set (i * 3) (.int .i64 x) := by
  rw [proCells_set hi]
  dsimp only
  rw [set_same (l := (proCells l).set (i * 3) (.int .i64 x)) (by rw [List.getElem?_set_ne (by omega)]; exact hg.2.1), set_same (l := (proCells l).set (i * 3) (.int .i64 x)) (by rw [List.getElem?_set_ne (by omega)]; exact hg.2.2)]
 have hz : ∀ z, ((l.set i { l.getD i .none with left := x }).getD z .none).ra = (l.getD z .none).ra /\ ((l.set i { l.getD i .none with left := x }).getD z .none).right = (l.getD z .none).right /\ ((l.set i { l.getD i .none with left := x }).getD z .none).rc = (l.getD z .none).rc := fun z => by
  by_cases e : z = i
  ·subst e; rw [getD_set_eq hi]; exact ⟨rfl, rfl, rfl⟩
  ·rw [getD_set_ne e]; exact ⟨rfl, rfl, rfl⟩
 refine ⟨hcs ▸ h.row.set _ _, h.lo, fun j hj hr => ?_, fun a b ha hb hab hra hrb => ?_⟩
 ·rw [(hz j).2.1] at hr
  rw [(hz j).1, (hz j).2.1, (hz j).2.2]
  obtain ⟨h1, h2, h3, h4⟩ := h.each j hj hr
  exact ⟨h1, h2, h3, h4.other h3 _ _⟩
 ·rw [(hz a).1, (hz b).1]
  rw [(hz a).2.1] at hra
  rw [(hz b).2.1] at hrb
  exact h.two a b ha hb hab hra hrb
theorem PM.prec {B H : Nat} {w : World} {pb pc k : Nat} {l : List PV} (h : PM B H w pb pc k l) {i : Nat} (hi : i < l.length) (x : Int) :
  PM B H (w.setCell ⟨pb, i * 3 + 2, none⟩ (.int .i64 x)) pb pc k (l.set i { l.getD i .none with prec := x }) := by
 have hg := proCells_get l i hi
 have hcs : proCells (l.set i { l.getD i .none with prec := x }) = (proCells l).set (i * 3 + 2) (.int .i64 x) := by
  rw [proCells_set hi]
  dsimp only
  rw [set_same hg.1, set_same hg.2.1]
 have hz : ∀ z, ((l.set i { l.getD i .none with prec := x }).getD z .none).ra = (l.getD z .none).ra /\ ((l.set i { l.getD i .none with prec := x }).getD z .none).right = (l.getD z .none).right /\ ((l.set i { l.getD i .none with prec := x }).getD z .none).rc = (l.getD z .none).rc := fun z => by
  by_cases e : z = i
  ·subst e; rw [getD_set_eq hi]; exact ⟨rfl, rfl, rfl⟩
  ·rw [getD_set_ne e]; exact ⟨rfl, rfl, rfl⟩
 refine ⟨hcs ▸ h.row.set _ _, h.lo, fun j hj hr => ?_, fun a b ha hb hab hra hrb => ?_⟩
 ·rw [(hz j).2.1] at hr
  rw [(hz j).1, (hz j).2.1, (hz j).2.2]
  obtain ⟨h1, h2, h3, h4⟩ := h.each j hj hr
  exact ⟨h1, h2, h3, h4.other h3 _ _⟩
 ·rw [(hz a).1, (hz b).1]
  rw [(hz a).2.1] at hra
  rw [(hz b).2.1] at hrb
  exact h.two a b ha hb hab hra hrb
theorem symRow_of {w : World} {b c s : Nat} {l : List (Int × Int)} (h : RB w b 47 (symCells l) c s) : SymRow w (some ⟨b, 0, none⟩) l := by
 intro _
 refine ⟨b, 0, rfl, h.lt, fun i hi => ?_⟩
 obtain ⟨q1, q2⟩ := symCells_get l i hi
 have r1 := h.cell q1
 have r2 := h.cell q2
 exact ⟨by simpa using r1, by simpa [Nat.add_assoc] using r2⟩
theorem PM.at {B H : Nat} {w : World} {pb pc : Nat} {l : List PV} (h : PM B H w pb pc l.length l) : PrRow w (some ⟨pb, 0, none⟩) l := by
 refine ⟨fun _ => ⟨pb, 0, rfl, h.row.lt, fun i hi => ?_⟩, fun p hp => ?_⟩
 ·obtain ⟨q1, q2, q3⟩ := proCells_get l i hi
  exact ⟨by simpa using h.row.cell q1, by simpa [Nat.add_assoc] using h.row.cell q2, by simpa [Nat.add_assoc] using h.row.cell q3⟩
 ·obtain ⟨i, hi, rfl⟩ := List.getElem_of_mem hp
  have e : l.getD i .none = l[i] := by simp [List.getD, hi]
  intro hr
  have h2 := h.each i hi (by rw [e]; exact hr)
  rw [e] at h2
  have h3 := symRow_of h2.2.2.2 hr
  rw [h2.1]
  exact h3
theorem inRow_of {w : World} {b c s : Nat} {l : List Int} (h : RB w b 3 (l.map (.int .i64 ·)) c s) : InRow w (some ⟨b, 0, none⟩) l := by
 intro _
 refine ⟨b, 0, rfl, h.lt, fun i hi => ?_⟩
 have r1 := h.cell (i := i) (u := .int .i64 (l.getD i 0)) (by simp [List.getD, hi])
 simpa using r1
theorem LMt.at {B H : Nat} {w : World} {pb pc : Nat} {l : List LV} (h : LMt B H w pb pc l.length l) : LvRow w (some ⟨pb, 0, none⟩) l := by
 refine ⟨fun _ => ⟨pb, 0, rfl, h.row.lt, fun i hi => ?_⟩, fun p hp => ?_⟩
 ·obtain ⟨q1, q2⟩ := levCells_get l i hi
  exact ⟨by simpa using h.row.cell q1, by simpa [Nat.add_assoc] using h.row.cell q2⟩
 ·obtain ⟨i, hi, rfl⟩ := List.getElem_of_mem hp
  have e : l.getD i .none = l[i] := by simp [List.getD, hi]
  intro hr
  have h2 := h.each i hi (by rw [e]; exact hr)
  rw [e] at h2
  have h3 := inRow_of h2.2.2.2 hr
  rw [h2.1]
  exact h3
end Go.Proofs.Ytccednepbkjajaa
