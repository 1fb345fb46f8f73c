import Derived.Test.YtcjejnenklppiaaDoorBZ1
import Derived.Shelf.SortM.Plain
import Derived.Shelf.SortM.SortNone
import Derived.Lib.SlKeysI
import Derived.Shelf.SlicesG.Reverse
namespace Go.Proofs.YtcjejnenklppiaaDoor
set_option linter.unusedVariables false
open Go.RowKit Go.Shelf Go.Sort Go.Lib

def sortRenB : Ren := ⟨fun | 5 => 69 | 7 => 75 | 8 => 76 | 10 => 79 | 11 => 80 | 12 => 81 | 13 => 82 | 14 => 83 | 15 => 84 | 16 => 85 | 17 => 86 | 18 => 87 | 19 => 88 | 20 => 89 | 30 => 98 | 31 => 99 | 32 => 100 | 33 => 101 | 34 => 102 | 35 => 78 | 40 => 106 | n => n, fun | 22 => 42 | 23 => 42 | 25 => 3 | 32 => 84 | 35 => 105 | 36 => 106 | 41 => 110 | 44 => 113 | 46 => 58 | 53 => 119 | 57 => 123 | 63 => 127 | 64 => 128 | n => n, fun n => n⟩
theorem sort_laysB : SlLaysM.n5 Tryd.prog sortRenB := {
  mixed := by kernel_rfl
  f5 := ⟨Tryd.f69.name, by decide, by kernel_rfl⟩
  f7 := ⟨Tryd.f75.name, by decide, by kernel_rfl⟩
  f8 := by kernel_rfl
  f10 := ⟨Tryd.f79.name, by decide, by kernel_rfl⟩
  f11 := ⟨Tryd.f80.name, by decide, by kernel_rfl⟩
  f12 := ⟨Tryd.f81.name, by decide, by kernel_rfl⟩
  f13 := ⟨Tryd.f82.name, by decide, by kernel_rfl⟩
  f14 := ⟨Tryd.f83.name, by decide, by kernel_rfl⟩
  f15 := ⟨Tryd.f84.name, by decide, by kernel_rfl⟩
  f16 := ⟨Tryd.f85.name, by decide, by kernel_rfl⟩
  f17 := ⟨Tryd.f86.name, by decide, by kernel_rfl⟩
  f18 := ⟨Tryd.f87.name, by decide, by kernel_rfl⟩
  f19 := by kernel_rfl
  f20 := by kernel_rfl
  f30 := ⟨Tryd.f98.name, by decide, by kernel_rfl⟩
  f31 := by kernel_rfl
  f32 := by kernel_rfl
  f33 := ⟨Tryd.f101.name, by decide, by kernel_rfl⟩
  f34 := ⟨Tryd.f102.name, by decide, by kernel_rfl⟩
  f35 := ⟨Tryd.f78.name, by decide, by kernel_rfl⟩
  f40 := ⟨Tryd.f106.name, by decide, by kernel_rfl⟩
  t0 := by kernel_rfl
  a0 := fun _ => by kernel_rfl
  z0 := fun _ => by kernel_rfl
  v0 := fun _ => by kernel_rfl
  t3 := by kernel_rfl
  a3 := fun _ => by kernel_rfl
  z3 := fun _ => by kernel_rfl
  v3 := fun _ => by kernel_rfl
  t4 := by kernel_rfl
  a4 := fun _ => by kernel_rfl
  z4 := fun _ => by kernel_rfl
  v4 := fun _ => by kernel_rfl
  t5 := by kernel_rfl
  a5 := fun _ => by kernel_rfl
  z5 := fun _ => by kernel_rfl
  v5 := fun _ => by kernel_rfl
  t9 := by kernel_rfl
  a9 := fun _ => by kernel_rfl
  z9 := fun _ => by kernel_rfl
  v9 := fun _ => by kernel_rfl
  t22 := by kernel_rfl
  a22 := fun _ => by kernel_rfl
  z22 := fun _ => by kernel_rfl
  v22 := fun _ => by kernel_rfl
  t23 := by kernel_rfl
  a23 := fun _ => by kernel_rfl
  z23 := fun _ => by kernel_rfl
  v23 := fun _ => by kernel_rfl
  t25 := by kernel_rfl
  a25 := fun _ => by kernel_rfl
  z25 := fun _ => by kernel_rfl
  v25 := fun _ => by kernel_rfl
  t32 := by kernel_rfl
  a32 := fun _ => by kernel_rfl
  z32 := fun _ => by kernel_rfl
  v32 := fun _ => by kernel_rfl
  t35 := by kernel_rfl
  a35 := fun _ => by kernel_rfl
  z35 := fun _ => by kernel_rfl
  v35 := fun _ => by kernel_rfl
  t36 := by kernel_rfl
  a36 := fun _ => by kernel_rfl
  z36 := fun _ => by kernel_rfl
  v36 := fun _ => by kernel_rfl
  t41 := by kernel_rfl
  a41 := fun _ => by kernel_rfl
  z41 := fun _ => by kernel_rfl
  v41 := fun _ => by kernel_rfl
  t44 := by kernel_rfl
  a44 := fun _ => by kernel_rfl
  z44 := fun _ => by kernel_rfl
  v44 := fun _ => by kernel_rfl
  t46 := by kernel_rfl
  a46 := fun _ => by kernel_rfl
  z46 := fun _ => by kernel_rfl
  v46 := fun _ => by kernel_rfl
  t53 := by kernel_rfl
  a53 := fun _ => by kernel_rfl
  z53 := fun _ => by kernel_rfl
  v53 := fun _ => by kernel_rfl
  t57 := by kernel_rfl
  a57 := fun _ => by kernel_rfl
  z57 := fun _ => by kernel_rfl
  v57 := fun _ => by kernel_rfl
  t63 := by kernel_rfl
  a63 := fun _ => by kernel_rfl
  z63 := fun _ => by kernel_rfl
  v63 := fun _ => by kernel_rfl
  t64 := by kernel_rfl
  a64 := fun _ => by kernel_rfl
  z64 := fun _ => by kernel_rfl
  v64 := fun _ => by kernel_rfl }
def revRenB : Ren := ⟨fun _ => 68, fun x => if x = 22 then 42 else if x = 23 then 3 else x, fun x => x⟩
theorem rev_laysB : SlLaysN.n35 Tryd.prog revRenB := {
  mixed := by kernel_rfl
  f35 := ⟨Tryd.f68.name, by decide, by kernel_rfl⟩
  t0 := by kernel_rfl
  a0 := fun _ => by kernel_rfl
  z0 := fun _ => by kernel_rfl
  v0 := fun _ => by kernel_rfl
  t3 := by kernel_rfl
  a3 := fun _ => by kernel_rfl
  z3 := fun _ => by kernel_rfl
  v3 := fun _ => by kernel_rfl
  t4 := by kernel_rfl
  a4 := fun _ => by kernel_rfl
  z4 := fun _ => by kernel_rfl
  v4 := fun _ => by kernel_rfl
  t22 := by kernel_rfl
  a22 := fun _ => by kernel_rfl
  z22 := fun _ => by kernel_rfl
  v22 := fun _ => by kernel_rfl
  t23 := by kernel_rfl
  a23 := fun _ => by kernel_rfl
  z23 := fun _ => by kernel_rfl
  v23 := fun _ => by kernel_rfl }

theorem put_take {α : Type} [Inhabited α] (enc : α → Value) (d : Array α) (cur : Array Value) (h : d.size ≤ cur.size) : (putCells enc 0 d cur).toList.take d.size = d.toList.map enc := by
  apply List.ext_getElem?
  intro j
  by_cases hj : j < d.size
  · rw [List.getElem?_take_of_lt hj, Array.getElem?_toList]
    simp [putCells, hj, show j < cur.size by omega]
  · rw [List.getElem?_take_eq_none (by omega), List.getElem?_eq_none (by simp; omega)]
theorem put_fr {α : Type} [Inhabited α] (enc : α → Value) (d : Array α) (w : World) (b n : Nat) (os : Array Obj) : FrB (· = b) w (grow (putRow enc (Sort.ahead w n) b 0 d) os) := by
  refine ⟨rfl, rfl, rfl, by simp [grow, putRow, mapBlock, Sort.ahead], fun j hj hb => ?_⟩
  have hb' : ¬ j = b := hb
  have hs : j < (putRow enc (Sort.ahead w n) b 0 d).heap.size := by simpa [putRow, mapBlock, Sort.ahead] using hj
  show ((putRow enc (Sort.ahead w n) b 0 d).heap ++ os)[j]? = _
  rw [Array.getElem?_append_left hs]
  simp [putRow, mapBlock, Sort.ahead, Array.getElem?_modify, Ne.symm hb']
theorem put_blk {α : Type} [Inhabited α] (enc : α → Value) (d : Array α) {w : World} {b : Nat} (n : Nat) (os : Array Obj) {cur : Array Value} {t : TypeId} (h : w.heap[b]? = some (.cells cur t (0, 0))) : (grow (putRow enc (Sort.ahead w n) b 0 d) os).heap[b]? = some (.cells (putCells enc 0 d cur) t (0, 0)) := by
  have hl := lt_of_block h
  have hs : b < (putRow enc (Sort.ahead w n) b 0 d).heap.size := by simpa [putRow, mapBlock, Sort.ahead] using hl
  show ((putRow enc (Sort.ahead w n) b 0 d).heap ++ os)[b]? = _
  rw [Array.getElem?_append_left hs]
  simp [putRow, mapBlock, Sort.ahead, Array.getElem?_modify, h, onCells]
/-- A list of one's own whose cells are written over. -/
theorem own_put {α : Type} [Inhabited α] (enc : α → Value) (d : Array α) {w : World} {t : TypeId} {b c : Nat} {xs : List Value} (h : w.ownsRow 0 t 1 (.slice (some ⟨b, 0, none⟩) xs.length c) xs.length xs) (hd : d.size = xs.length) (n : Nat) (os : Array Obj) : (grow (putRow enc (Sort.ahead w n) b 0 d) os).ownsRow 0 t 1 (.slice (some ⟨b, 0, none⟩) xs.length c) xs.length (d.toList.map enc) := by
  refine ⟨by simp [hd], ?_⟩
  rcases h.2 with ⟨e, _⟩ | ⟨g, cap, cur, e, h1, h2, h3, h4, h5, h6⟩
  · cases e
  · simp only [Value.slice.injEq, Option.some.injEq, Addr.mk.injEq, and_true, true_and] at e
    obtain ⟨rfl, rfl⟩ := e
    refine .inr ⟨b, c, _, rfl, h1, put_blk enc d n os h2, h3, h4, by simpa [putCells] using h5, ?_⟩
    rw [Nat.mul_one] at h5 ⊢
    rw [← hd]
    exact put_take enc d cur (by omega)
theorem own_holds {w : World} {t : TypeId} {b c : Nat} {xs : List Value} (h : w.ownsRow 0 t 1 (.slice (some ⟨b, 0, none⟩) xs.length c) xs.length xs) : b < w.heap.size ∧ ∀ j u, xs[j]? = some u → w.cell? ⟨b, j, none⟩ = some u ∧ w.frozen? ⟨b, j, none⟩ = false := by
  refine ⟨(World.ownsRow.lt h b rfl).2, fun j u hu => ?_⟩
  obtain ⟨hj, hv⟩ := List.getElem?_eq_some_iff.1 hu
  refine ⟨?_, ?_⟩
  · rw [World.ownsRow.cellAt h j (by omega)]
    exact hu
  · rcases h.2 with ⟨e, _⟩ | ⟨g, cap, cur, e, h1, h2, h3, h4, h5, h6⟩
    · cases e
    · simp only [Value.slice.injEq, Option.some.injEq, Addr.mk.injEq, and_true, true_and] at e
      obtain ⟨rfl, rfl⟩ := e
      simp [World.frozen?, h2]
theorem nI_back {zs : List Int} (h : ∀ z ∈ zs, 0 ≤ z) : nI (zs.map Int.toNat) = zs := by
  induction zs with
  | nil => rfl
  | cons z zs ih =>
    have hz := h z List.mem_cons_self
    simp only [nI, List.map_cons] at ih ⊢
    rw [ih (fun y hy => h y (List.mem_cons_of_mem _ hy)), Int.toNat_of_nonneg hz]
theorem nI_toNat (l : List Nat) : (nI l).map Int.toNat = l := by
  simp [nI, List.map_map, Function.comp_def]
theorem sort_IL {w : World} {b c : Nat} {l : List Nat} (h : IL w (.slice (some ⟨b, 0, none⟩) l.length c) (nI l)) (hl : l.length ≤ 1048576) :
    Calls Tryd.prog 69 #[.slice (some ⟨b, 0, none⟩) l.length c] w fun e w' => e = .returned (.tuple #[]) ∧ (∃ l', l'.Perm l ∧ l'.Pairwise (· ≤ ·) ∧ IL w' (.slice (some ⟨b, 0, none⟩) l.length c) (nI l')) ∧ FrB (· = b) w w' := by
  have hn := nI_len l
  have h' : w.ownsRow 0 3 1 (.slice (some ⟨b, 0, none⟩) ((nI l).map (Value.int .i64 ·)).length c) ((nI l).map (Value.int .i64 ·)).length ((nI l).map (Value.int .i64 ·)) := by
    have q := h
    unfold IL at q
    rw [List.length_map]
    rw [hn] at q ⊢
    exact q
  obtain ⟨hb, hc⟩ := own_holds h'
  have hH : Holds (Value.int .i64) w b 0 (nI l).toArray := fun j hj => by
    have hj' : j < (nI l).length := by simpa using hj
    have := hc j (.int .i64 (nI l)[j]) (by simp [hj'])
    rw [Nat.zero_add]
    refine ⟨?_, this.2⟩
    rw [this.1]
    simp [hj']
  have hcall := AnyM.slices_Sort_int sort_laysB b 0 c (nI l) w hH hb (by omega)
  change Calls Tryd.prog 69 _ _ _ at hcall
  rw [hn] at hcall
  refine hcall.mono ?_
  rintro e w' ⟨rfl, n, os, rfl⟩
  obtain ⟨zs, hzs⟩ : ∃ zs, (nI l).mergeSort (fun x y => decide (x ≤ y)) = zs := ⟨_, rfl⟩
  have hp : zs.Perm (nI l) := by rw [← hzs]; exact List.mergeSort_perm _ _
  have hs : zs.Pairwise (· ≤ ·) := by
    have := List.pairwise_mergeSort (le := fun (x y : Int) => decide (x ≤ y)) (fun a b c h1 h2 => by simp at h1 h2 ⊢; omega) (fun a b => by simp; omega) (nI l)
    rw [hzs] at this
    exact this.imp (fun q => by simpa using q)
  have hpos : ∀ z ∈ zs, 0 ≤ z := fun z hz => by
    have := hp.mem_iff.1 hz
    simp only [nI, List.mem_map] at this
    obtain ⟨k, _, rfl⟩ := this
    omega
  rw [hzs]
  refine ⟨rfl, ⟨zs.map Int.toNat, ?_, ?_, ?_⟩, put_fr _ _ _ _ _ _⟩
  · have := hp.map Int.toNat
    rwa [nI_toNat] at this
  · rw [List.pairwise_map]
    exact hs.imp_of_mem (fun {a b} ha hb hab => by have := hpos a ha; have := hpos b hb; omega)
  · have q := own_put (Value.int .i64) zs.toArray h' (by simp [hp.length_eq]) n os
    unfold IL
    rw [nI_back hpos, hp.length_eq, hn]
    rw [List.length_map, hn] at q
    simpa using q
theorem sort_ILn (a : Option Addr) (c : Nat) (w : World) : Calls Tryd.prog 69 #[.slice a 0 c] w fun e w' => e = .returned (.tuple #[]) ∧ w' = w := AnyM.slices_Sort_int_none sort_laysB a c w
theorem rev_IL {w : World} {b c : Nat} {l : List Nat} (h : IL w (.slice (some ⟨b, 0, none⟩) l.length c) (nI l)) (hl : l.length ≤ 1048576) :
    Calls Tryd.prog 68 #[.slice (some ⟨b, 0, none⟩) l.length c] w fun e w' => e = .returned (.tuple #[]) ∧ IL w' (.slice (some ⟨b, 0, none⟩) l.length c) (nI l.reverse) ∧ FrB (· = b) w w' := by
  have hn := nI_len l
  have h' : w.ownsRow 0 3 1 (.slice (some ⟨b, 0, none⟩) ((nI l).map (Value.int .i64 ·)).length c) ((nI l).map (Value.int .i64 ·)).length ((nI l).map (Value.int .i64 ·)) := by
    have q := h
    unfold IL at q
    rw [List.length_map]
    rw [hn] at q ⊢
    exact q
  obtain ⟨hb, hc⟩ := own_holds h'
  have hH : Holds (Value.int .i64) w b 0 (nI l).toArray := fun j hj => by
    have hj' : j < (nI l).length := by simpa using hj
    have := hc j (.int .i64 (nI l)[j]) (by simp [hj'])
    rw [Nat.zero_add]
    refine ⟨?_, this.2⟩
    rw [this.1]
    simp [hj']
  have hcall := AnyG.slices_Reverse_int rev_laysB b 0 c (nI l) w hH (by omega)
  change Calls Tryd.prog 68 _ _ _ at hcall
  rw [hn] at hcall
  refine hcall.mono ?_
  rintro e w' ⟨rfl, n, rfl⟩
  have q := own_put (Value.int .i64) (nI l).reverse.toArray h' (by simp) n #[]
  have f := put_fr (Value.int .i64) (nI l).reverse.toArray w b n #[]
  rw [grow_empty] at q f
  refine ⟨rfl, ?_, f⟩
  have e : nI l.reverse = (nI l).reverse := by simp [nI]
  unfold IL
  rw [e, List.length_reverse, hn]
  rw [List.length_map, hn] at q
  simpa using q
theorem rev_ILn (ao : Option Addr) (c : Nat) (w : World) : Calls Tryd.prog 68 #[.slice ao 0 c] w fun e w' => e = .returned (.tuple #[]) ∧ w' = w := by
  go_enter Tryd.func68, Tryd.ntmps68
  go_wp2
  go_loopw [2, 3] (fun i j wr => i = .int .i64 0 ∧ j = .int .i64 (-1) ∧ wr = w) (fun _ _ _ => 0)
  case atStart => exact ⟨rfl, rfl, rfl⟩
  case round =>
    obtain ⟨rfl, rfl, rfl⟩ := hrel
    go_wp2
    go_end0
    exact ⟨rfl, rfl⟩
end Go.Proofs.YtcjejnenklppiaaDoor
