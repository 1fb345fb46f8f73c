import Derived.Test.YtlfiohdhcmmjbaaGreatDoorPBZ1
import Derived.Shelf.SortM.Plain
import Derived.Shelf.SortM.SortNone
import Derived.Lib.SlKeysI
import Derived.Shelf.SlicesG.Reverse
import Derived.Shelf.Spec.SlicesGrow
import Derived.Laws.AppendOwnNone
import Derived.Maps.AppendAt
import Derived.Shelf.SlSortCmp.Whole1
import Derived.Shelf.SlSortCmp.NoneTotal
namespace Go.Proofs.YtlfiohdhcmmjbaaGreatDoor
set_option linter.unusedVariables false
open Go.RowKit Go.Shelf Go.Sort Go.Lib

def sortRenB : Ren := ⟨fun | 5 => 168 | 7 => 177 | 8 => 178 | 10 => 183 | 11 => 184 | 12 => 185 | 13 => 186 | 14 => 187 | 15 => 188 | 16 => 189 | 17 => 190 | 18 => 191 | 19 => 192 | 20 => 193 | 30 => 202 | 31 => 203 | 32 => 204 | 33 => 205 | 34 => 206 | 35 => 180 | 40 => 210 | n => n, fun | 22 => 41 | 23 => 41 | 25 => 3 | 32 => 160 | 35 => 230 | 36 => 231 | 41 => 173 | 44 => 237 | 46 => 200 | 53 => 243 | 57 => 247 | 63 => 251 | 64 => 119 | n => n, fun n => n⟩
theorem sort_laysB : SlLaysM.n5 Tryz.prog sortRenB := {
  mixed := by kernel_rfl
  f5 := ⟨Tryz.f168.name, by decide, by kernel_rfl⟩
  f7 := ⟨Tryz.f177.name, by decide, by kernel_rfl⟩
  f8 := by kernel_rfl
  f10 := ⟨Tryz.f183.name, by decide, by kernel_rfl⟩
  f11 := ⟨Tryz.f184.name, by decide, by kernel_rfl⟩
  f12 := ⟨Tryz.f185.name, by decide, by kernel_rfl⟩
  f13 := ⟨Tryz.f186.name, by decide, by kernel_rfl⟩
  f14 := ⟨Tryz.f187.name, by decide, by kernel_rfl⟩
  f15 := ⟨Tryz.f188.name, by decide, by kernel_rfl⟩
  f16 := ⟨Tryz.f189.name, by decide, by kernel_rfl⟩
  f17 := ⟨Tryz.f190.name, by decide, by kernel_rfl⟩
  f18 := ⟨Tryz.f191.name, by decide, by kernel_rfl⟩
  f19 := by kernel_rfl
  f20 := by kernel_rfl
  f30 := ⟨Tryz.f202.name, by decide, by kernel_rfl⟩
  f31 := by kernel_rfl
  f32 := by kernel_rfl
  f33 := ⟨Tryz.f205.name, by decide, by kernel_rfl⟩
  f34 := ⟨Tryz.f206.name, by decide, by kernel_rfl⟩
  f35 := ⟨Tryz.f180.name, by decide, by kernel_rfl⟩
  f40 := ⟨Tryz.f210.name, by decide, by kernel_rfl⟩
  t0 := by kernel_rfl
  a0 := fun _ => by kernel_rfl
  z0 := fun _ => by kernel_rfl
  v0 := fun _ => by kernel_rfl
  t3 := by kernel_rfl
  a3 := fun _ => by kernel_rfl
  z3 := fun _ => by kernel_rfl
  v3 := fun _ => by kernel_rfl
  t4 := by kernel_rfl
  a4 := fun _ => by kernel_rfl
  z4 := fun _ => by kernel_rfl
  v4 := fun _ => by kernel_rfl
  t5 := by kernel_rfl
  a5 := fun _ => by kernel_rfl
  z5 := fun _ => by kernel_rfl
  v5 := fun _ => by kernel_rfl
  t9 := by kernel_rfl
  a9 := fun _ => by kernel_rfl
  z9 := fun _ => by kernel_rfl
  v9 := fun _ => by kernel_rfl
  t22 := by kernel_rfl
  a22 := fun _ => by kernel_rfl
  z22 := fun _ => by kernel_rfl
  v22 := fun _ => by kernel_rfl
  t23 := by kernel_rfl
  a23 := fun _ => by kernel_rfl
  z23 := fun _ => by kernel_rfl
  v23 := fun _ => by kernel_rfl
  t25 := by kernel_rfl
  a25 := fun _ => by kernel_rfl
  z25 := fun _ => by kernel_rfl
  v25 := fun _ => by kernel_rfl
  t32 := by kernel_rfl
  a32 := fun _ => by kernel_rfl
  z32 := fun _ => by kernel_rfl
  v32 := fun _ => by kernel_rfl
  t35 := by kernel_rfl
  a35 := fun _ => by kernel_rfl
  z35 := fun _ => by kernel_rfl
  v35 := fun _ => by kernel_rfl
  t36 := by kernel_rfl
  a36 := fun _ => by kernel_rfl
  z36 := fun _ => by kernel_rfl
  v36 := fun _ => by kernel_rfl
  t41 := by kernel_rfl
  a41 := fun _ => by kernel_rfl
  z41 := fun _ => by kernel_rfl
  v41 := fun _ => by kernel_rfl
  t44 := by kernel_rfl
  a44 := fun _ => by kernel_rfl
  z44 := fun _ => by kernel_rfl
  v44 := fun _ => by kernel_rfl
  t46 := by kernel_rfl
  a46 := fun _ => by kernel_rfl
  z46 := fun _ => by kernel_rfl
  v46 := fun _ => by kernel_rfl
  t53 := by kernel_rfl
  a53 := fun _ => by kernel_rfl
  z53 := fun _ => by kernel_rfl
  v53 := fun _ => by kernel_rfl
  t57 := by kernel_rfl
  a57 := fun _ => by kernel_rfl
  z57 := fun _ => by kernel_rfl
  v57 := fun _ => by kernel_rfl
  t63 := by kernel_rfl
  a63 := fun _ => by kernel_rfl
  z63 := fun _ => by kernel_rfl
  v63 := fun _ => by kernel_rfl
  t64 := by kernel_rfl
  a64 := fun _ => by kernel_rfl
  z64 := fun _ => by kernel_rfl
  v64 := fun _ => by kernel_rfl }
def revRenB : Ren := ⟨fun _ => 166, fun x => if x = 22 then 41 else if x = 23 then 3 else x, fun x => x⟩
theorem rev_laysB : SlLaysN.n35 Tryz.prog revRenB := {
  mixed := by kernel_rfl
  f35 := ⟨Tryz.f166.name, by decide, by kernel_rfl⟩
  t0 := by kernel_rfl
  a0 := fun _ => by kernel_rfl
  z0 := fun _ => by kernel_rfl
  v0 := fun _ => by kernel_rfl
  t3 := by kernel_rfl
  a3 := fun _ => by kernel_rfl
  z3 := fun _ => by kernel_rfl
  v3 := fun _ => by kernel_rfl
  t4 := by kernel_rfl
  a4 := fun _ => by kernel_rfl
  z4 := fun _ => by kernel_rfl
  v4 := fun _ => by kernel_rfl
  t22 := by kernel_rfl
  a22 := fun _ => by kernel_rfl
  z22 := fun _ => by kernel_rfl
  v22 := fun _ => by kernel_rfl
  t23 := by kernel_rfl
  a23 := fun _ => by kernel_rfl
  z23 := fun _ => by kernel_rfl
  v23 := fun _ => by kernel_rfl }

theorem put_take {α : Type} [Inhabited α] (enc : α → Value) (d : Array α) (cur : Array Value) (h : d.size ≤ cur.size) : (putCells enc 0 d cur).toList.take d.size = d.toList.map enc := by
  apply List.ext_getElem?
  intro j
  by_cases hj : j < d.size
  · rw [List.getElem?_take_of_lt hj, Array.getElem?_toList]
    simp [putCells, hj, show j < cur.size by omega]
  · rw [List.getElem?_take_eq_none (by omega), List.getElem?_eq_none (by simp; omega)]
theorem put_fr {α : Type} [Inhabited α] (enc : α → Value) (d : Array α) (w : World) (b n : Nat) (os : Array Obj) : FrB (· = b) w (grow (putRow enc (Sort.ahead w n) b 0 d) os) := by
  refine ⟨rfl, rfl, rfl, by simp [grow, putRow, mapBlock, Sort.ahead], fun j hj hb => ?_⟩
  have hb' : ¬ j = b := hb
  have hs : j < (putRow enc (Sort.ahead w n) b 0 d).heap.size := by simpa [putRow, mapBlock, Sort.ahead] using hj
  show ((putRow enc (Sort.ahead w n) b 0 d).heap ++ os)[j]? = _
  rw [Array.getElem?_append_left hs]
  simp [putRow, mapBlock, Sort.ahead, Array.getElem?_modify, Ne.symm hb']
theorem put_blk {α : Type} [Inhabited α] (enc : α → Value) (d : Array α) {w : World} {b : Nat} (n : Nat) (os : Array Obj) {cur : Array Value} {t : TypeId} (h : w.heap[b]? = some (.cells cur t (0, 0))) : (grow (putRow enc (Sort.ahead w n) b 0 d) os).heap[b]? = some (.cells (putCells enc 0 d cur) t (0, 0)) := by
  have hl := lt_of_block h
  have hs : b < (putRow enc (Sort.ahead w n) b 0 d).heap.size := by simpa [putRow, mapBlock, Sort.ahead] using hl
  show ((putRow enc (Sort.ahead w n) b 0 d).heap ++ os)[b]? = _
  rw [Array.getElem?_append_left hs]
  simp [putRow, mapBlock, Sort.ahead, Array.getElem?_modify, h, onCells]
/-- A list of one's own whose cells are written over. -/
theorem own_put {α : Type} [Inhabited α] (enc : α → Value) (d : Array α) {w : World} {t : TypeId} {b c : Nat} {xs : List Value} (h : w.ownsRow 0 t 1 (.slice (some ⟨b, 0, none⟩) xs.length c) xs.length xs) (hd : d.size = xs.length) (n : Nat) (os : Array Obj) : (grow (putRow enc (Sort.ahead w n) b 0 d) os).ownsRow 0 t 1 (.slice (some ⟨b, 0, none⟩) xs.length c) xs.length (d.toList.map enc) := by
  refine ⟨by simp [hd], ?_⟩
  rcases h.2 with ⟨e, _⟩ | ⟨g, cap, cur, e, h1, h2, h3, h4, h5, h6⟩
  · cases e
  · simp only [Value.slice.injEq, Option.some.injEq, Addr.mk.injEq, and_true, true_and] at e
    obtain ⟨rfl, rfl⟩ := e
    refine .inr ⟨b, c, _, rfl, h1, put_blk enc d n os h2, h3, h4, by simpa [putCells] using h5, ?_⟩
    rw [Nat.mul_one] at h5 ⊢
    rw [← hd]
    exact put_take enc d cur (by omega)
theorem own_holds {w : World} {t : TypeId} {b c : Nat} {xs : List Value} (h : w.ownsRow 0 t 1 (.slice (some ⟨b, 0, none⟩) xs.length c) xs.length xs) : b < w.heap.size ∧ ∀ j u, xs[j]? = some u → w.cell? ⟨b, j, none⟩ = some u ∧ w.frozen? ⟨b, j, none⟩ = false := by
  refine ⟨(World.ownsRow.lt h b rfl).2, fun j u hu => ?_⟩
  obtain ⟨hj, hv⟩ := List.getElem?_eq_some_iff.1 hu
  refine ⟨?_, ?_⟩
  · rw [World.ownsRow.cellAt h j (by omega)]
    exact hu
  · rcases h.2 with ⟨e, _⟩ | ⟨g, cap, cur, e, h1, h2, h3, h4, h5, h6⟩
    · cases e
    · simp only [Value.slice.injEq, Option.some.injEq, Addr.mk.injEq, and_true, true_and] at e
      obtain ⟨rfl, rfl⟩ := e
      simp [World.frozen?, h2]
theorem nI_back {zs : List Int} (h : ∀ z ∈ zs, 0 ≤ z) : nI (zs.map Int.toNat) = zs := by
  induction zs with
  | nil => rfl
  | cons z zs ih =>
    have hz := h z List.mem_cons_self
    simp only [nI, List.map_cons] at ih ⊢
    rw [ih (fun y hy => h y (List.mem_cons_of_mem _ hy)), Int.toNat_of_nonneg hz]
theorem nI_toNat (l : List Nat) : (nI l).map Int.toNat = l := by
  simp [nI, List.map_map, Function.comp_def]
theorem sort_IL {w : World} {b c : Nat} {l : List Nat} (h : IL w (.slice (some ⟨b, 0, none⟩) l.length c) (nI l)) (hl : l.length ≤ 1048576) :
    Calls Tryz.prog 168 #[.slice (some ⟨b, 0, none⟩) l.length c] w fun e w' => e = .returned (.tuple #[]) ∧ (∃ l', l'.Perm l ∧ l'.Pairwise (· ≤ ·) ∧ IL w' (.slice (some ⟨b, 0, none⟩) l.length c) (nI l')) ∧ FrB (· = b) w w' := by
  have hn := nI_len l
  have h' : w.ownsRow 0 3 1 (.slice (some ⟨b, 0, none⟩) ((nI l).map (Value.int .i64 ·)).length c) ((nI l).map (Value.int .i64 ·)).length ((nI l).map (Value.int .i64 ·)) := by
    have q := h
    unfold IL at q
    rw [List.length_map]
    rw [hn] at q ⊢
    exact q
  obtain ⟨hb, hc⟩ := own_holds h'
  have hH : Holds (Value.int .i64) w b 0 (nI l).toArray := fun j hj => by
    have hj' : j < (nI l).length := by simpa using hj
    have := hc j (.int .i64 (nI l)[j]) (by simp [hj'])
    rw [Nat.zero_add]
    refine ⟨?_, this.2⟩
    rw [this.1]
    simp [hj']
  have hcall := AnyM.slices_Sort_int sort_laysB b 0 c (nI l) w hH hb (by omega)
  change Calls Tryz.prog 168 _ _ _ at hcall
  rw [hn] at hcall
  refine hcall.mono ?_
  rintro e w' ⟨rfl, n, os, rfl⟩
  obtain ⟨zs, hzs⟩ : ∃ zs, (nI l).mergeSort (fun x y => decide (x ≤ y)) = zs := ⟨_, rfl⟩
  have hp : zs.Perm (nI l) := by rw [← hzs]; exact List.mergeSort_perm _ _
  have hs : zs.Pairwise (· ≤ ·) := by
    have := List.pairwise_mergeSort (le := fun (x y : Int) => decide (x ≤ y)) (fun a b c h1 h2 => by simp at h1 h2 ⊢; omega) (fun a b => by simp; omega) (nI l)
    rw [hzs] at this
    exact this.imp (fun q => by simpa using q)
  have hpos : ∀ z ∈ zs, 0 ≤ z := fun z hz => by
    have := hp.mem_iff.1 hz
    simp only [nI, List.mem_map] at this
    obtain ⟨k, _, rfl⟩ := this
    omega
  rw [hzs]
  refine ⟨rfl, ⟨zs.map Int.toNat, ?_, ?_, ?_⟩, put_fr _ _ _ _ _ _⟩
  · have := hp.map Int.toNat
    rwa [nI_toNat] at this
  · rw [List.pairwise_map]
    exact hs.imp_of_mem (fun {a b} ha hb hab => by have := hpos a ha; have := hpos b hb; omega)
  · have q := own_put (Value.int .i64) zs.toArray h' (by simp [hp.length_eq]) n os
    unfold IL
    rw [nI_back hpos, hp.length_eq, hn]
    rw [List.length_map, hn] at q
    simpa using q
theorem rev_IL {w : World} {b c : Nat} {l : List Nat} (h : IL w (.slice (some ⟨b, 0, none⟩) l.length c) (nI l)) (hl : l.length ≤ 1048576) :
    Calls Tryz.prog 166 #[.slice (some ⟨b, 0, none⟩) l.length c] w fun e w' => e = .returned (.tuple #[]) ∧ IL w' (.slice (some ⟨b, 0, none⟩) l.length c) (nI l.reverse) ∧ FrB (· = b) w w' := by
  have hn := nI_len l
  have h' : w.ownsRow 0 3 1 (.slice (some ⟨b, 0, none⟩) ((nI l).map (Value.int .i64 ·)).length c) ((nI l).map (Value.int .i64 ·)).length ((nI l).map (Value.int .i64 ·)) := by
    have q := h
    unfold IL at q
    rw [List.length_map]
    rw [hn] at q ⊢
    exact q
  obtain ⟨hb, hc⟩ := own_holds h'
  have hH : Holds (Value.int .i64) w b 0 (nI l).toArray := fun j hj => by
    have hj' : j < (nI l).length := by simpa using hj
    have := hc j (.int .i64 (nI l)[j]) (by simp [hj'])
    rw [Nat.zero_add]
    refine ⟨?_, this.2⟩
    rw [this.1]
    simp [hj']
  have hcall := AnyG.slices_Reverse_int rev_laysB b 0 c (nI l) w hH (by omega)
  change Calls Tryz.prog 166 _ _ _ at hcall
  rw [hn] at hcall
  refine hcall.mono ?_
  rintro e w' ⟨rfl, n, rfl⟩
  have q := own_put (Value.int .i64) (nI l).reverse.toArray h' (by simp) n #[]
  have f := put_fr (Value.int .i64) (nI l).reverse.toArray w b n #[]
  rw [grow_empty] at q f
  refine ⟨rfl, ?_, f⟩
  have e : nI l.reverse = (nI l).reverse := by simp [nI]
  unfold IL
  rw [e, List.length_reverse, hn]
  rw [List.length_map, hn] at q
  simpa using q
theorem rev_ILn (ao : Option Addr) (c : Nat) (w : World) : Calls Tryz.prog 166 #[.slice ao 0 c] w fun e w' => e = .returned (.tuple #[]) ∧ w' = w := by
  go_enter Tryz.func166, Tryz.ntmps166
  go_wp2
  go_loopw [2, 3] (fun i j wr => i = .int .i64 0 ∧ j = .int .i64 (-1) ∧ wr = w) (fun _ _ _ => 0)
  case atStart => exact ⟨rfl, rfl, rfl⟩
  case round =>
    obtain ⟨rfl, rfl, rfl⟩ := hrel
    go_wp2
    go_end0
    exact ⟨rfl, rfl⟩
end Go.Proofs.YtlfiohdhcmmjbaaGreatDoor
namespace Go.Proofs.YtlfiohdhcmmjbaaGreatDoor
set_option linter.unusedVariables false
open Go.RowKit Go.Shelf Go.Sort Go.Lib

def ShpB (ya : Option Addr) (c : Nat) : Prop := ya = none ∧ c = 0 ∨ ∃ b off, ya = some ⟨b, off, none⟩
/-- A row behind a list of one's own. -/
theorem wpList_cat {ops : Array Oper} {rest : List Oper} {o : Oper} {a : Act} {Q : Exit → Act → World → Prop} {w : World} (hgd : o.guard = none) (s x : Operand)
    (ho : o.op = .call { callee := .builtin .append, args := #[s, x], argTypes := #[41, 41] })
    (v : Value) (l : List Int) (hs : a.eval s = v) (h : IL w v l) (ya : Option Addr) (c : Nat) (n : Nat) (zs : List Int) (hx : a.eval x = .slice ya n c) (hn : zs.length = n) (hya : ShpB ya c) (hr : InRow w ya zs) (hlen : l.length + zs.length ≤ 100000000)
    (hK : ∀ a' n' c' w', IL w' (.slice a' n' c') (l ++ zs) → Grew w w' v (.slice a' n' c') → wpList Tryz.prog ops Q rest (a.put o.dst (.slice a' n' c')) w') : wpList Tryz.prog ops Q (o :: rest) a w := by
  obtain ⟨i0, hi, hz0, hz1, hz2⟩ := infoInt_parts
  subst hn
  rcases hya with ⟨rfl, rfl⟩ | ⟨b, off, rfl⟩
  · have hz : zs = [] := by
      by_cases q : zs = []
      · exact q
      · obtain ⟨_, _, e, _⟩ := hr q; cases e
    subst hz
    refine wpList_append_own_none hgd s x 41 ho 0 3 i0 1 Tryz.underlying41 hi v l.length (l.map (.int .i64 ·)) hs h hx ?_
    obtain ⟨a', c', rfl⟩ := il_len h
    exact hK _ _ _ w (by simpa using h) ⟨⟨rfl, rfl, rfl, Nat.le_refl _, fun _ _ _ => rfl⟩, .inl rfl⟩
  · refine wpList_append_own_at w hgd s x 41 ho 0 3 i0 (.int .i64 0) 1 8 Tryz.underlying41 hi hz0 hz1 hz2 rfl (by decide) v l.length (l.map (.int .i64 ·)) hs h ⟨b, off, none⟩ zs.length c (zs.map (.int .i64 ·)) hx (by simp) ?_ ?_ (by unfold maxLen; omega) (by omega) (Nat.zero_le _) ?_
    · intro j u hu
      have hj : j < zs.length := by have := (List.getElem?_eq_some_iff.1 hu).1; simpa using this
      obtain ⟨b', off', e, _, hc⟩ := hr (by intro h; subst h; simp at hj)
      simp at e
      obtain ⟨rfl, rfl⟩ := e
      rw [add_none, hc j hj, ← hu]
      simp [List.getD, hj]
    · intro u hu; simp at hu; obtain ⟨y, _, rfl⟩ := hu; rfl
    · intro v' w' h2 h3 _ h5
      have h6 : IL w' v' (l ++ zs) := by unfold IL; simpa using h2
      obtain ⟨a', c', rfl⟩ := il_len h6
      exact hK _ _ _ w' h6 ⟨h3, h5.imp id fun e => ⟨_, e, Nat.le_refl _⟩⟩
/-- A list of one's own as a row. -/

theorem il_shpB {w : World} {v : Value} {l : List Nat} (h : IL w v (nI l)) : ∃ a c, v = .slice a l.length c ∧ ShpB a c ∧ InRow w a (nI l) := by
  obtain ⟨a, c, rfl, hr⟩ := h.rowB
  refine ⟨a, c, rfl, ?_, hr⟩
  rcases h.2 with ⟨e, _⟩ | ⟨g, cap, cur, e, _⟩
  · simp only [Value.slice.injEq] at e
    exact .inl ⟨e.1, e.2.2⟩
  · simp only [Value.slice.injEq] at e
    exact .inr ⟨g, 0, e.1⟩
def grRenB : Ren := ⟨fun _ => 175, fun | 0 => 0 | 3 => 3 | 4 => 4 | 9 => 9 | 20 => 20 | 22 => 41 | 25 => 3 | n => n, fun n => n⟩
theorem gr_laysB : Lays8.n4 Tryz.prog grRenB := {
  mixed := by kernel_rfl
  f4 := ⟨Tryz.f175.name, by decide, by kernel_rfl⟩
  t0 := by kernel_rfl
  a0 := fun _ => by kernel_rfl
  z0 := fun _ => by kernel_rfl
  v0 := fun _ => by kernel_rfl
  t3 := by kernel_rfl
  a3 := fun _ => by kernel_rfl
  z3 := fun _ => by kernel_rfl
  v3 := fun _ => by kernel_rfl
  t4 := by kernel_rfl
  a4 := fun _ => by kernel_rfl
  z4 := fun _ => by kernel_rfl
  v4 := fun _ => by kernel_rfl
  t9 := by kernel_rfl
  a9 := fun _ => by kernel_rfl
  z9 := fun _ => by kernel_rfl
  v9 := fun _ => by kernel_rfl
  t20 := by kernel_rfl
  a20 := fun _ => by kernel_rfl
  z20 := fun _ => by kernel_rfl
  v20 := fun _ => by kernel_rfl
  t22 := by kernel_rfl
  a22 := fun _ => by kernel_rfl
  z22 := fun _ => by kernel_rfl
  v22 := fun _ => by kernel_rfl }
theorem grow_B (n : Nat) (hn : n ≤ 1048576) (w : World) : Calls Tryz.prog 175 #[.slice none 0 0, .int .i64 (n : Int)] w fun e w' => ∃ v, e = .returned v ∧ IL w' v [] ∧ (∀ j, v.ownBlock = some j → w.heap.size ≤ j) ∧ Below w.heap.size w w' := by
  obtain ⟨i0, hi, hz0, hz1, hz2⟩ := infoInt_parts
  by_cases h0 : n = 0
  · subst h0
    have hc := Any8.slices_Grow_room gr_laysB none 0 0 0 w (Nat.le_refl _) (by omega) (by omega) (by omega)
    change Calls Tryz.prog 175 _ _ _ at hc
    refine hc.mono ?_
    rintro e w' ⟨rfl, rfl⟩
    exact ⟨_, rfl, IL.nil w', fun j hj => by simp [Value.ownBlock] at hj, Below.refl _ _⟩
  · have hc := Any8.slices_Grow_grow gr_laysB i0 (.int .i64 0) hi hz0 (by rw [hz1]; decide) none 0 0 n [] w (Nat.le_refl _) (by omega) (by rw [hz2]; omega) (by omega) (by simp) (fun _ => rfl) (fun a ha => by cases ha)
    change Calls Tryz.prog 175 _ _ _ at hc
    refine hc.mono ?_
    rintro e w' ⟨rfl, rfl⟩
    have hge := grownCap_ge w (0 + n) 0 3
    have hcm : grownCap w (0 + n) 0 3 ≤ maxLen := grownCap_le_maxLen w (0 + n) 0 3 (by unfold maxLen; omega)
    refine ⟨_, rfl, ⟨by simp, .inr ⟨w.heap.size, _, _, rfl, Nat.zero_le _, heap_alloc_new w.drew _, Nat.zero_le _, hcm, ?_, by simp⟩⟩, fun j hj => ?_, ((Below.refl _ _).drew).trans ((below_alloc w.drew _).mono (Nat.le_refl _))⟩
    · simp only [Array.size_append, size_zeroCells, Value.cells]
      simp
      rw [Nat.zero_add] at hge
      change n + (grownCap w n 0 3 - n) = grownCap w n 0 3
      omega
    · simp [Value.ownBlock] at hj
      omega
set_option maxRecDepth 100000 in
set_option maxHeartbeats 4000000 in
theorem concat_B {w : World} {z vc : Nat} {va : Option Addr} {V : List SlV} {L : List (List Nat)} (hL : LsB z (.slice va L.length vc) V L w) (hl : L.flatten.length ≤ 1048576) (hll : L.length ≤ 1048576) :
    Calls Tryz.prog 163 #[.slice va L.length vc] w fun e w' => ∃ v, e = .returned v ∧ IL w' v (nI L.flatten) ∧ (∀ j, v.ownBlock = some j → w.heap.size ≤ j) ∧ Below w.heap.size w w' := by
  obtain ⟨a', c', he, hr0⟩ := hL.read
  simp only [Value.slice.injEq, true_and] at he
  obtain ⟨rfl, rfl⟩ := he
  have HR : Hid (LrB w va V L) := hr0
  have HIL : Hid (∀ (i : Nat), i < L.length → ∃ xa xc, V[i]? = some (xa, (L.getD i []).length, xc) ∧ ShpB xa xc ∧ InRow w xa (nI (L.getD i []))) := fun i hi => by
    have hv : i < V.length := by rw [hL.len]; exact hi
    obtain ⟨a, c, e, h1, h2⟩ := il_shpB (hL.il i V[i] (L.getD i []) (List.getElem?_eq_getElem hv) (getD_someL hi))
    simp only [slV, Value.slice.injEq] at e
    refine ⟨a, c, ?_, h1, h2⟩
    rw [List.getElem?_eq_getElem hv]
    congr 1
    exact Prod.ext e.1 (Prod.ext e.2.1 e.2.2)
  have HFL : Hid (∀ i, (L.take i).flatten.length ≤ 1048576) := fun i => by
    have h1 : (L.take i).flatten.length + (L.drop i).flatten.length = L.flatten.length := by
      rw [← List.length_append, ← List.flatten_append, List.take_append_drop]
    omega
  have HTK : Hid (∀ i, i < L.length → (L.take (i + 1)).flatten = (L.take i).flatten ++ L.getD i []) := fun i hi => by
    rw [List.take_add_one, getD_someL hi]
    simp
  have GR : Hid (∀ k : Nat, k ≤ 1048576 → Calls Tryz.prog 175 #[.slice none 0 0, .int .i64 (k : Int)] w fun e w' => ∃ v, e = .returned v ∧ IL w' v [] ∧ (∀ j, v.ownBlock = some j → w.heap.size ≤ j) ∧ Below w.heap.size w w') := fun k hk => grow_B k hk w
  clear hL hr0
  go_enter Tryz.func163, Tryz.ntmps163
  go_wp2
  go_loopw [3, 11] (fun s z wr => ∃ (i : Nat), i ≤ L.length ∧ z = .int .i64 (i : Int) ∧ s = .int .i64 (((L.take i).flatten.length : Nat) : Int) ∧ w = wr) (fun _ z _ => L.length - (intOf z).toNat)
  case atStart => exact ⟨0, Nat.zero_le _, rfl, rfl, rfl⟩
  case round =>
    obtain ⟨i, hi, rfl, rfl, rfl⟩ := hrel
    by_cases hlt : i < L.length
    · have ilt : (i : Int) < (L.length : Int) := by omega
      obtain ⟨xa, xc, hV, hsh, hrow⟩ := HIL.out i hlt
      obtain ⟨b, off, hva, hbl, hcell⟩ := HR.out.row (fun q => by rw [q] at hV; simp at hV)
      have ck := hcell i _ hV
      have e1 := HTK.out i hlt
      have e2 := HFL.out (i + 1)
      rw [e1, List.length_append] at e2
      have HE : Hid ((L.take (i + 1)).flatten.length = (L.take i).flatten.length + (L.getD i []).length) := by show _ = _; rw [e1, List.length_append]
      generalize (L.take i).flatten.length = A at *
      generalize (L.getD i []).length = B at *
      have nn : ¬ ((A : Int) + (B : Int) < 0) := by omega
      have wr1 : IntKind.i64.wrap ((A : Int) + (B : Int)) = (A : Int) + (B : Int) := by rw [IntKind.wrap_i64]; omega
      subst hva
      simp only [slV] at ck
      clear hcell hV hsh hrow e1
      go_wp2
      go_roundw
      case rel => exact ⟨i + 1, by omega, by go_num, by rw [HE.out]; simp⟩
      case measure => simp [intOf]; omega
    · obtain rfl : i = L.length := by omega
      have ilt : ¬ (L.length : Int) < (L.length : Int) := by omega
      rw [List.take_length]
      have hl2 := hl
      generalize hAe : L.flatten.length = A at hl2 ⊢
      have GR2 := GR.out A hl2
      have GR3 : Hid (Calls Tryz.prog 175 #[.slice none 0 0, .int .i64 (A : Int)] w fun e w' => ∃ v, e = .returned v ∧ IL w' v [] ∧ (∀ j, v.ownBlock = some j → w.heap.size ≤ j) ∧ Below w.heap.size w w') := GR2
      clear GR GR2 hAe hl2
      go_wp2_with (go_at_call 175; refine GR3.out.mono ?_; rintro e w1 ⟨v, rfl, i1, o1, b1⟩; have W1 : Hid (LBs w [] v w1) := ⟨i1, o1, b1⟩; clear i1 o1 b1)
      clear GR3
      go_loopw [6, 27] (fun v z wr => ∃ (i : Nat), i ≤ L.length ∧ z = .int .i64 (i : Int) ∧ LBs w (nI (L.take i).flatten) v wr) (fun _ z _ => L.length - (intOf z).toNat)
      case atStart => exact ⟨0, Nat.zero_le _, rfl, W1.out⟩
      case round =>
        clear W1
        obtain ⟨i, hi, rfl, hW⟩ := hrel
        by_cases hlt : i < L.length
        · have ilt : (i : Int) < (L.length : Int) := by omega
          obtain ⟨xa, xc, hV, hsh, hrow⟩ := HIL.out i hlt
          obtain ⟨b, off, hva, hbl, hcell⟩ := HR.out.row (fun q => by rw [q] at hV; simp at hV)
          have ck := cellL (hcell i _ hV) hW.bel
          have e1 := HTK.out i hlt
          have e2 := HFL.out (i + 1)
          rw [e1, List.length_append] at e2
          have HX : Hid (ShpB xa xc ∧ InRow wr xa (nI (L.getD i []))) := ⟨hsh, hrow.later hW.bel⟩
          have HE : Hid (nI (L.take (i + 1)).flatten = nI (L.take i).flatten ++ nI (L.getD i [])) := by show _ = _; rw [e1]; simp [nI]
          have HW : Hid (LBs w (nI (L.take i).flatten) u6 wr) := hW
          have HLN : Hid ((nI (L.take i).flatten).length + (nI (L.getD i [])).length ≤ 100000000) := by show _ ≤ _; rw [nI_len, nI_len]; omega
          have HNL : Hid ((nI (L.getD i [])).length = (L.getD i []).length) := nI_len _
          have HE2 : Hid (∀ (v : Value) (w' : World), LBs w (nI (L.take i).flatten ++ nI (L.getD i [])) v w' → LBs w (nI (L.take (i + 1)).flatten) v w') := fun v w' q => by rw [HE.out]; exact q
          clear HE
          generalize nI (L.take i).flatten = A at *
          generalize nI (L.getD i []) = B at *
          generalize (L.getD i []).length = bl at *
          subst hva
          simp only [slV] at ck
          clear hcell hV hsh hrow e1 hW
          go_wp2_with (at_builtin; refine wpList_cat rfl _ _ rfl u6 A rfl HW.out.il xa xc bl B rfl HNL.out HX.out.1 HX.out.2 HLN.out ?_; intro a4 n4 c4 w4 ho4 hg4; have W4 : Hid (LBs w (A ++ B) (.slice a4 n4 c4) w4) := HW.out.app (Below.refl _ _) hg4 ho4; clear ho4 hg4)
          go_roundw
          case rel => exact ⟨i + 1, by omega, by go_num, HE2.out _ _ W4.out⟩
          case measure => simp [intOf]; omega
        · obtain rfl : i = L.length := by omega
          have ilt : ¬ (L.length : Int) < (L.length : Int) := by omega
          rw [List.take_length] at hW
          have HW : Hid (LBs w (nI L.flatten) u6 wr) := hW
          clear hW
          go_wp2
          go_ret
          exact ⟨_, rfl, HW.out.il, HW.out.own, HW.out.bel⟩
end Go.Proofs.YtlfiohdhcmmjbaaGreatDoor
namespace Go.Proofs.YtlfiohdhcmmjbaaGreatDoor
set_option linter.unusedVariables false
open Go.RowKit Go.Shelf Go.Sort Go.Lib

def sfRenB : Ren := ⟨fun | 6 => 169 | 14 => 179 | 15 => 178 | 20 => 194 | 21 => 195 | 22 => 196 | 23 => 197 | 24 => 198 | 25 => 199 | 26 => 200 | 27 => 201 | 28 => 192 | 29 => 193 | 46 => 207 | 47 => 203 | 48 => 204 | 49 => 208 | 50 => 209 | 57 => 211 | n => n, fun | 0 => 0 | 3 => 3 | 4 => 4 | 5 => 5 | 9 => 9 | 22 => 28 | 24 => 41 | 25 => 218 | 39 => 160 | 45 => 230 | 46 => 231 | 50 => 173 | 53 => 237 | 55 => 200 | 66 => 243 | 70 => 247 | 76 => 251 | 77 => 119 | n => n, fun n => n⟩
theorem sf_laysB : SlLaysF.n6 Tryz.prog sfRenB := {
  mixed := by kernel_rfl
  f6 := ⟨Tryz.f169.name, by decide, by kernel_rfl⟩
  f14 := ⟨Tryz.f179.name, by decide, by kernel_rfl⟩
  f15 := by kernel_rfl
  f20 := ⟨Tryz.f194.name, by decide, by kernel_rfl⟩
  f21 := ⟨Tryz.f195.name, by decide, by kernel_rfl⟩
  f22 := ⟨Tryz.f196.name, by decide, by kernel_rfl⟩
  f23 := ⟨Tryz.f197.name, by decide, by kernel_rfl⟩
  f24 := ⟨Tryz.f198.name, by decide, by kernel_rfl⟩
  f25 := ⟨Tryz.f199.name, by decide, by kernel_rfl⟩
  f26 := ⟨Tryz.f200.name, by decide, by kernel_rfl⟩
  f27 := ⟨Tryz.f201.name, by decide, by kernel_rfl⟩
  f28 := by kernel_rfl
  f29 := by kernel_rfl
  f46 := ⟨Tryz.f207.name, by decide, by kernel_rfl⟩
  f47 := by kernel_rfl
  f48 := by kernel_rfl
  f49 := ⟨Tryz.f208.name, by decide, by kernel_rfl⟩
  f50 := ⟨Tryz.f209.name, by decide, by kernel_rfl⟩
  f57 := ⟨Tryz.f211.name, by decide, by kernel_rfl⟩
  t0 := by kernel_rfl
  a0 := fun _ => by kernel_rfl
  z0 := fun _ => by kernel_rfl
  v0 := fun _ => by kernel_rfl
  t3 := by kernel_rfl
  a3 := fun _ => by kernel_rfl
  z3 := fun _ => by kernel_rfl
  v3 := fun _ => by kernel_rfl
  t4 := by kernel_rfl
  a4 := fun _ => by kernel_rfl
  z4 := fun _ => by kernel_rfl
  v4 := fun _ => by kernel_rfl
  t5 := by kernel_rfl
  a5 := fun _ => by kernel_rfl
  z5 := fun _ => by kernel_rfl
  v5 := fun _ => by kernel_rfl
  t9 := by kernel_rfl
  a9 := fun _ => by kernel_rfl
  z9 := fun _ => by kernel_rfl
  v9 := fun _ => by kernel_rfl
  t22 := by kernel_rfl
  a22 := fun _ => by kernel_rfl
  z22 := fun _ => by kernel_rfl
  v22 := fun _ => by kernel_rfl
  a24 := fun _ => by kernel_rfl
  z24 := fun _ => by kernel_rfl
  t25 := by kernel_rfl
  a25 := fun _ => by kernel_rfl
  z25 := fun _ => by kernel_rfl
  v25 := fun _ => by kernel_rfl
  t39 := by kernel_rfl
  a39 := fun _ => by kernel_rfl
  z39 := fun _ => by kernel_rfl
  v39 := fun _ => by kernel_rfl
  t45 := by kernel_rfl
  a45 := fun _ => by kernel_rfl
  z45 := fun _ => by kernel_rfl
  v45 := fun _ => by kernel_rfl
  t46 := by kernel_rfl
  a46 := fun _ => by kernel_rfl
  z46 := fun _ => by kernel_rfl
  v46 := fun _ => by kernel_rfl
  t50 := by kernel_rfl
  a50 := fun _ => by kernel_rfl
  z50 := fun _ => by kernel_rfl
  v50 := fun _ => by kernel_rfl
  t53 := by kernel_rfl
  a53 := fun _ => by kernel_rfl
  z53 := fun _ => by kernel_rfl
  v53 := fun _ => by kernel_rfl
  t55 := by kernel_rfl
  a55 := fun _ => by kernel_rfl
  z55 := fun _ => by kernel_rfl
  v55 := fun _ => by kernel_rfl
  t66 := by kernel_rfl
  a66 := fun _ => by kernel_rfl
  z66 := fun _ => by kernel_rfl
  v66 := fun _ => by kernel_rfl
  t70 := by kernel_rfl
  a70 := fun _ => by kernel_rfl
  z70 := fun _ => by kernel_rfl
  v70 := fun _ => by kernel_rfl
  t76 := by kernel_rfl
  a76 := fun _ => by kernel_rfl
  z76 := fun _ => by kernel_rfl
  v76 := fun _ => by kernel_rfl
  t77 := by kernel_rfl
  a77 := fun _ => by kernel_rfl
  z77 := fun _ => by kernel_rfl
  v77 := fun _ => by kernel_rfl }

def cmpB (x y : Nat) : Int := if x < y then -1 else if y < x then 1 else 0
theorem compare_B (x y : Nat) (w : World) : Calls Tryz.prog 171 #[.int .i64 (x : Int), .int .i64 (y : Int)] w fun e w' => e = .returned (.int .i64 (cmpB x y)) ∧ w' = w := by
  have NN : Hid (∀ z : Nat, Calls Tryz.prog 180 #[.int .i64 (z : Int)] w fun e w' => e = .returned (.bool false) ∧ w' = w) := fun z => by
    go_enter Tryz.func180, Tryz.ntmps180
    go_wp2
    go_ret
    simp
  unfold cmpB
  by_cases h1 : x < y
  · have i1 : (x : Int) < (y : Int) := by omega
    rw [if_pos h1]
    go_enter Tryz.func171, Tryz.ntmps171
    go_wp2_with (go_at_call 180; refine (NN.out _).mono ?_; rintro e w1 ⟨rfl, hz⟩; rw [hz]; clear hz w1)
    go_ret
    exact ⟨rfl, rfl⟩
  · have i1 : ¬ (x : Int) < (y : Int) := by omega
    rw [if_neg h1]
    by_cases h2 : y < x
    · have i2 : (x : Int) > (y : Int) := by omega
      rw [if_pos h2]
      go_enter Tryz.func171, Tryz.ntmps171
      go_wp2_with (go_at_call 180; refine (NN.out _).mono ?_; rintro e w1 ⟨rfl, hz⟩; rw [hz]; clear hz w1)
      go_ret
      exact ⟨rfl, rfl⟩
    · have i2 : ¬ (x : Int) > (y : Int) := by omega
      rw [if_neg h2]
      go_enter Tryz.func171, Tryz.ntmps171
      go_wp2_with (go_at_call 180; refine (NN.out _).mono ?_; rintro e w1 ⟨rfl, hz⟩; rw [hz]; clear hz w1)
      go_ret
      exact ⟨rfl, rfl⟩
set_option maxHeartbeats 4000000 in
theorem first_B {xa ya : Option Addr} {xc yc : Nat} {S T : List Nat} {w : World} (hS : InRow w xa (nI S)) (hT : InRow w ya (nI T)) (hs : 0 < S.length) (ht : 0 < T.length) : Calls Tryz.prog 170 #[.slice xa S.length xc, .slice ya T.length yc] w fun e w' => e = .returned (.int .i64 (cmpB (S.getD 0 0) (T.getD 0 0))) ∧ ∃ q, w' = w.drewN q := by
  obtain ⟨b1, o1, rfl, _, c1⟩ := inrow_at hS (i := 0) (x := S.getD 0 0) (by rw [List.getD_eq_getElem?_getD, List.getElem?_eq_getElem hs]; rfl)
  obtain ⟨b2, o2, rfl, _, c2⟩ := inrow_at hT (i := 0) (x := T.getD 0 0) (by rw [List.getD_eq_getElem?_getD, List.getElem?_eq_getElem ht]; rfl)
  have CM : Hid (∀ w', Calls Tryz.prog 171 #[.int .i64 ((S.getD 0 0 : Nat) : Int), .int .i64 ((T.getD 0 0 : Nat) : Int)] w' fun e w'' => e = .returned (.int .i64 (cmpB (S.getD 0 0) (T.getD 0 0))) ∧ w'' = w') := fun w' => compare_B _ _ w'
  generalize cmpB (S.getD 0 0) (T.getD 0 0) = r at *
  generalize S.getD 0 0 = x at *
  generalize T.getD 0 0 = y at *
  rw [Nat.add_zero] at c1 c2
  have sl : (0 : Int) < (S.length : Int) := by omega
  have tl : (0 : Int) < (T.length : Int) := by omega
  generalize S.length = sn at *
  generalize T.length = tn at *
  clear hS hT
  go_enter Tryz.func170, Tryz.ntmps170
  go_wp2
  go_quiet ((go_at_call 171; exact Calls.quiet_of_same (CM.out _)))
  go_wp2
  go_ret
  exact ⟨rfl, _, rfl⟩
/-- The classes laid by their first numbers. -/
theorem sortf_B {w : World} {z : Nat} {v : Value} {V : List SlV} {C : List (List Nat)} (hL : LsB z v V C w) (hne : ∀ T ∈ C, 0 < T.length) (hl : C.length ≤ 1048576) :
    Calls Tryz.prog 169 #[v, .func (.func 170) #[] #[]] w fun e w' => e = .returned (.tuple #[]) ∧ (∃ V' C', C'.Perm C ∧ C'.Pairwise (fun T T' => T.getD 0 0 ≤ T'.getD 0 0) ∧ LsB z v V' C' w') ∧ FrB (fun j => v.ownBlock = some j) w w' := by
  by_cases h0 : V.length = 0
  · have hV : V = [] := List.eq_nil_of_length_eq_zero h0
    have hC : C = [] := List.eq_nil_of_length_eq_zero (by rw [← hL.len]; exact h0)
    obtain ⟨a, c, rfl, _⟩ := hL.row.len
    rw [h0]
    have hc := AnyF.slices_SortFunc_none { sf_laysB with } a c (.func (.func 170) #[] #[]) w
    change Calls Tryz.prog 169 _ _ _ at hc
    refine hc.mono ?_
    rintro e w' ⟨rfl, rfl⟩
    refine ⟨rfl, ⟨V, C, List.Perm.refl _, by rw [hC]; exact List.Pairwise.nil, ?_⟩, Below.frB (Below.refl _ _)⟩
    rw [h0] at hL
    exact hL
  · have hpos : 0 < V.length := by omega
    obtain ⟨b, c, rfl, hcl, _⟩ := hL.row.cell rkSl.len hpos
    have hlen := hL.len
    obtain ⟨f, hf⟩ : ∃ f : Fin V.length → Nat, ∀ i, f i = (C.getD i.val []).getD 0 0 := ⟨_, fun _ => rfl⟩
    letI : Inhabited (Fin V.length) := ⟨⟨0, hpos⟩⟩
    obtain ⟨d, hd⟩ : ∃ d : Array (Fin V.length), d = (List.ofFn (n := V.length) id).toArray := ⟨_, rfl⟩
    have hds : d.size = V.length := by rw [hd]; simp
    have hdg : ∀ j, (hj : j < V.length) → d[j]! = ⟨j, hj⟩ := fun j hj => by rw [hd]; simp [hj]
    have hpm : ∀ l : List (Fin V.length), l.map (fun i => V[i]) |>.flatMap slCB |> (· = l.map fun i => slV V[i]) := fun l => by
      induction l with
      | nil => rfl
      | cons x l ih => simp only [List.map_cons, List.flatMap_cons, ih]; rfl
    have hdl : d.toList = List.ofFn (n := V.length) id := by rw [hd]
    have hV0 : d.toList.map (fun i => V[i]) = V := by
      apply List.ext_getElem
      · simp [hds]
      · intro i h1 h2
        simp [hdl]
    have hC0 : d.toList.map (fun i => C.getD i.val []) = C := by
      apply List.ext_getElem
      · simp [hds, hlen]
      · intro i h1 h2
        simp [hdl, h2]
    have hcell : ∀ l : List (Fin V.length), (l.map fun i => slV V[i]).length = l.length := fun l => by simp
    obtain ⟨enc, henc⟩ : ∃ enc : Fin V.length → Value, enc = fun i => slV V[i] := ⟨_, rfl⟩
    have h' : w.ownsRow 0 41 1 (.slice (some ⟨b, 0, none⟩) (d.toList.map enc).length c) (d.toList.map enc).length (d.toList.map enc) := by
      have q := hL.row
      unfold SLo RO at q
      have e1 : V.flatMap slCB = d.toList.map enc := by
        have := hpm d.toList
        rw [hV0] at this
        rw [henc]
        exact this
      rw [e1] at q
      have e2 : (d.toList.map enc).length = V.length := by simp [hds]
      rw [e2]
      exact q
    obtain ⟨hb, hc⟩ := own_holds h'
    have hH : Holds enc w b 0 d := fun j hj => by
      rw [Nat.zero_add]
      have := hc j (enc d[j]!) (by simp [hj])
      exact this
    have h1 : OneCell enc := fun x => by rw [henc]; rfl
    have hO : SWO (ltOf fun i j => cmpB (f i) (f j)) := by
      have hlt : ∀ i j, ltOf (fun i j => cmpB (f i) (f j)) i j = decide (f i < f j) := fun i j => by
        show decide (cmpB (f i) (f j) < 0) = _
        unfold cmpB
        by_cases q : f i < f j
        · rw [if_pos q]; simp [q]
        · rw [if_neg q]
          by_cases q2 : f j < f i
          · rw [if_pos q2]; simp [q]
          · rw [if_neg q2]; simp [q]
      refine ⟨fun x => ?_, fun x y z => ?_, fun x y z => ?_⟩
      · rw [hlt]; simp
      · rw [hlt, hlt, hlt]; simp; omega
      · rw [hlt, hlt, hlt]; simp; omega
    have ilk : ∀ (W : World), FrB (· = b) w W → ∀ i : Fin V.length, IL W (slV V[i]) (nI (C.getD i.val [])) := fun W hW i => by
      have hx : V[i.val]? = some V[i] := List.getElem?_eq_getElem i.isLt
      have hi := hL.il i.val V[i] _ hx (getD_someL (by rw [← hlen]; exact i.isLt))
      refine hi.kept (fun j hj => hW.block j (World.ownsRow.lt hi j hj).2 (fun q => ?_))
      have q2 : j = b := q
      exact hL.ne V[i] (List.mem_of_getElem? hx) j hj (by rw [q2]; rfl)
    have hcmp : CmpLays1 Tryz.prog 170 #[] enc (fun i j => cmpB (f i) (f j)) b 0 d.size w := CmpReads.lays fun m os dk hs x y => by
      have hW := put_fr enc dk w b m os
      obtain ⟨a1, c1, e1, r1⟩ := (ilk _ hW x).rowB
      obtain ⟨a2, c2, e2, r2⟩ := (ilk _ hW y).rowB
      have hn1 := hne _ (getD_memL (show x.val < C.length by rw [← hlen]; exact x.isLt))
      have hn2 := hne _ (getD_memL (show y.val < C.length by rw [← hlen]; exact y.isLt))
      have := first_B (xc := c1) (yc := c2) r1 r2 hn1 hn2
      rw [← e1, ← e2, ← hf x, ← hf y] at this
      rw [henc]
      rw [henc] at this
      exact this
    have hcall := Any.slices_SortFunc sf_laysB enc h1 (fun i j => cmpB (f i) (f j)) hO 170 #[] b 0 c d w (enters_of Tryz.func170 (by kernel_rfl) rfl) hcmp hH hb (by omega)
    change Calls Tryz.prog 169 _ _ _ at hcall
    rw [hds] at hcall
    refine hcall.mono ?_
    rintro e w' ⟨rfl, d', n, os, hp, hs, rfl⟩
    have hds' : d'.size = V.length := by rw [hp.1, hds]
    have hperm : d'.toList.Perm d.toList := by
      have := hp.2.2
      have e1 : d'.extract 0 V.length = d' := by simp [hds']
      have e2 : d.extract 0 V.length = d := by simp [hds]
      rw [e1, e2] at this
      exact this
    have hnd : d'.toList.Nodup := by
      rw [hperm.nodup_iff, hdl]
      simp only [List.nodup_iff_pairwise_ne, List.pairwise_iff_getElem]
      intro i j hi hj hij q
      simp at q
      omega
    have hfr : FrB (· = b) w (sortWorld enc w b 0 n d' os) := put_fr enc d' w b n os
    refine ⟨rfl, ⟨d'.toList.map (fun i => V[i]), d'.toList.map (fun i => C.getD i.val []), ?_, ?_, ?_⟩, hfr.mono (fun j _ q => by have q2 : j = b := q; rw [q2]; rfl)⟩
    · have := hperm.map (fun i => C.getD i.val [])
      rwa [hC0] at this
    · rw [List.pairwise_map, List.pairwise_iff_getElem]
      intro i j hi hj hij
      have hi' : i < d'.size := by simpa using hi
      have hj' : j < d'.size := by simpa using hj
      have := hs i j (Nat.zero_le _) hij (by rw [← hds']; exact hj')
      have e0 : ∀ i j, ltOf (fun i j => cmpB (f i) (f j)) i j = decide (cmpB (f i) (f j) < 0) := fun _ _ => rfl
      rw [e0] at this
      unfold cmpB at this
      have e1 : d'[i]! = d'.toList[i] := by simp [hi']
      have e2 : d'[j]! = d'.toList[j] := by simp [hj']
      rw [e1, e2] at this
      rw [← hf, ← hf]
      by_cases q : f d'.toList[j] < f d'.toList[i]
      · rw [if_pos q] at this
        simp at this
      · omega
    · have getV : ∀ (i : Nat) (x : SlV), (d'.toList.map (fun i => V[i]))[i]? = some x → ∃ k : Fin V.length, d'.toList[i]? = some k ∧ x = V[k] := fun i x hx => by
        rw [List.getElem?_map] at hx
        cases e : d'.toList[i]? with
        | none => rw [e] at hx; cases hx
        | some k => rw [e] at hx; simp at hx; exact ⟨k, rfl, hx.symm⟩
      have memV : ∀ x ∈ d'.toList.map (fun i => V[i]), x ∈ V := fun x hx => by
        obtain ⟨k, _, rfl⟩ := List.mem_map.1 hx
        exact List.getElem_mem k.isLt
      refine ⟨?_, hL.own, by simp, fun i x l hx hl => ?_, fun x hx => hL.lo x (memV x hx), fun x hx => hL.ne x (memV x hx), fun i i' x x' hx hx' hii => ?_⟩
      · have q := own_put enc d' h' (by simp [hds, hds']) n os
        unfold SLo RO
        rw [hpm]
        have e1 : (d.toList.map enc).length = V.length := by simp [hds]
        rw [e1] at q
        have e2 : (d'.toList.map fun i => V[i]).length = V.length := by simp [hds']
        rw [e2]
        rw [henc] at q
        rw [henc]
        exact q
      · obtain ⟨k, hk, rfl⟩ := getV i x hx
        rw [List.getElem?_map, hk] at hl
        simp at hl
        subst hl
        have := ilk _ hfr k
        simpa using this
      · obtain ⟨k, hk, rfl⟩ := getV i x hx
        obtain ⟨k', hk', rfl⟩ := getV i' x' hx'
        refine hL.nd k.val k'.val V[k] V[k'] (List.getElem?_eq_getElem k.isLt) (List.getElem?_eq_getElem k'.isLt) (fun q => hii ?_)
        have hkk : k = k' := Fin.ext q
        subst hkk
        obtain ⟨h3, h4⟩ := List.getElem?_eq_some_iff.1 hk
        obtain ⟨h5, h6⟩ := List.getElem?_eq_some_iff.1 hk'
        exact (List.getElem_inj hnd).1 (h4.trans h6.symm)
end Go.Proofs.YtlfiohdhcmmjbaaGreatDoor
