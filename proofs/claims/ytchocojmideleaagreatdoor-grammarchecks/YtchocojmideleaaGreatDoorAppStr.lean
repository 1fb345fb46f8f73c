import Derived.Test.YtchocojmideleaaGreatDoorCloneToWriter
import Derived.Deep.AppendSrc
import Derived.Deep.RegionHeld3
namespace Go.Proofs.YtchocojmideleaaGreatDoor.C
set_option linter.unusedVariables false
open Go.RowKit

/-- A string's bytes. -/
def strBytes (s : ByteArray) : List Int := s.data.toList.map fun b => (b.toNat : Int)
theorem strBytes_len (s : ByteArray) : (strBytes s).length = s.size := by
  unfold strBytes
  rw [List.length_map, Array.length_toList]
  rfl
theorem strBytes_bytes (s : ByteArray) : isBytes (strBytes s) := by
  intro x hx
  obtain ⟨b, _, rfl⟩ := List.mem_map.1 hx
  have := b.toNat_lt
  omega
theorem vals_str (s : ByteArray) : vals (strBytes s) = byteCells s := by simp [vals, strBytes, byteCells, List.map_map, Function.comp_def]

theorem setCells_row (g : Nat) (t : TypeId) : ∀ (vs : List Value) (o : Nat) (w : World) (cur : Array Value), w.heap[g]? = some (.cells cur t (0, 0)) → o + vs.length ≤ cur.size →
    ∃ cur' : Array Value, (w.setCells g o vs).heap[g]? = some (.cells cur' t (0, 0)) ∧ cur'.size = cur.size ∧ cur'.toList.take (o + vs.length) = cur.toList.take o ++ vs := by
  intro vs
  induction vs with
  | nil => intro o w cur h _; exact ⟨cur, h, rfl, by simp⟩
  | cons v r ih =>
    intro o w cur h hfit
    simp only [List.length_cons] at hfit
    obtain ⟨cur', h1, h2, h3⟩ := ih (o + 1) (w.setCell ⟨g, o, none⟩ v) (cur.setIfInBounds o v) (heap_set h o v) (by simpa using by omega)
    refine ⟨cur', h1, by simpa using h2, ?_⟩
    rw [List.length_cons, show o + (r.length + 1) = o + 1 + r.length by omega, h3]
    have hlt : o < cur.toList.length := by simpa using by omega
    rw [Array.toList_setIfInBounds, List.take_succ_eq_append_getElem (by simpa using hlt)]
    have e : List.take o (cur.toList.set o v) = List.take o cur.toList := by
      apply List.ext_getElem?
      intro i
      simp only [List.getElem?_take, List.getElem?_set]
      by_cases hi : i < o
      · rw [if_pos hi, if_pos hi, if_neg (by omega)]
      · rw [if_neg hi, if_neg hi]
    rw [e]
    simp
theorem setCells_rest (g : Nat) : ∀ (vs : List Value) (o : Nat) (w : World), (w.setCells g o vs).os = w.os ∧ (w.setCells g o vs).tape = w.tape ∧ (w.setCells g o vs).output = w.output ∧ (w.setCells g o vs).heap.size = w.heap.size ∧ ∀ k, k ≠ g → (w.setCells g o vs).heap[k]? = w.heap[k]? := by
  intro vs
  induction vs with
  | nil => intro o w; exact ⟨rfl, rfl, rfl, rfl, fun _ _ => rfl⟩
  | cons v r ih =>
    intro o w
    obtain ⟨a, b, c, d, e⟩ := ih (o + 1) (w.setCell ⟨g, o, none⟩ v)
    exact ⟨a, b, c, d.trans (by simp [World.setCell]), fun k hk => (e k hk).trans (Below.heap_setCell _ _ _ _ hk)⟩

/-- ONE APPEND of a string's bytes. -/
theorem run_own_append_str (w : World) (ty : TypeId) (v : Value) (xs : List Int) (h : Own w v xs) (s : ByteArray) (hlen : xs.length + s.size ≤ 140737488355328) :
    ∃ v' w', (Builtin.append_ #[68, 9] ty #[v, .string s]).run Tryz.prog w = .ok v' w' ∧ Own w' v' (xs ++ strBytes s) ∧ Grew w w' v v' := by
  obtain ⟨i0, hi, hz0, hz1, hz2⟩ := info_parts info5
  have hby : isBytes (xs ++ strBytes s) := isBytes_append h.1 (strBytes_bytes s)
  have hsl := strBytes_len s
  have hsrc : Src Tryz.prog i0.size 9 (.string s) s.size (byteCells s) w := by rw [hz1]; exact Src.ofString w Tryz.underlying9 s
  have grow : ∀ (base : Option Addr) (cap : Nat), v = .slice base xs.length cap → cap < xs.length + s.size → (Builtin.firstCells i0.size xs.length (.slice base xs.length cap)).run Tryz.prog w.drew = .ok (vals xs).toArray w.drew →
      ∃ v' w', (Builtin.append_ #[68, 9] ty #[v, .string s]).run Tryz.prog w = .ok v' w' ∧ Own w' v' (xs ++ strBytes s) ∧ Grew w w' v v' := by
    rintro base cap rfl hg hold
    have hrun := run_append_grow_src (P := Tryz.prog) w 68 9 ty 5 i0 (.int .u8 0) Tryz.underlying68 hi hz0 base xs.length cap (vals xs) hold (.string s) s.size (byteCells s) hsrc hg (by omega) (growslice_fits hg (by rw [hz2]; omega))
    have hge := grownCap_ge w (xs.length + s.size) cap 5
    have hcm := grownCap_le_maxLen w (xs.length + s.size) cap 5 (by unfold maxLen; omega)
    refine ⟨_, _, hrun, ⟨hby, by simp, .inr ⟨w.heap.size, _, _, by rw [List.length_append, hsl], Nat.zero_le _, heap_alloc_new w.drew _, by rw [List.length_append, hsl]; exact hge, hcm, ?_, ?_⟩⟩, ⟨⟨rfl, rfl, rfl, by simp, fun k hk _ => Below.heap_alloc w.drew _ k hk⟩, .inr ⟨w.heap.size, rfl, Nat.le_refl _⟩⟩⟩
    · rw [Array.size_append, List.size_toArray, List.length_append, List.length_map, byteCells_length, size_zeroCells]
      simp [Value.cells]
      omega
    · have e : ((vals xs ++ byteCells s).toArray ++ Builtin.zeroCells (Value.cells (.int .u8 0)) (grownCap w (xs.length + s.size) cap 5 - (xs.length + s.size))).toList = (vals xs ++ byteCells s) ++ (Builtin.zeroCells (Value.cells (.int .u8 0)) (grownCap w (xs.length + s.size) cap 5 - (xs.length + s.size))).toList := by simp
      rw [Nat.mul_one]
      first
        | (rw [e, List.take_left' (by simp [byteCells_length, hsl])]; simp [vals_str])
        | (simp only [Array.toList_append, List.append_assoc]; rw [← List.append_assoc, List.take_left' (by simp [byteCells_length, hsl])]; simp [vals_str])
  rcases h.2.2 with ⟨rfl, hn0⟩ | ⟨g, cap, cur, rfl, hbg, hg, hnc, hcm, hcs, htake⟩
  · obtain rfl : xs = [] := List.eq_nil_of_length_eq_zero hn0
    by_cases hm : s.size = 0
    · have hse : strBytes s = [] := List.eq_nil_of_length_eq_zero (by rw [hsl]; exact hm)
      refine ⟨.slice none 0 0, w, ?_, by rw [hse]; exact Own.nil w, Grew.refl _ _⟩
      have hcells := hsrc.cells
      rw [hm] at hcells
      rcases hsrc.kind with ⟨e', hk⟩ | hk
      · simp [Tryz.underlying9] at hk
      · simp [Builtin.append_, run_underlying Tryz.underlying68, run_underlying hk, sizeOf, typeInfo, hi, Builtin.lenOf, hm, hcells]
    · exact grow none 0 rfl (by simp; omega) (by simp [Builtin.firstCells])
  · by_cases hroom : xs.length + s.size ≤ cap
    · have hsz : cur.size = cap := by simpa using hcs
      have hcell : ∀ j, j < cap → w.cell? ⟨g, j, none⟩ = cur[j]? := fun j _ => by simp [World.cell?, hg]
      have hrun := run_append_room_src (P := Tryz.prog) w 68 9 ty 5 i0 Tryz.underlying68 hi g 0 xs.length cap (.string s) s.size (byteCells s) hsrc hroom
        (fun j hj => by
          rw [byteCells_length] at hj
          have : w.cell? ⟨g, 0 + xs.length * i0.size + j, none⟩ = cur[0 + xs.length * i0.size + j]? := by simp [World.cell?, hg]
          rw [this, hz1]
          simp; omega)
        (fun j hj => by simp [World.frozen?, hg])
      obtain ⟨cur', h1, h2, h3⟩ := setCells_row g 5 (byteCells s) (0 + xs.length * i0.size) w cur hg (by rw [byteCells_length, hz1]; omega)
      obtain ⟨r1, r2, r3, r4, r5⟩ := setCells_rest g (byteCells s) (0 + xs.length * i0.size) w
      refine ⟨_, _, hrun, ⟨hby, by simp, .inr ⟨g, cap, cur', by rw [List.length_append, hsl], Nat.zero_le _, h1, by rw [List.length_append, hsl]; exact hroom, hcm, by rw [h2, hsz]; simp, ?_⟩⟩, ⟨⟨r1, r2, r3, by rw [r4]; exact Nat.le_refl _, fun k hk hne => r5 k (fun e => hne (by simp [Value.ownBlock, e]))⟩, .inl rfl⟩⟩
      rw [hz1, byteCells_length] at h3
      simp only [Nat.mul_one, Nat.zero_add] at h3 htake ⊢
      rw [List.length_append, hsl, h3, htake]
      simp [vals_str]
    · refine grow (some ⟨g, 0, none⟩) cap rfl (by omega) ?_
      have hc2 := h.2.cells (g := g) rfl
      rw [hz1]
      have := run_firstCells_some (P := Tryz.prog) w.drew 1 xs.length ⟨g, 0, none⟩ xs.length cap (vals xs) (by simp) (by simpa using hc2)
      simpa using this

/-- .. as one step of a region that draws its order. -/
theorem step_own_append_str {ops : Array Oper} {o : Oper} {a : Act} {w : World} {K : Act → World → Prop} {Q : Exit → Act → World → Prop} {E : Prop}
    (hg : o.guard = none) (s x : Operand) (hop : o.op = Op.call { callee := Callee.builtin Builtin.append, args := #[s, x], argTypes := #[68, 9] })
    (v : Value) (xs : List Int) (hs : a.eval s = v) (h : Own w v xs) (str : ByteArray) (hx : a.eval x = .string str) (hlen : xs.length + str.size ≤ 140737488355328)
    (hK : ∀ v' w', Own w' v' (xs ++ strBytes str) → Grew w w' v v' → K (a.put o.dst v') w') :
    if Region.wanted o (yielded ops a.tmps) = true then Oper.wp Tryz.prog o a w K Q else E := by
  have hw : Region.wanted o (yielded ops a.tmps) = true := by simp [Region.wanted, hg]
  rw [if_pos hw]
  obtain ⟨v', w', hrun, r1, r2⟩ := run_own_append_str w o.type v xs h str hlen
  unfold Oper.wp
  simp [execOp, hop, resolve, invoke, builtin, hs, hx, hrun, Result.andThen]
  exact hK v' w' r1 r2
end Go.Proofs.YtchocojmideleaaGreatDoor.C
