import Derived.Test.YtboabidokkghbaaGreatPlainToHead
import Derived.Laws.AppendOwnNone
import Derived.Deep.RegionWith
import Derived.Deep.AppendSrc
import Derived.Deep.RegionHeld3
namespace Go.Proofs.YtboabidokkghbaaGreat.C
set_option linter.unusedVariables false
open Go.RowKit

theorem info5 : (Tryz.prog.info? 5).map (fun i => (i.zero, i.size, i.bytes)) = some (some (.int .u8 0), 1, 1) := by kernel_rfl

/-- The value v is a slice of bytes that its holder alone writes: nil, or at the head of a row of its own; it holds xs. -/
def Own (w : World) (v : Value) (xs : List Int) : Prop := isBytes xs ∧ w.ownsRow 0 5 1 v xs.length (vals xs)
/-- What an append leaves: of the old blocks the value's own alone may have turned; the new value lies in that block, or in a new one. -/
structure Grew (w w' : World) (v v' : Value) : Prop where
  grown : w.grownBy w' v.ownBlock
  moved : v'.ownBlock = v.ownBlock ∨ ∃ k, v'.ownBlock = some k ∧ w.heap.size ≤ k

theorem Grew.refl (w : World) (v : Value) : Grew w w v v := ⟨⟨rfl, rfl, rfl, Nat.le_refl _, fun _ _ _ => rfl⟩, .inl rfl⟩
theorem Grew.trans {w w1 w2 : World} {v v1 v2 : Value} (h : Grew w w1 v v1) (k : Grew w1 w2 v1 v2) : Grew w w2 v v2 := by
  refine ⟨⟨k.grown.os.trans h.grown.os, k.grown.tape.trans h.grown.tape, k.grown.output.trans h.grown.output, Nat.le_trans h.grown.size k.grown.size, fun i hi hne => ?_⟩, ?_⟩
  · refine (k.grown.block i (Nat.lt_of_lt_of_le hi h.grown.size) ?_).trans (h.grown.block i hi hne)
    rcases h.moved with e | ⟨q, e, hq⟩
    · rw [e]; exact hne
    · rw [e]; intro e'; have := Option.some.inj e'; omega
  · rcases k.moved with e | ⟨q, e, hq⟩
    · rw [e]; exact h.moved
    · exact .inr ⟨q, e, Nat.le_trans h.grown.size hq⟩
theorem Grew.alloc {w w' : World} {v v' : Value} (h : Grew w w' v v') (o : Obj) : Grew w (w'.alloc o) v v' := by
  refine ⟨⟨h.grown.os, h.grown.tape, h.grown.output, by have := h.grown.size; simp; omega, fun i hi hne => ?_⟩, h.moved⟩
  exact (Below.heap_alloc w' o i (Nat.lt_of_lt_of_le hi h.grown.size)).trans (h.grown.block i hi hne)
theorem Own.alloc {w : World} {v : Value} {xs : List Int} (h : Own w v xs) (o : Obj) : Own (w.alloc o) v xs := ⟨h.1, h.2.alloc o⟩
theorem Own.drew {w : World} {v : Value} {xs : List Int} (h : Own w v xs) : Own w.drew v xs := ⟨h.1, h.2.drew⟩
theorem Own.lt {w : World} {v : Value} {xs : List Int} (h : Own w v xs) : ∀ k, v.ownBlock = some k → k < w.heap.size := fun k hk => (h.2.lt k hk).2
/-- It stays, where its block has not turned. -/
theorem Own.kept {w w' : World} {v : Value} {xs : List Int} (h : Own w v xs) (hb : ∀ k, v.ownBlock = some k → w'.heap[k]? = w.heap[k]?) : Own w' v xs := by
  refine ⟨h.1, h.2.1, ?_⟩
  rcases h.2.2 with hn | ⟨g, cap, cur, rfl, hb', hgg, rest⟩
  · exact .inl hn
  · exact .inr ⟨g, cap, cur, rfl, hb', by rw [hb g rfl]; exact hgg, rest⟩
theorem Own.nil (w : World) : Own w (.slice none 0 0) [] := ⟨isBytes_nil, World.ownsRow_nil w 0 5 1⟩
theorem Own.row {w : World} {v : Value} {xs : List Int} (h : Own w v xs) : ∃ ao cap, v = .slice ao xs.length cap ∧ (ao = none → xs = [] ∧ cap = 0) ∧ RowAt w ao xs := rowAt_of_owns h.1 h.2
theorem grew_below {w w' : World} {v v' : Value} {B : Nat} (h : Grew w w' v v') (hB : B ≤ w.heap.size) (hv : ∀ k, v.ownBlock = some k → B ≤ k) : Below B w w' :=
  (Below.refl _ _).grown h.grown hB hv

theorem rowAt_one (w : World) (t : TypeId) (x : Int) (h0 : 0 ≤ x) (h1 : x ≤ 255) : RowAt (w.alloc (.cells #[.int .u8 x] t)) (some ⟨w.heap.size, 0, none⟩) [x] :=
  ⟨fun y hy => by simp at hy; omega, fun _ => ⟨_, 0, rfl, fun i hi => by
    obtain rfl : i = 0 := by simp at hi; omega
    simp⟩⟩
theorem rowAt_new (w : World) (t : TypeId) (xs : List Int) (fz : Nat × Nat) (h : isBytes xs) : RowAt (w.alloc (.cells (vals xs).toArray t fz)) (some ⟨w.heap.size, 0, none⟩) xs := by
  refine ⟨h, fun _ => ⟨_, 0, rfl, fun i hi => ?_⟩⟩
  rw [World.cell?_alloc_mark]
  simp [hi, List.getD]
theorem not_nil {g : Addr} {N c : Nat} {p : Prop} (h : Value.slice (some g) N c = .slice none 0 0 ∧ p) : False := by have := h.1; simp at this
theorem no_nil {a : Addr} {c : Nat} (h : some a = none) : c = 0 := by cases h
theorem own_shape {w : World} {v : Value} {xs : List Int} (h : Own w v xs) (hn : v ≠ .slice none 0 0) : ∃ g N c, v = .slice (some ⟨g, 0, none⟩) N c := by
  rcases h.2.2 with ⟨rfl, _⟩ | ⟨g, cap, cur, rfl, _⟩
  · exact absurd rfl hn
  · exact ⟨g, _, cap, rfl⟩
theorem own_slice {w : World} {v : Value} {xs : List Int} (h : Own w v xs) : ∃ a N c, v = .slice a N c := by
  obtain ⟨a, c, e, _⟩ := h.row
  exact ⟨a, _, c, e⟩
theorem own_len {w : World} {a : Option Addr} {N c : Nat} {xs : List Int} (h : Own w (.slice a N c) xs) : N = xs.length ∧ RowAt w a xs ∧ (a = none → c = 0) := by
  obtain ⟨ao, cap, e, hn, hr⟩ := h.row
  simp only [Value.slice.injEq] at e
  obtain ⟨rfl, rfl, rfl⟩ := e
  exact ⟨rfl, hr, fun h => (hn h).2⟩
theorem adler_bd (xs : List Int) : 0 ≤ adler xs ∧ adler xs ≤ 4294967295 := by
  have h1 := lo_bd xs
  have h2 := hi_bd xs
  unfold adler; omega
/-- ONE APPEND of a slice of bytes, nil or not. -/
theorem run_own_append (w : World) (ty : TypeId) (v : Value) (xs : List Int) (h : Own w v xs) (ao : Option Addr) (c : Nat) (news : List Int) (hr : RowAt w ao news) (hc : ao = none → c = 0) (hlen : xs.length + news.length ≤ 140737488355328) :
    ∃ v' w', (Builtin.append_ #[96, 96] ty #[v, .slice ao news.length c]).run Tryz.prog w = .ok v' w' ∧ Own w' v' (xs ++ news) ∧ Grew w w' v v' ∧ (v' = .slice none 0 0 ↔ v = .slice none 0 0 ∧ news = []) := by
  obtain ⟨i0, hi, hz0, hz1, hz2⟩ := info_parts info5
  have hby : isBytes (xs ++ news) := isBytes_append h.1 hr.1
  match ao with
  | none =>
    obtain rfl := hc rfl
    have hn : news = [] := by
      by_cases hn : news = []
      · exact hn
      · obtain ⟨b, off, he, _⟩ := hr.2 hn; cases he
    subst hn
    exact ⟨v, w, run_append_owned_none (P := Tryz.prog) (w := w) 0 96 ty 5 i0 1 Tryz.underlying96 hi v _ _ h.2, by simpa using h, Grew.refl _ _, by simp⟩
  | some ad =>
    obtain ⟨v', w', hrun, hown, hgrow, hnil⟩ := run_append_own (P := Tryz.prog) w 0 96 ty 5 i0 (.int .u8 0) 1 1 Tryz.underlying96 hi hz0 hz1 hz2 rfl (by decide) v xs.length (vals xs) h.2 ad news.length c (vals news) (by simp) hr.news (vals_oneCell news) (by unfold maxLen; omega) (by omega) (Nat.zero_le _)
    refine ⟨v', w', hrun, ⟨hby, by simpa using hown⟩, ⟨hgrow, ?_⟩, by simpa using hnil⟩
    rcases h.2.2 with ⟨rfl, hn0⟩ | ⟨g, cap, cur, rfl, hbg, hg, hnc, hcm, hcs, htake⟩
    · obtain rfl : xs = [] := List.eq_nil_of_length_eq_zero hn0
      by_cases hm : news = []
      · subst hm; left; simp at hnil; rw [hnil]
      · have hpos : 0 < news.length := List.length_pos_iff.2 hm
        have hr2 := run_append_nil (P := Tryz.prog) w 96 ty 5 i0 (.int .u8 0) Tryz.underlying96 hi hz0 ad news.length c (vals news) (by rw [hz1]; simp) hr.news (by omega) (by omega) (by rw [hz2]; omega)
        have e := hrun.symm.trans hr2
        right
        simp only [Result.ok.injEq] at e
        rw [e.1]
        exact ⟨w.heap.size, rfl, Nat.le_refl _⟩
    · by_cases hroom : xs.length + news.length ≤ cap
      · have hr2 := run_append_room (P := Tryz.prog) w 96 ty 5 i0 Tryz.underlying96 hi g xs.length cap cur hg ad news.length c (vals news) (by rw [hz1]; simp) hr.news (vals_oneCell news) hroom (by rw [hz1]; simp; omega)
        have e := hrun.symm.trans hr2
        simp only [Result.ok.injEq] at e
        left
        rw [e.1]; rfl
      · have hr2 := run_append_grow (P := Tryz.prog) w 96 ty 5 i0 (.int .u8 0) Tryz.underlying96 hi hz0 ⟨g, 0, none⟩ xs.length cap (vals xs) (by rw [hz1]; simp) (h.2.cells (g := g) rfl) ad news.length c (vals news) (by rw [hz1]; simp) hr.news (by omega) (by omega) (growslice_fits (by omega) (by rw [hz2]; omega))
        have e := hrun.symm.trans hr2
        simp only [Result.ok.injEq] at e
        right
        rw [e.1]
        exact ⟨w.heap.size, rfl, Nat.le_refl _⟩

theorem wpList_own_append {ops : Array Oper} {rest : List Oper} {o : Oper} {a : Act} {Q : Exit → Act → World → Prop} {w : World} (hgd : o.guard = none) (s x : Operand)
    (ho : o.op = .call { callee := .builtin .append, args := #[s, x], argTypes := #[96, 96] })
    (v : Value) (xs : List Int) (hs : a.eval s = v) (h : Own w v xs) (ao : Option Addr) (c : Nat) (news : List Int) (hx : a.eval x = .slice ao news.length c) (hr : RowAt w ao news) (hc : ao = none → c = 0) (hlen : xs.length + news.length ≤ 140737488355328)
    (hK : ∀ v' w', Own w' v' (xs ++ news) → Grew w w' v v' → (v' = .slice none 0 0 ↔ v = .slice none 0 0 ∧ news = []) → wpList Tryz.prog ops Q rest (a.put o.dst v') w') : wpList Tryz.prog ops Q (o :: rest) a w := by
  refine wpList_plain hgd fun K hK' => ?_
  obtain ⟨v', w', hrun, h2, h3, h4⟩ := run_own_append w o.type v xs h ao c news hr hc hlen
  unfold Oper.wp execOp
  simp only [ho, resolve, invoke, builtin, Sem.run_bind, Sem.run_pure, Result.andThen_ok, List.map_toArray, List.map_cons, List.map_nil, hs, hx, hrun]
  exact hK' _ _ (hK v' w' h2 h3 h4)
end Go.Proofs.YtboabidokkghbaaGreat.C
namespace Go.Proofs.YtboabidokkghbaaGreat.C
set_option linter.unusedVariables false
open Go.RowKit

/-- The bytes of a number: sevens of bits, the lowest first; fuel: ten suffice for 64 bits. -/
def enc : Nat → Int → List Int
  | 0, _ => []
  | f + 1, n => if 128 ≤ n then (n % 128 + 128) :: enc f (n / 128) else [n]
theorem enc_bytes (f : Nat) (n : Int) (h : 0 ≤ n) : isBytes (enc f n) := by
  induction f generalizing n with
  | zero => exact isBytes_nil
  | succ f ih =>
    unfold enc
    split
    · intro x hx
      rcases List.mem_cons.1 hx with rfl | hx
      · omega
      · exact ih _ (by omega) x hx
    · intro x hx; simp at hx; omega
theorem enc_len (f : Nat) (n : Int) : (enc f n).length ≤ f := by
  induction f generalizing n with
  | zero => simp [enc]
  | succ f ih =>
    unfold enc
    split
    · have := ih (n / 128); simp; omega
    · simp
theorem orMore (n : Int) (h0 : 0 ≤ n) (h1 : n < 256) : bits .or .u8 n 128 = n % 128 + 128 := by
  rw [u8_or n 128 h0 h1 (by decide) (by decide)]
  have e : n.toNat ||| 128 = n.toNat % 128 + 128 := by
    have h : ∀ m : Nat, m < 256 → m ||| 128 = m % 128 + 128 := by decide +kernel
    exact h n.toNat (by omega)
  show ((n.toNat ||| 128 : Nat) : Int) = _
  rw [e]; omega

theorem enc_step (f : Nat) (m : Int) (h : 128 ≤ m) : enc (f + 1) m = (m % 128 + 128) :: enc f (m / 128) := by rw [enc, if_pos h]
theorem enc_last (f : Nat) (m : Int) (h : m < 128) : enc (f + 1) m = [m] := by rw [enc, if_neg (by omega)]

end Go.Proofs.YtboabidokkghbaaGreat.C
namespace Go.Proofs.YtboabidokkghbaaGreat.C
set_option linter.unusedVariables false
open Go.RowKit

theorem own_made (w : World) : Own (w.alloc (.cells #[] 5)) (.slice (some ⟨w.heap.size, 0, none⟩) 0 0) [] := ⟨isBytes_nil, World.ownsRow_made w #[] 0 (Nat.zero_le _) (Nat.zero_le _) rfl⟩

end Go.Proofs.YtboabidokkghbaaGreat.C
namespace Go.Proofs.YtboabidokkghbaaGreat.C
set_option linter.unusedVariables false
open Go.RowKit

/-- What a call on a writer may have turned: block q and the slice's own. -/
structure WGrew (w w' : World) (q : Nat) (v v' : Value) : Prop where
  os : w'.os = w.os
  tape : w'.tape = w.tape
  output : w'.output = w.output
  size : w.heap.size ≤ w'.heap.size
  block : ∀ k, k < w.heap.size → k ≠ q → some k ≠ v.ownBlock → w'.heap[k]? = w.heap[k]?
  moved : v'.ownBlock = v.ownBlock ∨ ∃ k, v'.ownBlock = some k ∧ w.heap.size ≤ k
theorem WGrew.ofDrew {w w' : World} {q : Nat} {v v' : Value} (h : WGrew w.drew w' q v v') : WGrew w w' q v v' := ⟨h.os, h.tape, h.output, h.size, h.block, h.moved⟩
theorem heap_set {w : World} {b : Nat} {C : Array Value} {t : TypeId} (h : w.heap[b]? = some (.cells C t (0, 0))) (o : Nat) (u : Value) : (w.setCell ⟨b, o, none⟩ u).heap[b]? = some (.cells (C.setIfInBounds o u) t (0, 0)) := by
  have hlt := lt_of_block h
  have h' : w.heap[b] = .cells C t (0, 0) := by simpa [Array.getElem?_eq_getElem hlt] using h
  show (w.heap.modify b _)[b]? = _
  rw [Array.getElem?_eq_getElem (by simpa using hlt), Array.getElem_modify_self, h']
  rfl
theorem own_ne {w : World} {v : Value} {xs : List Int} (h : Own w v xs) {b : Nat} {C : Array Value} {t : TypeId} (hb : w.heap[b]? = some (.cells C t (0, 0))) (ht : t ≠ 5) : some b ≠ v.ownBlock := by
  intro e
  rcases h.2.2 with ⟨rfl, _⟩ | ⟨g, cap, cur, rfl, _, hg, _⟩
  · simp [Value.ownBlock] at e
  · simp [Value.ownBlock] at e
    subst e
    rw [hb] at hg
    simp at hg
    exact ht hg.2
end Go.Proofs.YtboabidokkghbaaGreat.C
namespace Go.Proofs.YtboabidokkghbaaGreat.C
set_option linter.unusedVariables false
open Go.RowKit

/-- A string's bytes. -/
def strBytes (s : ByteArray) : List Int := s.data.toList.map fun b => (b.toNat : Int)
theorem strBytes_len (s : ByteArray) : (strBytes s).length = s.size := by
  unfold strBytes
  rw [List.length_map, Array.length_toList]
  rfl
theorem strBytes_bytes (s : ByteArray) : isBytes (strBytes s) := by
  intro x hx
  obtain ⟨b, _, rfl⟩ := List.mem_map.1 hx
  have := b.toNat_lt
  omega
theorem vals_str (s : ByteArray) : vals (strBytes s) = byteCells s := by simp [vals, strBytes, byteCells, List.map_map, Function.comp_def]

theorem setCells_row (g : Nat) (t : TypeId) : ∀ (vs : List Value) (o : Nat) (w : World) (cur : Array Value), w.heap[g]? = some (.cells cur t (0, 0)) → o + vs.length ≤ cur.size →
    ∃ cur' : Array Value, (w.setCells g o vs).heap[g]? = some (.cells cur' t (0, 0)) ∧ cur'.size = cur.size ∧ cur'.toList.take (o + vs.length) = cur.toList.take o ++ vs := by
  intro vs
  induction vs with
  | nil => intro o w cur h _; exact ⟨cur, h, rfl, by simp⟩
  | cons v r ih =>
    intro o w cur h hfit
    simp only [List.length_cons] at hfit
    obtain ⟨cur', h1, h2, h3⟩ := ih (o + 1) (w.setCell ⟨g, o, none⟩ v) (cur.setIfInBounds o v) (heap_set h o v) (by simpa using by omega)
    refine ⟨cur', h1, by simpa using h2, ?_⟩
    rw [List.length_cons, show o + (r.length + 1) = o + 1 + r.length by omega, h3]
    have hlt : o < cur.toList.length := by simpa using by omega
    rw [Array.toList_setIfInBounds, List.take_succ_eq_append_getElem (by simpa using hlt)]
    have e : List.take o (cur.toList.set o v) = List.take o cur.toList := by
      apply List.ext_getElem?
      intro i
      simp only [List.getElem?_take, List.getElem?_set]
      by_cases hi : i < o
      · rw [if_pos hi, if_pos hi, if_neg (by omega)]
      · rw [if_neg hi, if_neg hi]
    rw [e]
    simp
theorem setCells_rest (g : Nat) : ∀ (vs : List Value) (o : Nat) (w : World), (w.setCells g o vs).os = w.os ∧ (w.setCells g o vs).tape = w.tape ∧ (w.setCells g o vs).output = w.output ∧ (w.setCells g o vs).heap.size = w.heap.size ∧ ∀ k, k ≠ g → (w.setCells g o vs).heap[k]? = w.heap[k]? := by
  intro vs
  induction vs with
  | nil => intro o w; exact ⟨rfl, rfl, rfl, rfl, fun _ _ => rfl⟩
  | cons v r ih =>
    intro o w
    obtain ⟨a, b, c, d, e⟩ := ih (o + 1) (w.setCell ⟨g, o, none⟩ v)
    exact ⟨a, b, c, d.trans (by simp [World.setCell]), fun k hk => (e k hk).trans (Below.heap_setCell _ _ _ _ hk)⟩

/-- ONE APPEND of a string's bytes. -/
theorem run_own_append_str (w : World) (ty : TypeId) (v : Value) (xs : List Int) (h : Own w v xs) (s : ByteArray) (hlen : xs.length + s.size ≤ 140737488355328) :
    ∃ v' w', (Builtin.append_ #[96, 9] ty #[v, .string s]).run Tryz.prog w = .ok v' w' ∧ Own w' v' (xs ++ strBytes s) ∧ Grew w w' v v' := by
  obtain ⟨i0, hi, hz0, hz1, hz2⟩ := info_parts info5
  have hby : isBytes (xs ++ strBytes s) := isBytes_append h.1 (strBytes_bytes s)
  have hsl := strBytes_len s
  have hsrc : Src Tryz.prog i0.size 9 (.string s) s.size (byteCells s) w := by rw [hz1]; exact Src.ofString w Tryz.underlying9 s
  have grow : ∀ (base : Option Addr) (cap : Nat), v = .slice base xs.length cap → cap < xs.length + s.size → (Builtin.firstCells i0.size xs.length (.slice base xs.length cap)).run Tryz.prog w.drew = .ok (vals xs).toArray w.drew →
      ∃ v' w', (Builtin.append_ #[96, 9] ty #[v, .string s]).run Tryz.prog w = .ok v' w' ∧ Own w' v' (xs ++ strBytes s) ∧ Grew w w' v v' := by
    rintro base cap rfl hg hold
    have hrun := run_append_grow_src (P := Tryz.prog) w 96 9 ty 5 i0 (.int .u8 0) Tryz.underlying96 hi hz0 base xs.length cap (vals xs) hold (.string s) s.size (byteCells s) hsrc hg (by omega) (growslice_fits hg (by rw [hz2]; omega))
    have hge := grownCap_ge w (xs.length + s.size) cap 5
    have hcm := grownCap_le_maxLen w (xs.length + s.size) cap 5 (by unfold maxLen; omega)
    refine ⟨_, _, hrun, ⟨hby, by simp, .inr ⟨w.heap.size, _, _, by rw [List.length_append, hsl], Nat.zero_le _, heap_alloc_new w.drew _, by rw [List.length_append, hsl]; exact hge, hcm, ?_, ?_⟩⟩, ⟨⟨rfl, rfl, rfl, by simp, fun k hk _ => Below.heap_alloc w.drew _ k hk⟩, .inr ⟨w.heap.size, rfl, Nat.le_refl _⟩⟩⟩
    · rw [Array.size_append, List.size_toArray, List.length_append, List.length_map, byteCells_length, size_zeroCells]
      simp [Value.cells]
      omega
    · have e : ((vals xs ++ byteCells s).toArray ++ Builtin.zeroCells (Value.cells (.int .u8 0)) (grownCap w (xs.length + s.size) cap 5 - (xs.length + s.size))).toList = (vals xs ++ byteCells s) ++ (Builtin.zeroCells (Value.cells (.int .u8 0)) (grownCap w (xs.length + s.size) cap 5 - (xs.length + s.size))).toList := by simp
      rw [Nat.mul_one]
      first
        | (rw [e, List.take_left' (by simp [byteCells_length, hsl])]; simp [vals_str])
        | (simp only [Array.toList_append, List.append_assoc]; rw [← List.append_assoc, List.take_left' (by simp [byteCells_length, hsl])]; simp [vals_str])
  rcases h.2.2 with ⟨rfl, hn0⟩ | ⟨g, cap, cur, rfl, hbg, hg, hnc, hcm, hcs, htake⟩
  · obtain rfl : xs = [] := List.eq_nil_of_length_eq_zero hn0
    by_cases hm : s.size = 0
    · have hse : strBytes s = [] := List.eq_nil_of_length_eq_zero (by rw [hsl]; exact hm)
      refine ⟨.slice none 0 0, w, ?_, by rw [hse]; exact Own.nil w, Grew.refl _ _⟩
      have hcells := hsrc.cells
      rw [hm] at hcells
      rcases hsrc.kind with ⟨e', hk⟩ | hk
      · simp [Tryz.underlying9] at hk
      · simp [Builtin.append_, run_underlying Tryz.underlying96, run_underlying hk, sizeOf, typeInfo, hi, Builtin.lenOf, hm, hcells]
    · exact grow none 0 rfl (by simp; omega) (by simp [Builtin.firstCells])
  · by_cases hroom : xs.length + s.size ≤ cap
    · have hsz : cur.size = cap := by simpa using hcs
      have hcell : ∀ j, j < cap → w.cell? ⟨g, j, none⟩ = cur[j]? := fun j _ => by simp [World.cell?, hg]
      have hrun := run_append_room_src (P := Tryz.prog) w 96 9 ty 5 i0 Tryz.underlying96 hi g 0 xs.length cap (.string s) s.size (byteCells s) hsrc hroom
        (fun j hj => by
          rw [byteCells_length] at hj
          have : w.cell? ⟨g, 0 + xs.length * i0.size + j, none⟩ = cur[0 + xs.length * i0.size + j]? := by simp [World.cell?, hg]
          rw [this, hz1]
          simp; omega)
        (fun j hj => by simp [World.frozen?, hg])
      obtain ⟨cur', h1, h2, h3⟩ := setCells_row g 5 (byteCells s) (0 + xs.length * i0.size) w cur hg (by rw [byteCells_length, hz1]; omega)
      obtain ⟨r1, r2, r3, r4, r5⟩ := setCells_rest g (byteCells s) (0 + xs.length * i0.size) w
      refine ⟨_, _, hrun, ⟨hby, by simp, .inr ⟨g, cap, cur', by rw [List.length_append, hsl], Nat.zero_le _, h1, by rw [List.length_append, hsl]; exact hroom, hcm, by rw [h2, hsz]; simp, ?_⟩⟩, ⟨⟨r1, r2, r3, by rw [r4]; exact Nat.le_refl _, fun k hk hne => r5 k (fun e => hne (by simp [Value.ownBlock, e]))⟩, .inl rfl⟩⟩
      rw [hz1, byteCells_length] at h3
      simp only [Nat.mul_one, Nat.zero_add] at h3 htake ⊢
      rw [List.length_append, hsl, h3, htake]
      simp [vals_str]
    · refine grow (some ⟨g, 0, none⟩) cap rfl (by omega) ?_
      have hc2 := h.2.cells (g := g) rfl
      rw [hz1]
      have := run_firstCells_some (P := Tryz.prog) w.drew 1 xs.length ⟨g, 0, none⟩ xs.length cap (vals xs) (by simp) (by simpa using hc2)
      simpa using this

/-- .. as one step of a region that draws its order. -/
theorem step_own_append_str {ops : Array Oper} {o : Oper} {a : Act} {w : World} {K : Act → World → Prop} {Q : Exit → Act → World → Prop} {E : Prop}
    (hg : o.guard = none) (s x : Operand) (hop : o.op = Op.call { callee := Callee.builtin Builtin.append, args := #[s, x], argTypes := #[96, 9] })
    (v : Value) (xs : List Int) (hs : a.eval s = v) (h : Own w v xs) (str : ByteArray) (hx : a.eval x = .string str) (hlen : xs.length + str.size ≤ 140737488355328)
    (hK : ∀ v' w', Own w' v' (xs ++ strBytes str) → Grew w w' v v' → K (a.put o.dst v') w') :
    if Region.wanted o (yielded ops a.tmps) = true then Oper.wp Tryz.prog o a w K Q else E := by
  have hw : Region.wanted o (yielded ops a.tmps) = true := by simp [Region.wanted, hg]
  rw [if_pos hw]
  obtain ⟨v', w', hrun, r1, r2⟩ := run_own_append_str w o.type v xs h str hlen
  unfold Oper.wp
  simp [execOp, hop, resolve, invoke, builtin, hs, hx, hrun, Result.andThen]
  exact hK v' w' r1 r2
end Go.Proofs.YtboabidokkghbaaGreat.C
