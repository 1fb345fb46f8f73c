import Derived.Test.YtndjcbcdjcnniaaHStr
import Derived.Test.YtndjcbcdjcnniaaSRead0
namespace Go.Proofs.Ytndjcbcdjcnniaa
set_option linter.unusedVariables false
open Go.RowKit Go.Maps

set_option maxRecDepth 100000 in
set_option maxHeartbeats 1000000 in
theorem marksym_any (k : Nat) (w : World) (hk : k ≤ 140737488355400) :
    Calls Try.prog 57 #[.int .i64 987, .int .i64 k] w fun e w' => ∃ m : Int, e = .returned (.agg #[.int .i64 0, .int .i64 m]) ∧ Below w.heap.size w w' := by
  go_enter Try.func57, Try.ntmps57
  go_wp2
  go_returns
  exact ⟨_, rfl, by go_grown⟩
theorem SymRow.cells {w : World} {b off : Nat} {zs : List (Int × Int)} (hr : SymRow w (some ⟨b, off, none⟩) zs) (j : Nat) (u : Value) (hu : (symCells zs)[j]? = some u) : w.cell? ⟨b, off + j, none⟩ = some u := by
  have hj : j < zs.length * 2 := by have := (List.getElem?_eq_some_iff.1 hu).1; rwa [symCells_len] at this
  obtain ⟨b', off', e, _, hc⟩ := hr (by intro h; subst h; simp at hj)
  simp at e
  obtain ⟨rfl, rfl⟩ := e
  obtain ⟨c1, c2⟩ := hc (j / 2) (by omega)
  obtain ⟨g1, g2⟩ := symCells_get zs (j / 2) (by omega)
  by_cases h : j % 2 = 0
  · have e : j / 2 * 2 = j := by omega
    rw [e] at c1 g1
    rw [c1, ← hu, g1]
  · have e : j / 2 * 2 + 1 = j := by omega
    rw [e] at g2
    rw [show off + j / 2 * 2 + 1 = off + j by omega] at c2
    rw [c2, ← hu, g2]
/-- A whole row of symbols behind an empty list. -/
theorem wpList_sy_copy {ops : Array Oper} {rest : List Oper} {o : Oper} {a : Act} {Q : Exit → Act → World → Prop} {w : World} (hgd : o.guard = none) (s x : Operand)
    (ho : o.op = .call { callee := .builtin .append, args := #[s, x], argTypes := #[45, 45] })
    (hs : a.eval s = .slice none 0 0) (b off c : Nat) (zs : List (Int × Int)) (hx : a.eval x = .slice (some ⟨b, off, none⟩) zs.length c) (hr : SymRow w (some ⟨b, off, none⟩) zs) (hlen : zs.length ≤ 8796093022208)
    (hK : ∀ a' n' c' w', SY w' (.slice a' n' c') zs → Grew w w' (.slice none 0 0) (.slice a' n' c') → wpList Try.prog ops Q rest (a.put o.dst (.slice a' n' c')) w') : wpList Try.prog ops Q (o :: rest) a w := by
  obtain ⟨i0, hi, hz0, hz1, hz2⟩ := infoSym_parts
  refine wpList_append_own_at w hgd s x 45 ho 0 61 i0 (.agg #[.int .i64 0, .int .i64 0]) 2 16 Try.underlying45 hi hz0 hz1 hz2 rfl (by decide) (.slice none 0 0) 0 [] hs (World.ownsRow_nil w 0 61 2) ⟨b, off, none⟩ zs.length c (symCells zs) hx (symCells_len zs) ?_ ?_ (by unfold maxLen; omega) (by omega) (Nat.zero_le _) ?_
  · intro j u hu
    rw [add_none]
    exact hr.cells j u hu
  · intro u hu
    simp only [symCells, List.mem_flatMap] at hu
    obtain ⟨y, _, hu⟩ := hu
    simp at hu
    rcases hu with rfl | rfl <;> rfl
  · intro v' w' h2 h3 _ h5
    have h6 : SY w' v' zs := by unfold SY; simpa using h2
    obtain ⟨a', c', rfl⟩ := sy_len h6
    exact hK _ _ _ w' h6 ⟨h3, h5.imp id fun e => ⟨_, e, Nat.le_refl _⟩⟩
set_option maxRecDepth 100000 in
set_option maxHeartbeats 1000000 in
theorem copysym_any (b off cap : Nat) (zs : List (Int × Int)) (w : World) (hl : zs.length ≤ 8796093022208) (hr : SymRow w (some ⟨b, off, none⟩) zs) :
    Calls Try.prog 58 #[.slice (some ⟨b, off, none⟩) zs.length cap] w fun e w' => ∃ a N c, e = .returned (.slice a N c) ∧ SY w' (.slice a N c) zs ∧ (∀ k, (Value.slice a N c).ownBlock = some k → w.heap.size ≤ k) ∧ Below w.heap.size w w' := by
  go_enter Try.func58, Try.ntmps58
  go_wp2_with (at_builtin; refine wpList_sy_copy rfl _ _ rfl rfl b off cap zs rfl hr hl ?_; intro a2 n2 c2 w2 ho2 hg2)
  go_ret
  refine ⟨a2, n2, c2, rfl, ho2, fun k hk => ?_, ⟨hg2.grown.os, hg2.grown.tape, hg2.grown.output, hg2.grown.size, fun k hk => hg2.grown.block k hk (by simp [Value.ownBlock])⟩⟩
  rcases hg2.moved with e | ⟨j, e, hj⟩
  · rw [e] at hk; simp [Value.ownBlock] at hk
  · rw [e] at hk; simp at hk; omega
/-- Symbols that fill a block. -/
structure FullS (w : World) (g : Nat) (zs : List (Int × Int)) : Prop where
  hg : w.heap[g]? = some (.cells (symCells zs).toArray 61 (0, 0))
theorem FullS.cell {w : World} {g : Nat} {zs : List (Int × Int)} (h : FullS w g zs) (j : Nat) (hj : j < zs.length) : w.cell? ⟨g, j * 2, none⟩ = some (.int .i64 (zs.getD j (0, 0)).1) ∧ w.cell? ⟨g, j * 2 + 1, none⟩ = some (.int .i64 (zs.getD j (0, 0)).2) := by
  obtain ⟨g1, g2⟩ := symCells_get zs j hj
  simp only [World.cell?, h.hg]
  exact ⟨by simpa using g1, by simpa using g2⟩
theorem FullS.free {w : World} {g : Nat} {zs : List (Int × Int)} (h : FullS w g zs) (j : Nat) : w.frozen? ⟨g, j, none⟩ = false := by
  simp [World.frozen?, h.hg]
theorem symCells_set : ∀ (zs : List (Int × Int)) (j : Nat) (k n : Int), ((symCells zs).set (j * 2) (.int .i64 k)).set (j * 2 + 1) (.int .i64 n) = symCells (zs.set j (k, n))
  | [], j, k, n => by simp [symCells]
  | q :: r, 0, k, n => by simp [symCells]
  | q :: r, j + 1, k, n => by
    have e : ∀ q r, symCells (q :: r) = .int .i64 q.1 :: .int .i64 q.2 :: symCells r := fun _ _ => rfl
    rw [List.set_cons_succ, e, e, ← symCells_set r j k n, show (j + 1) * 2 = j * 2 + 1 + 1 by omega]
    rfl
theorem FullS.set {w : World} {g : Nat} {zs : List (Int × Int)} (h : FullS w g zs) (j : Nat) (k n : Int) : FullS ((w.setCell ⟨g, j * 2, none⟩ (.int .i64 k)).setCell ⟨g, j * 2 + 1, none⟩ (.int .i64 n)) g (zs.set j (k, n)) := by
  refine ⟨?_⟩
  rw [heap_set (heap_set h.hg _ _)]
  congr 2
  rw [← symCells_set]
  simp
theorem FullS.later {w w' : World} {g : Nat} {zs : List (Int × Int)} (h : FullS w g zs) (hb : w'.heap[g]? = w.heap[g]?) : FullS w' g zs := ⟨hb.trans h.hg⟩
theorem FullS.row {w : World} {g : Nat} {zs : List (Int × Int)} (h : FullS w g zs) : SymRow w (some ⟨g, 0, none⟩) zs :=
  fun _ => ⟨g, 0, rfl, lt_of_block h.hg, fun i hi => by rw [Nat.zero_add]; exact h.cell i hi⟩
theorem FullS.rowTake {w : World} {g : Nat} {zs xs : List (Int × Int)} (h : FullS w g zs) (hx : zs.take xs.length = xs) : SymRow w (some ⟨g, 0, none⟩) xs := by
  refine fun _ => ⟨g, 0, rfl, lt_of_block h.hg, fun i hi => ?_⟩
  have hz : i < zs.length := by have := congrArg List.length hx; simp at this; omega
  have : xs.getD i (0, 0) = zs.getD i (0, 0) := by rw [← hx]; simp [List.getD, hi]
  rw [Nat.zero_add, this]
  exact h.cell i hz
theorem fullS_of_made {w : World} {g n : Nat} {vs : List Value} (h : w.ownsRow 0 61 2 (.slice (some ⟨g, 0, none⟩) n n) n vs) (hv : vs = (madeCells (Value.agg #[.int .i64 0, .int .i64 0]).cells (n * 2)).toList) : ∃ zs : List (Int × Int), zs.length = n ∧ FullS w g zs := by
  rcases h.2 with ⟨e, _⟩ | ⟨g', cap, cur, e, _, hg, _, _, hs, ht⟩
  · cases e
  · cases e
    refine ⟨List.replicate n (0, 0), by simp, ⟨?_⟩⟩
    rw [hg]
    have hc : cur.toList = vs := by rw [← ht, List.take_of_length_le (by simp; omega)]
    congr 2
    apply Array.toList_inj.1
    rw [hc, hv]
    apply List.ext_getElem
    · simp [madeCells, symCells_len]
    · intro k h1 h2
      have hk : k < n * 2 := by have := h2; rw [List.toList_toArray, symCells_len] at this; simpa using this
      obtain ⟨g1, g2⟩ := symCells_get (List.replicate n (0, 0)) (k / 2) (by simp; omega)
      have e0 : (List.replicate n ((0 : Int), (0 : Int))).getD (k / 2) (0, 0) = (0, 0) := by simp [List.getD, List.getElem?_replicate]; split <;> rfl
      rw [e0] at g1 g2
      have hr : (symCells (List.replicate n (0, 0)))[k]? = some (.int .i64 0) := by
        by_cases hm : k % 2 = 0
        · rwa [show k / 2 * 2 = k by omega] at g1
        · rwa [show k / 2 * 2 + 1 = k by omega] at g2
      have hr2 : (symCells (List.replicate n (0, 0))).toArray.toList[k] = .int .i64 0 := by
        have := List.getElem?_eq_getElem (l := symCells (List.replicate n ((0 : Int), (0 : Int)))) (i := k) (by rw [symCells_len]; simpa using hk)
        rw [hr] at this
        simpa using this.symm
      rw [hr2]
      rcases Nat.mod_two_eq_zero_or_one k with e | e <;> simp [madeCells, Value.cells, e]
end Go.Proofs.Ytndjcbcdjcnniaa
