import Derived.Test.YtndjcbcdjcnniaaSKnown
namespace Go.Proofs.Ytndjcbcdjcnniaa
set_option linter.unusedVariables false
open Go.RowKit Go.Maps Go.Shelf

theorem index_str {s : ByteArray} {v : Int} (w : World) (h : Lib.indexByte s.data.toList 32 = v) : Calls Try.prog 89 #[.string s, .int .u8 32] w fun e w' => e = .returned (.int .i64 v) ∧ w = w' :=
  (Any.strings_IndexByte bld137 s 32 w).mono fun e w' ⟨he, hw⟩ => ⟨by rw [he, ← h]; rfl, hw.symm⟩
set_option maxRecDepth 100000 in
set_option maxHeartbeats 2000000 in
theorem wordend_at (s : ByteArray) (a m : Nat) (w : World) (hs : s.size ≤ 1000000000) (ha : a + m ≤ s.size) (h : Lib.indexByte (s.extract a s.size).data.toList 32 = -1 ∧ s.size = a + m ∨ Lib.indexByte (s.extract a s.size).data.toList 32 = (m : Int)) :
    Calls Try.prog 61 #[.string s, .int .i64 a] w fun e w' => e = .returned (.int .i64 ((a : Int) + m)) ∧ w = w' := by
  rcases h with ⟨h, h2⟩ | h
  · have H : Hid _ := h
    have E : Hid (((s.size : Nat) : Int) = (a : Int) + m) := by show _ = _; omega
    have ha' : a ≤ s.size := by omega
    clear h h2 ha
    go_enter Try.func61, Try.ntmps61
    go_wp2_with (first
      | (go_at_call 89; refine (index_str _ H.out).mono ?_; rintro e w' ⟨rfl, rfl⟩))
    go_ret
    exact ⟨by rw [E.out]; rfl, rfl⟩
  · have H : Hid _ := h
    clear h
    go_enter Try.func61, Try.ntmps61
    go_wp2_with (first
      | (go_at_call 89; refine (index_str _ H.out).mono ?_; rintro e w' ⟨rfl, rfl⟩))
    go_ret
    exact ⟨rfl, rfl⟩
def symCells (l : List (Int × Int)) : List Value := l.flatMap fun q => [.int .i64 q.1, .int .i64 q.2]
theorem symCells_len (l : List (Int × Int)) : (symCells l).length = l.length * 2 := by
  induction l with
  | nil => rfl
  | cons q r ih => simp [symCells] at ih ⊢; omega
theorem symCells_get : ∀ (l : List (Int × Int)) (i : Nat), i < l.length → (symCells l)[i * 2]? = some (.int .i64 (l.getD i (0, 0)).1) ∧ (symCells l)[i * 2 + 1]? = some (.int .i64 (l.getD i (0, 0)).2)
  | [], i, h => by simp at h
  | q :: r, 0, _ => by simp [symCells]
  | q :: r, i + 1, h => by
    have := symCells_get r i (by simpa using h)
    have e : symCells (q :: r) = .int .i64 q.1 :: .int .i64 q.2 :: symCells r := rfl
    rw [e, show (i + 1) * 2 = i * 2 + 1 + 1 by omega]
    simpa using this
/-- A list of symbols that is one's own. -/
def SY (w : World) (v : Value) (l : List (Int × Int)) : Prop := w.ownsRow 0 61 2 v l.length (symCells l)
theorem infoSym : (Try.prog.info? 61).map (fun i => (i.zero, i.size, i.bytes)) = some (some (.agg #[.int .i64 0, .int .i64 0]), 2, 16) := by kernel_rfl
theorem infoSym_parts : ∃ i, Try.prog.info? 61 = some i ∧ i.zero = some (.agg #[.int .i64 0, .int .i64 0]) ∧ i.size = 2 ∧ i.bytes = 16 := by
  have h := infoSym
  cases e : Try.prog.info? 61 with
  | none => rw [e] at h; cases h
  | some i => rw [e] at h; simp at h; exact ⟨i, rfl, h⟩
theorem SY.nil (w : World) : SY w (.slice none 0 0) [] := World.ownsRow_nil w 0 61 2
theorem sy_len {w : World} {v : Value} {l : List (Int × Int)} (h : SY w v l) : ∃ a c, v = .slice a l.length c := by
  rcases h.2 with ⟨rfl, h0⟩ | ⟨g, cap, cur, rfl, _⟩
  · exact ⟨none, 0, by rw [h0]⟩
  · exact ⟨_, _, rfl⟩
theorem SY.kept {w w' : World} {v : Value} {l : List (Int × Int)} (h : SY w v l) (hb : ∀ k, v.ownBlock = some k → w'.heap[k]? = w.heap[k]?) : SY w' v l := by
  refine ⟨h.1, ?_⟩
  rcases h.2 with q | ⟨g, cap, cur, rfl, h1, h2, h3⟩
  · exact .inl q
  · exact .inr ⟨g, cap, cur, rfl, h1, (hb g rfl).trans h2, h3⟩
theorem SY.lt {w : World} {v : Value} {l : List (Int × Int)} (h : SY w v l) : ∀ k, v.ownBlock = some k → k < w.heap.size := fun k hk => (World.ownsRow.lt h k hk).2
theorem SY.later {w w' : World} {v : Value} {l : List (Int × Int)} (h : SY w v l) (hb : Below w.heap.size w w') : SY w' v l := h.kept fun k hk => hb.block k (h.lt k hk)
theorem SY.row {w : World} {a : Option Addr} {n c : Nat} {l : List (Int × Int)} (h : SY w (.slice a n c) l) : SymRow w a l := by
  intro hne
  rcases h.2 with ⟨e, h0⟩ | ⟨g, cap, cur, e, h1, h2, h3⟩
  · exact absurd (List.eq_nil_of_length_eq_zero h0) hne
  · have hc := fun j x hx => World.ownsRow.cells h (g := g) (by rw [e]; rfl) j x hx
    cases e
    refine ⟨g, 0, rfl, lt_of_block h2, fun i hi => ?_⟩
    obtain ⟨q1, q2⟩ := symCells_get l i hi
    have r1 := hc _ _ q1
    have r2 := hc _ _ q2
    rw [add_none] at r1 r2
    exact ⟨r1, r2⟩
theorem wpList_sy_append {ops : Array Oper} {rest : List Oper} {o : Oper} {a : Act} {Q : Exit → Act → World → Prop} {w : World} (hgd : o.guard = none) (s x : Operand)
    (ho : o.op = .call { callee := .builtin .append, args := #[s, x], argTypes := #[45, 45] })
    (v : Value) (l : List (Int × Int)) (hs : a.eval s = v) (h : SY w v l) (b c : Nat) (k n : Int) (hx : a.eval x = .slice (some ⟨b, 0, none⟩) 1 c) (hy : w.cell? ⟨b, 0, none⟩ = some (.int .i64 k)) (hy2 : w.cell? ⟨b, 1, none⟩ = some (.int .i64 n)) (hlen : l.length ≤ 2000000)
    (hK : ∀ a' n' c' w', SY w' (.slice a' n' c') (l ++ [(k, n)]) → Grew w w' v (.slice a' n' c') → wpList Try.prog ops Q rest (a.put o.dst (.slice a' n' c')) w') : wpList Try.prog ops Q (o :: rest) a w := by
  obtain ⟨i0, hi, hz0, hz1, hz2⟩ := infoSym_parts
  refine wpList_append_own_at w hgd s x 45 ho 0 61 i0 (.agg #[.int .i64 0, .int .i64 0]) 2 16 Try.underlying45 hi hz0 hz1 hz2 rfl (by decide) v l.length (symCells l) hs h ⟨b, 0, none⟩ 1 c [.int .i64 k, .int .i64 n] hx (by simp) ?_ ?_ (by unfold maxLen; omega) (by omega) (Nat.zero_le _) ?_
  · intro j u hu
    match j with
    | 0 => simp at hu; subst hu; rw [add_none]; exact hy
    | 1 => simp at hu; subst hu; rw [add_none]; exact hy2
    | j + 2 => simp at hu
  · intro u hu; simp at hu; rcases hu with rfl | rfl <;> rfl
  · intro v' w' h2 h3 _ h5
    have h6 : SY w' v' (l ++ [(k, n)]) := by
      unfold SY
      have e : symCells (l ++ [(k, n)]) = symCells l ++ [.int .i64 k, .int .i64 n] := by simp [symCells]
      rw [e]
      simpa using h2
    obtain ⟨a', c', rfl⟩ := sy_len h6
    exact hK _ _ _ w' h6 ⟨h3, h5.imp id fun e => ⟨_, e, Nat.le_refl _⟩⟩
theorem name_known {ts ns : List ByteArray} (hF : Fine ts ns) {k n : Int} (h : okN ts ns (k, n) = true) : Solid (nameF ts ns k n).1 ∧ known ts ns (nameF ts ns k n).1 = some (k, n) := by
  have nd : ∀ s, termS s = true → s ≠ dollar := fun s hs e => by rw [e, dollar_no] at hs; cases hs
  unfold okN nameF at h
  unfold nameF
  simp only at h
  split at h
  · rename_i hk
    subst hk
    rw [if_pos rfl]
    split at h
    · rename_i h0
      rw [if_pos h0]
      split at h
      · rename_i h1
        rw [if_pos h1]
        obtain ⟨m, rfl⟩ : ∃ m : Nat, n = m := ⟨n.toNat, by omega⟩
        have hm : m < ts.length := by omega
        simp only [Int.toNat_natCast]
        have ht : termS (ts.getD m ByteArray.empty) = true := hF.ts _ (by simp [List.getD, hm])
        refine ⟨term_solid ht, ?_⟩
        unfold known upd
        rw [if_neg (nd _ ht)]
        unfold kT
        rw [placeS_self (List.nodup_append.1 hF.nd).1 hm]
        simp
      · rename_i h1
        rw [if_neg h1]
        split at h
        · rename_i h2
          rw [if_pos h2]
          refine ⟨dollar_solid, ?_⟩
          show known ts ns dollar = some (1, n)
          unfold known upd
          rw [if_pos rfl, h2]
        · cases h
    · cases h
  · rename_i hk
    rw [if_neg hk]
    split at h
    · rename_i hk2
      subst hk2
      rw [if_pos rfl]
      split at h
      · rename_i h0
        rw [if_pos h0]
        split at h
        · rename_i h1
          rw [if_pos h1]
          obtain ⟨m, rfl⟩ : ∃ m : Nat, n = m := ⟨n.toNat, by omega⟩
          have hm : m < ns.length := by omega
          simp only [Int.toNat_natCast]
          have hw : wordS (ns.getD m ByteArray.empty) = true := hF.ns _ (by simp [List.getD, hm])
          have ht : termS (ns.getD m ByteArray.empty) = true := by unfold termS; rw [hw]; rfl
          refine ⟨word_solid hw, ?_⟩
          unfold known upd
          rw [if_neg (nd _ ht)]
          have hp := placeS_self (List.nodup_append.1 hF.nd).2.1 hm
          unfold kT kN
          rw [hF.apart _ _ hp, hp]
          simp
        · cases h
      · cases h
    · cases h
end Go.Proofs.Ytndjcbcdjcnniaa
