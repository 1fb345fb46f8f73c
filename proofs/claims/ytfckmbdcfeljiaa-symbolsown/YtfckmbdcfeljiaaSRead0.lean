import Derived.Test.YtfckmbdcfeljiaaSKnown
namespace Go.Proofs.Ytfckmbdcfeljiaa
set_option linter.unusedVariables false
open Go.RowKit Go.Maps Go.Shelf

theorem index_str {s : ByteArray} {v : Int} (w : World) (h : Lib.indexByte s.data.toList 32 = v) : Calls Try.prog 48 #[.string s, .int .u8 32] w fun e w' => e = .returned (.int .i64 v) ∧ w = w' :=
  (Any.strings_IndexByte bld137 s 32 w).mono fun e w' ⟨he, hw⟩ => ⟨by rw [he, ← h]; rfl, hw.symm⟩
set_option maxRecDepth 100000 in
set_option maxHeartbeats 2000000 in
theorem wordend_at (s : ByteArray) (a m : Nat) (w : World) (hs : s.size ≤ 1000000000) (ha : a + m ≤ s.size) (h : Lib.indexByte (s.extract a s.size).data.toList 32 = -1 ∧ s.size = a + m ∨ Lib.indexByte (s.extract a s.size).data.toList 32 = (m : Int)) :
    Calls Try.prog 21 #[.string s, .int .i64 a] w fun e w' => e = .returned (.int .i64 ((a : Int) + m)) ∧ w = w' := by
  rcases h with ⟨h, h2⟩ | h
  · have H : Hid _ := h
    have E : Hid (((s.size : Nat) : Int) = (a : Int) + m) := by show _ = _; omega
    have ha' : a ≤ s.size := by omega
    clear h h2 ha
    go_enter Try.func21, Try.ntmps21
    go_wp2_with (first
      | (go_at_call 48; refine (index_str _ H.out).mono ?_; rintro e w' ⟨rfl, rfl⟩))
    go_ret
    exact ⟨by rw [E.out]; rfl, rfl⟩
  · have H : Hid _ := h
    clear h
    go_enter Try.func21, Try.ntmps21
    go_wp2_with (first
      | (go_at_call 48; refine (index_str _ H.out).mono ?_; rintro e w' ⟨rfl, rfl⟩))
    go_ret
    exact ⟨rfl, rfl⟩
theorem name_known {ts ns : List ByteArray} (hF : Fine ts ns) {k n : Int} (h : okN ts ns (k, n) = true) : Solid (nameF ts ns k n).1 ∧ known ts ns (nameF ts ns k n).1 = some (k, n) := by
  have nd : ∀ s, termS s = true → s ≠ dollar := fun s hs e => by rw [e, dollar_no] at hs; cases hs
  unfold okN nameF at h
  unfold nameF
  simp only at h
  split at h
  · rename_i hk
    subst hk
    rw [if_pos rfl]
    split at h
    · rename_i h0
      rw [if_pos h0]
      split at h
      · rename_i h1
        rw [if_pos h1]
        obtain ⟨m, rfl⟩ : ∃ m : Nat, n = m := ⟨n.toNat, by omega⟩
        have hm : m < ts.length := by omega
        simp only [Int.toNat_natCast]
        have ht : termS (ts.getD m ByteArray.empty) = true := hF.ts _ (by simp [List.getD, hm])
        refine ⟨term_solid ht, ?_⟩
        unfold known upd
        rw [if_neg (nd _ ht)]
        unfold kT
        rw [placeS_self (List.nodup_append.1 hF.nd).1 hm]
        simp
      · rename_i h1
        rw [if_neg h1]
        split at h
        · rename_i h2
          rw [if_pos h2]
          refine ⟨dollar_solid, ?_⟩
          show known ts ns dollar = some (1, n)
          unfold known upd
          rw [if_pos rfl, h2]
        · cases h
    · cases h
  · rename_i hk
    rw [if_neg hk]
    split at h
    · rename_i hk2
      subst hk2
      rw [if_pos rfl]
      split at h
      · rename_i h0
        rw [if_pos h0]
        split at h
        · rename_i h1
          rw [if_pos h1]
          obtain ⟨m, rfl⟩ : ∃ m : Nat, n = m := ⟨n.toNat, by omega⟩
          have hm : m < ns.length := by omega
          simp only [Int.toNat_natCast]
          have hw : wordS (ns.getD m ByteArray.empty) = true := hF.ns _ (by simp [List.getD, hm])
          have ht : termS (ns.getD m ByteArray.empty) = true := by unfold termS; rw [hw]; rfl
          refine ⟨word_solid hw, ?_⟩
          unfold known upd
          rw [if_neg (nd _ ht)]
          have hp := placeS_self (List.nodup_append.1 hF.nd).2.1 hm
          unfold kT kN
          rw [hF.apart _ _ hp, hp]
          simp
        · cases h
      · cases h
    · cases h
end Go.Proofs.Ytfckmbdcfeljiaa
