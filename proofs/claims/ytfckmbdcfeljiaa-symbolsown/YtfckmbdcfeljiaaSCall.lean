import Derived.Test.YtfckmbdcfeljiaaSBook
import Derived.Deep.RegionWith
namespace Go.Proofs.Ytfckmbdcfeljiaa
set_option linter.unusedVariables false
open Go.RowKit Go.Maps

theorem wordS_small {s : ByteArray} (h : wordS s = true) : s.size ≤ 140737488355328 := by simp [wordS] at h; omega
theorem quotedS_small {s : ByteArray} (h : quotedS s = true) : s.size ≤ 140737488355328 := by simp [quotedS] at h; omega
theorem termS_small {s : ByteArray} (h : termS s = true) : s.size ≤ 140737488355328 := by
  rcases Bool.or_eq_true _ _ ▸ h with q | q
  · exact wordS_small q
  · exact quotedS_small q
/-- Term and Non, as plain functions: the number, the error, the list behind the call. -/
def termF (ts ns : List ByteArray) (s : ByteArray) : Int × Int × List ByteArray :=
  if termS s = false then (0, 21, ts) else match findS ts ns s with
    | some (1, i) => (i, 0, ts)
    | some _ => (0, 6, ts)
    | none => if ts.length = 64 then (0, 31, ts) else (ts.length, 0, ts ++ [s])
def nonF (ts ns : List ByteArray) (s : ByteArray) : Int × Int × List ByteArray :=
  if wordS s = false then (0, 21, ns) else match findS ts ns s with
    | some (2, i) => (i, 0, ns)
    | some _ => (0, 6, ns)
    | none => if ns.length = 64 then (0, 32, ns) else (ns.length, 0, ns ++ [s])
theorem findS_kind {ts ns : List ByteArray} {s : ByteArray} {k i : Int} (h : findS ts ns s = some (k, i)) : k = 1 ∨ k = 2 := by
  unfold findS at h
  split at h
  · simp at h; exact .inl h.1.symm
  · split at h
    · simp at h; exact .inr h.1.symm
    · cases h
theorem made_any {w : World} {p g b : Nat} {T N : Value} {D : DataW Unit} {ts ns : List ByteArray} (h : BInv w p g b T N D ts ns) :
    Calls Try.prog 22 #[.pointer (some ⟨p, 0, none⟩)] w fun e w' => e = .returned (.bool true) ∧ w = w' := by
  have c0 : w.cell? ⟨p, 0, none⟩ = some (.pointer (some ⟨g, 0, none⟩)) := by rw [cellq_any h.hp]; rfl
  go_enter Try.func22, Try.ntmps22
  go_wp2
  go_ret
  exact ⟨rfl, rfl⟩
set_option maxHeartbeats 1000000 in
theorem new_any (w : World) : Calls Try.prog 5 #[] w fun e w' => ∃ p g b D, e = .returned (.pointer (some ⟨p, 0, none⟩)) ∧ BInv w' p g b (.slice none 0 0) (.slice none 0 0) D [] [] ∧ w.heap.size ≤ p ∧ w.heap.size ≤ g ∧ w.heap.size ≤ b ∧ Below w.heap.size w w' := by
  have hmm := @run_makeMap Try.prog
  go_enter Try.func5, Try.ntmps5
  go_wp2
  go_ret
  refine ⟨w.heap.size + 1 + 1, w.heap.size + 1, w.heap.size, .map [], rfl, ⟨?_, ?_, ?_, MInv.empty, GS.nil _, GS.nil _, fun k hk => by simp [Value.ownBlock] at hk, by simp, by simp, rfl⟩, by omega, by omega, by omega, ?_⟩
  · rw [show w.heap.size + 1 + 1 = ((w.alloc (Obj.map #[] 0)).alloc (Obj.cells #[Value.map (some w.heap.size), .int .i64 1, .int .i64 64, .int .i64 31, .slice none 0 0, .int .i64 2, .int .i64 64, .int .i64 32, .slice none 0 0] 68)).heap.size by simp]
    exact heap_alloc_new _ _
  · rw [Below.heap_alloc _ _ _ (by simp), show w.heap.size + 1 = (w.alloc (Obj.map #[] 0)).heap.size by simp]
    exact heap_alloc_new _ _
  · exact ((World.ownsMap_made w Try.prog 9 symElem).alloc _).alloc _
  · exact ((below_alloc w _).alloc (by simp) _).alloc (by simp; omega) _
theorem BInv.drew {w : World} {p g b : Nat} {T N : Value} {D : DataW Unit} {ts ns : List ByteArray} (h : BInv w p g b T N D ts ns) : BInv w.drew p g b T N D ts ns := h.later (Below.refl _ _).drew
theorem BFr.ofDrew {w w' : World} {g b : Nat} {T N T' N' : Value} (h : BFr w.drew w' g b T N T' N') : BFr w w' g b T N T' N' := ⟨h.os, h.tape, h.output, h.size, h.block, h.movT, h.movN⟩
/-- The pages' call, by what the book says of the name. -/
theorem number_term {w : World} {p g b : Nat} {T N : Value} {D : DataW Unit} {ts ns : List ByteArray} (h : BInv w p g b T N D ts ns) (s : ByteArray) (hs : s.size ≤ 9223372036854775807) (hn : termS s = true) :
    Calls Try.prog 46 #[.pointer (some ⟨g, 0, none⟩), .pointer (some ⟨g, 1, none⟩), .string s] w fun e w' => ∃ n er, e = .returned (.tuple #[.int .i64 n, .int .i64 er]) ∧ ∃ T' D', n = (termF ts ns s).1 ∧ er = (termF ts ns s).2.1 ∧ BInv w' p g b T' N D' (termF ts ns s).2.2 ns ∧ BFr w w' g b T N T' N := by
  have hsm : s.size ≤ maxLen := by unfold maxLen; omega
  cases hf : findS ts ns s with
  | some q =>
    obtain ⟨k, i⟩ := q
    rcases findS_kind hf with rfl | rfl
    · have e : termF ts ns s = (i, 0, ts) := by simp [termF, hn, hf]
      rw [e]
      exact (number_known h.termAt s hsm i hf).mono fun e w' ⟨he, hb⟩ => ⟨_, _, he, T, D, rfl, rfl, h.later hb, BFr.ofBelow hb g b T N⟩
    · have e : termF ts ns s = (0, 6, ts) := by simp [termF, hn, hf]
      rw [e]
      exact (number_twice h.termAt s hsm 2 i hf (by decide)).mono fun e w' ⟨he, hb⟩ => ⟨_, _, he, T, D, rfl, rfl, h.later hb, BFr.ofBelow hb g b T N⟩
  | none =>
    by_cases hl : ts.length = 64
    · have e : termF ts ns s = (0, 31, ts) := by simp [termF, hn, hf, hl]
      rw [e]
      exact (number_full h.termAt s hsm hf hl).mono fun e w' ⟨he, hb⟩ => ⟨_, _, he, T, D, rfl, rfl, h.later hb, BFr.ofBelow hb g b T N⟩
    · have e : termF ts ns s = ((ts.length : Int), 0, ts ++ [s]) := by simp [termF, hn, hf, hl]
      rw [e]
      have := h.tl
      have := h.nl
      refine (number_new h.termAt s (termS_small hn) hf (by omega) (by rw [h.sz]; omega)).mono fun e w' ⟨he, T', k⟩ => ?_
      obtain ⟨h1, h2⟩ := h.newTerm rfl k hf (by omega)
      exact ⟨_, _, he, T', _, rfl, rfl, h1, h2⟩
theorem number_non {w : World} {p g b : Nat} {T N : Value} {D : DataW Unit} {ts ns : List ByteArray} (h : BInv w p g b T N D ts ns) (s : ByteArray) (hs : s.size ≤ 9223372036854775807) (hn : wordS s = true) :
    Calls Try.prog 46 #[.pointer (some ⟨g, 0, none⟩), .pointer (some ⟨g, 5, none⟩), .string s] w fun e w' => ∃ n er, e = .returned (.tuple #[.int .i64 n, .int .i64 er]) ∧ ∃ N' D', n = (nonF ts ns s).1 ∧ er = (nonF ts ns s).2.1 ∧ BInv w' p g b T N' D' ts (nonF ts ns s).2.2 ∧ BFr w w' g b T N T N' := by
  have hsm : s.size ≤ maxLen := by unfold maxLen; omega
  cases hf : findS ts ns s with
  | some q =>
    obtain ⟨k, i⟩ := q
    rcases findS_kind hf with rfl | rfl
    · have e : nonF ts ns s = (0, 6, ns) := by simp [nonF, hn, hf]
      rw [e]
      exact (number_twice h.nonAt s hsm 1 i hf (by decide)).mono fun e w' ⟨he, hb⟩ => ⟨_, _, he, N, D, rfl, rfl, h.later hb, BFr.ofBelow hb g b T N⟩
    · have e : nonF ts ns s = (i, 0, ns) := by simp [nonF, hn, hf]
      rw [e]
      exact (number_known h.nonAt s hsm i hf).mono fun e w' ⟨he, hb⟩ => ⟨_, _, he, N, D, rfl, rfl, h.later hb, BFr.ofBelow hb g b T N⟩
  | none =>
    by_cases hl : ns.length = 64
    · have e : nonF ts ns s = (0, 32, ns) := by simp [nonF, hn, hf, hl]
      rw [e]
      exact (number_full h.nonAt s hsm hf hl).mono fun e w' ⟨he, hb⟩ => ⟨_, _, he, N, D, rfl, rfl, h.later hb, BFr.ofBelow hb g b T N⟩
    · have e : nonF ts ns s = ((ns.length : Int), 0, ns ++ [s]) := by simp [nonF, hn, hf, hl]
      rw [e]
      have := h.tl
      have := h.nl
      refine (number_new h.nonAt s (wordS_small hn) hf (by omega) (by rw [h.sz]; omega)).mono fun e w' ⟨he, N', k⟩ => ?_
      obtain ⟨h1, h2⟩ := h.newNon rfl k hf (by omega)
      exact ⟨_, _, he, N', _, rfl, rfl, h1, h2⟩
set_option maxHeartbeats 1000000 in
theorem term_any {w : World} {p g b : Nat} {T N : Value} {D : DataW Unit} {ts ns : List ByteArray} (h : BInv w p g b T N D ts ns) (s : ByteArray) (hs : s.size ≤ 9223372036854775807) :
    Calls Try.prog 16 #[.pointer (some ⟨p, 0, none⟩), .string s] w fun e w' => ∃ n er, e = .returned (.tuple #[.int .i64 n, .int .i64 er]) ∧ ∃ T' D', n = (termF ts ns s).1 ∧ er = (termF ts ns s).2.1 ∧ BInv w' p g b T' N D' (termF ts ns s).2.2 ns ∧ BFr w w' g b T N T' N := by
  have c0 : w.cell? ⟨p, 0, none⟩ = some (.pointer (some ⟨g, 0, none⟩)) := by rw [cellq_any h.hp]; rfl
  by_cases hn : termS s = true
  · go_enter Try.func16, Try.ntmps16
    go_wp2_with (first | (go_at_call 22; refine (made_any h).mono ?_; rintro e w' ⟨rfl, rfl⟩) | (go_at_call 45; refine (istermname_any s _ hs).mono ?_; rintro e w' ⟨rfl, rfl⟩))
    go_region_with (go_at_call 46; refine (number_term h.drew s hs hn).mono ?_; rintro e w1 ⟨n1, er1, rfl, H⟩)
    all_goals go_wp2
    all_goals go_returns
    all_goals
      obtain ⟨T', D', e1, e2, h1, h2⟩ := H
      exact ⟨n1, er1, rfl, T', D', e1, e2, h1, h2.ofDrew⟩
  · have hn : termS s = false := by simpa using hn
    have e : termF ts ns s = (0, 21, ts) := by simp [termF, hn]
    rw [e]
    go_enter Try.func16, Try.ntmps16
    go_wp2_with (first | (go_at_call 22; refine (made_any h).mono ?_; rintro e w' ⟨rfl, rfl⟩) | (go_at_call 45; refine (istermname_any s _ hs).mono ?_; rintro e w' ⟨rfl, rfl⟩))
    go_returns
    exact ⟨_, _, rfl, T, D, rfl, rfl, h, BFr.refl w g b T N⟩
set_option maxHeartbeats 1000000 in
theorem non_any {w : World} {p g b : Nat} {T N : Value} {D : DataW Unit} {ts ns : List ByteArray} (h : BInv w p g b T N D ts ns) (s : ByteArray) (hs : s.size ≤ 9223372036854775807) :
    Calls Try.prog 17 #[.pointer (some ⟨p, 0, none⟩), .string s] w fun e w' => ∃ n er, e = .returned (.tuple #[.int .i64 n, .int .i64 er]) ∧ ∃ N' D', n = (nonF ts ns s).1 ∧ er = (nonF ts ns s).2.1 ∧ BInv w' p g b T N' D' ts (nonF ts ns s).2.2 ∧ BFr w w' g b T N T N' := by
  have c0 : w.cell? ⟨p, 0, none⟩ = some (.pointer (some ⟨g, 0, none⟩)) := by rw [cellq_any h.hp]; rfl
  by_cases hn : wordS s = true
  · go_enter Try.func17, Try.ntmps17
    go_wp2_with (first | (go_at_call 22; refine (made_any h).mono ?_; rintro e w' ⟨rfl, rfl⟩) | (go_at_call 15; refine (isword_any s _ hs).mono ?_; rintro e w' ⟨rfl, rfl⟩))
    go_region_with (go_at_call 46; refine (number_non h.drew s hs hn).mono ?_; rintro e w1 ⟨n1, er1, rfl, H⟩)
    all_goals go_wp2
    all_goals go_returns
    all_goals
      obtain ⟨N', D', e1, e2, h1, h2⟩ := H
      exact ⟨n1, er1, rfl, N', D', e1, e2, h1, h2.ofDrew⟩
  · have hn : wordS s = false := by simpa using hn
    have e : nonF ts ns s = (0, 21, ns) := by simp [nonF, hn]
    rw [e]
    go_enter Try.func17, Try.ntmps17
    go_wp2_with (first | (go_at_call 22; refine (made_any h).mono ?_; rintro e w' ⟨rfl, rfl⟩) | (go_at_call 15; refine (isword_any s _ hs).mono ?_; rintro e w' ⟨rfl, rfl⟩))
    go_returns
    exact ⟨_, _, rfl, N, D, rfl, rfl, h, BFr.refl w g b T N⟩
end Go.Proofs.Ytfckmbdcfeljiaa
