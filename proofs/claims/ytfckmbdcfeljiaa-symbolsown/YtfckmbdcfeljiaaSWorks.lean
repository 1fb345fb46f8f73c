import Derived.Test.YtfckmbdcfeljiaaSCall
namespace Go.Proofs.Ytfckmbdcfeljiaa
set_option linter.unusedVariables false
open Go.RowKit Go.Maps

theorem num_any (x : Int) (w : World) : Calls Try.prog 18 #[.int .i64 x] w fun e w' => e = .returned (.int .i64 x) ∧ w = w' := by
  go_enter Try.func18, Try.ntmps18
  go_wp2
  go_ret
  exact ⟨rfl, rfl⟩
def bx : ByteArray := ⟨#[120]⟩
def by_ : ByteArray := ⟨#[121]⟩
theorem word_a1 : wordS ⟨#[97, 95, 49]⟩ = true := by decide +kernel
theorem word_1a : wordS ⟨#[49, 97]⟩ = false := by decide +kernel
theorem isword_a1 (w : World) : Calls Try.prog 15 #[.string ⟨#[97, 95, 49]⟩] w fun e w' => e = .returned (.bool true) ∧ w = w' := by
  have h := isword_any ⟨#[97, 95, 49]⟩ w (by decide)
  rw [word_a1] at h
  exact h
theorem isword_1a (w : World) : Calls Try.prog 15 #[.string ⟨#[49, 97]⟩] w fun e w' => e = .returned (.bool false) ∧ w = w' := by
  have h := isword_any ⟨#[49, 97]⟩ w (by decide)
  rw [word_1a] at h
  exact h
theorem term_at {w : World} {p g b : Nat} {T N : Value} {D : DataW Unit} {ts ns : List ByteArray} {n er : Int} {ts' : List ByteArray} (h : BInv w p g b T N D ts ns) (s : ByteArray) (hs : s.size ≤ 9223372036854775807) (hF : termF ts ns s = (n, er, ts')) :
    Calls Try.prog 16 #[.pointer (some ⟨p, 0, none⟩), .string s] w fun e w' => e = .returned (.tuple #[.int .i64 n, .int .i64 er]) ∧ ∃ T' D', BInv w' p g b T' N D' ts' ns ∧ BFr w w' g b T N T' N := by
  refine (term_any h s hs).mono fun e w' ⟨n1, er1, he, T', D', e1, e2, h1, h2⟩ => ?_
  rw [hF] at e1 e2 h1
  simp only at e1 e2
  subst e1 e2
  exact ⟨he, T', D', h1, h2⟩
theorem non_at {w : World} {p g b : Nat} {T N : Value} {D : DataW Unit} {ts ns : List ByteArray} {n er : Int} {ns' : List ByteArray} (h : BInv w p g b T N D ts ns) (s : ByteArray) (hs : s.size ≤ 9223372036854775807) (hF : nonF ts ns s = (n, er, ns')) :
    Calls Try.prog 17 #[.pointer (some ⟨p, 0, none⟩), .string s] w fun e w' => e = .returned (.tuple #[.int .i64 n, .int .i64 er]) ∧ ∃ N' D', BInv w' p g b T N' D' ts ns' ∧ BFr w w' g b T N T N' := by
  refine (non_any h s hs).mono fun e w' ⟨n1, er1, he, T', D', e1, e2, h1, h2⟩ => ?_
  rw [hF] at e1 e2 h1
  simp only at e1 e2
  subst e1 e2
  exact ⟨he, T', D', h1, h2⟩
theorem t1 : termF [] [] ⟨#[120]⟩ = (0, 0, [bx]) := by decide +kernel
theorem t2 : termF [bx] [] ⟨#[121]⟩ = (1, 0, [bx, by_]) := by decide +kernel
theorem t3 : nonF [bx, by_] [] ⟨#[120]⟩ = (0, 6, []) := by decide +kernel
set_option maxHeartbeats 1000000 in
theorem works_any (w : World) : Calls Try.prog 4 #[] w fun e w' => e = .returned (.bool true) ∧ Below w.heap.size w w' := by
  have s1 : (⟨#[120]⟩ : ByteArray).size ≤ 9223372036854775807 := by decide
  have s2 : (⟨#[121]⟩ : ByteArray).size ≤ 9223372036854775807 := by decide
  go_enter Try.func4, Try.ntmps4
  go_wp2_with (first
    | (go_at_call 5; refine (new_any _).mono ?_; rintro e w1 ⟨p, g, b, D, rfl, hI1, hp, hg, hb, hB1⟩)
    | (go_at_call 15; (with_reducible refine (isword_a1 _).mono ?_); rintro e w' ⟨rfl, rfl⟩)
    | (go_at_call 15; (with_reducible refine (isword_1a _).mono ?_); rintro e w' ⟨rfl, rfl⟩)
    | (go_at_call 16; (with_reducible refine (term_at hI1 _ s1 t1).mono ?_); rintro e w2 ⟨rfl, T2, D2, hI2, hF2⟩)
    | (go_at_call 16; (with_reducible refine (term_at hI2 _ s2 t2).mono ?_); rintro e w3 ⟨rfl, T3, D3, hI3, hF3⟩)
    | (go_at_call 17; (with_reducible refine (non_at hI3 _ s1 t3).mono ?_); rintro e w4 ⟨rfl, N4, D4, hI4, hF4⟩)
    | (go_at_call 18; refine (num_any _ _).mono ?_; rintro e w' ⟨rfl, rfl⟩))
  go_ret
  refine ⟨rfl, hB1.trans ?_⟩
  have k := (hF2.trans hF3).trans hF4
  exact k.below hB1.size hg hb (fun k e => by simp [Value.ownBlock] at e) (fun k e => by simp [Value.ownBlock] at e)
end Go.Proofs.Ytfckmbdcfeljiaa
