import Derived.Test.YtgaoahifblifoaaDoorRefR3
import Derived.Test.YtgaoahifblifoaaDoorRText
namespace Go.Proofs.YtgaoahifblifoaaDoor
set_option linter.unusedVariables false
open Go.RowKit

/-- The rest of a walk, in whatever world of which this much is known. -/
theorem wp_at {P : Program} {c : Code} {Q : Exit → Act → World → Prop} {a : Act} {w : World} (I : World → Prop) (h : I w) (k : ∀ w', I w' → Code.wp P c Q a w') : Code.wp P c Q a w := k w h
/-- 'B[end:Pos]', of whatever slice. -/
theorem slice_at (g o N cap lo n : Nat) (h1 : lo + n ≤ N) (h2 : N ≤ cap) :
    ∃ ad c', (∀ w, (Instr.slice 22 (.slice (some ⟨g, o, none⟩) N cap) (some (.int .i64 lo)) (some (.int .i64 ((lo : Int) + n))) none).run Tryd.prog w = .ok (.slice (some ad) n c') w) ∧ ∀ w xs, RowAt w (some ⟨g, o, none⟩) xs → xs.length = N → RowAt w (some ad) ((xs.drop lo).take n) := by
  obtain ⟨i0, hi, _, hz1, _⟩ := info_parts info5
  have hu : Tryd.prog.underlying 22 = some (.slice (Tryd.prog.elem 22)) := by kernel_rfl
  have he : Tryd.prog.elem 22 = 5 := by kernel_rfl
  have hrun : ∀ w : World, (Instr.slice 22 (.slice (some ⟨g, o, none⟩) N cap) (some (.int .i64 lo)) (some (.int .i64 ((lo : Int) + n))) none).run Tryd.prog w = .ok (sliced (some ⟨g, o, none⟩) lo (lo + n) cap 1) w := by
    intro w
    have := run_slice_lh (P := Tryd.prog) (w := w) 22 (some ⟨g, o, none⟩) N cap hu .i64 .i64 lo ((lo : Int) + n) (by omega) (by omega) (by omega)
    rw [this, he]
    have e1 : (lo : Int).toNat = lo := by omega
    have e2 : ((lo : Int) + (n : Int)).toNat = lo + n := by omega
    rw [e1, e2]
    simp [sizeOf, typeInfo, hi, hz1]
  by_cases hcp : cap = lo
  · refine ⟨⟨g, o, none⟩, cap - lo, fun w => by rw [hrun w]; simp [sliced, hcp], fun w xs hr hx => ?_⟩
    obtain rfl : n = 0 := by omega
    simpa using RowAt.nil w (some ⟨g, o, none⟩)
  · refine ⟨⟨g, o + lo, none⟩, cap - lo, fun w => by rw [hrun w]; simp [sliced, hcp, add_none], fun w xs hr hx => ?_⟩
    exact (hr.drop lo).take n
section
variable {w : World} {q : Nat} {ao : Option Addr} {cap : Nat} {xs : List Int} {pos : Nat} {err : Int}
theorem QInv.drewN (h : QInv w q ao cap xs pos err) (n : Nat) : QInv (w.drewN n) q ao cap xs pos err := h.later (below_drewN (Below.refl _ _) n)
set_option maxRecDepth 100000 in
set_option maxHeartbeats 1000000 in
theorem qtext_err (most : Int) (h : QInv w q ao cap xs pos 0) (hm0 : 0 ≤ most) (hm1 : most ≤ 9223372036854775807) (e : Int) (hne : e ≠ 0) (hc : countS xs pos 1 most = (0, 0, e)) :
    Calls Tryd.prog 68 #[.pointer (some ⟨q, 0, none⟩), .int .i64 most] w (QEnds q ao cap xs (.string .empty) pos e w) := by
  rw [countS, if_neg (by omega)] at hc
  obtain ⟨a, b, c, hk⟩ : ∃ a b c, peekS xs pos most = (a, b, c) := ⟨_, _, _, rfl⟩
  have hf := peekS_facts xs h.row.1 pos h.pos_ most a b c hk
  have ht : takeS xs pos 0 most = if c ≠ 0 then (0, pos, c) else (a, pos + b.toNat, 0) := by rw [takeS, if_neg (by simp), hk]
  rw [hk] at hc
  simp only at hc
  have hlim := h.lim
  have hpos := h.pos_
  by_cases z : c = 0
  · subst z
    rw [if_neg (by simp)] at hc ht
    obtain ⟨g1, g2, g3, g4, g5, g6, g7⟩ := hf.2 rfl
    obtain ⟨b, rfl⟩ := Int.eq_ofNat_of_zero_le (show 0 ≤ b by omega)
    have HT : Hid _ := ht
    rw [show (xs.length : Int) - pos - b = xs.length - (pos + b) by omega, Int.ediv_one] at hc
    clear hf g7 ht hk
    by_cases y : (xs.length : Int) - (pos + b) < a
    · rw [if_pos y] at hc; simp at hc; subst hc
      have HNE : Hid ((11 : Int) ≠ 0) := by show _ ≠ _; decide
      go_enter Tryd.func68, Tryd.ntmps68
      go_wp2_with (first
        | (go_at_call 84; refine (qnumber0 most h a (pos + b) 0 HT.out).mono ?_; rintro x w2 ⟨rfl, hq2, ho2⟩; have k0 := hq2.c0; have k1 := hq2.c1; have k2 := hq2.c2; have f1 := hq2.free 1)
        | (go_at_call 85; refine (qfail_ok hq2 11 HNE.out).mono ?_; rintro x w3 ⟨rfl, hq3, ho3⟩))
      go_ret
      exact ⟨rfl, hq3, ho2.trans ho3⟩
    · rw [if_neg y] at hc; simp at hc; exact absurd hc.2.2.symm hne
  · rw [if_pos z] at hc ht
    simp at hc
    subst hc
    have HT : Hid _ := ht
    have zb : (c != 0) = true := by simpa using z
    clear ht hf hk
    go_enter Tryd.func68, Tryd.ntmps68
    go_wp2_with (go_at_call 84; refine (qnumber0 most h 0 pos c HT.out).mono ?_; rintro x w2 ⟨rfl, hq2, ho2⟩; have k2 := hq2.c2)
    go_ret
    exact ⟨rfl, hq2, ho2⟩
set_option maxRecDepth 100000 in
set_option maxHeartbeats 1000000 in
theorem qtext_ok (most : Int) (h : QInv w q ao cap xs pos 0) (hcap : xs.length ≤ cap) (hm0 : 0 ≤ most) (hm1 : most ≤ 9223372036854775807) (n s : Nat) (hc : countS xs pos 1 most = ((n : Int), (s : Int), 0)) :
    Calls Tryd.prog 68 #[.pointer (some ⟨q, 0, none⟩), .int .i64 most] w (QEnds q ao cap xs (.string (toStr ((xs.drop (pos + s)).take n))) (pos + s + n) 0 w) := by
  obtain ⟨_, f2⟩ := countS_facts xs h.row.1 pos h.pos_ 1 most n s 0 hc
  obtain ⟨g0, g1, g2, g3, g4, g5, g6, g7⟩ := f2 rfl
  have hspos : 0 < s := by omega
  have hq : pos + s + n ≤ xs.length := by simp at g6; omega
  have hlim := h.lim
  have hpos := h.pos_
  have ht : takeS xs pos 0 most = ((n : Int), pos + s, 0) := by
    rw [countS, if_neg (by omega)] at hc
    obtain ⟨a, b, c, hk⟩ : ∃ a b c, peekS xs pos most = (a, b, c) := ⟨_, _, _, rfl⟩
    rw [hk] at hc
    rw [takeS, if_neg (by simp), hk]
    simp only at hc
    by_cases z : c = 0
    · subst z
      rw [if_neg (by simp)] at hc
      rw [if_neg (by simp)]
      split at hc
      · simp at hc
      · simp at hc
        obtain ⟨rfl, rfl⟩ := hc
        simp
    · rw [if_pos z] at hc; simp at hc; exact absurd hc.2.2 z
  have HT : Hid _ := ht
  obtain ⟨bb, off, hao, _⟩ := h.row.2 (fun e' => by subst e'; simp at hq; omega)
  subst hao
  have hle : ¬ ((xs.length : Int) - (pos + s) < n) := by omega
  have hnb : (n : Int) ≤ 140737488355328 := by omega
  clear f2 g0 g1 g2 g3 g4 g5 g6 g7 hc ht
  go_enter Tryd.func68, Tryd.ntmps68
  go_wp2_with (go_at_call 84; refine (qnumber0 most h n (pos + s) 0 HT.out).mono ?_; rintro x w2 ⟨rfl, hq2, ho2⟩; have k0 := hq2.c0; have k1 := hq2.c1; have k2 := hq2.c2; have f1 := hq2.free 1)
  have hx4 := hq2.moved (pos + s + n) hq (fun e => absurd rfl e)
  have hO4 := ho2.trans (ROnly.set w2 q 1 (.int .i64 ((pos + s + n : Nat) : Int)))
  refine wp_at (fun W => QInv W q (some ⟨bb, off, none⟩) cap xs (pos + s + n) 0 ∧ ROnly w W q) ?_ ?_
  · constructor
    · simpa using hx4
    · simpa using hO4
  clear hx4 hO4 hq2 ho2 k0 k1 k2 f1
  rintro W ⟨hW, hO⟩
  obtain ⟨ad, c', hsl, hrow⟩ := slice_at bb off xs.length cap (pos + s) n (by omega) hcap
  rw [Int.natCast_add] at hsl
  have hrw := fun m => hrow (W.drewN m) xs (hW.drewN m).row rfl
  have hzl : ((xs.drop (pos + s)).take n).length = n := by simp; omega
  have hcv := fun m => conv_str (W.drewN m) ad c' _ (hrw m)
  rw [hzl] at hcv
  have k0 := hW.c0
  have k1 := hW.c1
  rw [Int.natCast_add, Int.natCast_add] at k1
  generalize toStr ((xs.drop (pos + s)).take n) = str at *
  clear hrow hrw hzl
  go_quiet (fail)
  go_wp2
  go_ret
  exact ⟨rfl, hW.drewN _, hO.trans (ROnly.ofBelow (below_drewN (Below.refl _ _) _))⟩
end
end Go.Proofs.YtgaoahifblifoaaDoor
