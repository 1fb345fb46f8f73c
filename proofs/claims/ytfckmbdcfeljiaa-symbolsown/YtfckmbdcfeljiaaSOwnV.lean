import Derived.Test.YtfckmbdcfeljiaaKCall
import Derived.Test.YtfckmbdcfeljiaaKNo
import Derived.Test.YtfckmbdcfeljiaaSReadG
import Derived.Test.YtfckmbdcfeljiaaSPair
import Derived.Test.YtfckmbdcfeljiaaSWorks
namespace Go.Proofs.Ytfckmbdcfeljiaa
set_option linter.unusedVariables false
open Go.RowKit Go.Maps


def kt : KT := ⟨fun i => if i = 2 then 9 else 70, fun i => if i = 2 then 1 else 2, fun i => if i = 2 then 23 else 46⟩
theorem kt_ok : kt.Ok := by
  refine ⟨fun i => ?_, fun i => ?_, fun i j => ?_⟩
  · unfold kt; simp only; split <;> decide
  · unfold kt; simp only; split <;> decide
  · unfold kt; simp only; split <;> split <;> decide
/-- What the book holds, call by call: at most m2 lists of names, m4 of symbols. -/
structure KR (B : Nat) (w0 : World) (m2 m4 : Nat) (wr : World) (V : Nat → Value) (E : Nat → List LE) : Prop where
  k : KI kt B wr B V E
  b : Below B w0 wr
  no : ∀ i, i ≠ 2 → i ≠ 4 → E i = []
  l2 : (E 2).length ≤ m2
  l4 : (E 4).length ≤ m4
  n2 : ∀ e ∈ E 2, e.n ≤ 100000000
  n4 : ∀ e ∈ E 4, e.n ≤ 100000000
section
variable {B m2 m4 : Nat} {w0 wr w' : World} {V : Nat → Value} {E : Nat → List LE}
theorem KR.later (h : KR B w0 m2 m4 wr V E) (hb : Below wr.heap.size wr w') : KR B w0 m2 m4 w' V E := ⟨h.k.later hb, h.b.trans (hb.mono h.k.size), h.no, h.l2, h.l4, h.n2, h.n4⟩
theorem KR.fresh (h : KR B w0 m2 m4 wr V E) {v : Value} (hv : ∀ k, v.ownBlock = some k → wr.heap.size ≤ k) (i : Nat) : ∀ k, v.ownBlock = some k → B ≤ k ∧ ∀ x ∈ E i, x.g ≠ k := fun k hk => by
  have h1 := hv k hk
  refine ⟨Nat.le_trans h.k.size h1, fun x hx e => ?_⟩
  have := h.k.lt i x hx
  omega
theorem kr_syms (h : KR B w0 m2 m4 wr V E) (hm : m4 ≤ 1000) {a : Option Addr} {c : Nat} {L : List (Int × Int)} (ho : SY wr (.slice a L.length c) L) (hf : ∀ k, (Value.slice a L.length c).ownBlock = some k → B ≤ k ∧ ∀ x ∈ E 4, x.g ≠ k) (hn : L.length ≤ 100000000) :
    Calls Try.prog 8 #[.pointer (some ⟨B, 0, none⟩), .slice a L.length c] wr fun e w' => e = .returned (.tuple #[]) ∧ ∃ V' E', KR B w0 m2 (m4 + 1) w' V' E' := by
  refine (book_syms kt kt_ok B B V E wr a L.length c (symCells L) h.k ⟨rfl, rfl, rfl⟩ ho hf (by have := h.l4; omega)).mono ?_
  rintro e w' ⟨rfl, V', E', hK, hE, hE4, hb⟩
  have e2 : E' 2 = E 2 := hE 2 (by decide)
  refine ⟨rfl, V', E', hK, h.b.trans hb, fun i h2 h4 => by rw [hE i h4]; exact h.no i h2 h4, by rw [e2]; exact h.l2, ?_, by rw [e2]; exact h.n2, ?_⟩
  · rcases hE4 with r | ⟨g, r⟩
    · rw [r]; have := h.l4; omega
    · rw [r]; have := h.l4; simp; omega
  · rcases hE4 with r | ⟨g, r⟩
    · rw [r]; exact h.n4
    · rw [r]
      intro x hx
      rcases List.mem_append.1 hx with y | y
      · exact h.n4 x y
      · simp at y; subst y; exact hn
theorem kr_strings (h : KR B w0 m2 m4 wr V E) (hm : m2 ≤ 1000) {a : Option Addr} {n c : Nat} {L : List ByteArray} (ho : GS wr (.slice a n c) L) (hf : ∀ k, (Value.slice a n c).ownBlock = some k → B ≤ k ∧ ∀ x ∈ E 2, x.g ≠ k) (hn : L.length ≤ 100000000) :
    Calls Try.prog 9 #[.pointer (some ⟨B, 0, none⟩), .slice a n c] wr fun e w' => e = .returned (.tuple #[]) ∧ ∃ V' E', KR B w0 (m2 + 1) m4 w' V' E' := by
  obtain ⟨a', c', e'⟩ := gs_len ho
  simp only [Value.slice.injEq] at e'
  obtain ⟨rfl, rfl, rfl⟩ := e'
  refine (book_strings kt kt_ok B B V E wr a L.length c (L.map Value.string) h.k ⟨rfl, rfl, rfl⟩ ho hf (by have := h.l2; omega)).mono ?_
  rintro e w' ⟨rfl, V', E', hK, hE, hE2, hb⟩
  have e4 : E' 4 = E 4 := hE 4 (by decide)
  refine ⟨rfl, V', E', hK, h.b.trans hb, fun i h2 h4 => by rw [hE i h2]; exact h.no i h2 h4, ?_, by rw [e4]; exact h.l4, ?_, by rw [e4]; exact h.n4⟩
  · rcases hE2 with r | ⟨g, r⟩
    · rw [r]; have := h.l2; omega
    · rw [r]; have := h.l2; simp; omega
  · rcases hE2 with r | ⟨g, r⟩
    · rw [r]; exact h.n2
    · rw [r]
      intro x hx
      rcases List.mem_append.1 hx with y | y
      · exact h.n2 x y
      · simp at y; subst y; exact hn
theorem kr_apart (h : KR B w0 m2 m4 wr V E) (h2 : m2 ≤ 1000) (h4 : m4 ≤ 1000) :
    Calls Try.prog 12 #[.pointer (some ⟨B, 0, none⟩)] wr fun e w' => e = .returned (.bool true) ∧ Below B w0 w' :=
  (book_apart kt kt_ok B B V E wr h.k ⟨rfl, rfl, rfl⟩ ⟨rfl, rfl, rfl⟩ h.no (by have := h.l2; omega) (by have := h.l4; omega) h.n2 h.n4).mono fun e w' ⟨he, hb⟩ => ⟨he, h.b.trans hb⟩
theorem kr_new (w : World) : KR w.heap.size w 0 0 (w.alloc (.cells #[kNil, kNil, kNil, kNil, kNil, kNil, kNil, kNil, kNil, kNil, kNil, kNil, kNil, kNil, kNil, kNil] 45)) (fun _ => kNil) (fun _ => []) :=
  ⟨knew kt w, below_alloc w _, fun _ _ _ => rfl, Nat.le_refl _, Nat.le_refl _, fun e he => (by cases he), fun e he => (by cases he)⟩
end
set_option maxRecDepth 100000 in
set_option maxHeartbeats 4000000 in
theorem symown_walk (a0 a1 a2 : Option Addr) (c0 c1 c2 M0 M1 M2 : Nat) (l : List OpV) (ts ns : List ByteArray) (s : ByteArray) (w : World) (hl' : l.length ≤ 140737488355328) (h0 : M0 = l.length ∧ OpsAt w a0 l) (h1 : M1 = ts.length) (h2 : M2 = ns.length) (ht : StrRow w a1 ts) (hn : StrRow w a2 ns) (k1 : ts.length ≤ 1048576) (k2 : ns.length ≤ 1048576) (z1 : ∀ s ∈ ts, s.size ≤ maxLen) (z2 : ∀ s ∈ ns, s.size ≤ maxLen) (hs : s.size ≤ 1048576) :
    Calls Try.prog 3 #[.slice a0 M0 c0, .slice a1 M1 c1, .slice a2 M2 c2, .string s] w fun e w' => e = .returned (.bool true) ∧ Below w.heap.size w w' := by
  obtain ⟨rfl, ho'⟩ := h0
  subst h1 h2
  have ho : Hid (OpsAt w a0 l) := ho'
  have hl : Hid (l.length ≤ 140737488355328) := hl'
  obtain ⟨bt, bn, HQ⟩ : ∃ bt bn, Hid (playF ([], []) l = (bt, bn)) := ⟨_, _, rfl⟩
  obtain ⟨L, er, at_, HR⟩ : ∃ L er at_, Hid (rd (known ts ns) s.data.toList 0 [] = (L, er, at_)) := ⟨_, _, _, rfl⟩
  have HT : Hid (StrRow w a1 ts ∧ StrRow w a2 ns ∧ ts.length ≤ 1048576 ∧ ns.length ≤ 1048576 ∧ (∀ s ∈ ts, s.size ≤ maxLen) ∧ (∀ s ∈ ns, s.size ≤ maxLen) ∧ s.size ≤ 1048576) := ⟨ht, hn, k1, k2, z1, z2, hs⟩
  clear ho' hl' ht hn k1 k2 z1 z2 hs
  have GD1 : Hid True := trivial
  go_enter Try.func3, Try.ntmps3
  go_wp2_with (first
    | (go_at_call 4; refine (works_any _).mono ?_; rintro e w1 ⟨rfl, hb1⟩)
    | (go_at_call 5; guard_hyp GD1 : Hid True; clear GD1; refine (new_any _).mono ?_; rintro e w2 ⟨p, g, b, D, rfl, hI, hp, hg, hb, hb2⟩; obtain ⟨O2, B2⟩ := One.new hb1 hb1.size hI hp hg hb hb2; clear hI hb2 hp hg hb hb1)
    | (go_at_call 5; refine (new_any _).mono ?_; rintro e w3 ⟨p', g', b', D', rfl, hI, hp, hg, hb, hb3⟩; have P3 := Pr.new (q1 := ([], [])) O2 hI hp hg hb hb3; have B3 := B2.trans (hb3.mono O2.lo.2.2.2); clear hI hb3 hp hg hb B2 O2)
    | (go_at_call 6; refine (play_pr P3 a0 c0 l hl.out (P3.a.ops B3 (Nat.le_refl _) ho.out) HQ.out).mono ?_; rintro e w4 ⟨rfl, T4, N4, D4, P4', b4⟩; have P4 : Hid (Pr w.heap.size w4 p g b T4 N4 D4 (bt, bn) p' g' b' (.slice none 0 0) (.slice none 0 0) D' ([], [])) := P4'; have B4 : Hid (Below w.heap.size w w4) := B3.trans b4; clear P4' b4 B3 P3))
  have K0 : Hid (KR w4.heap.size w4 (2 * 0) 0 (w4.alloc (.cells #[kNil, kNil, kNil, kNil, kNil, kNil, kNil, kNil, kNil, kNil, kNil, kNil, kNil, kNil, kNil, kNil] 45)) (fun _ => kNil) (fun _ => [])) := kr_new w4
  go_loopw [12] (fun i wr => ∃ (j : Nat) (V : Nat → Value) (E : Nat → List LE), i = .int .i64 j ∧ j ≤ 2 ∧ KR w4.heap.size w4 (2 * j) j wr V E) (fun i _ => 2 - (intOf i).toNat)
  case atStart => exact ⟨0, _, _, rfl, by omega, K0.out⟩
  case round =>
    clear K0
    obtain ⟨j, V, E, rfl, hj, hK'⟩ := hrel
    have hK : Hid (KR w4.heap.size w4 (2 * j) j wr V E) := hK'
    clear hK'
    by_cases hlt : j < 2
    · have GD2 : Hid True := trivial
      have HA : Hid (∀ w', Below w4.heap.size w4 w' → StrRow w' a1 ts ∧ StrRow w' a2 ns ∧ BInv w' p g b T4 N4 D4 bt bn) := fun w' hb => by
        have hb' : Below w.heap.size w w' := B4.out.trans (hb.mono B4.out.size)
        exact ⟨HT.out.1.later hb', HT.out.2.1.later hb', P4.out.a.bk.later hb⟩
      go_wp2_with (first
        | (go_at_call 7; refine (readG_own a1 a2 c1 c2 ts ns s wr HT.out.2.2.1 HT.out.2.2.2.1 HT.out.2.2.2.2.1 HT.out.2.2.2.2.2.1 (HA.out wr hK.out.b).1 (HA.out wr hK.out.b).2.1 HT.out.2.2.2.2.2.2 L er at_ HR.out).mono ?_; rintro e wa ⟨xa, xc, rfl, hSY', hba, hfr', hLn'⟩; have hKa : Hid (KR w4.heap.size w4 (2 * j) j wa V E) := hK.out.later hba; have hSY : Hid (SY wa (.slice xa L.length xc) L) := hSY'; have hfr : Hid _ := hK.out.fresh hfr' 4; have hLn : Hid (L.length ≤ 100000000) := (by have := HT.out.2.2.2.2.2.2; show _ ≤ _; omega); clear hSY' hfr' hba hLn')
        | (go_at_call 8; refine (kr_syms hKa.out (by omega) hSY.out hfr.out hLn.out).mono ?_; rintro e wb ⟨rfl, Vb, Eb, hKb'⟩; have hKb : Hid (KR w4.heap.size w4 (2 * j) (j + 1) wb Vb Eb) := hKb'; clear hKb')
        | (go_at_call 10; refine (terms_any (HA.out wb hKb.out.b).2.2).mono ?_; rintro e wc ⟨ya, yn, yc, rfl, hG', hf', hbc⟩; have hKc : Hid (KR w4.heap.size w4 (2 * j) (j + 1) wc Vb Eb) := hKb.out.later hbc; have hG : Hid (GS wc (.slice ya yn yc) bt) := hG'; have hf : Hid _ := hKb.out.fresh hf' 2; clear hG' hf' hbc)
        | (go_at_call 9; guard_hyp GD2 : Hid True; clear GD2; refine (kr_strings hKc.out (by omega) hG.out hf.out (by have := P4.out.a.bk.tl; simp only at this; omega)).mono ?_; rintro e wd ⟨rfl, Vd, Ed, hKd'⟩; have hKd : Hid (KR w4.heap.size w4 (2 * j + 1) (j + 1) wd Vd Ed) := hKd'; clear hKd')
        | (go_at_call 11; refine (nons_any (HA.out wd hKd.out.b).2.2).mono ?_; rintro e we ⟨ua, un, uc, rfl, hG', hf', hbc⟩; have hKe : Hid (KR w4.heap.size w4 (2 * j + 1) (j + 1) we Vd Ed) := hKd.out.later hbc; have hG2 : Hid (GS we (.slice ua un uc) bn) := hG'; have hf2 : Hid _ := hKd.out.fresh hf' 2; clear hG' hf' hbc)
        | (go_at_call 9; refine (kr_strings hKe.out (by omega) hG2.out hf2.out (by have := P4.out.a.bk.nl; simp only at this; omega)).mono ?_; rintro e wf ⟨rfl, Vf, Ef, hKf'⟩; have hKf : Hid (KR w4.heap.size w4 (2 * j + 1 + 1) (j + 1) wf Vf Ef) := hKf'; clear hKf'))
      go_roundw
      case rel => exact ⟨j + 1, Vf, Ef, by go_num, by omega, hKf.out⟩
      case measure => simp [intOf]; omega
    · obtain rfl : j = 2 := by omega
      have GD1 : Hid True := trivial
      have GD2 : Hid True := trivial
      have GD3 : Hid True := trivial
      have GD4 : Hid True := trivial
      have GD5 : Hid True := trivial
      have GD6 : Hid True := trivial
      have GD7 : Hid True := trivial
      go_wp2_with (first
        | (go_at_call 12; refine (kr_apart hK.out (by omega) (by omega)).mono ?_; rintro e w5 ⟨rfl, b5'⟩; have P5 : Hid (Pr w.heap.size w5 p g b T4 N4 D4 (bt, bn) p' g' b' (.slice none 0 0) (.slice none 0 0) D' ([], [])) := P4.out.later b5'; have B5 : Hid (Below w.heap.size w w5) := B4.out.trans (b5'.mono B4.out.size); clear b5')
        | (go_at_call 10; guard_hyp GD1 : Hid True; clear GD1; refine (terms_at P5.out.c.bk).mono ?_; rintro e w6 ⟨t6a, t6c, rfl, _, b6⟩; have P6 : Hid (Pr w.heap.size w6 p g b T4 N4 D4 (bt, bn) p' g' b' (.slice none 0 0) (.slice none 0 0) D' ([], [])) := P5.out.later b6; have B6 : Hid (Below w.heap.size w w6) := B5.out.trans (b6.mono B5.out.size); clear b6)
        | (go_at_call 11; guard_hyp GD2 : Hid True; clear GD2; refine (nons_at P6.out.c.bk).mono ?_; rintro e w7 ⟨t7a, t7c, rfl, _, b7⟩; have O7 : Hid (One w.heap.size w7 p g b T4 N4 D4 bt bn) := P6.out.a.later b7; have B7 : Hid (Below w.heap.size w w7) := B6.out.trans (b7.mono B6.out.size); clear b7)
        | (go_at_call 5; refine (new_any _).mono ?_; rintro e w8 ⟨p8, g8, b8, D8, rfl, hI, hp, hg, hb, hb8⟩; have P8 : Hid (Pr w.heap.size w8 p g b T4 N4 D4 (bt, bn) p8 g8 b8 (.slice none 0 0) (.slice none 0 0) D8 ([], [])) := Pr.new (q1 := (bt, bn)) O7.out hI hp hg hb hb8; have B8 : Hid (Below w.heap.size w w8) := B7.out.trans (hb8.mono O7.out.lo.2.2.2); clear hI hb8 hp hg hb)
        | (go_at_call 6; refine (play_pr P8.out.swap a0 c0 l hl.out (P8.out.c.ops B8.out (Nat.le_refl _) ho.out) HQ.out).mono ?_; rintro e w9 ⟨rfl, T9, N9, D9, P9', b9⟩; have P9 : Hid (Pr w.heap.size (w9.alloc (.cells #[.pointer none] 55)) p g b T4 N4 D4 (bt, bn) p8 g8 b8 T9 N9 D9 (bt, bn)) := P9'.swap.later (below_alloc w9 _); have B9 : Hid (Below w.heap.size w (w9.alloc (.cells #[.pointer none] 55))) := (B8.out.trans b9).trans ((below_alloc w9 _).mono (B8.out.trans b9).size); have Z9 : Hid (NoBook (w9.alloc (.cells #[.pointer none] 55)) (.pointer (some ⟨w9.heap.size, 0, none⟩))) := .inr ⟨_, rfl, heap_alloc_new w9 _⟩; clear P9' b9)
        | (go_at_call 10; guard_hyp GD3 : Hid True; clear GD3; refine (terms_at P9.out.a.bk).mono ?_; rintro e u1 ⟨x1, y1, rfl, G1', c1'⟩; have G1 : Hid (StrRow u1 x1 bt) := G1'.row.2.1; have Q1 : Hid (Pr w.heap.size u1 p g b T4 N4 D4 (bt, bn) p8 g8 b8 T9 N9 D9 (bt, bn)) := P9.out.later c1'; have C1 : Hid (Below w.heap.size w u1) := B9.out.trans (c1'.mono B9.out.size); have Z1 : Hid (NoBook u1 (.pointer (some ⟨w9.heap.size, 0, none⟩))) := Z9.out.later c1'; clear G1' c1')
        | (go_at_call 10; guard_hyp GD4 : Hid True; clear GD4; refine (terms_at Q1.out.c.bk).mono ?_; rintro e u2 ⟨x2, y2, rfl, G2', c2'⟩; have G2 : Hid (StrRow u2 x2 bt) := G2'.row.2.1; have G1b : Hid (StrRow u2 x1 bt) := G1.out.later c2'; have Q2 : Hid (Pr w.heap.size u2 p g b T4 N4 D4 (bt, bn) p8 g8 b8 T9 N9 D9 (bt, bn)) := Q1.out.later c2'; have C2 : Hid (Below w.heap.size w u2) := C1.out.trans (c2'.mono C1.out.size); have Z2 : Hid (NoBook u2 (.pointer (some ⟨w9.heap.size, 0, none⟩))) := Z1.out.later c2'; clear G2' c2')
        | (go_at_call 13; guard_hyp GD5 : Hid True; clear GD5; refine (samestrs_eq x1 x2 _ _ y1 y2 bt u2 rfl rfl (by have := P4.out.a.bk.tl; simp only at this; omega) G1b.out G2.out).mono ?_; rintro e u3 ⟨rfl, c3'⟩; have Q3 : Hid (Pr w.heap.size u3 p g b T4 N4 D4 (bt, bn) p8 g8 b8 T9 N9 D9 (bt, bn)) := Q2.out.later c3'; have C3 : Hid (Below w.heap.size w u3) := C2.out.trans (c3'.mono C2.out.size); have Z3 : Hid (NoBook u3 (.pointer (some ⟨w9.heap.size, 0, none⟩))) := Z2.out.later c3'; clear c3')
        | (go_at_call 11; guard_hyp GD6 : Hid True; clear GD6; refine (nons_at Q3.out.a.bk).mono ?_; rintro e u4 ⟨x4, y4, rfl, G4', c4'⟩; have G4 : Hid (StrRow u4 x4 bn) := G4'.row.2.1; have Q4 : Hid (Pr w.heap.size u4 p g b T4 N4 D4 (bt, bn) p8 g8 b8 T9 N9 D9 (bt, bn)) := Q3.out.later c4'; have C4 : Hid (Below w.heap.size w u4) := C3.out.trans (c4'.mono C3.out.size); have Z4 : Hid (NoBook u4 (.pointer (some ⟨w9.heap.size, 0, none⟩))) := Z3.out.later c4'; clear G4' c4')
        | (go_at_call 11; refine (nons_at Q4.out.c.bk).mono ?_; rintro e u5 ⟨x5, y5, rfl, G5', c5'⟩; have G5 : Hid (StrRow u5 x5 bn) := G5'.row.2.1; have G4b : Hid (StrRow u5 x4 bn) := G4.out.later c5'; have C5 : Hid (Below w.heap.size w u5) := C4.out.trans (c5'.mono C4.out.size); have Z5 : Hid (NoBook u5 (.pointer (some ⟨w9.heap.size, 0, none⟩))) := Z4.out.later c5'; clear G5' c5')
        | (go_at_call 13; refine (samestrs_eq x4 x5 _ _ y4 y5 bn u5 rfl rfl (by have := P4.out.a.bk.nl; simp only at this; omega) G4b.out G5.out).mono ?_; rintro e u6 ⟨rfl, c6'⟩; have C6 : Hid (Below w.heap.size w u6) := C5.out.trans (c6'.mono C5.out.size); have Z6 : Hid (NoBook u6 (.pointer (some ⟨w9.heap.size, 0, none⟩))) := Z5.out.later c6'; clear c6')
        | (go_at_call 14; guard_hyp GD7 : Hid True; clear GD7; refine (nothing_nob (w := u6) (v := .pointer none) (.inl rfl)).mono ?_; rintro e u7 ⟨rfl, c7'⟩; have C7 : Hid (Below w.heap.size w u7) := C6.out.trans (c7'.mono C6.out.size); have Z7 : Hid (NoBook u7 (.pointer (some ⟨w9.heap.size, 0, none⟩))) := Z6.out.later c7'; clear c7')
        | (go_at_call 14; refine (nothing_nob Z7.out).mono ?_; rintro e u8 ⟨rfl, c8'⟩; have C8 : Hid (Below w.heap.size w u8) := C7.out.trans (c8'.mono C7.out.size); clear c8'))
      go_ret
      exact ⟨rfl, C8.out⟩
end Go.Proofs.Ytfckmbdcfeljiaa
