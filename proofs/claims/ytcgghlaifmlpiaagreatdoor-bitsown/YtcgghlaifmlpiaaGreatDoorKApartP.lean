import Derived.Test.YtcgghlaifmlpiaaGreatDoorKApartF
import Derived.Test.YtcgghlaifmlpiaaGreatDoorKPr2
namespace Go.Proofs.YtcgghlaifmlpiaaGreatDoor
set_option linter.unusedVariables false
open Go.RowKit Go.Maps

set_option maxHeartbeats 1000000 in
theorem book_pairsF (T : KT) (hT : T.Ok) (B q : Nat) (V : Nat → Value) (E : Nat → List LE) (w : World) (a : Option Addr) (n c : Nat) (X : List Value) (hK : KI T B w q V E) (ht : T.te 8 = 82 ∧ T.sz 8 = 2 ∧ T.tl 8 = 22) (hX : n ≠ 0 → w.ownsRow 0 82 2 (.slice a n c) n X) (hlo : n ≠ 0 → ∀ k, (Value.slice a n c).ownBlock = some k → B ≤ k ∧ ∀ x ∈ E 8, x.g ≠ k) (hlen : (E 8).length ≤ 100000000) :
    Calls Tryz.prog 24 #[.pointer (some ⟨q, 0, none⟩), .slice a n c] w fun e w' => e = .returned (.tuple #[]) ∧ ∃ V' E', KI T B w' q V' E' ∧ (∀ i, i ≠ 8 → E' i = E i) ∧ (E' 8 = E 8 ∨ ∃ g, a = some ⟨g, 0, none⟩ ∧ n ≠ 0 ∧ E' 8 = E 8 ++ [⟨g, n, c⟩]) ∧ Below B w w' ∧ KZ q w V w' V' := by
  by_cases h0 : n = 0
  · subst h0
    have HK : Hid (KI T B w q V E) := hK
    clear hK hX hlo
    go_enter Tryz.func24, Tryz.ntmps24
    go_wp2
    go_end0
    exact ⟨rfl, V, E, HK.out, fun _ _ => rfl, .inl rfl, Below.refl _ _, KZ.refl _ _ _⟩
  · obtain ⟨g, rfl⟩ : ∃ g, a = some ⟨g, 0, none⟩ := by
      rcases (hX h0).2 with ⟨e, h⟩ | ⟨g, cap, cur, e, _⟩
      · exact absurd h h0
      · simp only [Value.slice.injEq] at e
        exact ⟨g, e.1⟩
    have HK : Hid (KI T B (w.alloc (.cells #[.slice (some ⟨g, 0, none⟩) n c] 22)) q V E) := hK.later (below_alloc w _)
    have HX : Hid ((w.alloc (.cells #[.slice (some ⟨g, 0, none⟩) n c] 22)).ownsRow 0 82 2 (LE.mk g n c).v n X) := row_later (hX h0) (below_alloc w _)
    have HSZ : Hid (B ≤ w.heap.size) := hK.size
    have HO : Hid (B ≤ g ∧ ∀ x ∈ E 8, x.g ≠ g) := hlo h0 g rfl
    have c0 := hK.cell (i := 8) (by omega)
    have R : Hid (HL 22 (w.alloc (.cells #[.slice (some ⟨g, 0, none⟩) n c] 22)) (V 8) ((E 8).map LE.v)) := by have := HK.out.row 8; rw [ht.2.2] at this; exact this
    have AF : Hid (∀ w5 L5, Grew (w.alloc (.cells #[.slice (some ⟨g, 0, none⟩) n c] 22)) w5 (V 8) L5 → w5.cell? ⟨q, 8, none⟩ = some (V 8) ∧ w5.frozen? ⟨q, 8, none⟩ = false) := fun w5 L5 hg => by
      have b := (hg.grown.block q (lt_of_block HK.out.hq) (HK.out.ne hT 8)).trans HK.out.hq
      exact ⟨by simp only [World.cell?, b]; exact kArr_get V (by omega), by simp [World.frozen?, b]⟩
    have HLE : Hid (((E 8).map LE.v).length ≤ 5864062014720) := by show _ ≤ _; simp; omega
    have HT : Hid (T.te 8 = 82 ∧ T.sz 8 = 2 ∧ T.tl 8 = 22) := ht
    have hn : (n : Int) > 0 := by omega
    clear hK hX hlo ht hlen
    generalize hV : V 8 = L at *
    go_enter Tryz.func24, Tryz.ntmps24
    go_wp2_with (at_builtin; refine wpList_hl_append Tryz.underlying31 infoPRK rfl _ _ rfl L ((E 8).map LE.v) rfl R.out w.heap.size 1 (.slice (some ⟨g, 0, none⟩) n c) rfl (one_new w _ _ 0 _ rfl) rfl HLE.out ?_; intro L5 w5 hl5 hg5; obtain ⟨a5, N5, c5, rfl⟩ := hl5.slice3; obtain ⟨d1, d2⟩ := AF.out w5 _ hg5)
    go_end0
    obtain ⟨r1, r2⟩ := HK.out.store (i := 8) (v' := .slice a5 N5 c5) (e := ⟨g, n, c⟩) (X := X) hT (by rw [hV]; exact hg5) (by rw [HT.out.2.2]; exact hl5) (by rw [HT.out.1, HT.out.2.1]; exact HX.out) HO.out.2 HO.out.1
    exact ⟨rfl, _, _, r1, fun i hi => if_neg hi, .inr ⟨g, rfl, h0, if_pos rfl⟩, ((Below.refl B w).alloc HSZ.out _).trans r2, (KZ.of (below_alloc w _)).trans (KZ.store (by rw [hV]; exact hg5))⟩
/-- The kinds of lists that chapter 5 answers. -/
def kP : KT := ⟨fun i => match i with | 1 => 3 | 8 => 82 | _ => 5, fun i => match i with | 1 => 1 | 8 => 2 | _ => 1, fun i => match i with | 1 => 46 | 8 => 22 | _ => 46⟩
theorem kP_ok : kP.Ok := by
  refine ⟨fun i => ?_, fun i => ?_, fun i j => ?_⟩
  · unfold kP; dsimp only; split <;> decide
  · unfold kP; dsimp only; split <;> decide
  · unfold kP; dsimp only; split <;> (split <;> decide)
theorem kP_ne (n : Nat) (hn : n ∈ [1, 8]) : ∀ i, n + 1 ≤ i → kP.te i ≠ kP.te n := by
  intro i hi
  simp at hn
  rcases hn with rfl | rfl <;> (unfold kP; dsimp only; split <;> first | decide | omega)
/-- A book in the midst of Apart, and what it leaves. -/
structure KAx (T : KT) (B : Nat) (w0 : World) (q : Nat) (V : Nat → Value) (E : Nat → List LE) (n : Nat) (w : World) : Prop extends KA T B w0 q V E n w where
  kp : ∀ k, k < w0.heap.size → (∀ i, ∀ e ∈ E i, e.g ≠ k) → w.heap[k]? = w0.heap[k]?
section
variable {T : KT} {B : Nat} {w0 w w' : World} {q n : Nat} {V : Nat → Value} {E : Nat → List LE}
theorem KAx.skip (h : KAx T B w0 q V E n w) : KAx T B w0 q V E (n + 1) w := ⟨h.toKA.skip, h.kp⟩
theorem KAx.next (h : KAx T B w0 q V E n w) (hT : T.Ok) (hd : ∀ i, n + 1 ≤ i → T.te i ≠ T.te n) (hlo : ∀ e ∈ E n, B ≤ e.g) (hf : KFr (E n) w w') : KAx T B w0 q V E (n + 1) w' := ⟨h.toKA.next hT hd hlo hf, fun k hk hn => by
  have e := h.kp k hk hn
  rcases Nat.lt_or_ge k w.heap.size with q | q
  · exact (hf.block k q (hn n)).trans e
  · rw [Array.getElem?_eq_none q] at e
    have := Array.getElem?_eq_none_iff.1 e.symm
    omega⟩
end
set_option maxRecDepth 100000 in
set_option maxHeartbeats 2000000 in
theorem book_apartP (B q : Nat) (V : Nat → Value) (E : Nat → List LE) (w : World) (hK : KI kP B w q V E) (hno : ∀ i, i ∉ [1, 8] → E i = []) (hl : ∀ i, (E i).length ≤ 100000000) (hn : ∀ i, ∀ e ∈ E i, e.n ≤ 100000000) :
    Calls Tryz.prog 27 #[.pointer (some ⟨q, 0, none⟩)] w fun e w' => e = .returned (.bool true) ∧ Below B w w' ∧ ∀ k, k < w.heap.size → (∀ i, ∀ e ∈ E i, e.g ≠ k) → w'.heap[k]? = w.heap[k]? := by
  have HK : Hid (KI kP B w q V E) := hK
  have HNO : Hid (∀ i, i ∉ [1, 8] → E i = []) := hno
  have HLA : Hid (∀ i, (E i).length ≤ 100000000) := hl
  have HN : Hid (∀ i, ∀ e ∈ E i, e.n ≤ 100000000) := hn
  have A0 : Hid (KAx kP B w q V E 0 w) := ⟨hK.toA, fun _ _ _ => rfl⟩
  clear hK hno hl hn
  go_enter Tryz.func27, Tryz.ntmps27
  go_wp2_with (first
    | (go_at_call 57; refine (apartnilBytes q (slA (V 0)) (slC (V 0)) w (A0.out.nil (i := 0) (Nat.le_refl _) (by omega) (HNO.out 0 (by decide)))).mono ?_; rintro e w' ⟨rfl, rfl⟩; have A1 : Hid (KAx kP B w q V E 1 w) := A0.out.skip)
    | (go_at_call 58; obtain ⟨X1, hX1⟩ := A1.out.own 1 (Nat.le_refl _); refine (apart_ints q (V 1) (E 1) X1 w (A1.out.cell (by omega)) (A1.out.row 1 (Nat.le_refl _)) hX1 (HK.out.nd 1) (HLA.out 1) (HN.out 1)).mono ?_; rintro e w1 ⟨rfl, f1⟩; have A2 : Hid (KAx kP B w q V E 2 w1) := A1.out.next kP_ok (kP_ne 1 (by decide)) (HK.out.loE 1) f1; clear hX1 f1)
    | (go_at_call 59; refine (apartnilStrings q (slA (V 2)) (slC (V 2)) w1 (A2.out.nil (i := 2) (Nat.le_refl _) (by omega) (HNO.out 2 (by decide)))).mono ?_; rintro e w' ⟨rfl, rfl⟩; have A3 : Hid (KAx kP B w q V E 3 w1) := A2.out.skip)
    | (go_at_call 60; refine (apartnilBools q (slA (V 3)) (slC (V 3)) w1 (A3.out.nil (i := 3) (Nat.le_refl _) (by omega) (HNO.out 3 (by decide)))).mono ?_; rintro e w' ⟨rfl, rfl⟩; have A4 : Hid (KAx kP B w q V E 4 w1) := A3.out.skip)
    | (go_at_call 61; refine (apartnilSyms q (slA (V 4)) (slC (V 4)) w1 (A4.out.nil (i := 4) (Nat.le_refl _) (by omega) (HNO.out 4 (by decide)))).mono ?_; rintro e w' ⟨rfl, rfl⟩; have A5 : Hid (KAx kP B w q V E 5 w1) := A4.out.skip)
    | (go_at_call 62; refine (apartnilCores q (slA (V 5)) (slC (V 5)) w1 (A5.out.nil (i := 5) (Nat.le_refl _) (by omega) (HNO.out 5 (by decide)))).mono ?_; rintro e w' ⟨rfl, rfl⟩; have A6 : Hid (KAx kP B w q V E 6 w1) := A5.out.skip)
    | (go_at_call 63; refine (apartnilActions q (slA (V 6)) (slC (V 6)) w1 (A6.out.nil (i := 6) (Nat.le_refl _) (by omega) (HNO.out 6 (by decide)))).mono ?_; rintro e w' ⟨rfl, rfl⟩; have A7 : Hid (KAx kP B w q V E 7 w1) := A6.out.skip)
    | (go_at_call 64; refine (apartnilEdges q (slA (V 7)) (slC (V 7)) w1 (A7.out.nil (i := 7) (Nat.le_refl _) (by omega) (HNO.out 7 (by decide)))).mono ?_; rintro e w' ⟨rfl, rfl⟩; have A8 : Hid (KAx kP B w q V E 8 w1) := A7.out.skip)
    | (go_at_call 65; obtain ⟨X8, hX8⟩ := A8.out.own 8 (Nat.le_refl _); refine (apart_pairs q (V 8) (E 8) X8 w1 (A8.out.cell (by omega)) (A8.out.row 8 (Nat.le_refl _)) hX8 (HK.out.nd 8) (HLA.out 8) (HN.out 8)).mono ?_; rintro e w3 ⟨rfl, f3⟩; have A9 : Hid (KAx kP B w q V E 9 w3) := A8.out.next kP_ok (kP_ne 8 (by decide)) (HK.out.loE 8) f3; clear hX8 f3)
    | (go_at_call 66; refine (apartnilTokens q (slA (V 9)) (slC (V 9)) w3 (A9.out.nil (i := 9) (Nat.le_refl _) (by omega) (HNO.out 9 (by decide)))).mono ?_; rintro e w' ⟨rfl, rfl⟩; have A10 : Hid (KAx kP B w q V E 10 w3) := A9.out.skip)
    | (go_at_call 67; refine (apartnilProds q (slA (V 10)) (slC (V 10)) w3 (A10.out.nil (i := 10) (Nat.le_refl _) (by omega) (HNO.out 10 (by decide)))).mono ?_; rintro e w' ⟨rfl, rfl⟩; have A11 : Hid (KAx kP B w q V E 11 w3) := A10.out.skip)
    | (go_at_call 68; refine (apartnilLevels q (slA (V 11)) (slC (V 11)) w3 (A11.out.nil (i := 11) (Nat.le_refl _) (by omega) (HNO.out 11 (by decide)))).mono ?_; rintro e w' ⟨rfl, rfl⟩; have A12 : Hid (KAx kP B w q V E 12 w3) := A11.out.skip)
    | (go_at_call 69; refine (apartnilItems q (slA (V 12)) (slC (V 12)) w3 (A12.out.nil (i := 12) (Nat.le_refl _) (by omega) (HNO.out 12 (by decide)))).mono ?_; rintro e w' ⟨rfl, rfl⟩; have A13 : Hid (KAx kP B w q V E 13 w3) := A12.out.skip)
    | (go_at_call 70; refine (apartnilTrees q (slA (V 13)) (slC (V 13)) w3 (A13.out.nil (i := 13) (Nat.le_refl _) (by omega) (HNO.out 13 (by decide)))).mono ?_; rintro e w' ⟨rfl, rfl⟩; have A14 : Hid (KAx kP B w q V E 14 w3) := A13.out.skip)
    | (go_at_call 71; refine (apartnilRows q (slA (V 14)) (slC (V 14)) w3 (A14.out.nil (i := 14) (Nat.le_refl _) (by omega) (HNO.out 14 (by decide)))).mono ?_; rintro e w' ⟨rfl, rfl⟩; have A15 : Hid (KAx kP B w q V E 15 w3) := A14.out.skip)
    | (go_at_call 72; refine (apartnilConflicts q (slA (V 15)) (slC (V 15)) w3 (A15.out.nil (i := 15) (Nat.le_refl _) (by omega) (HNO.out 15 (by decide)))).mono ?_; rintro e w' ⟨rfl, rfl⟩; have A16 : Hid (KAx kP B w q V E 16 w3) := A15.out.skip))
  go_ret
  exact ⟨rfl, A16.out.bel, A16.out.kp⟩
end Go.Proofs.YtcgghlaifmlpiaaGreatDoor
