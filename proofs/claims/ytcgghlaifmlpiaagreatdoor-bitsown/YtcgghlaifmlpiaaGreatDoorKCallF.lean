import Derived.Test.YtcgghlaifmlpiaaGreatDoorKBaseToKNil
import Derived.Test.YtcgghlaifmlpiaaGreatDoorKInt2
import Derived.Test.YtcgghlaifmlpiaaGreatDoorKBool2
namespace Go.Proofs.YtcgghlaifmlpiaaGreatDoor
set_option linter.unusedVariables false
open Go.RowKit Go.Maps

/-- What the book's calls leave as it was: every block that is not the book's; and that it does not become the book's. -/
structure KZ (q : Nat) (w : World) (V : Nat → Value) (w' : World) (V' : Nat → Value) : Prop where
  size : w.heap.size ≤ w'.heap.size
  block : ∀ k, k < w.heap.size → k ≠ q → (∀ i, (V i).ownBlock ≠ some k) → w'.heap[k]? = w.heap[k]?
  own : ∀ i k, (V' i).ownBlock = some k → (V i).ownBlock = some k ∨ w.heap.size ≤ k
theorem KZ.refl (q : Nat) (w : World) (V : Nat → Value) : KZ q w V w V := ⟨Nat.le_refl _, fun _ _ _ _ => rfl, fun _ _ h => .inl h⟩
theorem KZ.of {q : Nat} {w w' : World} {V : Nat → Value} (h : Below w.heap.size w w') : KZ q w V w' V := ⟨h.size, fun k hk _ _ => h.block k hk, fun _ _ h => .inl h⟩
theorem KZ.trans {q : Nat} {w w1 w2 : World} {V V1 V2 : Nat → Value} (h : KZ q w V w1 V1) (h' : KZ q w1 V1 w2 V2) : KZ q w V w2 V2 := by
  refine ⟨Nat.le_trans h.size h'.size, fun k hk hq hn => ?_, fun i k hk => ?_⟩
  · refine (h'.block k (Nat.lt_of_lt_of_le hk h.size) hq fun i e => ?_).trans (h.block k hk hq hn)
    rcases h.own i k e with e1 | e1
    · exact hn i e1
    · omega
  · rcases h'.own i k hk with e1 | e1
    · exact h.own i k e1
    · exact .inr (Nat.le_trans h.size e1)
theorem KZ.store {q i : Nat} {w w' : World} {V : Nat → Value} {v' : Value} (hg : Grew w w' (V i) v') : KZ q w V (w'.setCell ⟨q, i, none⟩ v') (kUpdV V i v') := by
  refine ⟨by simpa using hg.grown.size, fun k hk hq hn => ?_, fun j k hk => ?_⟩
  · rw [Below.heap_setCell _ _ _ _ hq]
    exact hg.grown.block k hk (hn i ∘ Eq.symm)
  · unfold kUpdV at hk
    split at hk
    · rename_i e
      subst e
      rcases hg.moved with r | ⟨m, r, hm⟩
      · exact .inl (r ▸ hk)
      · rw [hk] at r; have := Option.some.inj r; exact .inr (by omega)
    · exact .inl hk
set_option maxHeartbeats 1000000 in
theorem book_intsF (T : KT) (hT : T.Ok) (B q : Nat) (V : Nat → Value) (E : Nat → List LE) (w : World) (a : Option Addr) (n c : Nat) (X : List Value) (hK : KI T B w q V E) (ht : T.te 1 = 3 ∧ T.sz 1 = 1 ∧ T.tl 1 = 46) (hX : n ≠ 0 → w.ownsRow 0 3 1 (.slice a n c) n X) (hlo : n ≠ 0 → ∀ k, (Value.slice a n c).ownBlock = some k → B ≤ k ∧ ∀ x ∈ E 1, x.g ≠ k) (hlen : (E 1).length ≤ 100000000) :
    Calls Tryz.prog 26 #[.pointer (some ⟨q, 0, none⟩), .slice a n c] w fun e w' => e = .returned (.tuple #[]) ∧ ∃ V' E', KI T B w' q V' E' ∧ (∀ i, i ≠ 1 → E' i = E i) ∧ (E' 1 = E 1 ∨ ∃ g, a = some ⟨g, 0, none⟩ ∧ n ≠ 0 ∧ E' 1 = E 1 ++ [⟨g, n, c⟩]) ∧ Below B w w' ∧ KZ q w V w' V' := by
  by_cases h0 : n = 0
  · subst h0
    have HK : Hid (KI T B w q V E) := hK
    clear hK hX hlo
    go_enter Tryz.func26, Tryz.ntmps26
    go_wp2
    go_end0
    exact ⟨rfl, V, E, HK.out, fun _ _ => rfl, .inl rfl, Below.refl _ _, KZ.refl _ _ _⟩
  · obtain ⟨g, rfl⟩ : ∃ g, a = some ⟨g, 0, none⟩ := by
      rcases (hX h0).2 with ⟨e, h⟩ | ⟨g, cap, cur, e, _⟩
      · exact absurd h h0
      · simp only [Value.slice.injEq] at e
        exact ⟨g, e.1⟩
    have HK : Hid (KI T B (w.alloc (.cells #[.slice (some ⟨g, 0, none⟩) n c] 46)) q V E) := hK.later (below_alloc w _)
    have HX : Hid ((w.alloc (.cells #[.slice (some ⟨g, 0, none⟩) n c] 46)).ownsRow 0 3 1 (LE.mk g n c).v n X) := row_later (hX h0) (below_alloc w _)
    have HSZ : Hid (B ≤ w.heap.size) := hK.size
    have HO : Hid (B ≤ g ∧ ∀ x ∈ E 1, x.g ≠ g) := hlo h0 g rfl
    have c0 := hK.cell (i := 1) (by omega)
    have R : Hid (HL 46 (w.alloc (.cells #[.slice (some ⟨g, 0, none⟩) n c] 46)) (V 1) ((E 1).map LE.v)) := by have := HK.out.row 1; rw [ht.2.2] at this; exact this
    have AF : Hid (∀ w5 L5, Grew (w.alloc (.cells #[.slice (some ⟨g, 0, none⟩) n c] 46)) w5 (V 1) L5 → w5.cell? ⟨q, 1, none⟩ = some (V 1) ∧ w5.frozen? ⟨q, 1, none⟩ = false) := fun w5 L5 hg => by
      have b := (hg.grown.block q (lt_of_block HK.out.hq) (HK.out.ne hT 1)).trans HK.out.hq
      exact ⟨by simp only [World.cell?, b]; exact kArr_get V (by omega), by simp [World.frozen?, b]⟩
    have HLE : Hid (((E 1).map LE.v).length ≤ 5864062014720) := by show _ ≤ _; simp; omega
    have HT : Hid (T.te 1 = 3 ∧ T.sz 1 = 1 ∧ T.tl 1 = 46) := ht
    have hn : (n : Int) > 0 := by omega
    clear hK hX hlo ht hlen
    generalize hV : V 1 = L at *
    go_enter Tryz.func26, Tryz.ntmps26
    go_wp2_with (at_builtin; refine wpList_hl_append Tryz.underlying24 infoINK rfl _ _ rfl L ((E 1).map LE.v) rfl R.out w.heap.size 1 (.slice (some ⟨g, 0, none⟩) n c) rfl (one_new w _ _ 0 _ rfl) rfl HLE.out ?_; intro L5 w5 hl5 hg5; obtain ⟨a5, N5, c5, rfl⟩ := hl5.slice3; obtain ⟨d1, d2⟩ := AF.out w5 _ hg5)
    go_end0
    obtain ⟨r1, r2⟩ := HK.out.store (i := 1) (v' := .slice a5 N5 c5) (e := ⟨g, n, c⟩) (X := X) hT (by rw [hV]; exact hg5) (by rw [HT.out.2.2]; exact hl5) (by rw [HT.out.1, HT.out.2.1]; exact HX.out) HO.out.2 HO.out.1
    exact ⟨rfl, _, _, r1, fun i hi => if_neg hi, .inr ⟨g, rfl, h0, if_pos rfl⟩, ((Below.refl B w).alloc HSZ.out _).trans r2, (KZ.of (below_alloc w _)).trans (KZ.store (by rw [hV]; exact hg5))⟩
end Go.Proofs.YtcgghlaifmlpiaaGreatDoor
