import Derived.Test.YtmpdgmigpjfcpaaDoorBZ16
namespace Go.Proofs.YtmpdgmigpjfcpaaDoor
set_option linter.unusedVariables false
open Go.RowKit Go.Shelf

/-- Sets of one size, each in blocks of its own. -/
structure FamB (w0 : World) (L : List (Nat × Nat)) (wr : World) : Prop where
  sb : ∀ p ∈ L, SB wr p.1 200 p.2
  nd : ∀ (i j : Nat) (p q : Nat × Nat), L[i]? = some p → L[j]? = some q → p.1 = q.1 → i = j
  bel : Below w0.heap.size w0 wr
  lo : ∀ p ∈ L, w0.heap.size ≤ p.1
theorem FamB.any {w0 wr w' : World} {L : List (Nat × Nat)} (h : FamB w0 L wr) (hb : Below wr.heap.size wr w') : FamB w0 L w' := ⟨fun p hp => (h.sb p hp).later hb, h.nd, h.bel.trans (hb.mono h.bel.size), h.lo⟩
theorem FamB.snoc {w0 wr w' : World} {L : List (Nat × Nat)} {k N : Nat} (h : FamB w0 L wr) (hk : wr.heap.size ≤ k) (hs : SB w' k 200 N) (hb : Below wr.heap.size wr w') : FamB w0 (L ++ [(k, N)]) w' := by
  have h2 := h.any hb
  have hlt : ∀ p ∈ L, p.1 < k := fun p hp => by have := (h.sb p hp).size; omega
  refine ⟨fun p hp => ?_, fun i j p q hi hj e => ?_, h2.bel, fun p hp => ?_⟩
  · rcases List.mem_append.1 hp with q | q
    · exact h2.sb p q
    · rw [List.mem_singleton.1 q]; exact hs
  · have get : ∀ (i : Nat) (p : Nat × Nat), (L ++ [(k, N)])[i]? = some p → L[i]? = some p ∨ (i = L.length ∧ p = (k, N)) := fun i p hi => by
      rcases Nat.lt_or_ge i L.length with q | q
      · rw [List.getElem?_append_left q] at hi; exact .inl hi
      · rw [List.getElem?_append_right q] at hi
        have : i - L.length = 0 := by
          have := (List.getElem?_eq_some_iff.1 hi).1
          simp at this
          omega
        rw [this] at hi
        simp at hi
        exact .inr ⟨by omega, hi.symm⟩
    rcases get i p hi with q1 | ⟨q1, q2⟩
    · rcases get j q hj with q3 | ⟨q3, q4⟩
      · exact h.nd i j p q q1 q3 e
      · have := hlt p (List.mem_of_getElem? q1)
        rw [q4] at e
        simp only at e
        omega
    · rcases get j q hj with q3 | ⟨q3, q4⟩
      · have := hlt q (List.mem_of_getElem? q3)
        rw [q2] at e
        simp only at e
        omega
      · omega
  · rcases List.mem_append.1 hp with q | q
    · exact h.lo p q
    · rw [List.mem_singleton.1 q]
      have := h.bel.size
      simp only
      omega
theorem FamB.turn {w0 wr w' : World} {L : List (Nat × Nat)} {i k N M : Nat} (h : FamB w0 L wr) (hi : L[i]? = some (k, N)) (hs : SB w' k 200 M) (hf : FrB (· = k) wr w') : FamB w0 (L.set i (k, M)) w' := by
  have hil := (List.getElem?_eq_some_iff.1 hi).1
  have get : ∀ (j : Nat) (p : Nat × Nat), (L.set i (k, M))[j]? = some p → ∃ q, L[j]? = some q ∧ q.1 = p.1 ∧ (i ≠ j → q = p) ∧ (i = j → p = (k, M)) := fun j p hj => by
    rw [List.getElem?_set] at hj
    by_cases e : i = j
    · subst e
      rw [if_pos rfl, if_pos hil] at hj
      cases hj
      exact ⟨(k, N), hi, rfl, fun q => absurd rfl q, fun _ => rfl⟩
    · rw [if_neg e] at hj
      exact ⟨p, hj, rfl, fun _ => rfl, fun q => absurd q e⟩
  refine ⟨fun p hp => ?_, fun a b p q ha hb e => ?_, hf.below h.bel h.bel.size (fun j q => ?_), fun p hp => ?_⟩
  · obtain ⟨j, hj⟩ := List.getElem?_of_mem hp
    obtain ⟨q, h1, h2, h3, h4⟩ := get j p hj
    by_cases e : i = j
    · rw [h4 e]; exact hs
    · rw [← h3 e]
      have hq := h.sb q (List.mem_of_getElem? h1)
      refine hq.frB hf (fun z => e ?_) ((h.sb _ (List.mem_of_getElem? hi)).apart hq)
      exact h.nd i j _ _ hi h1 (Eq.symm z)
  · obtain ⟨p', h1, h2, _⟩ := get a p ha
    obtain ⟨q', h3, h4, _⟩ := get b q hb
    exact h.nd a b p' q' h1 h3 (by rw [h2, h4, e])
  · have q2 : j = k := q
    have := h.lo _ (List.mem_of_getElem? hi)
    simp only at this
    omega
  · obtain ⟨j, hj⟩ := List.getElem?_of_mem hp
    obtain ⟨q, h1, h2, _⟩ := get j p hj
    have := h.lo q (List.mem_of_getElem? h1)
    omega
theorem and_lt2 {N M m : Nat} (h : N < 2 ^ m) : (N &&& M) % 2 ^ m = N &&& M := Nat.mod_eq_of_lt (Nat.lt_of_le_of_lt Nat.and_le_left h)
theorem minus_le (N M : Nat) : minusB N M = N &&& minusB N M := Nat.eq_of_testBit_eq fun j => by
  rw [Nat.testBit_and, minusB_bit]
  cases N.testBit j <;> simp
theorem minus_mod {N M m : Nat} (h : N < 2 ^ m) : minusB N M % 2 ^ m = minusB N M := by
  rw [minus_le]
  exact and_lt2 h
theorem FamB.copy {w0 wr : World} {L : List (Nat × Nat)} {k N : Nat} (h : FamB w0 L wr) (hi : (k, N) ∈ L) : Calls Tryd.prog 21 #[.pointer (some ⟨k + 1, 0, none⟩)] wr fun e w' => ∃ k', e = .returned (.pointer (some ⟨k' + 1, 0, none⟩)) ∧ FamB w0 (L ++ [(k', N)]) w' := (copy_SB (h.sb _ hi)).mono fun e w' ⟨q1, q2, q3⟩ => ⟨_, q1, h.snoc (Nat.le_refl _) q2 q3⟩
theorem FamB.meet {w0 wr : World} {L : List (Nat × Nat)} {k N k2 M : Nat} (h : FamB w0 L wr) (i j : Nat) (hi : L[i]? = some (k, N)) (hj : L[j]? = some (k2, M)) (hij : i ≠ j) : Calls Tryd.prog 16 #[.pointer (some ⟨k + 1, 0, none⟩), .pointer (some ⟨k2 + 1, 0, none⟩)] wr fun e w' => ∃ bv, e = .returned (.bool bv) ∧ FamB w0 (L.set i (k, N &&& M)) w' := by
  have h1 := h.sb _ (List.mem_of_getElem? hi)
  have h2 := h.sb _ (List.mem_of_getElem? hj)
  refine (meet_SB h1 h2 (fun e => hij (h.nd i j _ _ hi hj e.symm))).mono fun e w' ⟨q1, q2, q3⟩ => ?_
  simp only at q2
  rw [and_lt2 h1.lt] at q2
  exact ⟨_, q1, h.turn hi q2 q3⟩
theorem FamB.minus {w0 wr : World} {L : List (Nat × Nat)} {k N k2 M : Nat} (h : FamB w0 L wr) (i j : Nat) (hi : L[i]? = some (k, N)) (hj : L[j]? = some (k2, M)) (hij : i ≠ j) : Calls Tryd.prog 17 #[.pointer (some ⟨k + 1, 0, none⟩), .pointer (some ⟨k2 + 1, 0, none⟩)] wr fun e w' => ∃ bv, e = .returned (.bool bv) ∧ FamB w0 (L.set i (k, minusB N M)) w' := by
  have h1 := h.sb _ (List.mem_of_getElem? hi)
  have h2 := h.sb _ (List.mem_of_getElem? hj)
  refine (minus_SB h1 h2 (fun e => hij (h.nd i j _ _ hi hj e.symm))).mono fun e w' ⟨q1, q2, q3⟩ => ?_
  simp only at q2
  rw [minus_mod h1.lt] at q2
  exact ⟨_, q1, h.turn hi q2 q3⟩
theorem FamB.union {w0 wr : World} {L : List (Nat × Nat)} {k N k2 M : Nat} (h : FamB w0 L wr) (i j : Nat) (hi : L[i]? = some (k, N)) (hj : L[j]? = some (k2, M)) (hij : i ≠ j) : Calls Tryd.prog 14 #[.pointer (some ⟨k + 1, 0, none⟩), .pointer (some ⟨k2 + 1, 0, none⟩)] wr fun e w' => ∃ bv, e = .returned (.bool bv) ∧ FamB w0 (L.set i (k, N ||| M)) w' := by
  have h1 := h.sb _ (List.mem_of_getElem? hi)
  have h2 := h.sb _ (List.mem_of_getElem? hj)
  refine (union_SB h1 h2 (fun e => hij (h.nd i j _ _ hi hj e.symm))).mono fun e w' ⟨q1, q2, q3⟩ => ?_
  simp only at q2
  rw [or_mod h1.lt h2.lt] at q2
  exact ⟨_, q1, h.turn hi q2 q3⟩
/-- A set of the numbers of a list. -/
def fiN : List Int → Nat → Nat
  | [], N => N
  | x :: l, N => fiN l (addX N 200 x)
set_option maxRecDepth 100000 in
set_option maxHeartbeats 8000000 in
theorem filled_SB {w : World} {la : Option Addr} {l : List Int} (hl : InRow w la l) (hll : l.length ≤ 140737488355328) (lc : Nat) : Calls Tryd.prog 25 #[.slice la l.length lc] w fun e w' => e = .returned (.pointer (some ⟨w.heap.size + 1, 0, none⟩)) ∧ SB w' w.heap.size 200 (fiN l 0) ∧ Below w.heap.size w w' := by
  have HL : Hid (InRow w la l) := hl
  have NS : Hid (Calls Tryd.prog 7 #[.int .i64 200] w fun e w' => e = .returned (.tuple #[.pointer (some ⟨w.heap.size + 1, 0, none⟩), .int .i64 0]) ∧ SB w' w.heap.size 200 0 ∧ Below w.heap.size w w') := newset_SB 200 (by decide) w
  have NU : Hid (∀ (e : Int) (w : World), Calls Tryd.prog 8 #[.int .i64 e] w fun x w' => x = .returned (.int .i64 e) ∧ w' = w) := num_SB
  obtain ⟨R, hR⟩ : ∃ R, fiN l 0 = R := ⟨_, rfl⟩
  have HR : Hid (fiN l 0 = R) := hR
  rw [hR]
  clear hl hR
  go_enter Tryd.func25, Tryd.ntmps25
  go_wp2_with (first
    | (go_at_call 7; refine NS.out.mono ?_; rintro e w1 ⟨rfl, s1, b1⟩; have W1 : Hid (SB w1 w.heap.size 200 0 ∧ Below w.heap.size w w1) := ⟨s1, b1⟩; clear s1 b1)
    | (go_at_call 8; refine (NU.out _ _).mono ?_; rintro e w9 ⟨rfl, hz⟩; rw [hz]; clear hz w9))
  clear NS NU
  go_loopw [5] (fun z wr => ∃ (i N : Nat), i ≤ l.length ∧ z = .int .i64 (i : Int) ∧ SB wr w.heap.size 200 N ∧ Below w.heap.size w wr ∧ fiN (l.drop i) N = R) (fun z _ => l.length - (intOf z).toNat)
  case atStart => exact ⟨0, 0, Nat.zero_le _, rfl, W1.out.1, W1.out.2, HR.out⟩
  case round =>
    clear W1 HR
    obtain ⟨i, N, hi, rfl, hs, hB, hF⟩ := hrel
    by_cases hlt : i < l.length
    · have ilt : (i : Int) < (l.length : Int) := by omega
      obtain ⟨b, off, hla, hb, hc⟩ := (HL.out.later hB) (fun q => by rw [q] at hlt; simp at hlt)
      have ck := hc i hlt
      have hdr : l.drop i = l.getD i 0 :: l.drop (i + 1) := by
        rw [List.drop_eq_getElem_cons hlt, List.getD_eq_getElem?_getD, List.getElem?_eq_getElem hlt]
        rfl
      rw [hdr] at hF
      obtain ⟨x, hx⟩ : ∃ x, l.getD i 0 = x := ⟨_, rfl⟩
      rw [hx] at ck hF
      have AD : Hid (Calls Tryd.prog 9 #[.pointer (some ⟨w.heap.size + 1, 0, none⟩), .int .i64 x] wr fun e w' => ∃ bv, e = .returned (.bool bv) ∧ SB w' w.heap.size 200 (addX N 200 x) ∧ Below w.heap.size w w') := (add_SB hs x).mono fun e w' ⟨q1, q2, q3⟩ => ⟨_, q1, q2, q3.below hB hB.size (fun j hj => by have h2 : j = w.heap.size := hj; omega)⟩
      have HF : Hid (fiN (l.drop (i + 1)) (addX N 200 x) = R) := hF
      subst hla
      clear hs hB hF hc hdr hx
      go_wp2_with (go_at_call 9; refine AD.out.mono ?_; rintro e w2 ⟨bv, rfl, s2, b2⟩; have W2 : Hid (SB w2 w.heap.size 200 (addX N 200 x) ∧ Below w.heap.size w w2) := ⟨s2, b2⟩; clear s2 b2 ck)
      go_roundw
      case rel => exact ⟨i + 1, _, by omega, by go_num, W2.out.1, W2.out.2, HF.out⟩
      case measure => simp [intOf]; omega
    · obtain rfl : i = l.length := by omega
      have ilt : ¬ (l.length : Int) < (l.length : Int) := by omega
      rw [List.drop_length] at hF
      have hF' : N = R := hF
      subst hF'
      have HN : Hid (SB wr w.heap.size 200 N ∧ Below w.heap.size w wr) := ⟨hs, hB⟩
      clear hs hB hF
      go_wp2
      go_ret
      exact ⟨rfl, HN.out.1, HN.out.2⟩
end Go.Proofs.YtmpdgmigpjfcpaaDoor
