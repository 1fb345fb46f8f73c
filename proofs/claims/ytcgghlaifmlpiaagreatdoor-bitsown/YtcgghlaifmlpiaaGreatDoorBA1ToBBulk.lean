import Derived.Test.YtcgghlaifmlpiaaGreatDoorBZ14ToBZ16
import Derived.Test.YtcgghlaifmlpiaaGreatDoorBW2cToBW3
import Derived.Test.YtcgghlaifmlpiaaGreatDoorBArg
namespace Go.Proofs.YtcgghlaifmlpiaaGreatDoor
set_option linter.unusedVariables false
open Go.RowKit Go.Shelf

/-- Sets of one size, each in blocks of its own. -/
structure FamB (w0 : World) (L : List (Nat × Nat)) (wr : World) : Prop where
  sb : ∀ p ∈ L, SB wr p.1 200 p.2
  nd : ∀ (i j : Nat) (p q : Nat × Nat), L[i]? = some p → L[j]? = some q → p.1 = q.1 → i = j
  bel : Below w0.heap.size w0 wr
  lo : ∀ p ∈ L, w0.heap.size ≤ p.1
theorem FamB.any {w0 wr w' : World} {L : List (Nat × Nat)} (h : FamB w0 L wr) (hb : Below wr.heap.size wr w') : FamB w0 L w' := ⟨fun p hp => (h.sb p hp).later hb, h.nd, h.bel.trans (hb.mono h.bel.size), h.lo⟩
theorem FamB.snoc {w0 wr w' : World} {L : List (Nat × Nat)} {k N : Nat} (h : FamB w0 L wr) (hk : wr.heap.size ≤ k) (hs : SB w' k 200 N) (hb : Below wr.heap.size wr w') : FamB w0 (L ++ [(k, N)]) w' := by
  have h2 := h.any hb
  have hlt : ∀ p ∈ L, p.1 < k := fun p hp => by have := (h.sb p hp).size; omega
  refine ⟨fun p hp => ?_, fun i j p q hi hj e => ?_, h2.bel, fun p hp => ?_⟩
  · rcases List.mem_append.1 hp with q | q
    · exact h2.sb p q
    · rw [List.mem_singleton.1 q]; exact hs
  · have get : ∀ (i : Nat) (p : Nat × Nat), (L ++ [(k, N)])[i]? = some p → L[i]? = some p ∨ (i = L.length ∧ p = (k, N)) := fun i p hi => by
      rcases Nat.lt_or_ge i L.length with q | q
      · rw [List.getElem?_append_left q] at hi; exact .inl hi
      · rw [List.getElem?_append_right q] at hi
        have : i - L.length = 0 := by
          have := (List.getElem?_eq_some_iff.1 hi).1
          simp at this
          omega
        rw [this] at hi
        simp at hi
        exact .inr ⟨by omega, hi.symm⟩
    rcases get i p hi with q1 | ⟨q1, q2⟩
    · rcases get j q hj with q3 | ⟨q3, q4⟩
      · exact h.nd i j p q q1 q3 e
      · have := hlt p (List.mem_of_getElem? q1)
        rw [q4] at e
        simp only at e
        omega
    · rcases get j q hj with q3 | ⟨q3, q4⟩
      · have := hlt q (List.mem_of_getElem? q3)
        rw [q2] at e
        simp only at e
        omega
      · omega
  · rcases List.mem_append.1 hp with q | q
    · exact h.lo p q
    · rw [List.mem_singleton.1 q]
      have := h.bel.size
      simp only
      omega
theorem FamB.turn {w0 wr w' : World} {L : List (Nat × Nat)} {i k N M : Nat} (h : FamB w0 L wr) (hi : L[i]? = some (k, N)) (hs : SB w' k 200 M) (hf : FrB (· = k) wr w') : FamB w0 (L.set i (k, M)) w' := by
  have hil := (List.getElem?_eq_some_iff.1 hi).1
  have get : ∀ (j : Nat) (p : Nat × Nat), (L.set i (k, M))[j]? = some p → ∃ q, L[j]? = some q ∧ q.1 = p.1 ∧ (i ≠ j → q = p) ∧ (i = j → p = (k, M)) := fun j p hj => by
    rw [List.getElem?_set] at hj
    by_cases e : i = j
    · subst e
      rw [if_pos rfl, if_pos hil] at hj
      cases hj
      exact ⟨(k, N), hi, rfl, fun q => absurd rfl q, fun _ => rfl⟩
    · rw [if_neg e] at hj
      exact ⟨p, hj, rfl, fun _ => rfl, fun q => absurd q e⟩
  refine ⟨fun p hp => ?_, fun a b p q ha hb e => ?_, hf.below h.bel h.bel.size (fun j q => ?_), fun p hp => ?_⟩
  · obtain ⟨j, hj⟩ := List.getElem?_of_mem hp
    obtain ⟨q, h1, h2, h3, h4⟩ := get j p hj
    by_cases e : i = j
    · rw [h4 e]; exact hs
    · rw [← h3 e]
      have hq := h.sb q (List.mem_of_getElem? h1)
      refine hq.frB hf (fun z => e ?_) ((h.sb _ (List.mem_of_getElem? hi)).apart hq)
      exact h.nd i j _ _ hi h1 (Eq.symm z)
  · obtain ⟨p', h1, h2, _⟩ := get a p ha
    obtain ⟨q', h3, h4, _⟩ := get b q hb
    exact h.nd a b p' q' h1 h3 (by rw [h2, h4, e])
  · have q2 : j = k := q
    have := h.lo _ (List.mem_of_getElem? hi)
    simp only at this
    omega
  · obtain ⟨j, hj⟩ := List.getElem?_of_mem hp
    obtain ⟨q, h1, h2, _⟩ := get j p hj
    have := h.lo q (List.mem_of_getElem? h1)
    omega
theorem and_lt2 {N M m : Nat} (h : N < 2 ^ m) : (N &&& M) % 2 ^ m = N &&& M := Nat.mod_eq_of_lt (Nat.lt_of_le_of_lt Nat.and_le_left h)
theorem minus_le (N M : Nat) : minusB N M = N &&& minusB N M := Nat.eq_of_testBit_eq fun j => by
  rw [Nat.testBit_and, minusB_bit]
  cases N.testBit j <;> simp
theorem minus_mod {N M m : Nat} (h : N < 2 ^ m) : minusB N M % 2 ^ m = minusB N M := by
  rw [minus_le]
  exact and_lt2 h
theorem FamB.copy {w0 wr : World} {L : List (Nat × Nat)} {k N : Nat} (h : FamB w0 L wr) (hi : (k, N) ∈ L) : Calls Tryz.prog 78 #[.pointer (some ⟨k + 1, 0, none⟩)] wr fun e w' => ∃ k', e = .returned (.pointer (some ⟨k' + 1, 0, none⟩)) ∧ FamB w0 (L ++ [(k', N)]) w' := (copy_SB (h.sb _ hi)).mono fun e w' ⟨q1, q2, q3⟩ => ⟨_, q1, h.snoc (Nat.le_refl _) q2 q3⟩
theorem FamB.meet {w0 wr : World} {L : List (Nat × Nat)} {k N k2 M : Nat} (h : FamB w0 L wr) (i j : Nat) (hi : L[i]? = some (k, N)) (hj : L[j]? = some (k2, M)) (hij : i ≠ j) : Calls Tryz.prog 76 #[.pointer (some ⟨k + 1, 0, none⟩), .pointer (some ⟨k2 + 1, 0, none⟩)] wr fun e w' => ∃ bv, e = .returned (.bool bv) ∧ FamB w0 (L.set i (k, N &&& M)) w' := by
  have h1 := h.sb _ (List.mem_of_getElem? hi)
  have h2 := h.sb _ (List.mem_of_getElem? hj)
  refine (meet_SB h1 h2 (fun e => hij (h.nd i j _ _ hi hj e.symm))).mono fun e w' ⟨q1, q2, q3⟩ => ?_
  simp only at q2
  rw [and_lt2 h1.lt] at q2
  exact ⟨_, q1, h.turn hi q2 q3⟩
theorem FamB.minus {w0 wr : World} {L : List (Nat × Nat)} {k N k2 M : Nat} (h : FamB w0 L wr) (i j : Nat) (hi : L[i]? = some (k, N)) (hj : L[j]? = some (k2, M)) (hij : i ≠ j) : Calls Tryz.prog 77 #[.pointer (some ⟨k + 1, 0, none⟩), .pointer (some ⟨k2 + 1, 0, none⟩)] wr fun e w' => ∃ bv, e = .returned (.bool bv) ∧ FamB w0 (L.set i (k, minusB N M)) w' := by
  have h1 := h.sb _ (List.mem_of_getElem? hi)
  have h2 := h.sb _ (List.mem_of_getElem? hj)
  refine (minus_SB h1 h2 (fun e => hij (h.nd i j _ _ hi hj e.symm))).mono fun e w' ⟨q1, q2, q3⟩ => ?_
  simp only at q2
  rw [minus_mod h1.lt] at q2
  exact ⟨_, q1, h.turn hi q2 q3⟩
theorem FamB.union {w0 wr : World} {L : List (Nat × Nat)} {k N k2 M : Nat} (h : FamB w0 L wr) (i j : Nat) (hi : L[i]? = some (k, N)) (hj : L[j]? = some (k2, M)) (hij : i ≠ j) : Calls Tryz.prog 75 #[.pointer (some ⟨k + 1, 0, none⟩), .pointer (some ⟨k2 + 1, 0, none⟩)] wr fun e w' => ∃ bv, e = .returned (.bool bv) ∧ FamB w0 (L.set i (k, N ||| M)) w' := by
  have h1 := h.sb _ (List.mem_of_getElem? hi)
  have h2 := h.sb _ (List.mem_of_getElem? hj)
  refine (union_SB h1 h2 (fun e => hij (h.nd i j _ _ hi hj e.symm))).mono fun e w' ⟨q1, q2, q3⟩ => ?_
  simp only at q2
  rw [or_mod h1.lt h2.lt] at q2
  exact ⟨_, q1, h.turn hi q2 q3⟩
/-- A set of the numbers of a list. -/
def fiN : List Int → Nat → Nat
  | [], N => N
  | x :: l, N => fiN l (addX N 200 x)
set_option maxRecDepth 100000 in
set_option maxHeartbeats 8000000 in
theorem filled_SB {w : World} {la : Option Addr} {l : List Int} (hl : InRow w la l) (hll : l.length ≤ 140737488355328) (lc : Nat) : Calls Tryz.prog 22 #[.slice la l.length lc] w fun e w' => e = .returned (.pointer (some ⟨w.heap.size + 1, 0, none⟩)) ∧ SB w' w.heap.size 200 (fiN l 0) ∧ Below w.heap.size w w' := by
  have HL : Hid (InRow w la l) := hl
  have NS : Hid (Calls Tryz.prog 49 #[.int .i64 200] w fun e w' => e = .returned (.tuple #[.pointer (some ⟨w.heap.size + 1, 0, none⟩), .int .i64 0]) ∧ SB w' w.heap.size 200 0 ∧ Below w.heap.size w w') := newset_SB 200 (by decide) w
  have NU : Hid (∀ (e : Int) (w : World), Calls Tryz.prog 14 #[.int .i64 e] w fun x w' => x = .returned (.int .i64 e) ∧ w' = w) := num_SB
  obtain ⟨R, hR⟩ : ∃ R, fiN l 0 = R := ⟨_, rfl⟩
  have HR : Hid (fiN l 0 = R) := hR
  rw [hR]
  clear hl hR
  go_enter Tryz.func22, Tryz.ntmps22
  go_wp2_with (first
    | (go_at_call 49; refine NS.out.mono ?_; rintro e w1 ⟨rfl, s1, b1⟩; have W1 : Hid (SB w1 w.heap.size 200 0 ∧ Below w.heap.size w w1) := ⟨s1, b1⟩; clear s1 b1)
    | (go_at_call 14; refine (NU.out _ _).mono ?_; rintro e w9 ⟨rfl, hz⟩; rw [hz]; clear hz w9))
  clear NS NU
  go_loopw [5] (fun z wr => ∃ (i N : Nat), i ≤ l.length ∧ z = .int .i64 (i : Int) ∧ SB wr w.heap.size 200 N ∧ Below w.heap.size w wr ∧ fiN (l.drop i) N = R) (fun z _ => l.length - (intOf z).toNat)
  case atStart => exact ⟨0, 0, Nat.zero_le _, rfl, W1.out.1, W1.out.2, HR.out⟩
  case round =>
    clear W1 HR
    obtain ⟨i, N, hi, rfl, hs, hB, hF⟩ := hrel
    by_cases hlt : i < l.length
    · have ilt : (i : Int) < (l.length : Int) := by omega
      obtain ⟨b, off, hla, hb, hc⟩ := (HL.out.later hB) (fun q => by rw [q] at hlt; simp at hlt)
      have ck := hc i hlt
      have hdr : l.drop i = l.getD i 0 :: l.drop (i + 1) := by
        rw [List.drop_eq_getElem_cons hlt, List.getD_eq_getElem?_getD, List.getElem?_eq_getElem hlt]
        rfl
      rw [hdr] at hF
      obtain ⟨x, hx⟩ : ∃ x, l.getD i 0 = x := ⟨_, rfl⟩
      rw [hx] at ck hF
      have AD : Hid (Calls Tryz.prog 50 #[.pointer (some ⟨w.heap.size + 1, 0, none⟩), .int .i64 x] wr fun e w' => ∃ bv, e = .returned (.bool bv) ∧ SB w' w.heap.size 200 (addX N 200 x) ∧ Below w.heap.size w w') := (add_SB hs x).mono fun e w' ⟨q1, q2, q3⟩ => ⟨_, q1, q2, q3.below hB hB.size (fun j hj => by have h2 : j = w.heap.size := hj; omega)⟩
      have HF : Hid (fiN (l.drop (i + 1)) (addX N 200 x) = R) := hF
      subst hla
      clear hs hB hF hc hdr hx
      go_wp2_with (go_at_call 50; refine AD.out.mono ?_; rintro e w2 ⟨bv, rfl, s2, b2⟩; have W2 : Hid (SB w2 w.heap.size 200 (addX N 200 x) ∧ Below w.heap.size w w2) := ⟨s2, b2⟩; clear s2 b2 ck)
      go_roundw
      case rel => exact ⟨i + 1, _, by omega, by go_num, W2.out.1, W2.out.2, HF.out⟩
      case measure => simp [intOf]; omega
    · obtain rfl : i = l.length := by omega
      have ilt : ¬ (l.length : Int) < (l.length : Int) := by omega
      rw [List.drop_length] at hF
      have hF' : N = R := hF
      subst hF'
      have HN : Hid (SB wr w.heap.size 200 N ∧ Below w.heap.size w wr) := ⟨hs, hB⟩
      clear hs hB hF
      go_wp2
      go_ret
      exact ⟨rfl, HN.out.1, HN.out.2⟩
end Go.Proofs.YtcgghlaifmlpiaaGreatDoor
namespace Go.Proofs.YtcgghlaifmlpiaaGreatDoor
set_option linter.unusedVariables false
open Go.RowKit Go.Maps Go.Shelf

theorem ph8 {wd wr wz : World} {q c : Nat} (I : OWI wd q c wr) (hc : c ≤ 100000) (b : Below wr.heap.size wr wz) :
    Calls Tryz.prog 27 #[.pointer (some ⟨q, 0, none⟩)] wz fun e w' => e = .returned (.bool true) ∧ FrB (· = q) wd w' ∧ wz.heap.size ≤ w'.heap.size ∧ ∀ j, wr.heap.size ≤ j → j < wz.heap.size → w'.heap[j]? = wz.heap[j]? := by
  obtain ⟨⟨V, E, lo, hi, w5, m1, m8, fb⟩, fr⟩ := I
  have fz : FrB (· = q) wd wz := fr.trans (Below.frB b)
  refine (book_apartP q q V E wz (fb.ki.later b) fb.no (fun i => Nat.le_trans (fb.ln i) (by omega)) fb.nm).mono fun e w' ⟨q1, q2, q3⟩ => ⟨q1, ⟨q2.os.trans fz.os, q2.tape.trans fz.tape, q2.output.trans fz.output, Nat.le_trans fz.size q2.size, fun j hj hq => (q3 j (by have := fz.size; omega) (fun i e he => ?_)).trans (fz.block j hj hq)⟩, q2.size, fun j hj hz => q3 j hz (fun i e he => ?_)⟩
  · have := fb.ne i e he
    omega
  · have := fb.ki.lt i e he
    omega
theorem frB_world {X : Nat → Prop} {w wd wr : World} (h : Below w.heap.size w wd) (f : FrB X wd wr) (hX : ∀ j, X j → w.heap.size ≤ j) : Below w.heap.size w wr := FrB.below h f h.size hX
/-- The set and the list ahead of the rounds. -/
structure Pre (w wd : World) (q k N : Nat) (v : Value) (wr : World) : Prop where
  sb : SB wr k 200 N
  il : IL wr v (bitsL N 200)
  bel : Below w.heap.size w wr
theorem Pre.of {w wd wr : World} {q k N : Nat} {v : Value} (hs : SB wd k 200 N) (hi : IL wd v (bitsL N 200)) (ho : ∀ j, v.ownBlock = some j → q < j) (hk : q < k) (hb : Below w.heap.size w wd) (hq : w.heap.size ≤ q) (f : FrB (· = q) wd wr) : Pre w wd q k N v wr :=
  ⟨hs.frB f (fun e => by have e2 : k = q := e; omega) (fun e => by have e2 : k + 1 = q := e; omega), row_keptB hi fun j hj => f.block j (World.ownsRow.lt hi j hj).2 (fun e => by have e2 : j = q := e; have := ho j hj; omega), frB_world hb f (fun j e => by have e2 : j = q := e; omega)⟩
set_option maxRecDepth 100000 in
set_option maxHeartbeats 8000000 in
theorem own_walk {w : World} (hT : TabB w) (n : Int) (ea : Option Addr) (E : List (Int × Int)) (hE : PrsB w ea E) (hEl : E.length ≤ 1048576) (ec : Nat) (la : Option Addr) (l : List Int) (hl : InRow w la l) (hlen : l.length ≤ 1048576) (lc : Nat) (x : Int) :
    Calls Tryz.prog 5 #[.int .i64 n, .slice ea E.length ec, .slice la l.length lc, .int .i64 x] w fun e w' => e = .returned (.bool true) ∧ Below w.heap.size w w' := by
  have HT : Hid (TabB w) := hT
  have HE : Hid (PrsB w ea E) := hE
  have HL : Hid (InRow w la l) := hl
  have AL : Hid (Calls Tryz.prog 18 #[] w fun e w' => e = .returned (.bool true) ∧ Below w.heap.size w w') := alive_SB hT
  have FI : Hid (∀ wb, Below w.heap.size w wb → Calls Tryz.prog 22 #[.slice la l.length lc] wb fun e w' => e = .returned (.pointer (some ⟨wb.heap.size + 1, 0, none⟩)) ∧ SB w' wb.heap.size 200 (fiN l 0) ∧ Below wb.heap.size wb w') := fun wb hb => filled_SB (hl.laterR hb) (by omega) lc
  have CL0 : Hid (∀ (wr : World) (m : Int), Below w.heap.size w wr → Calls Tryz.prog 7 #[.int .i64 m, .slice ea E.length ec] wr (OwP wr)) := fun wr m hb => (closure_any m wr ea ec E (hE.later hb) (by omega) (hT.later hb)).mono fun e w' h => h.own
  have CM0 : Hid (∀ (wr : World) (m : Int), Below w.heap.size w wr → Calls Tryz.prog 9 #[.int .i64 m, .slice ea E.length ec] wr (OwL wr)) := fun wr m hb => (components_any m wr ea ec E (hE.later hb) (by omega) (hT.later hb)).mono fun e w' h => h.own
  have CO0 : Hid (∀ (wr : World) (m : Int), Below w.heap.size w wr → Calls Tryz.prog 11 #[.int .i64 m, .slice ea E.length ec] wr (OwT wr)) := fun wr m hb => (order_any m wr ea ec E (hE.later hb) (by omega) (hT.later hb)).mono fun e w' h => h.own
  have CD0 : Hid (∀ (w3 : World), Below w.heap.size w w3 → Calls Tryz.prog 19 #[.int .i64 (l.length : Int), .int .i64 300, .slice (some ⟨w3.heap.size, 0, none⟩) l.length l.length, .slice none 0 0] (w3.alloc (.cells (madeCells #[.slice none 0 0] l.length) 46)) (OwE (w3.alloc (.cells (madeCells #[.slice none 0 0] l.length) 46)))) := fun w3 hb => by
    have h1 := digraph_own (l.length : Int) 300 (w3.alloc (.cells (madeCells #[.slice none 0 0] l.length) 46)) (some ⟨w3.heap.size, 0, none⟩) l.length (List.replicate l.length []) (lrw_made w3 l.length) (by simp; omega) (fun l' hl' => by rw [List.eq_of_mem_replicate hl']; simp) none 0 [] (fun q => absurd rfl q) (by simp) (hT.later (hb.trans ((below_alloc w3 _).mono hb.size)))
    rw [List.length_replicate, List.length_nil] at h1
    exact h1.mono fun e w' h => h.own (fun l' hl' => List.eq_of_mem_replicate hl')
  clear hT hE hl
  generalize hN : fiN l 0 = N at FI
  obtain ⟨ll, hll0⟩ : ∃ ll, l.length = ll := ⟨_, rfl⟩
  obtain ⟨el, hel⟩ : ∃ el, E.length = el := ⟨_, rfl⟩
  rw [hel] at CL0 CM0 CO0 hEl ⊢
  rw [hll0] at FI CD0 hlen ⊢
  have hll := hlen
  clear HL HE hN hel hll0 hEl hlen
  go_enter Tryz.func5, Tryz.ntmps5
  go_wp2_with (go_at_call 18; refine AL.out.mono ?_)
  rintro e wa ⟨rfl, ba⟩
  have BA : Hid (Below w.heap.size w wa) := ba
  clear ba AL
  obtain ⟨wb, hwb⟩ : ∃ wb : World, wb = wa.alloc (.cells #[kNil, kNil, kNil, kNil, kNil, kNil, kNil, kNil, kNil, kNil, kNil, kNil, kNil, kNil, kNil, kNil] 68) := ⟨_, rfl⟩
  have BB : Hid (Below wa.heap.size wa wb ∧ wb.heap.size = wa.heap.size + 1) := by rw [hwb]; exact ⟨below_alloc _ _, by simp⟩
  have BWB : Hid (Below w.heap.size w wb) := BA.out.trans (BB.out.1.mono BA.out.size)
  have F1 : Hid (Calls Tryz.prog 22 #[.slice la ll lc] wb fun e w' => e = .returned (.pointer (some ⟨wb.heap.size + 1, 0, none⟩)) ∧ SB w' wb.heap.size 200 N ∧ Below wb.heap.size wb w') := FI.out wb BWB.out
  obtain ⟨k, hk⟩ : ∃ k, wb.heap.size = k := ⟨_, rfl⟩
  rw [hk] at F1
  have HK : Hid (wb.heap.size = k) := hk
  have HWB : Hid (wb = wa.alloc (.cells #[kNil, kNil, kNil, kNil, kNil, kNil, kNil, kNil, kNil, kNil, kNil, kNil, kNil, kNil, kNil, kNil] 68)) := hwb
  go_wp2_with (first
    | (go_at_call 22; rw [← hwb]; clear hk; refine F1.out.mono ?_))
  rintro e wc ⟨rfl, sc, bc⟩
  have SC : Hid (SB wc k 200 N ∧ Below k wb wc) := ⟨sc, bc⟩
  have BWC : Hid (Below w.heap.size w wc) := BWB.out.trans (bc.mono (by have := BWB.out.size; rw [HK.out] at this; exact this))
  clear sc bc hwb F1 FI
  have LI : Hid (Calls Tryz.prog 23 #[.pointer (some ⟨k + 1, 0, none⟩)] wc fun e w' => ∃ v, e = .returned v ∧ LBs wc (bitsL N 200) v w') := list_SB SC.out.1 (HT.out.later BWC.out)
  go_wp2_with (go_at_call 23; refine LI.out.mono ?_)
  rintro e wd ⟨v0, rfl, h0⟩
  obtain ⟨a0, c0, rfl⟩ := il_len h0.il
  obtain ⟨n0, hn0⟩ : ∃ n0, (bitsL N 200).length = n0 := ⟨_, rfl⟩
  rw [hn0] at h0
  have hwaq : wa.heap.size < k := by have := BB.out.2; have := HK.out; omega
  have PR : Hid (∀ wr, FrB (· = wa.heap.size) wd wr → Pre w wd wa.heap.size k N (.slice a0 n0 c0) wr) := fun wr f => Pre.of (SC.out.1.later h0.bel) h0.il (fun j hj => by have := h0.own j hj; have := SC.out.2.size; have := HK.out; omega) hwaq (BWC.out.trans (h0.bel.mono BWC.out.size)) BA.out.size f
  have I0 : Hid (OWI wd wa.heap.size (10000 * 0) wd) := by
    refine OWI.start (w := wa) rfl ?_
    rw [← HWB.out]
    have e1 : wa.heap.size + 1 = k := by have := BB.out.2; have := HK.out; omega
    rw [e1]
    exact SC.out.2.trans (h0.bel.mono (by have := SC.out.2.size; rw [HK.out] at this; exact this))
  have HN0 : Hid (n0 = (bitsL N 200).length ∧ (bitsL N 200).length ≤ 4096) := ⟨hn0.symm, by rw [bitsL_len]; exact Nat.le_trans (popB_le _ _) (by decide)⟩
  have PQ : Hid (w.heap.size ≤ k ∧ wa.heap.size < k) := ⟨by have := BA.out.size; omega, hwaq⟩
  rw [hn0]
  clear hn0 h0 hwaq LI SC BWC BWB BB HK HWB BA
  go_wp2
  go_loopw [12] (fun z wr => ∃ i : Nat, i ≤ 3 ∧ z = .int .i64 (i : Int) ∧ OWI wd wa.heap.size (10000 * i) wr) (fun z _ => 3 - (intOf z).toNat)
  case atStart => exact ⟨0, by omega, rfl, I0.out⟩
  case round =>
    obtain ⟨i, hi, rfl, hI⟩ := hrel
    have HI : Hid (OWI wd wa.heap.size (10000 * i) wr) := hI
    have BR : Hid (Below w.heap.size w wr) := (PR.out wr hI.fr).bel
    clear hI I0
    by_cases hlt : i < 3
    · have ilt : (i : Int) < 3 := by omega
      have CL : Hid (∀ m : Int, Calls Tryz.prog 7 #[.int .i64 m, .slice ea el ec] wr (OwP wr)) := fun m => CL0.out wr m BR.out
      have CM : Hid (∀ w1, Below wr.heap.size wr w1 → ∀ m : Int, Calls Tryz.prog 9 #[.int .i64 m, .slice ea el ec] w1 (OwL w1)) := fun w1 hb m => CM0.out w1 m (BR.out.trans (hb.mono BR.out.size))
      have CO : Hid (∀ w1, Below wr.heap.size wr w1 → ∀ m : Int, Calls Tryz.prog 11 #[.int .i64 m, .slice ea el ec] w1 (OwT w1)) := fun w1 hb m => CO0.out w1 m (BR.out.trans (hb.mono BR.out.size))
      have CD : Hid (∀ w3, Below wr.heap.size wr w3 → Calls Tryz.prog 19 #[.int .i64 (ll : Int), .int .i64 300, .slice (some ⟨w3.heap.size, 0, none⟩) ll ll, .slice none 0 0] (w3.alloc (.cells (madeCells #[.slice none 0 0] ll) 46)) (OwE (w3.alloc (.cells (madeCells #[.slice none 0 0] ll) 46)))) := fun w3 hb => CD0.out w3 (BR.out.trans (hb.mono BR.out.size))
      clear CL0 CM0 CO0 CD0
      by_cases hi1 : i = 1
      · have e1 : ((i : Int) == 1) = true := by rw [hi1]; rfl
        clear hi1
        go_wp2_with (go_at_call 7; refine (CL.out _).mono ?_)
        rintro e w1 ⟨b1, a1, n1, c1, l1, er1, rfl, hh⟩
        have H1 : Hid (A1 wr a1 n1 c1 w1) := ⟨b1, l1, hh⟩
        clear b1 hh
        have C2 : Hid (∀ m : Int, Calls Tryz.prog 9 #[.int .i64 m, .slice ea el ec] w1 (OwL w1)) := CM.out w1 H1.out.1
        clear CL CM
        go_wp2_with (go_at_call 9; refine (C2.out _).mono ?_)
        rintro e w2 ⟨b2, a2, n2, c2, V2, D2, er2, rfl, hh⟩
        have H2 : Hid (A2 w1 a2 n2 c2 w2) := ⟨b2, V2, D2, hh⟩
        clear b2 hh C2
        have B2 : Hid (Below wr.heap.size wr w2) := H1.out.1.trans (H2.out.1.mono H1.out.1.size)
        have C3 : Hid (∀ m : Int, Calls Tryz.prog 11 #[.int .i64 m, .slice ea el ec] w2 (OwT w2)) := CO.out w2 B2.out
        clear CO
        go_wp2_with (go_at_call 11; refine (C3.out _).mono ?_)
        rintro e w3 ⟨b3, a3, n3, c3, l3, a4, n4, c4, l4, er3, rfl, h31, h32, h33, h34, h35, hh⟩
        have H3 : Hid (A3 w2 a3 n3 c3 a4 n4 c4 w3) := ⟨b3, h35.imp (fun e => by rw [h31, e]; rfl) (fun e => by rw [h32, e]; rfl), l3, l4, h31, h32, h33, h34, hh⟩
        clear b3 h31 h32 h33 h34 h35 hh C3
        have B3 : Hid (Below wr.heap.size wr w3) := B2.out.trans (H3.out.1.mono B2.out.size)
        have MK := make_llB ll hll w3
        obtain ⟨wm, hwm⟩ : ∃ wm : World, wm = w3.alloc (.cells (madeCells #[.slice none 0 0] ll) 46) := ⟨_, rfl⟩
        have C4 : Hid (Calls Tryz.prog 19 #[.int .i64 (ll : Int), .int .i64 300, .slice (some ⟨w3.heap.size, 0, none⟩) ll ll, .slice none 0 0] wm (OwE wm)) := by rw [hwm]; exact CD.out w3 B3.out
        have BM : Hid (Below w3.heap.size w3 wm) := by rw [hwm]; exact below_alloc w3 _
        rw [← hwm] at MK
        clear hwm CD
        go_wp2_with (go_at_call 19; refine C4.out.mono ?_)
        rintro e w4 ⟨b4, a5, n5, c5, L5, er4, rfl, hh⟩
        have H4 : Hid (A4 wm a5 n5 w4) := ⟨b4, L5, hh⟩
        clear b4 hh C4 MK
        have B34 : Hid (Below w3.heap.size w3 w4) := BM.out.trans (H4.out.1.mono BM.out.size)
        have B24 : Hid (Below w2.heap.size w2 w4) := H3.out.1.trans (B34.out.mono H3.out.1.size)
        have B14 : Hid (Below w1.heap.size w1 w4) := H2.out.1.trans (B24.out.mono H2.out.1.size)
        have K1 : Hid (Calls Tryz.prog 24 #[.pointer (some ⟨wa.heap.size, 0, none⟩), .slice a1 n1 c1] w4 fun e w' => e = .returned (.tuple #[]) ∧ BSt wd wa.heap.size wr w4 wr.heap.size (10000 * i + 1) w') := ph1 HI.out H1.out B14.out (by omega)
        go_wp2_with (go_at_call 24; refine K1.out.mono ?_)
        rintro e w6 ⟨rfl, s6⟩
        have K2 : Hid (Calls Tryz.prog 25 #[.pointer (some ⟨wa.heap.size, 0, none⟩), .slice a2 n2 c2] w6 fun e w' => e = .returned (.tuple #[]) ∧ BSt wd wa.heap.size wr w4 w2.heap.size (10000 * i + 1 + 4096) w') := ph2 s6 H2.out H1.out.1.size H1.out.1.size B24.out (by omega)
        clear s6 K1
        go_wp2_with (go_at_call 25; refine K2.out.mono ?_)
        rintro e w7 ⟨rfl, s7⟩
        have K3 : Hid (Calls Tryz.prog 26 #[.pointer (some ⟨wa.heap.size, 0, none⟩), .slice a3 n3 c3] w7 fun e w' => e = .returned (.tuple #[]) ∧ ∃ m1', BSt wd wa.heap.size wr w4 m1' (10000 * i + 1 + 4096 + 1) w' ∧ (n3 = 0 → m1' = w2.heap.size)) := by
          obtain ⟨_, _, l, l2, x1, x2, x3, x4, x5, x6, x7, x8⟩ := H3.out
          exact ph3 s7 x5 x7 x1 x3 B2.out.size (.inr (Nat.le_refl _)) B34.out (by omega)
        clear s7 K2
        go_wp2_with (go_at_call 26; refine K3.out.mono ?_)
        rintro e w8 ⟨rfl, m8, s8, e8⟩
        have K4 : Hid (Calls Tryz.prog 26 #[.pointer (some ⟨wa.heap.size, 0, none⟩), .slice a4 n4 c4] w8 fun e w' => e = .returned (.tuple #[]) ∧ ∃ m1', BSt wd wa.heap.size wr w4 m1' (10000 * i + 1 + 4096 + 1 + 1) w' ∧ (n4 = 0 → m1' = m8)) := by
          obtain ⟨_, x0, l, l2, x1, x2, x3, x4, x5, x6, x7, x8⟩ := H3.out
          exact ph3 s8 x6 x8 x2 x4 B2.out.size (x0.symm.imp_right fun e => Nat.le_of_eq (e8 e)) B34.out (by omega)
        clear s8 e8 K3
        go_wp2_with (go_at_call 26; refine K4.out.mono ?_)
        rintro e w9 ⟨rfl, m9, s9, _⟩
        have S9 : Hid (BSt wd wa.heap.size wr w4 m9 (10000 * i + 1 + 4096 + 1 + 1) w9) := s9
        clear s9 K4
        have K5 : Hid (Calls Tryz.prog 25 #[.pointer (some ⟨wa.heap.size, 0, none⟩), .slice a5 n5 c5] w9 fun e w' => e = .returned (.tuple #[]) ∧ w' = w9) := ph5 S9.out H4.out (Nat.le_trans B3.out.size BM.out.size)
        have K6 : Hid (Calls Tryz.prog 23 #[.pointer (some ⟨k + 1, 0, none⟩)] w9 fun e w' => ∃ v, e = .returned v ∧ LBs w9 (bitsL N 200) v w') := list_SB (PR.out w9 S9.out.fr).sb (HT.out.later (PR.out w9 S9.out.fr).bel)
        go_wp2_with (first
          | (go_at_call 25; refine K5.out.mono ?_; rintro e wy ⟨rfl, hz⟩; rw [hz]; clear hz wy)
          | (go_at_call 23; refine K6.out.mono ?_))
        rintro e w10 ⟨v10, rfl, h10⟩
        obtain ⟨a10, c10, rfl⟩ := il_len h10.il
        have K7 : Hid (Calls Tryz.prog 26 #[.pointer (some ⟨wa.heap.size, 0, none⟩), .slice a10 (bitsL N 200).length c10] w10 fun e w' => e = .returned (.tuple #[]) ∧ OWI wd wa.heap.size (10000 * (i + 1)) w') := ph7 S9.out h10 rfl (by rw [bitsL_len]; exact Nat.le_trans (popB_le _ _) (by decide)) (by omega) (by omega)
        clear h10 K5 K6 S9 PR
        generalize (bitsL N 200).length = n10 at *
        go_wp2_with (go_at_call 26; refine K7.out.mono ?_)
        rintro e w11 ⟨rfl, s11⟩
        have S11 : Hid (OWI wd wa.heap.size (10000 * (i + 1)) w11) := s11
        clear s11 K7
        go_wp2
        go_roundw
        case rel => exact ⟨i + 1, by omega, by go_num, S11.out⟩
        case measure => simp [intOf]; omega
      · have e1 : ((i : Int) == 1) = false := beq_eq_false_iff_ne.2 (by omega)
        clear hi1
        go_wp2_with (go_at_call 7; refine (CL.out _).mono ?_)
        rintro e w1 ⟨b1, a1, n1, c1, l1, er1, rfl, hh⟩
        have H1 : Hid (A1 wr a1 n1 c1 w1) := ⟨b1, l1, hh⟩
        clear b1 hh
        have C2 : Hid (∀ m : Int, Calls Tryz.prog 9 #[.int .i64 m, .slice ea el ec] w1 (OwL w1)) := CM.out w1 H1.out.1
        clear CL CM
        go_wp2_with (go_at_call 9; refine (C2.out _).mono ?_)
        rintro e w2 ⟨b2, a2, n2, c2, V2, D2, er2, rfl, hh⟩
        have H2 : Hid (A2 w1 a2 n2 c2 w2) := ⟨b2, V2, D2, hh⟩
        clear b2 hh C2
        have B2 : Hid (Below wr.heap.size wr w2) := H1.out.1.trans (H2.out.1.mono H1.out.1.size)
        have C3 : Hid (∀ m : Int, Calls Tryz.prog 11 #[.int .i64 m, .slice ea el ec] w2 (OwT w2)) := CO.out w2 B2.out
        clear CO
        go_wp2_with (go_at_call 11; refine (C3.out _).mono ?_)
        rintro e w3 ⟨b3, a3, n3, c3, l3, a4, n4, c4, l4, er3, rfl, h31, h32, h33, h34, h35, hh⟩
        have H3 : Hid (A3 w2 a3 n3 c3 a4 n4 c4 w3) := ⟨b3, h35.imp (fun e => by rw [h31, e]; rfl) (fun e => by rw [h32, e]; rfl), l3, l4, h31, h32, h33, h34, hh⟩
        clear b3 h31 h32 h33 h34 h35 hh C3
        have B3 : Hid (Below wr.heap.size wr w3) := B2.out.trans (H3.out.1.mono B2.out.size)
        have MK := make_llB ll hll w3
        obtain ⟨wm, hwm⟩ : ∃ wm : World, wm = w3.alloc (.cells (madeCells #[.slice none 0 0] ll) 46) := ⟨_, rfl⟩
        have C4 : Hid (Calls Tryz.prog 19 #[.int .i64 (ll : Int), .int .i64 300, .slice (some ⟨w3.heap.size, 0, none⟩) ll ll, .slice none 0 0] wm (OwE wm)) := by rw [hwm]; exact CD.out w3 B3.out
        have BM : Hid (Below w3.heap.size w3 wm) := by rw [hwm]; exact below_alloc w3 _
        rw [← hwm] at MK
        clear hwm CD
        go_wp2_with (go_at_call 19; refine C4.out.mono ?_)
        rintro e w4 ⟨b4, a5, n5, c5, L5, er4, rfl, hh⟩
        have H4 : Hid (A4 wm a5 n5 w4) := ⟨b4, L5, hh⟩
        clear b4 hh C4 MK
        have B34 : Hid (Below w3.heap.size w3 w4) := BM.out.trans (H4.out.1.mono BM.out.size)
        have B24 : Hid (Below w2.heap.size w2 w4) := H3.out.1.trans (B34.out.mono H3.out.1.size)
        have B14 : Hid (Below w1.heap.size w1 w4) := H2.out.1.trans (B24.out.mono H2.out.1.size)
        have K1 : Hid (Calls Tryz.prog 24 #[.pointer (some ⟨wa.heap.size, 0, none⟩), .slice a1 n1 c1] w4 fun e w' => e = .returned (.tuple #[]) ∧ BSt wd wa.heap.size wr w4 wr.heap.size (10000 * i + 1) w') := ph1 HI.out H1.out B14.out (by omega)
        go_wp2_with (go_at_call 24; refine K1.out.mono ?_)
        rintro e w6 ⟨rfl, s6⟩
        have K2 : Hid (Calls Tryz.prog 25 #[.pointer (some ⟨wa.heap.size, 0, none⟩), .slice a2 n2 c2] w6 fun e w' => e = .returned (.tuple #[]) ∧ BSt wd wa.heap.size wr w4 w2.heap.size (10000 * i + 1 + 4096) w') := ph2 s6 H2.out H1.out.1.size H1.out.1.size B24.out (by omega)
        clear s6 K1
        go_wp2_with (go_at_call 25; refine K2.out.mono ?_)
        rintro e w7 ⟨rfl, s7⟩
        have K3 : Hid (Calls Tryz.prog 26 #[.pointer (some ⟨wa.heap.size, 0, none⟩), .slice a3 n3 c3] w7 fun e w' => e = .returned (.tuple #[]) ∧ ∃ m1', BSt wd wa.heap.size wr w4 m1' (10000 * i + 1 + 4096 + 1) w' ∧ (n3 = 0 → m1' = w2.heap.size)) := by
          obtain ⟨_, _, l, l2, x1, x2, x3, x4, x5, x6, x7, x8⟩ := H3.out
          exact ph3 s7 x5 x7 x1 x3 B2.out.size (.inr (Nat.le_refl _)) B34.out (by omega)
        clear s7 K2
        go_wp2_with (go_at_call 26; refine K3.out.mono ?_)
        rintro e w8 ⟨rfl, m8, s8, e8⟩
        have K4 : Hid (Calls Tryz.prog 26 #[.pointer (some ⟨wa.heap.size, 0, none⟩), .slice a4 n4 c4] w8 fun e w' => e = .returned (.tuple #[]) ∧ ∃ m1', BSt wd wa.heap.size wr w4 m1' (10000 * i + 1 + 4096 + 1 + 1) w' ∧ (n4 = 0 → m1' = m8)) := by
          obtain ⟨_, x0, l, l2, x1, x2, x3, x4, x5, x6, x7, x8⟩ := H3.out
          exact ph3 s8 x6 x8 x2 x4 B2.out.size (x0.symm.imp_right fun e => Nat.le_of_eq (e8 e)) B34.out (by omega)
        clear s8 e8 K3
        go_wp2_with (go_at_call 26; refine K4.out.mono ?_)
        rintro e w9 ⟨rfl, m9, s9, _⟩
        have S9 : Hid (BSt wd wa.heap.size wr w4 m9 (10000 * i + 1 + 4096 + 1 + 1) w9) := s9
        clear s9 K4
        have K5 : Hid (Calls Tryz.prog 25 #[.pointer (some ⟨wa.heap.size, 0, none⟩), .slice a5 n5 c5] w9 fun e w' => e = .returned (.tuple #[]) ∧ w' = w9) := ph5 S9.out H4.out (Nat.le_trans B3.out.size BM.out.size)
        have K6 : Hid (Calls Tryz.prog 23 #[.pointer (some ⟨k + 1, 0, none⟩)] w9 fun e w' => ∃ v, e = .returned v ∧ LBs w9 (bitsL N 200) v w') := list_SB (PR.out w9 S9.out.fr).sb (HT.out.later (PR.out w9 S9.out.fr).bel)
        go_wp2_with (first
          | (go_at_call 25; refine K5.out.mono ?_; rintro e wy ⟨rfl, hz⟩; rw [hz]; clear hz wy)
          | (go_at_call 23; refine K6.out.mono ?_))
        rintro e w10 ⟨v10, rfl, h10⟩
        obtain ⟨a10, c10, rfl⟩ := il_len h10.il
        have K7 : Hid (Calls Tryz.prog 26 #[.pointer (some ⟨wa.heap.size, 0, none⟩), .slice a10 (bitsL N 200).length c10] w10 fun e w' => e = .returned (.tuple #[]) ∧ OWI wd wa.heap.size (10000 * (i + 1)) w') := ph7 S9.out h10 rfl (by rw [bitsL_len]; exact Nat.le_trans (popB_le _ _) (by decide)) (by omega) (by omega)
        clear h10 K5 K6 S9 PR
        generalize (bitsL N 200).length = n10 at *
        go_wp2_with (go_at_call 26; refine K7.out.mono ?_)
        rintro e w11 ⟨rfl, s11⟩
        have S11 : Hid (OWI wd wa.heap.size (10000 * (i + 1)) w11) := s11
        clear s11 K7
        go_wp2
        go_roundw
        case rel => exact ⟨i + 1, by omega, by go_num, S11.out⟩
        case measure => simp [intOf]; omega
    · obtain rfl : i = 3 := by omega
      clear CL0 CM0 CO0 CD0 hlt hi
      obtain ⟨wz, hwz⟩ : ∃ wz : World, wz = wr.alloc (.cells #[.int .i64 0, .slice none 0 0] 77) := ⟨_, rfl⟩
      have BZ : Hid (Below wr.heap.size wr wz ∧ wz.heap.size = wr.heap.size + 1 ∧ wz.heap[wr.heap.size]? = some (.cells #[.int .i64 0, .slice none 0 0] 77)) := by rw [hwz]; exact ⟨below_alloc _ _, by simp, heap_alloc_new _ _⟩
      have AP : Hid (Calls Tryz.prog 27 #[.pointer (some ⟨wa.heap.size, 0, none⟩)] wz fun e w' => e = .returned (.bool true) ∧ FrB (· = wa.heap.size) wd w' ∧ wz.heap.size ≤ w'.heap.size ∧ ∀ j, wr.heap.size ≤ j → j < wz.heap.size → w'.heap[j]? = wz.heap[j]?) := ph8 HI.out (by decide) BZ.out.1
      have ilt : ¬ ((3 : Nat) : Int) < 3 := by omega
      go_wp2_with (go_at_call 27; rw [← hwz]; refine AP.out.mono ?_; rintro e w12 ⟨rfl, g12⟩; have G12 : Hid (FrB (· = wa.heap.size) wd w12 ∧ wz.heap.size ≤ w12.heap.size ∧ ∀ j, wr.heap.size ≤ j → j < wz.heap.size → w12.heap[j]? = wz.heap[j]?) := g12; clear g12)
      obtain ⟨f12, z12, k12⟩ := G12.out
      have P12 : Hid (Pre w wd wa.heap.size k N (.slice a0 n0 c0) w12) := PR.out w12 f12
      have N12 : Hid (NZ w12 (some ⟨wr.heap.size, 0, none⟩)) := Or.inr ⟨wr.heap.size, rfl, (k12 _ (Nat.le_refl _) (by have := BZ.out.2.1; omega)).trans BZ.out.2.2⟩
      have K13 : Hid (Calls Tryz.prog 23 #[.pointer (some ⟨k + 1, 0, none⟩)] w12 fun e w' => ∃ v, e = .returned v ∧ LBs w12 (bitsL N 200) v w') := list_SB P12.out.sb (HT.out.later P12.out.bel)
      clear G12 f12 z12 k12 AP BZ PR HI hwz BR
      go_wp2_with (go_at_call 23; refine K13.out.mono ?_)
      rintro e w13 ⟨v13, rfl, h13⟩
      obtain ⟨a13, c13, rfl⟩ := il_len h13.il
      have K14 : Hid (Calls Tryz.prog 16 #[.slice a13 (bitsL N 200).length c13, .slice a0 n0 c0] w13 fun e w' => e = .returned (.bool true) ∧ Below w13.heap.size w13 w') := by
        obtain ⟨x1, x2, x3, x4⟩ := h13.il.inrowR
        obtain ⟨y1, y2, y3, y4⟩ := (P12.out.il.later h13.bel).inrowR
        cases x3
        simp only [Value.slice.injEq] at y3
        obtain ⟨rfl, _, rfl⟩ := y3
        exact (sameints_g a13 a0 _ n0 c13 c0 (bitsL N 200) w13 rfl HN0.out.1 (by have := HN0.out.2; omega) x4 y4).mono fun e w' ⟨q1, d, q2⟩ => ⟨q1, by rw [q2]; exact below_drewN (Below.refl _ _) d⟩
      have S13 : Hid (SB w13 k 200 N ∧ NZ w13 (some ⟨wr.heap.size, 0, none⟩) ∧ Below w.heap.size w w13) := ⟨P12.out.sb.later h13.bel, N12.out.later h13.bel, P12.out.bel.trans (h13.bel.mono P12.out.bel.size)⟩
      clear h13 K13 P12 N12 HN0
      generalize (bitsL N 200).length = n13 at *
      go_wp2_with (go_at_call 16; refine K14.out.mono ?_)
      rintro e w14 ⟨rfl, b14⟩
      have S14 : Hid (SB w14 k 200 N ∧ NZ w14 (some ⟨wr.heap.size, 0, none⟩) ∧ Below w.heap.size w w14) := ⟨S13.out.1.later b14, S13.out.2.1.later b14, S13.out.2.2.trans (b14.mono S13.out.2.2.size)⟩
      clear b14 S13 K14
      have K15 : Hid (Calls Tryz.prog 28 #[.pointer none, .pointer (some ⟨k + 1, 0, none⟩), .int .i64 x] w14 fun e w' => e = .returned (.bool true) ∧ SB w' k 200 N ∧ FrB (· = k) w14 w') := nothing_walk x (Or.inl rfl) S14.out.1
      go_wp2_with (go_at_call 28; refine K15.out.mono ?_)
      rintro e w15 ⟨rfl, s15, f15⟩
      have S15 : Hid (Below w.heap.size w w15) := frB_world S14.out.2.2 f15 (fun j e => by have e2 : j = k := e; have := PQ.out.1; omega)
      have K16 : Hid (Calls Tryz.prog 28 #[.pointer (some ⟨wr.heap.size, 0, none⟩), .pointer (some ⟨k + 1, 0, none⟩), .int .i64 x] w15 fun e w' => e = .returned (.bool true) ∧ SB w' k 200 N ∧ FrB (· = k) w15 w') := nothing_walk x (S14.out.2.1.frB S14.out.1 f15) s15
      clear s15 f15 S14 K15
      go_wp2_with (go_at_call 28; refine K16.out.mono ?_)
      rintro e w16 ⟨rfl, s16, f16⟩
      have S16 : Hid (Below w.heap.size w w16) := frB_world S15.out f16 (fun j e => by have e2 : j = k := e; have := PQ.out.1; omega)
      clear s16 f16 K16 S15
      go_wp2
      go_ret
      exact ⟨rfl, S16.out⟩
end Go.Proofs.YtcgghlaifmlpiaaGreatDoor
namespace Go.Proofs.YtcgghlaifmlpiaaGreatDoor
set_option linter.unusedVariables false
open Go.ChangeShapes Go.WideShapes Go.ChangeAt Go.RowKit

theorem gbulk_pos {H : Type} (d : DataW H) : 1 ≤ Rows.uptoBulk d := by
  cases d with
  | lit x => cases x <;> simp [Rows.uptoBulk]
  | nil => simp [Rows.uptoBulk]
  | ptr d => simp [Rows.uptoBulk]
  | slice a b => simp [Rows.uptoBulk]
  | agg a => simp [Rows.uptoBulk]
  | iface a d => simp [Rows.uptoBulk]
  | map a => simp [Rows.uptoBulk]
  | held a => simp [Rows.uptoBulk]
theorem gbulk_len {H : Type} : ∀ ds : List (DataW H), ds.length ≤ Rows.uptoBulkAll ds
  | [] => by simp
  | d :: r => by
    have := gbulk_len r
    have := gbulk_pos d
    simp only [Rows.uptoBulkAll, List.length_cons]
    omega
theorem gbulk_mem {H : Type} : ∀ {ds : List (DataW H)} {d : DataW H}, d ∈ ds → Rows.uptoBulk d ≤ Rows.uptoBulkAll ds
  | [], _, h => by cases h
  | a :: r, d, h => by
    simp only [Rows.uptoBulkAll]
    rcases List.mem_cons.1 h with rfl | h
    · omega
    · have := gbulk_mem h
      omega
theorem gbulk_el {H : Type} {el sp : List (DataW H)} {N : Nat} (h : Rows.uptoBulk (.slice el sp) ≤ N) : el.length ≤ N ∧ ∀ d ∈ el, Rows.uptoBulk d ≤ N := by
  simp only [Rows.uptoBulk] at h
  have h1 := gbulk_len el
  exact ⟨by omega, fun d hd => by have := gbulk_mem hd; omega⟩
theorem ld_bulk {H : Type} {n N : Nat} {d : DataW H} (h : LD n d) (hb : Rows.uptoBulk d ≤ N) : n ≤ N := by
  rcases h with ⟨_, rfl⟩ | ⟨el, sp, rfl, rfl⟩
  · exact Nat.zero_le _
  · exact (gbulk_el hb).1
end Go.Proofs.YtcgghlaifmlpiaaGreatDoor
