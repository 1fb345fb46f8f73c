import Derived.Test.YtmpdgmigpjfcpaaDoorBZ16
import Derived.Test.YtmpdgmigpjfcpaaDoorBArg
namespace Go.Proofs.YtmpdgmigpjfcpaaDoor
set_option linter.unusedVariables false
open Go.RowKit Go.Shelf

/-- Is a pair among them? -/
def hasP (E : List (Int × Int)) (a b : Int) : Bool := E.any fun p => decide (p.1 = a) && decide (p.2 = b)
theorem hasP_nat (E : List (Int × Int)) (x y : Nat) : hasP E (x : Int) (y : Int) = hasE E x y := rfl
theorem PrsB.at {w : World} {ao : Option Addr} {l : List (Int × Int)} (h : PrsB w ao l) {i : Nat} (hi : i < l.length) : ∃ b off, ao = some ⟨b, off, none⟩ ∧ w.cell? ⟨b, off + i * 2, none⟩ = some (.int .i64 (l.getD i (0, 0)).1) ∧ w.cell? ⟨b, off + i * 2 + 1, none⟩ = some (.int .i64 (l.getD i (0, 0)).2) := by
  obtain ⟨b, off, e, _, hc⟩ := h (fun q => by rw [q] at hi; simp at hi)
  exact ⟨b, off, e, (hc i hi).1, (hc i hi).2⟩
theorem pair_drop {l : List (Int × Int)} {i : Nat} (h : i < l.length) : l.drop i = l.getD i (0, 0) :: l.drop (i + 1) := by
  rw [List.drop_eq_getElem_cons h, List.getD_eq_getElem?_getD, List.getElem?_eq_getElem h]
  rfl
set_option maxRecDepth 100000 in
set_option maxHeartbeats 8000000 in
theorem has_B {w : World} {ea : Option Addr} {E : List (Int × Int)} (hE : PrsB w ea E) (hEl : E.length ≤ 140737488355328) (ec : Nat) (a b : Int) : Calls Tryd.prog 31 #[.slice ea E.length ec, .agg #[.int .i64 a, .int .i64 b]] w fun e w' => e = .returned (.bool (hasP E a b)) ∧ Below w.heap.size w w' := by
  have HE : Hid (PrsB w ea E) := hE
  have W0 : Hid ((w.alloc (.cells #[.int .i64 a, .int .i64 b] 59)).heap[w.heap.size]? = some (.cells #[.int .i64 a, .int .i64 b] 59) ∧ Below w.heap.size w (w.alloc (.cells #[.int .i64 a, .int .i64 b] 59))) := ⟨heap_alloc_new w _, below_alloc w _⟩
  obtain ⟨R, hR⟩ : ∃ R, hasP E a b = R := ⟨_, rfl⟩
  have HR : Hid (hasP E a b = R) := hR
  rw [hR]
  clear hE hR
  go_enter Tryd.func31, Tryd.ntmps31
  go_wp2
  go_loopw [5] (fun z wr => ∃ i : Nat, i ≤ E.length ∧ z = .int .i64 (i : Int) ∧ wr.heap[w.heap.size]? = some (.cells #[.int .i64 a, .int .i64 b] 59) ∧ Below w.heap.size w wr ∧ hasP (E.drop i) a b = R) (fun z _ => E.length - (intOf z).toNat)
  case atStart => exact ⟨0, Nat.zero_le _, rfl, W0.out.1, W0.out.2, HR.out⟩
  case round =>
    clear W0 HR
    obtain ⟨i, hi, rfl, hX, hB, hF⟩ := hrel
    by_cases hlt : i < E.length
    · have ilt : (i : Int) < (E.length : Int) := by omega
      obtain ⟨eb, eo, hea, c0, c1⟩ := (HE.out.later hB).at hlt
      rw [pair_drop hlt] at hF
      obtain ⟨x, y, hxy⟩ : ∃ x y, E.getD i (0, 0) = (x, y) := ⟨_, _, rfl⟩
      rw [hxy] at c0 c1 hF
      have d0 : wr.cell? ⟨w.heap.size, 0, none⟩ = some (.int .i64 a) := (cellq_any hX).trans rfl
      have d1 : wr.cell? ⟨w.heap.size, 1, none⟩ = some (.int .i64 b) := (cellq_any hX).trans rfl
      have HW : Hid (wr.heap[w.heap.size]? = some (.cells #[.int .i64 a, .int .i64 b] 59) ∧ Below w.heap.size w wr) := ⟨hX, hB⟩
      have hF' : (decide (x = a) && decide (y = b) || hasP (E.drop (i + 1)) a b) = R := hF
      subst hea
      by_cases hxa : x = a
      · by_cases hyb : y = b
        · subst hxa
          subst hyb
          have hR : R = true := by rw [← hF']; simp
          subst hR
          clear hX hB hF hF' hxy
          go_wp2
          go_quiet (fail)
          go_wp2
          go_ret
          exact ⟨rfl, HW.out.2.trans ((belN wr _).mono HW.out.2.size)⟩
        · subst hxa
          have yb : (y == b) = false := by simpa using hyb
          have HF : Hid (hasP (E.drop (i + 1)) x b = R) := by show _ = _; rw [← hF']; simp [hyb]
          clear hX hB hF hF' hxy hyb
          go_wp2
          go_quiet (fail)
          go_wp2
          go_roundw
          case rel => exact ⟨i + 1, by omega, by go_num, HW.out.1, HW.out.2.trans ((belN wr _).mono HW.out.2.size), HF.out⟩
          case measure => simp [intOf]; omega
      · have xa : (x == a) = false := by simpa using hxa
        have HF : Hid (hasP (E.drop (i + 1)) a b = R) := by show _ = _; rw [← hF']; simp [hxa]
        clear hX hB hF hF' hxy hxa
        go_wp2
        go_quiet (fail)
        go_wp2
        go_roundw
        case rel => exact ⟨i + 1, by omega, by go_num, HW.out.1, HW.out.2.trans ((belN wr _).mono HW.out.2.size), HF.out⟩
        case measure => simp [intOf]; omega
    · obtain rfl : i = E.length := by omega
      have ilt : ¬ (E.length : Int) < (E.length : Int) := by omega
      rw [List.drop_length] at hF
      have hF' : false = R := hF
      subst hF'
      have HW : Hid (Below w.heap.size w wr) := hB
      clear hX hB hF
      go_wp2
      go_ret
      exact ⟨rfl, HW.out⟩
end Go.Proofs.YtmpdgmigpjfcpaaDoor
