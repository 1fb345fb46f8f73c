import Derived.Test.YtmpdgmigpjfcpaaDoorBO1
namespace Go.Proofs.YtmpdgmigpjfcpaaDoor
set_option linter.unusedVariables false
open Go.RowKit Go.Shelf

/-- Closed under going on. -/
def clR (L : List (Int × Int)) (p : Int × Int) (M : List (Int × Int)) : Bool := M.all fun q => !(decide (p.2 = q.1)) || hasP L p.1 q.2
def clP (L M : List (Int × Int)) : Bool := M.all fun p => clR L p L
set_option maxRecDepth 100000 in
set_option maxHeartbeats 16000000 in
theorem closed_B {w : World} {la : Option Addr} {L : List (Int × Int)} (hL : PrsB w la L) (hLl : L.length ≤ 140737488355328) (lc : Nat) : Calls Tryd.prog 30 #[.slice la L.length lc] w fun e w' => e = .returned (.bool (clP L L)) ∧ Below w.heap.size w w' := by
  have HL : Hid (PrsB w la L) := hL
  have HAS : Hid (∀ w3, Below w.heap.size w w3 → ∀ a b : Int, Calls Tryd.prog 31 #[.slice la L.length lc, .agg #[.int .i64 a, .int .i64 b]] w3 fun e w' => e = .returned (.bool (hasP L a b)) ∧ Below w3.heap.size w3 w') := fun w3 b3 a b => has_B (HL.out.later b3) hLl lc a b
  obtain ⟨R, hR⟩ : ∃ R, clP L L = R := ⟨_, rfl⟩
  have HR : Hid (clP L L = R) := hR
  rw [hR]
  clear hL hR
  go_enter Tryd.func30, Tryd.ntmps30
  go_wp2
  go_loopw [3] (fun z wr => ∃ i : Nat, i ≤ L.length ∧ z = .int .i64 (i : Int) ∧ Below w.heap.size w wr ∧ clP L (L.drop i) = R) (fun z _ => L.length - (intOf z).toNat)
  case atStart => exact ⟨0, Nat.zero_le _, rfl, Below.refl _ _, HR.out⟩
  case round =>
    clear HR
    obtain ⟨i, hi, rfl, hB, hF⟩ := hrel
    by_cases hlt : i < L.length
    · have ilt : (i : Int) < (L.length : Int) := by omega
      rw [pair_drop hlt] at hF
      obtain ⟨pa, pb, hp⟩ : ∃ pa pb, L.getD i (0, 0) = (pa, pb) := ⟨_, _, rfl⟩
      rw [hp] at hF
      have HF : Hid ((clR L (pa, pb) L && clP L (L.drop (i + 1))) = R) := hF
      have HP : Hid (L.getD i (0, 0) = (pa, pb)) := hp
      have HB : Hid (Below w.heap.size w wr) := hB
      clear hF hp hB
      obtain ⟨wz, rfl⟩ : ∃ wz : World, wz = wr := ⟨_, rfl⟩
      go_wp2
      go_loopw [4] (fun z wr => ∃ k : Nat, k ≤ L.length ∧ z = .int .i64 (k : Int) ∧ Below w.heap.size w wr ∧ (clR L (pa, pb) (L.drop k) && clP L (L.drop (i + 1))) = R) (fun z _ => L.length - (intOf z).toNat)
      case atStart => exact ⟨0, Nat.zero_le _, rfl, HB.out, HF.out⟩
      case round =>
        clear HB HF
        obtain ⟨k, hk, rfl, hB, hF⟩ := hrel
        by_cases hkl : k < L.length
        · have klt : (k : Int) < (L.length : Int) := by omega
          rw [pair_drop hkl] at hF
          obtain ⟨lb, lo, hla, _, hcell⟩ := HL.out (fun q => by rw [q] at hlt; simp at hlt)
          obtain ⟨c1, c2⟩ := hcell i hlt
          obtain ⟨c3, c4⟩ := hcell k hkl
          obtain ⟨qa, qb, hq⟩ : ∃ qa qb, L.getD k (0, 0) = (qa, qb) := ⟨_, _, rfl⟩
          rw [HP.out] at c1 c2
          rw [hq] at c3 c4 hF
          have C1 : Hid (∀ wq, Below wr.heap.size wr wq → wq.cell? ⟨lb, lo + i * 2, none⟩ = some (.int .i64 pa)) := fun wq bq => cellL (cellL c1 hB) bq
          have C2 : Hid (∀ wq, Below wr.heap.size wr wq → wq.cell? ⟨lb, lo + i * 2 + 1, none⟩ = some (.int .i64 pb)) := fun wq bq => cellL (cellL c2 hB) bq
          have C3 : Hid (∀ wq, Below wr.heap.size wr wq → wq.cell? ⟨lb, lo + k * 2, none⟩ = some (.int .i64 qa)) := fun wq bq => cellL (cellL c3 hB) bq
          have C4 : Hid (∀ wq, Below wr.heap.size wr wq → wq.cell? ⟨lb, lo + k * 2 + 1, none⟩ = some (.int .i64 qb)) := fun wq bq => cellL (cellL c4 hB) bq
          have hF' : ((!(decide (pb = qa)) || hasP L pa qb) && clR L (pa, pb) (L.drop (k + 1)) && clP L (L.drop (i + 1))) = R := hF
          have HB : Hid (∀ wq, Below wr.heap.size wr wq → Below w.heap.size w wq) := fun wq bq => hB.trans (bq.mono hB.size)
          have BR : Hid (Below wr.heap.size wr wr.drew) := (Below.refl _ _).drew
          by_cases he : pb = qa
          · subst he
            have CA : Hid (∀ wq, Below wr.heap.size wr wq → Calls Tryd.prog 31 #[.slice la L.length lc, .agg #[.int .i64 pa, .int .i64 qb]] wq fun e w' => e = .returned (.bool (hasP L pa qb)) ∧ Below wr.heap.size wr w') := fun wq bq => (HAS.out wq (HB.out wq bq) _ _).mono fun e w' ⟨q1, q2⟩ => ⟨q1, bq.trans (q2.mono bq.size)⟩
            subst hla
            cases hh : hasP L pa qb with
            | true =>
              rw [hh] at hF' CA
              have HF : Hid ((clR L (pa, pb) (L.drop (k + 1)) && clP L (L.drop (i + 1))) = R) := by show _ = _; rw [← hF']; simp
              clear hB hF hF' c1 c2 c3 c4 hcell hq hh
              go_wp2
              refine wp_region_q (C := fun wq => Below wr.heap.size wr wq) (by kernel_rfl) (by kernel_rfl) BR.out ?_
              iterate 24 (refine qt_yes (v := ?_) (by rfl) ?_ ?_; rotate_left; (· (intro wq hSw; have f1 := C1.out wq hSw; have f2 := C2.out wq hSw; have f3 := C3.out wq hSw; have f4 := C4.out wq hSw; clear hSw; go_simp; with_reducible rfl)); (try simp only [Act.put, List.setIfInBounds_toArray, List.set_cons_zero, List.set_cons_succ]))
              refine qt_call (v := .bool true) 31 #[.slice (some ⟨lb, lo, none⟩) L.length lc, .agg #[.int .i64 pa, .int .i64 qb]] (by rfl) ?_ (fun wq hq => CA.out wq hq) ?_
              · intro wq hSw
                clear hSw
                go_simp
                try with_reducible rfl
              (try simp only [Act.put, List.setIfInBounds_toArray, List.set_cons_zero, List.set_cons_succ])
              iterate 2 (refine qt_yes (v := ?_) (by rfl) ?_ ?_; rotate_left; (· (intro wq hSw; have f1 := C1.out wq hSw; have f2 := C2.out wq hSw; have f3 := C3.out wq hSw; have f4 := C4.out wq hSw; clear hSw; go_simp; with_reducible rfl)); (try simp only [Act.put, List.setIfInBounds_toArray, List.set_cons_zero, List.set_cons_succ]))
              refine qt_nil ?_
              intro wq hSw
              have HQ : Hid (Below w.heap.size w wq) := HB.out wq hSw
              clear hSw
              go_wp2
              go_roundw
              case rel => exact ⟨k + 1, by omega, by go_num, HQ.out, HF.out⟩
              case measure => simp [intOf]; omega
            | false =>
              rw [hh] at hF' CA
              have hRf : R = false := by rw [← hF']; simp
              subst hRf
              clear hB hF hF' c1 c2 c3 c4 hcell hq hh
              go_wp2
              refine wp_region_q (C := fun wq => Below wr.heap.size wr wq) (by kernel_rfl) (by kernel_rfl) BR.out ?_
              iterate 24 (refine qt_yes (v := ?_) (by rfl) ?_ ?_; rotate_left; (· (intro wq hSw; have f1 := C1.out wq hSw; have f2 := C2.out wq hSw; have f3 := C3.out wq hSw; have f4 := C4.out wq hSw; clear hSw; go_simp; with_reducible rfl)); (try simp only [Act.put, List.setIfInBounds_toArray, List.set_cons_zero, List.set_cons_succ]))
              refine qt_call (v := .bool false) 31 #[.slice (some ⟨lb, lo, none⟩) L.length lc, .agg #[.int .i64 pa, .int .i64 qb]] (by rfl) ?_ (fun wq hq => CA.out wq hq) ?_
              · intro wq hSw
                clear hSw
                go_simp
                try with_reducible rfl
              (try simp only [Act.put, List.setIfInBounds_toArray, List.set_cons_zero, List.set_cons_succ])
              iterate 2 (refine qt_yes (v := ?_) (by rfl) ?_ ?_; rotate_left; (· (intro wq hSw; have f1 := C1.out wq hSw; have f2 := C2.out wq hSw; have f3 := C3.out wq hSw; have f4 := C4.out wq hSw; clear hSw; go_simp; with_reducible rfl)); (try simp only [Act.put, List.setIfInBounds_toArray, List.set_cons_zero, List.set_cons_succ]))
              refine qt_nil ?_
              intro wq hSw
              have HQ : Hid (Below w.heap.size w wq) := HB.out wq hSw
              clear hSw
              go_wp2
              go_ret
              exact ⟨rfl, HQ.out⟩
          · have hne : (pb == qa) = false := by simpa using he
            have HF : Hid ((clR L (pa, pb) (L.drop (k + 1)) && clP L (L.drop (i + 1))) = R) := by show _ = _; rw [← hF']; simp [he]
            subst hla
            clear hB hF hF' c1 c2 c3 c4 hcell hq he
            go_wp2
            refine wp_region_q (C := fun wq => Below wr.heap.size wr wq) (by kernel_rfl) (by kernel_rfl) BR.out ?_
            iterate 12 (refine qt_yes (v := ?_) (by rfl) ?_ ?_; rotate_left; (· (intro wq hSw; have f1 := C1.out wq hSw; have f2 := C2.out wq hSw; have f3 := C3.out wq hSw; have f4 := C4.out wq hSw; clear hSw; go_simp; with_reducible rfl)); (try simp only [Act.put, List.setIfInBounds_toArray, List.set_cons_zero, List.set_cons_succ]))
            iterate 14 (refine qt_no (by rfl) ?_; (try simp only [Act.put, List.setIfInBounds_toArray, List.set_cons_zero, List.set_cons_succ]))
            iterate 1 (refine qt_yes (v := ?_) (by rfl) ?_ ?_; rotate_left; (· (intro wq hSw; have f1 := C1.out wq hSw; have f2 := C2.out wq hSw; have f3 := C3.out wq hSw; have f4 := C4.out wq hSw; clear hSw; go_simp; with_reducible rfl)); (try simp only [Act.put, List.setIfInBounds_toArray, List.set_cons_zero, List.set_cons_succ]))
            refine qt_nil ?_
            intro wq hSw
            have HQ : Hid (Below w.heap.size w wq) := HB.out wq hSw
            clear hSw
            go_wp2
            go_roundw
            case rel => exact ⟨k + 1, by omega, by go_num, HQ.out, HF.out⟩
            case measure => simp [intOf]; omega
        · obtain rfl : k = L.length := by omega
          have klt : ¬ (L.length : Int) < (L.length : Int) := by omega
          rw [List.drop_length] at hF
          have HN : Hid (Below w.heap.size w wr ∧ clP L (L.drop (i + 1)) = R) := ⟨hB, by rw [← hF]; simp [clR]⟩
          clear hB hF
          go_wp2
          go_roundw
          case rel => exact ⟨i + 1, by omega, by go_num, HN.out.1, HN.out.2⟩
          case measure => simp [intOf]; omega
    · obtain rfl : i = L.length := by omega
      have ilt : ¬ (L.length : Int) < (L.length : Int) := by omega
      rw [List.drop_length] at hF
      have hF' : true = R := hF
      subst hF'
      have HB : Hid (Below w.heap.size w wr) := hB
      clear hB hF
      go_wp2
      go_ret
      exact ⟨rfl, HB.out⟩
end Go.Proofs.YtmpdgmigpjfcpaaDoor
