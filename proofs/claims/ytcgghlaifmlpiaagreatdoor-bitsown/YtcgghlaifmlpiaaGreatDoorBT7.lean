import Derived.Test.YtcgghlaifmlpiaaGreatDoorBT6
import Derived.Laws.CopyOwn
namespace Go.Proofs.YtcgghlaifmlpiaaGreatDoor
set_option linter.unusedVariables false
open Go.RowKit Go.Shelf

theorem wCells_len (N m : Nat) : (wCells N m).length = nwB m := by unfold wCells; rw [List.length_map, wdsB_len]
set_option maxRecDepth 100000 in
set_option maxHeartbeats 4000000 in
theorem copy_SB {w : World} {k m N : Nat} (h : SB w k m N) : Calls Tryz.prog 78 #[.pointer (some ⟨k + 1, 0, none⟩)] w fun e w' => e = .returned (.pointer (some ⟨w.heap.size + 1, 0, none⟩)) ∧ SB w' w.heap.size m N ∧ Below w.heap.size w w' := by
  have hml := h.ml
  have hnw := nwB_le h.ml
  have hn0 : 0 < nwB m := by unfold nwB; omega
  have HB : Hid (SB w k m N) := h
  have HS : Hid (Calls Tryz.prog 55 #[.pointer (some ⟨k + 1, 0, none⟩)] w fun e w' => e = .returned (.slice (some ⟨k, 0, none⟩) (nwB m) (nwB m)) ∧ w' = w) := held_SB h
  have HE : Hid (Calls Tryz.prog 87 #[.int .i64 (m : Int)] w fun e w' => e = .returned (.pointer (some ⟨w.heap.size + 1, 0, none⟩)) ∧ SB w' w.heap.size m 0 ∧ Below w.heap.size w w' ∧ w'.heap.size = w.heap.size + 2) := empty_SB m hml w
  obtain ⟨c0, c1⟩ := h.cells
  have ne : (((nwB m : Nat) : Int) == 0) = false := by simp; omega
  have ne2 : nwB m ≠ 0 := by omega
  clear h
  go_enter Tryz.func78, Tryz.ntmps78
  go_wp2_with (first
    | (go_at_call 55; refine HS.out.mono ?_; rintro e w1 ⟨rfl, hz⟩; rw [hz]; clear hz w1)
    | (go_at_call 87; refine HE.out.mono ?_; rintro e w1 ⟨rfl, s1, b1, z1⟩; have S1 : Hid (SB w1 w.heap.size m 0 ∧ Below w.heap.size w w1) := ⟨s1, b1⟩; clear s1 b1 z1))
  obtain ⟨wd, hwd⟩ : ∃ wd : World, wd = w1.drew := ⟨_, rfl⟩
  have BD : Hid (Below w.heap.size w wd) := by rw [hwd]; exact S1.out.2.drew
  have HD : Hid (SB wd k m N) := HB.out.later BD.out
  have HN : Hid (SB wd w.heap.size m 0) := by rw [hwd]; exact S1.out.1.later (Below.refl _ _).drew
  obtain ⟨-, d1⟩ := HD.out.cells
  obtain ⟨-, d2⟩ := HN.out.cells
  refine wp_region_tail_s 8 (by kernel_rfl) (by kernel_rfl) wd hwd ?_
  clear hwd S1 HS HE c0 c1
  simp only [List.take_succ_cons, List.take_zero, List.drop_succ_cons, List.drop_zero]
  refine st_yes (v := ?_) (by rfl) ?_ ?_
  rotate_left
  · (go_simp; with_reducible rfl)
  (try simp only [Act.put, List.setIfInBounds_toArray, List.set_cons_zero, List.set_cons_succ])
  refine st_yes (v := ?_) (by rfl) ?_ ?_
  rotate_left
  · (go_simp; with_reducible rfl)
  (try simp only [Act.put, List.setIfInBounds_toArray, List.set_cons_zero, List.set_cons_succ])
  refine st_yes (v := ?_) (by rfl) ?_ ?_
  rotate_left
  · (go_simp; with_reducible rfl)
  (try simp only [Act.put, List.setIfInBounds_toArray, List.set_cons_zero, List.set_cons_succ])
  refine st_yes (v := ?_) (by rfl) ?_ ?_
  rotate_left
  · (go_simp; with_reducible rfl)
  (try simp only [Act.put, List.setIfInBounds_toArray, List.set_cons_zero, List.set_cons_succ])
  refine st_yes (v := ?_) (by rfl) ?_ ?_
  rotate_left
  · (go_simp; with_reducible rfl)
  (try simp only [Act.put, List.setIfInBounds_toArray, List.set_cons_zero, List.set_cons_succ])
  refine st_yes (v := ?_) (by rfl) ?_ ?_
  rotate_left
  · (go_simp; with_reducible rfl)
  (try simp only [Act.put, List.setIfInBounds_toArray, List.set_cons_zero, List.set_cons_succ])
  refine st_yes (v := ?_) (by rfl) ?_ ?_
  rotate_left
  · (go_simp; with_reducible rfl)
  (try simp only [Act.put, List.setIfInBounds_toArray, List.set_cons_zero, List.set_cons_succ])
  refine st_yes (v := ?_) (by rfl) ?_ ?_
  rotate_left
  · (go_simp; with_reducible rfl)
  (try simp only [Act.put, List.setIfInBounds_toArray, List.set_cons_zero, List.set_cons_succ])
  refine st_nil ?_
  have e4 : ((wCells 0 m).toArray.toList.take 0 ++ (wCells N m ++ (wCells 0 m).toArray.toList.drop (0 + (wCells N m).length))).toArray = (wCells N m).toArray := by
    rw [List.take_zero, List.nil_append, Nat.zero_add, List.drop_eq_nil_of_le (by show (wCells 0 m).length ≤ _; rw [wCells_len, wCells_len]; exact Nat.le_refl _), List.append_nil]
  have HR : Hid (SB (wd.setRow w.heap.size (wCells N m).toArray) w.heap.size m N ∧ Below w.heap.size w (wd.setRow w.heap.size (wCells N m).toArray)) := by
    refine ⟨⟨?_, ?_, HB.out.lt, HB.out.ml⟩, below_setRow BD.out (Nat.le_refl _) _⟩
    · rw [setRow_other wd w.heap.size (w.heap.size + 1) _ (by omega)]
      exact HN.out.hd
    · exact setRow_heap wd w.heap.size _ _ 118 _ HN.out.wd
  refine wpList_copy_own rfl _ _ 75 75 rfl 118 Tryz.underlying75 (by kernel_rfl) w.heap.size 0 (nwB m) (nwB m) ⟨k, 0, none⟩ (nwB m) (nwB m) rfl rfl (wCells 0 m).toArray 118 HN.out.wd (wCells N m) (by rw [wCells_len]; exact (Nat.min_self _).symm) (fun j v hj => ?_) (by rw [wCells_len, List.size_toArray, wCells_len]; omega) (fun v hv => ?_) ?_
  · have hjl : j < nwB m := by
      have := (List.getElem?_eq_some_iff.1 hj).1
      rwa [wCells_len] at this
    rw [add_none, Nat.zero_add, HD.out.word hjl]
    unfold wCells at hj
    rw [List.getElem?_map, wdsB_get _ _ hjl] at hj
    exact hj
  · unfold wCells at hv
    obtain ⟨x, _, rfl⟩ := List.mem_map.1 hv
    rfl
  · rw [e4]
    clear e4 HD HN HB BD d1 d2
    generalize wd.setRow w.heap.size (wCells N m).toArray = w5 at *
    go_wp2
    go_ret
    exact ⟨rfl, HR.out.1, HR.out.2⟩
theorem SB.apart {w : World} {k m N k2 m2 M : Nat} (h : SB w k m N) (h2 : SB w k2 m2 M) : k2 + 1 ≠ k := by
  intro e
  have a := h.wd
  rw [← e, h2.hd] at a
  simp only [Option.some.injEq, Obj.cells.injEq] at a
  exact absurd a.2.1 (by decide)
theorem oth_word {w : World} {k m N k2 m2 M : Nat} (h : SB w k m N) (h2 : SB w k2 m2 M) (hne : k2 ≠ k) (X : Nat) : ∀ wr i, i < nwB m → MXB w k m N X i wr → Calls Tryz.prog 124 #[.slice (some ⟨k2, 0, none⟩) (nwB m2) (nwB m2), .int .i64 (i : Int)] wr fun e w' => e = .returned (.int .u64 (wdB M i : Int)) ∧ w' = wr :=
  fun wr i _ hx => (h2.frB hx.fr hne (h.apart h2)).wordAt i
theorem own_word {w : World} {k m N : Nat} (h : SB w k m N) (X : Nat) : ∀ wr i, i < nwB m → MXB w k m N X i wr → Calls Tryz.prog 124 #[.slice (some ⟨k, 0, none⟩) (nwB m) (nwB m), .int .i64 (i : Int)] wr fun e w' => e = .returned (.int .u64 (wdB N i : Int)) ∧ w' = wr :=
  fun wr i hi hx => wordAt_SB k (nwB m) (nwB m) i (wdB N i) wr (fun _ => hx.word hi) (fun q => absurd hi q) (by have := nwB_le h.ml; omega)
set_option maxRecDepth 100000 in
set_option maxHeartbeats 4000000 in
theorem union_SB {w : World} {k m N k2 m2 M : Nat} (h : SB w k m N) (h2 : SB w k2 m2 M) (hne : k2 ≠ k) : Calls Tryz.prog 75 #[.pointer (some ⟨k + 1, 0, none⟩), .pointer (some ⟨k2 + 1, 0, none⟩)] w fun e w' => e = .returned (.bool (decide ((N ||| M) % 2 ^ m ≠ N))) ∧ SB w' k m ((N ||| M) % 2 ^ m) ∧ FrB (· = k) w w' := by
  have CH : Hid (Calls Tryz.prog 109 #[.pointer (some ⟨k + 1, 0, none⟩), .pointer (some ⟨k2 + 1, 0, none⟩), .func (.func 110) #[] #[]] w fun e w' => e = .returned (.bool (decide ((N ||| M) % 2 ^ m ≠ N))) ∧ SB w' k m ((N ||| M) % 2 ^ m) ∧ FrB (· = k) w w') := union_ch (M := M) (.pointer (some ⟨k2 + 1, 0, none⟩)) (.slice (some ⟨k2, 0, none⟩) (nwB m2) (nwB m2)) h (fun i _ => wdB_lt M i) (held_SB h2) (oth_word h h2 hne _)
  clear h h2 hne
  generalize (N ||| M) % 2 ^ m = X at *
  generalize hbv : decide (X ≠ N) = bv at *
  clear hbv
  go_enter Tryz.func75, Tryz.ntmps75
  go_wp2_with (go_at_call 109; refine CH.out.mono ?_; rintro e w1 ⟨rfl, s1, f1⟩; have S1 : Hid (SB w1 k m X ∧ FrB (· = k) w w1) := ⟨s1, f1⟩; clear s1 f1)
  go_ret
  exact ⟨rfl, S1.out.1, S1.out.2⟩
set_option maxRecDepth 100000 in
set_option maxHeartbeats 4000000 in
theorem union_own {w : World} {k m N : Nat} (h : SB w k m N) : Calls Tryz.prog 75 #[.pointer (some ⟨k + 1, 0, none⟩), .pointer (some ⟨k + 1, 0, none⟩)] w fun e w' => e = .returned (.bool (decide ((N ||| N) % 2 ^ m ≠ N))) ∧ SB w' k m ((N ||| N) % 2 ^ m) ∧ FrB (· = k) w w' := by
  have CH : Hid (Calls Tryz.prog 109 #[.pointer (some ⟨k + 1, 0, none⟩), .pointer (some ⟨k + 1, 0, none⟩), .func (.func 110) #[] #[]] w fun e w' => e = .returned (.bool (decide ((N ||| N) % 2 ^ m ≠ N))) ∧ SB w' k m ((N ||| N) % 2 ^ m) ∧ FrB (· = k) w w') := union_ch (M := N) (.pointer (some ⟨k + 1, 0, none⟩)) (.slice (some ⟨k, 0, none⟩) (nwB m) (nwB m)) h (fun i _ => wdB_lt N i) (held_SB h) (own_word h _)
  clear h
  generalize (N ||| N) % 2 ^ m = X at *
  generalize hbv : decide (X ≠ N) = bv at *
  clear hbv
  go_enter Tryz.func75, Tryz.ntmps75
  go_wp2_with (go_at_call 109; refine CH.out.mono ?_; rintro e w1 ⟨rfl, s1, f1⟩; have S1 : Hid (SB w1 k m X ∧ FrB (· = k) w w1) := ⟨s1, f1⟩; clear s1 f1)
  go_ret
  exact ⟨rfl, S1.out.1, S1.out.2⟩
set_option maxRecDepth 100000 in
set_option maxHeartbeats 4000000 in
theorem meet_SB {w : World} {k m N k2 m2 M : Nat} (h : SB w k m N) (h2 : SB w k2 m2 M) (hne : k2 ≠ k) : Calls Tryz.prog 76 #[.pointer (some ⟨k + 1, 0, none⟩), .pointer (some ⟨k2 + 1, 0, none⟩)] w fun e w' => e = .returned (.bool (decide ((N &&& M) % 2 ^ m ≠ N))) ∧ SB w' k m ((N &&& M) % 2 ^ m) ∧ FrB (· = k) w w' := by
  have CH : Hid (Calls Tryz.prog 109 #[.pointer (some ⟨k + 1, 0, none⟩), .pointer (some ⟨k2 + 1, 0, none⟩), .func (.func 111) #[] #[]] w fun e w' => e = .returned (.bool (decide ((N &&& M) % 2 ^ m ≠ N))) ∧ SB w' k m ((N &&& M) % 2 ^ m) ∧ FrB (· = k) w w') := meet_ch (M := M) (.pointer (some ⟨k2 + 1, 0, none⟩)) (.slice (some ⟨k2, 0, none⟩) (nwB m2) (nwB m2)) h (fun i _ => wdB_lt M i) (held_SB h2) (oth_word h h2 hne _)
  clear h h2 hne
  generalize (N &&& M) % 2 ^ m = X at *
  generalize hbv : decide (X ≠ N) = bv at *
  clear hbv
  go_enter Tryz.func76, Tryz.ntmps76
  go_wp2_with (go_at_call 109; refine CH.out.mono ?_; rintro e w1 ⟨rfl, s1, f1⟩; have S1 : Hid (SB w1 k m X ∧ FrB (· = k) w w1) := ⟨s1, f1⟩; clear s1 f1)
  go_ret
  exact ⟨rfl, S1.out.1, S1.out.2⟩
set_option maxRecDepth 100000 in
set_option maxHeartbeats 4000000 in
theorem meet_own {w : World} {k m N : Nat} (h : SB w k m N) : Calls Tryz.prog 76 #[.pointer (some ⟨k + 1, 0, none⟩), .pointer (some ⟨k + 1, 0, none⟩)] w fun e w' => e = .returned (.bool (decide ((N &&& N) % 2 ^ m ≠ N))) ∧ SB w' k m ((N &&& N) % 2 ^ m) ∧ FrB (· = k) w w' := by
  have CH : Hid (Calls Tryz.prog 109 #[.pointer (some ⟨k + 1, 0, none⟩), .pointer (some ⟨k + 1, 0, none⟩), .func (.func 111) #[] #[]] w fun e w' => e = .returned (.bool (decide ((N &&& N) % 2 ^ m ≠ N))) ∧ SB w' k m ((N &&& N) % 2 ^ m) ∧ FrB (· = k) w w') := meet_ch (M := N) (.pointer (some ⟨k + 1, 0, none⟩)) (.slice (some ⟨k, 0, none⟩) (nwB m) (nwB m)) h (fun i _ => wdB_lt N i) (held_SB h) (own_word h _)
  clear h
  generalize (N &&& N) % 2 ^ m = X at *
  generalize hbv : decide (X ≠ N) = bv at *
  clear hbv
  go_enter Tryz.func76, Tryz.ntmps76
  go_wp2_with (go_at_call 109; refine CH.out.mono ?_; rintro e w1 ⟨rfl, s1, f1⟩; have S1 : Hid (SB w1 k m X ∧ FrB (· = k) w w1) := ⟨s1, f1⟩; clear s1 f1)
  go_ret
  exact ⟨rfl, S1.out.1, S1.out.2⟩
set_option maxRecDepth 100000 in
set_option maxHeartbeats 4000000 in
theorem minus_SB {w : World} {k m N k2 m2 M : Nat} (h : SB w k m N) (h2 : SB w k2 m2 M) (hne : k2 ≠ k) : Calls Tryz.prog 77 #[.pointer (some ⟨k + 1, 0, none⟩), .pointer (some ⟨k2 + 1, 0, none⟩)] w fun e w' => e = .returned (.bool (decide ((minusB N M) % 2 ^ m ≠ N))) ∧ SB w' k m ((minusB N M) % 2 ^ m) ∧ FrB (· = k) w w' := by
  have CH : Hid (Calls Tryz.prog 109 #[.pointer (some ⟨k + 1, 0, none⟩), .pointer (some ⟨k2 + 1, 0, none⟩), .func (.func 112) #[] #[]] w fun e w' => e = .returned (.bool (decide ((minusB N M) % 2 ^ m ≠ N))) ∧ SB w' k m ((minusB N M) % 2 ^ m) ∧ FrB (· = k) w w') := minus_ch (M := M) (.pointer (some ⟨k2 + 1, 0, none⟩)) (.slice (some ⟨k2, 0, none⟩) (nwB m2) (nwB m2)) h (fun i _ => wdB_lt M i) (held_SB h2) (oth_word h h2 hne _)
  clear h h2 hne
  generalize (minusB N M) % 2 ^ m = X at *
  generalize hbv : decide (X ≠ N) = bv at *
  clear hbv
  go_enter Tryz.func77, Tryz.ntmps77
  go_wp2_with (go_at_call 109; refine CH.out.mono ?_; rintro e w1 ⟨rfl, s1, f1⟩; have S1 : Hid (SB w1 k m X ∧ FrB (· = k) w w1) := ⟨s1, f1⟩; clear s1 f1)
  go_ret
  exact ⟨rfl, S1.out.1, S1.out.2⟩
set_option maxRecDepth 100000 in
set_option maxHeartbeats 4000000 in
theorem minus_own {w : World} {k m N : Nat} (h : SB w k m N) : Calls Tryz.prog 77 #[.pointer (some ⟨k + 1, 0, none⟩), .pointer (some ⟨k + 1, 0, none⟩)] w fun e w' => e = .returned (.bool (decide ((minusB N N) % 2 ^ m ≠ N))) ∧ SB w' k m ((minusB N N) % 2 ^ m) ∧ FrB (· = k) w w' := by
  have CH : Hid (Calls Tryz.prog 109 #[.pointer (some ⟨k + 1, 0, none⟩), .pointer (some ⟨k + 1, 0, none⟩), .func (.func 112) #[] #[]] w fun e w' => e = .returned (.bool (decide ((minusB N N) % 2 ^ m ≠ N))) ∧ SB w' k m ((minusB N N) % 2 ^ m) ∧ FrB (· = k) w w') := minus_ch (M := N) (.pointer (some ⟨k + 1, 0, none⟩)) (.slice (some ⟨k, 0, none⟩) (nwB m) (nwB m)) h (fun i _ => wdB_lt N i) (held_SB h) (own_word h _)
  clear h
  generalize (minusB N N) % 2 ^ m = X at *
  generalize hbv : decide (X ≠ N) = bv at *
  clear hbv
  go_enter Tryz.func77, Tryz.ntmps77
  go_wp2_with (go_at_call 109; refine CH.out.mono ?_; rintro e w1 ⟨rfl, s1, f1⟩; have S1 : Hid (SB w1 k m X ∧ FrB (· = k) w w1) := ⟨s1, f1⟩; clear s1 f1)
  go_ret
  exact ⟨rfl, S1.out.1, S1.out.2⟩
end Go.Proofs.YtcgghlaifmlpiaaGreatDoor
