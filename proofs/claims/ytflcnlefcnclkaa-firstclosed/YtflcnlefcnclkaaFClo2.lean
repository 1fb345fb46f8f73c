import Derived.Test.YtflcnlefcnclkaaFClo
namespace Go.Proofs.Ytflcnlefcnclkaa
set_option linter.unusedVariables false
open Go.RowKit

theorem BRow.get0 {w : World} {nb k : Nat} {N : List Bool} (h : BRow w (some ⟨nb, 0, none⟩) N) (hk : k < N.length) : w.cell? ⟨nb, k, none⟩ = some (.bool (N.getD k false)) := by
  obtain ⟨b, off, e, _, hc⟩ := h (by intro q; rw [q] at hk; simp at hk)
  simp only [Option.some.injEq, Addr.mk.injEq] at e
  obtain ⟨rfl, rfl, _⟩ := e
  have := hc k hk
  rwa [Nat.zero_add] at this
theorem LsRow.get0 {w : World} {nb k : Nat} {L : List (List Int)} (h : LsRow w (some ⟨nb, 0, none⟩) L) (hk : k < L.length) : nb < w.heap.size ∧ ∃ a c, w.cell? ⟨nb, k, none⟩ = some (.slice a (L.getD k []).length c) ∧ InRow w a (L.getD k []) := by
  obtain ⟨b, off, e, hb, hc⟩ := h (by intro q; rw [q] at hk; simp at hk)
  simp only [Option.some.injEq, Addr.mk.injEq] at e
  obtain ⟨rfl, rfl, _⟩ := e
  have := hc k hk
  rw [Nat.zero_add] at this
  exact ⟨hb, this⟩
set_option maxRecDepth 100000 in
set_option maxHeartbeats 8000000 in
theorem closed_ok (g : GV) (na fa : Option Addr) (nc fc : Nat) (N : List Bool) (L : List (List Int)) (w : World) (C : CloF g w na fa nc fc N L) (hNl : N.length ≤ 140737488355328) (hLl : L.length ≤ 140737488355328) (hll : ∀ l ∈ L, l.length ≤ 140737488355328) :
    Calls Try.prog 3 #[g.val, .slice na N.length nc, .slice fa L.length fc] w fun e w' => e = .returned (.bool true) ∧ Below w.heap.size w w' := by
  have X0 : Hid ((w.alloc (gBox g)).heap[w.heap.size]? = some (gBox g)) := heap_alloc_new _ _
  have CC : Hid (CloF g w na fa nc fc N L) := C
  have HLL : Hid (∀ l ∈ L, l.length ≤ 140737488355328) := hll
  have hns := C.nl
  have T0 : Hid True := trivial
  obtain ⟨c1, d1, c2, d2, K1, K2, hhas, hpart⟩ : ∃ c1 d1 c2 d2 : Int, Hid (∀ w', Below w.heap.size w w' → Calls Try.prog 7 #[g.val, .slice na N.length nc] w' fun e w'' => e = .returned (.tuple #[.int .i64 c1, .int .i64 d1]) ∧ Below w'.heap.size w' w'') ∧ Hid (∀ w', Below w.heap.size w w' → Calls Try.prog 8 #[g.val, .slice na N.length nc, .slice fa L.length fc] w' fun e w'' => e = .returned (.tuple #[.int .i64 c2, .int .i64 d2]) ∧ Below w'.heap.size w' w'') ∧ Hid (c1 = 0 → N.length = g.ns.length ∧ ∀ i, (nullU g.ps g.ns.length).getD i false = true → N.getD i false = true) ∧ Hid (∀ F, LeastF g F → c1 = 0 → c2 = 0 → L.length = g.ns.length ∧ ∀ k, k < g.ns.length → partL ((listsU F).getD k []) (L.getD k []) = true) := ⟨_, _, _, _, C.chk2, C.chf2, C.has, C.part⟩
  have t0 : ((0 : Int) != 0) = false := by decide
  clear C hll
  by_cases hc1 : c1 = 0
  case neg =>
    have t1 : (c1 != 0) = true := by simpa using hc1
    clear hc1
    go_enter Try.func3, Try.ntmps3
    go_wp2_with (first
    | (go_at_call 4; refine (works_S _).mono ?_; rintro e w1 ⟨rfl, b1⟩; have B1 : Hid (Below w.heap.size w w1 ∧ w1.heap[w.heap.size]? = some (gBox g)) := ⟨(below_alloc w _).trans (b1.mono (below_alloc w _).size), box_on X0.out b1⟩; clear b1; obtain ⟨x0, x1, x2, x3, x4⟩ := gb_cells B1.out.2)
    | (go_at_call 5; refine (CC.out.nul _ B1.out.1).mono ?_; rintro e w2 ⟨nb, rfl, n2, b2⟩; have B2 : Hid (BRow w2 (some ⟨nb, 0, none⟩) (nullU g.ps g.ns.length) ∧ Below w.heap.size w w2 ∧ w2.heap[w.heap.size]? = some (gBox g)) := ⟨n2, B1.out.1.trans (b2.mono B1.out.1.size), box_on B1.out.2 b2⟩; clear b2 n2 x0 x1 x2 x3 x4; obtain ⟨x0, x1, x2, x3, x4⟩ := gb_cells B2.out.2.2)
    | (go_at_call 6; refine (CC.out.fst _ B2.out.2.1).mono ?_; rintro e w3 ⟨fb, F, hF, rfl, n3, b3⟩; have B3 : Hid (LeastF g F ∧ LsRow w3 (some ⟨fb, 0, none⟩) (listsU F) ∧ BRow w3 (some ⟨nb, 0, none⟩) (nullU g.ps g.ns.length) ∧ Below w.heap.size w w3 ∧ w3.heap[w.heap.size]? = some (gBox g)) := ⟨hF, n3, B2.out.1.later b3, B2.out.2.1.trans (b3.mono B2.out.2.1.size), box_on B2.out.2.2 b3⟩; clear b3 n3 hF x0 x1 x2 x3 x4; obtain ⟨x0, x1, x2, x3, x4⟩ := gb_cells B3.out.2.2.2.2)
    | (go_at_call 7; guard_hyp T0 : Hid True; clear T0; refine (CC.out.chk _ nb B3.out.2.2.2.1 B3.out.2.2.1).mono ?_; rintro e w4 ⟨rfl, b4⟩; have B4 : Hid (LsRow w4 (some ⟨fb, 0, none⟩) (listsU F) ∧ BRow w4 (some ⟨nb, 0, none⟩) (nullU g.ps g.ns.length) ∧ Below w.heap.size w w4 ∧ w4.heap[w.heap.size]? = some (gBox g)) := ⟨B3.out.2.1.later b4, B3.out.2.2.1.later b4, B3.out.2.2.2.1.trans (b4.mono B3.out.2.2.2.1.size), box_on B3.out.2.2.2.2 b4⟩; clear b4 x0 x1 x2 x3 x4; obtain ⟨x0, x1, x2, x3, x4⟩ := gb_cells B4.out.2.2.2)
    | (go_at_call 8; refine (CC.out.chf _ nb fb F B4.out.2.2.1 B4.out.2.1 B3.out.1 B4.out.1).mono ?_; rintro e w5 ⟨rfl, b5⟩; have B5 : Hid (LsRow w5 (some ⟨fb, 0, none⟩) (listsU F) ∧ BRow w5 (some ⟨nb, 0, none⟩) (nullU g.ps g.ns.length) ∧ Below w.heap.size w w5 ∧ w5.heap[w.heap.size]? = some (gBox g)) := ⟨B4.out.1.later b5, B4.out.2.1.later b5, B4.out.2.2.1.trans (b5.mono B4.out.2.2.1.size), box_on B4.out.2.2.2 b5⟩; clear b5 x0 x1 x2 x3 x4; obtain ⟨x0, x1, x2, x3, x4⟩ := gb_cells B5.out.2.2.2)
    | (go_at_call 7; refine (K1.out _ B5.out.2.2.1).mono ?_; rintro e w6 ⟨rfl, b6⟩; have B6 : Hid (LsRow w6 (some ⟨fb, 0, none⟩) (listsU F) ∧ BRow w6 (some ⟨nb, 0, none⟩) (nullU g.ps g.ns.length) ∧ Below w.heap.size w w6 ∧ w6.heap[w.heap.size]? = some (gBox g)) := ⟨B5.out.1.later b6, B5.out.2.1.later b6, B5.out.2.2.1.trans (b6.mono B5.out.2.2.1.size), box_on B5.out.2.2.2 b6⟩; clear b6 x0 x1 x2 x3 x4; obtain ⟨x0, x1, x2, x3, x4⟩ := gb_cells B6.out.2.2.2))
    go_ret
    exact ⟨rfl, B6.out.2.2.1⟩
  subst hc1
  have HH : Hid (N.length = g.ns.length ∧ ∀ i, (nullU g.ps g.ns.length).getD i false = true → N.getD i false = true) := hhas.out rfl
  have HP : Hid (∀ F, LeastF g F → c2 = 0 → L.length = g.ns.length ∧ ∀ k, k < g.ns.length → partL ((listsU F).getD k []) (L.getD k []) = true) := fun F hF h => hpart.out F hF rfl h
  clear hhas hpart
  go_enter Try.func3, Try.ntmps3
  go_wp2_with (first
    | (go_at_call 4; refine (works_S _).mono ?_; rintro e w1 ⟨rfl, b1⟩; have B1 : Hid (Below w.heap.size w w1 ∧ w1.heap[w.heap.size]? = some (gBox g)) := ⟨(below_alloc w _).trans (b1.mono (below_alloc w _).size), box_on X0.out b1⟩; clear b1; obtain ⟨x0, x1, x2, x3, x4⟩ := gb_cells B1.out.2)
    | (go_at_call 5; refine (CC.out.nul _ B1.out.1).mono ?_; rintro e w2 ⟨nb, rfl, n2, b2⟩; have B2 : Hid (BRow w2 (some ⟨nb, 0, none⟩) (nullU g.ps g.ns.length) ∧ Below w.heap.size w w2 ∧ w2.heap[w.heap.size]? = some (gBox g)) := ⟨n2, B1.out.1.trans (b2.mono B1.out.1.size), box_on B1.out.2 b2⟩; clear b2 n2 x0 x1 x2 x3 x4; obtain ⟨x0, x1, x2, x3, x4⟩ := gb_cells B2.out.2.2)
    | (go_at_call 6; refine (CC.out.fst _ B2.out.2.1).mono ?_; rintro e w3 ⟨fb, F, hF, rfl, n3, b3⟩; have B3 : Hid (LeastF g F ∧ LsRow w3 (some ⟨fb, 0, none⟩) (listsU F) ∧ BRow w3 (some ⟨nb, 0, none⟩) (nullU g.ps g.ns.length) ∧ Below w.heap.size w w3 ∧ w3.heap[w.heap.size]? = some (gBox g)) := ⟨hF, n3, B2.out.1.later b3, B2.out.2.1.trans (b3.mono B2.out.2.1.size), box_on B2.out.2.2 b3⟩; clear b3 n3 hF x0 x1 x2 x3 x4; obtain ⟨x0, x1, x2, x3, x4⟩ := gb_cells B3.out.2.2.2.2)
    | (go_at_call 7; guard_hyp T0 : Hid True; clear T0; refine (CC.out.chk _ nb B3.out.2.2.2.1 B3.out.2.2.1).mono ?_; rintro e w4 ⟨rfl, b4⟩; have B4 : Hid (LsRow w4 (some ⟨fb, 0, none⟩) (listsU F) ∧ BRow w4 (some ⟨nb, 0, none⟩) (nullU g.ps g.ns.length) ∧ Below w.heap.size w w4 ∧ w4.heap[w.heap.size]? = some (gBox g)) := ⟨B3.out.2.1.later b4, B3.out.2.2.1.later b4, B3.out.2.2.2.1.trans (b4.mono B3.out.2.2.2.1.size), box_on B3.out.2.2.2.2 b4⟩; clear b4 x0 x1 x2 x3 x4; obtain ⟨x0, x1, x2, x3, x4⟩ := gb_cells B4.out.2.2.2)
    | (go_at_call 8; refine (CC.out.chf _ nb fb F B4.out.2.2.1 B4.out.2.1 B3.out.1 B4.out.1).mono ?_; rintro e w5 ⟨rfl, b5⟩; have B5 : Hid (LsRow w5 (some ⟨fb, 0, none⟩) (listsU F) ∧ BRow w5 (some ⟨nb, 0, none⟩) (nullU g.ps g.ns.length) ∧ Below w.heap.size w w5 ∧ w5.heap[w.heap.size]? = some (gBox g)) := ⟨B4.out.1.later b5, B4.out.2.1.later b5, B4.out.2.2.1.trans (b5.mono B4.out.2.2.1.size), box_on B4.out.2.2.2 b5⟩; clear b5 x0 x1 x2 x3 x4; obtain ⟨x0, x1, x2, x3, x4⟩ := gb_cells B5.out.2.2.2)
    | (go_at_call 7; refine (K1.out _ B5.out.2.2.1).mono ?_; rintro e w6 ⟨rfl, b6⟩; have B6 : Hid (LsRow w6 (some ⟨fb, 0, none⟩) (listsU F) ∧ BRow w6 (some ⟨nb, 0, none⟩) (nullU g.ps g.ns.length) ∧ Below w.heap.size w w6 ∧ w6.heap[w.heap.size]? = some (gBox g)) := ⟨B5.out.1.later b6, B5.out.2.1.later b6, B5.out.2.2.1.trans (b6.mono B5.out.2.2.1.size), box_on B5.out.2.2.2 b6⟩; clear b6 x0 x1 x2 x3 x4; obtain ⟨x0, x1, x2, x3, x4⟩ := gb_cells B6.out.2.2.2))
  go_loopw [15] (fun z wr => ∃ k : Nat, k ≤ g.ns.length ∧ z = .int .i64 k ∧ wr = w6) (fun z _ => g.ns.length - (intOf z).toNat)
  case atStart => exact ⟨0, Nat.zero_le _, rfl, rfl⟩
  case round =>
    obtain ⟨k, hk, rfl, rfl⟩ := hrel
    by_cases hlt : k < g.ns.length
    · have klt : (k : Int) < (g.ns.length : Int) := by omega
      have klN : (k : Int) < (N.length : Int) := by have := HH.out.1; omega
      have c0 := B6.out.2.1.get0 (k := k) (by rw [nullU_len]; exact hlt)
      obtain ⟨b2, o2, rfl, hb2, hc2⟩ := CC.out.nrow _ B6.out.2.2.1 (by intro e; have := HH.out.1; rw [e] at this; simp at this; omega)
      have c3 := hc2 k (by have := HH.out.1; omega)
      have hxy := HH.out.2 k
      clear hc2 hb2
      generalize (nullU g.ps g.ns.length).getD k false = x at *
      generalize N.getD k false = y at *
      cases x
      · clear hxy
        go_wp2
        go_roundw
        case rel => exact ⟨k + 1, by omega, by go_num, by first | rfl | trivial⟩
        case measure => simp [intOf]; omega
      · obtain rfl : y = true := hxy rfl
        clear hxy
        go_wp2
        go_roundw
        case rel => exact ⟨k + 1, by omega, by go_num, by first | rfl | trivial⟩
        case measure => simp [intOf]; omega
    · obtain rfl : k = g.ns.length := by omega
      by_cases hc2 : c2 = 0
      case neg =>
        have t1 : (c2 != 0) = true := by simpa using hc2
        clear hc2
        go_wp2_with (go_at_call 8; refine (K2.out _ B6.out.2.2.1).mono ?_; rintro e w7 ⟨rfl, b7⟩; have B7 : Hid (Below w.heap.size w w7) := B6.out.2.2.1.trans (b7.mono B6.out.2.2.1.size); clear b7)
        go_ret
        exact ⟨rfl, B7.out⟩
      subst hc2
      have HP2 : Hid (L.length = g.ns.length ∧ ∀ k, k < g.ns.length → partL ((listsU F).getD k []) (L.getD k []) = true) := HP.out F B3.out.1 rfl
      have HF2 : Hid ((listsU F).length = g.ns.length ∧ ∀ l ∈ listsU F, l.length ≤ 128) := CC.out.lens F B3.out.1
      clear HP
      go_wp2_with (go_at_call 8; refine (K2.out _ B6.out.2.2.1).mono ?_; rintro e w7 ⟨rfl, b7⟩; have B7 : Hid (LsRow w7 (some ⟨fb, 0, none⟩) (listsU F) ∧ LsRow w7 fa L ∧ Below w.heap.size w w7) := ⟨B6.out.1.later b7, CC.out.lrow _ (B6.out.2.2.1.trans (b7.mono B6.out.2.2.1.size)), B6.out.2.2.1.trans (b7.mono B6.out.2.2.1.size)⟩; clear b7 x0 x1 x2 x3 x4)
      go_loopw [16] (fun z wr => ∃ k : Nat, k ≤ g.ns.length ∧ z = .int .i64 k ∧ Below w7.heap.size w7 wr) (fun z _ => g.ns.length - (intOf z).toNat)
      case atStart => exact ⟨0, Nat.zero_le _, rfl, Below.refl _ _⟩
      case round =>
      obtain ⟨k, hk, rfl, hbw⟩ := hrel
      have HB : Hid (Below w7.heap.size w7 wr) := hbw
      by_cases hlt : k < g.ns.length
      · have klt : (k : Int) < (g.ns.length : Int) := by omega
        have klL : (k : Int) < (L.length : Int) := by have := HP2.out.1; omega
        obtain ⟨hab, la, lc, c0, hrow⟩ := (B7.out.1.later hbw).get0 (k := k) (by rw [HF2.out.1]; exact hlt)
        obtain ⟨bb, bo, rfl, hbb, hbc⟩ := (B7.out.2.1.later hbw) (by intro e; have := HP2.out.1; rw [e] at this; simp at this; omega)
        obtain ⟨ma, mc, c1, hrow2⟩ := hbc k (by have := HP2.out.1; omega)
        have hl1 := HF2.out.2 ((listsU F).getD k []) (by simp [List.getD, show k < (listsU F).length by rw [HF2.out.1]; exact hlt])
        have hl2 := HLL.out (L.getD k []) (by simp [List.getD, show k < L.length by have := HP2.out.1; omega])
        have hpk := HP2.out.2 k hlt
        generalize (listsU F).getD k [] = l at *
        generalize L.getD k [] = m at *
        have KS0 : Hid (∀ w', Below wr.heap.size wr w' → (fun w' : World => w'.cell? ⟨fb, k, none⟩ = some (.slice la l.length lc) ∧ w'.cell? ⟨bb, bo + k, none⟩ = some (.slice ma m.length mc)) w') := fun w' hw => ⟨(hw.cell (p := ⟨fb, k, none⟩) hab).trans c0, (hw.cell (p := ⟨bb, bo + k, none⟩) hbb).trans c1⟩
        have SC : Hid (∀ w', Below wr.heap.size wr w' → Calls Try.prog 9 #[.slice la l.length lc, .slice ma m.length mc] w' fun e w'' => e = .returned (.bool true) ∧ Below w'.heap.size w' w'') := fun w' hw => by
          have := part_S la ma lc mc l m w' (hrow.later hw) (hrow2.later hw) (Nat.le_trans hl1 (by decide)) hl2
          rwa [hpk] at this
        have BD : Hid (Below wr.heap.size wr wr.drew) := (Below.refl _ _).drew
        have hs : Hid ((fun w' : World => w'.cell? ⟨fb, k, none⟩ = some (.slice la l.length lc) ∧ w'.cell? ⟨bb, bo + k, none⟩ = some (.slice ma m.length mc)) wr.drew) := KS0.out _ BD.out
        clear hbw hbc hrow hrow2 c0 c1 hpk hl1 hl2
        go_wp2
        refine wp_region_x (S := fun _ => (fun w' : World => w'.cell? ⟨fb, k, none⟩ = some (.slice la l.length lc) ∧ w'.cell? ⟨bb, bo + k, none⟩ = some (.slice ma m.length mc))) (by kernel_rfl) ?_
        refine takeF (i := 0) (v := ?_) rfl (by kernel_rfl) (by decide +kernel) (by decide +kernel) (fun _ _ _ h => h) (Or.inl ⟨by rfl, ?_⟩) hs.out ?_
        rotate_left
        · (intro w hSw; (try dsimp only at hSw); go_simp; try (with_reducible rfl))
        (try simp only [Act.put, List.setIfInBounds_toArray, List.set_cons_zero, List.set_cons_succ])
        refine takeF (i := 1) (v := ?_) rfl (by kernel_rfl) (by decide +kernel) (by decide +kernel) (fun _ _ _ h => h) (Or.inl ⟨by rfl, ?_⟩) hs.out ?_
        rotate_left
        · (intro w hSw; (try dsimp only at hSw); go_simp; try (with_reducible rfl))
        (try simp only [Act.put, List.setIfInBounds_toArray, List.set_cons_zero, List.set_cons_succ])
        refine takeF (i := 2) (v := ?_) rfl (by kernel_rfl) (by decide +kernel) (by decide +kernel) (fun _ _ _ h => h) (Or.inl ⟨by rfl, ?_⟩) hs.out ?_
        rotate_left
        · (intro w hSw; (try dsimp only at hSw); go_simp; try (with_reducible rfl))
        (try simp only [Act.put, List.setIfInBounds_toArray, List.set_cons_zero, List.set_cons_succ])
        refine takeF (i := 3) (v := ?_) rfl (by kernel_rfl) (by decide +kernel) (by decide +kernel) (fun _ _ _ h => h) (Or.inl ⟨by rfl, ?_⟩) hs.out ?_
        rotate_left
        · (intro w hSw; (try dsimp only at hSw); go_simp; try (with_reducible rfl))
        (try simp only [Act.put, List.setIfInBounds_toArray, List.set_cons_zero, List.set_cons_succ])
        refine takeF (i := 4) (v := ?_) rfl (by kernel_rfl) (by decide +kernel) (by decide +kernel) (fun _ _ _ h => h) (Or.inl ⟨by rfl, ?_⟩) hs.out ?_
        rotate_left
        · (intro w hSw; (try dsimp only at hSw); go_simp; try (with_reducible rfl))
        (try simp only [Act.put, List.setIfInBounds_toArray, List.set_cons_zero, List.set_cons_succ])
        refine takeF (i := 5) (v := ?_) rfl (by kernel_rfl) (by decide +kernel) (by decide +kernel) (fun _ _ _ h => h) (Or.inl ⟨by rfl, ?_⟩) hs.out ?_
        rotate_left
        · (intro w hSw; (try dsimp only at hSw); go_simp; try (with_reducible rfl))
        (try simp only [Act.put, List.setIfInBounds_toArray, List.set_cons_zero, List.set_cons_succ])
        refine takeF (i := 6) (v := ?_) rfl (by kernel_rfl) (by decide +kernel) (by decide +kernel) (fun _ _ _ h => h) (Or.inl ⟨by rfl, ?_⟩) hs.out ?_
        rotate_left
        · (intro w hSw; (try dsimp only at hSw); go_simp; try (with_reducible rfl))
        (try simp only [Act.put, List.setIfInBounds_toArray, List.set_cons_zero, List.set_cons_succ])
        refine takeF (i := 7) (v := ?_) rfl (by kernel_rfl) (by decide +kernel) (by decide +kernel) (fun _ _ _ h => h) (Or.inl ⟨by rfl, ?_⟩) hs.out ?_
        rotate_left
        · (intro w hSw; (try dsimp only at hSw); go_simp; try (with_reducible rfl))
        (try simp only [Act.put, List.setIfInBounds_toArray, List.set_cons_zero, List.set_cons_succ])
        refine wpAnyX_one (j := 8) (by decide +kernel) rfl (fun K' hK => ?_)
        refine step_callX rfl 9 #[.slice la l.length lc, .slice ma m.length mc] _ (run_pt2 (v0 := .slice la l.length lc) (v1 := .slice ma m.length mc) (by rfl) (by rfl) (by rfl) _) (SC.out _ BD.out) ?_
        rintro e w9 ⟨rfl, b9⟩
        have B9 : Hid (Below wr.heap.size wr w9) := BD.out.trans b9
        clear b9 hs
        have hs : Hid ((fun w' : World => w'.cell? ⟨fb, k, none⟩ = some (.slice la l.length lc) ∧ w'.cell? ⟨bb, bo + k, none⟩ = some (.slice ma m.length mc)) w9) := KS0.out _ B9.out
        refine ⟨_, rfl, hK.out _ _ hs.out ?_⟩
        clear hK K'
        (try simp only [Act.put, List.setIfInBounds_toArray, List.set_cons_zero, List.set_cons_succ])
        refine takeF (i := 9) (v := ?_) rfl (by kernel_rfl) (by decide +kernel) (by decide +kernel) (fun _ _ _ h => h) (Or.inl ⟨by rfl, ?_⟩) hs.out ?_
        rotate_left
        · (intro w hSw; (try dsimp only at hSw); go_simp; try (with_reducible rfl))
        (try simp only [Act.put, List.setIfInBounds_toArray, List.set_cons_zero, List.set_cons_succ])
        refine wpAnyX_done (by decide +kernel) ?_
        clear hs
        have W9 : Hid (Below w7.heap.size w7 w9) := HB.out.trans (B9.out.mono HB.out.size)
        go_wp2
        go_roundw
        case rel => exact ⟨k + 1, by omega, by go_num, W9.out⟩
        case measure => simp [intOf]; omega
      · obtain rfl : k = g.ns.length := by omega
        clear hbw
        go_wp2
        go_ret
        exact ⟨rfl, B7.out.2.2.trans (HB.out.mono B7.out.2.2.size)⟩
theorem closed_walk (g : GV) (na fa : Option Addr) (nc fc : Nat) (N : List Bool) (L : List (List Int)) (w : World) (h : GAt 140737488355328 w g) (hpc : g.ps.length ≤ g.pc) (hN : BRow w na N) (hNl : N.length ≤ 140737488355328) (hL : LsRow w fa L) (hll : L.length ≤ 140737488355328 ∧ ∀ l ∈ L, l.length ≤ 140737488355328) :
    Calls Try.prog 3 #[g.val, .slice na N.length nc, .slice fa L.length fc] w fun e w' => e = .returned (.bool true) ∧ Below w.heap.size w w' := by
  by_cases h0 : (checkG g (checkF g.ts g.ns)).1 = 0
  · exact closed_ok g na fa nc fc N L w (clo_of g na fa nc fc N L w h hpc (checkG g (checkF g.ts g.ns)).2 (by rw [← h0]) hN hL hll.2) hNl hll.1 hll.2
  · exact closed_no g na fa N.length nc L.length fc w h hpc _ _ rfl h0
end Go.Proofs.Ytflcnlefcnclkaa
