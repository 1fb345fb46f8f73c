import Derived.Test.YtnngnbdlipjflaaGreatDoorPTM23ToTM25
namespace Go.Proofs.YtnngnbdlipjflaaGreatDoor
set_option linter.unusedVariables false
open Go.RowKit Go.Shelf

noncomputable def decC (P : Nat → Prop) (n : Nat) : List Bool := (List.range n).map fun i => @decide (P i) (Classical.propDecidable _)
theorem decC_at {P : Nat → Prop} {n i : Nat} : (decC P n).getD i false = true ↔ i < n ∧ P i := by
  unfold decC
  rw [List.getD_eq_getElem?_getD, List.getElem?_map]
  by_cases h : i < n
  · rw [List.getElem?_range h]
    simp [h]
  · rw [List.getElem?_eq_none (by simpa using h)]
    simp [h]
theorem decC_len {P : Nat → Prop} {n : Nat} : (decC P n).length = n := by unfold decC; simp
/-- There are such lists. -/
theorem UnL.ex {g : GV} {w : World} (hfg : FG w g) (hst : 0 ≤ g.start ∧ g.start < g.ns.length) : ∃ Y, UnL g Y := by
  refine ⟨_, decC (fun i => ∀ Ct Cn, ClR g Ct Cn → Ct i) g.ts.length, decC (fun i => ∀ Ct Cn, ClR g Ct Cn → Cn i) g.ns.length, ⟨decC_len, decC_len, ?_, ?_, ?_⟩, rfl⟩
  · exact decC_at.2 ⟨by omega, fun Ct Cn hC => hC.1⟩
  · intro p hp hl s hs
    have h1 := (decC_at.1 hl).2
    rcases hfg.sym p hp s hs with z | z
    · exact ⟨fun _ => decC_at.2 ⟨by omega, fun Ct Cn hC => (hC.2 p hp (h1 Ct Cn hC) s hs).1 z.1⟩, fun e => by omega⟩
    · exact ⟨fun e => by omega, fun _ => decC_at.2 ⟨by omega, fun Ct Cn hC => (hC.2 p hp (h1 Ct Cn hC) s hs).2 z.1⟩⟩
  · intro Ct Cn hC
    exact ⟨fun i hi => (decC_at.1 hi).2 Ct Cn hC, fun i hi => (decC_at.1 hi).2 Ct Cn hC⟩
theorem CiL.ex {g : GV} {w : World} (ok : OkC g) (h : GAt 140737488355328 w g) : ∃ O, CiL g O :=
  ⟨_, circ_L ok h (O := decC (fun a => TrE (alU (nullU g.ps g.ns.length) g.ps) a a) g.ns.length) fun a ha => by rw [decC_at]; exact ⟨fun q => q.2, fun q => ⟨ha, q⟩⟩⟩
theorem Well_P2 (g : GV) (w : World) (h : GAt 140737488355328 w g) (hpc : g.ps.length ≤ g.pc) (er at_ : Int) (hE : checkG g (checkF g.ts g.ns) = (er, at_)) (hcap : ∀ p ∈ g.ps, p.right.length ≤ p.rc) (hT : TabB w) :
    Calls Tryz.prog 14 #[g.val] w fun e w' => ∃ k s, e = .returned (.tuple #[.int .i64 k, .agg #[.int .i64 s.1, .int .i64 s.2]]) ∧ WeE g er k s ∧ Below w.heap.size w w' := by
  refine Well_P g w h hpc er at_ hE hcap hT ?_ ?_
  · by_cases h0 : er = 0
    · subst h0
      have ok : OkC g := OkC.of (by rw [hE])
      obtain ⟨Y, hY⟩ := UnL.ex (ok.fg h) ok.st
      exact ⟨Y, .inl hY⟩
    · exact ⟨[], .inr h0⟩
  · by_cases h0 : er = 0
    · subst h0
      have ok : OkC g := OkC.of (by rw [hE])
      obtain ⟨Y, hY⟩ := CiL.ex ok h
      exact ⟨Y, .inl hY⟩
    · exact ⟨[], .inr h0⟩
set_option maxRecDepth 100000 in
set_option maxHeartbeats 4000000 in
theorem Barren_Y (g : GV) (w : World) (h : GAt 140737488355328 w g) (er at_ : Int) (hE : checkG g (checkF g.ts g.ns) = (er, at_)) :
    Calls Tryz.prog 9 #[g.val] w fun e w' => NumO w (BrE g er) er e w' := by
  by_cases h0 : er = 0
  · subst h0
    exact (barren_R g w h at_ hE).mono fun e w' ⟨a, c, l, q1, q2, q3⟩ => ⟨a, c, l, q1, ⟨fun _ => q2, fun q => absurd rfl q⟩, q3⟩
  · have X0 : Hid ((w.alloc (gBox g)).heap[w.heap.size]? = some (gBox g)) := heap_alloc_new _ _
    have MY : Hid (Calls Tryz.prog 26 #[g.val] (w.alloc (gBox g)) fun e w' => e = .returned (.int .i64 er) ∧ Below (w.alloc (gBox g)).heap.size (w.alloc (gBox g)) w') := by
      have := refmay_G g _ (h.later (below_alloc w (gBox g)))
      rwa [hE] at this
    obtain ⟨x0, x1, x2, x3, x4⟩ := gb_cells X0.out
    have t1 : (er != 0) = true := by simpa using h0
    have H0 : Hid (er ≠ 0) := h0
    clear h hE h0
    go_enter Tryz.func9, Tryz.ntmps9
    go_wp2_with (go_at_call 26; refine MY.out.mono ?_; rintro e w2 ⟨rfl, b2⟩; have B2 : Hid (Below w.heap.size w w2) := (below_alloc w _).trans (b2.mono (below_alloc w _).size); clear b2)
    refine bodyPost_ret (results_tmp2 rfl _ _ _) rfl ?_
    exact ⟨none, 0, [], rfl, ⟨fun q => absurd q H0.out, fun _ => rfl⟩, (fun q => absurd rfl q), B2.out⟩
set_option maxRecDepth 100000 in
set_option maxHeartbeats 4000000 in
theorem Unreached_Y (g : GV) (w : World) (h : GAt 140737488355328 w g) (er at_ : Int) (hE : checkG g (checkF g.ts g.ns) = (er, at_)) :
    Calls Tryz.prog 11 #[g.val] w fun e w' => SymO w (UnE g er) er e w' := by
  by_cases h0 : er = 0
  · subst h0
    exact (unreached_R g w h at_ hE).mono fun e w' ⟨a, c, l, q1, q2, q3⟩ => ⟨a, c, l, q1, ⟨fun _ => q2, fun q => absurd rfl q⟩, q3⟩
  · have X0 : Hid ((w.alloc (gBox g)).heap[w.heap.size]? = some (gBox g)) := heap_alloc_new _ _
    have MY : Hid (Calls Tryz.prog 26 #[g.val] (w.alloc (gBox g)) fun e w' => e = .returned (.int .i64 er) ∧ Below (w.alloc (gBox g)).heap.size (w.alloc (gBox g)) w') := by
      have := refmay_G g _ (h.later (below_alloc w (gBox g)))
      rwa [hE] at this
    obtain ⟨x0, x1, x2, x3, x4⟩ := gb_cells X0.out
    have t1 : (er != 0) = true := by simpa using h0
    have H0 : Hid (er ≠ 0) := h0
    clear h hE h0
    go_enter Tryz.func11, Tryz.ntmps11
    go_wp2_with (go_at_call 26; refine MY.out.mono ?_; rintro e w2 ⟨rfl, b2⟩; have B2 : Hid (Below w.heap.size w w2) := (below_alloc w _).trans (b2.mono (below_alloc w _).size); clear b2)
    refine bodyPost_ret (results_tmp2 rfl _ _ _) rfl ?_
    exact ⟨none, 0, [], rfl, ⟨fun q => absurd q H0.out, fun _ => rfl⟩, (fun q => absurd rfl q), B2.out⟩
set_option maxRecDepth 100000 in
set_option maxHeartbeats 4000000 in
theorem Circular_Y (g : GV) (w : World) (h : GAt 140737488355328 w g) (er at_ : Int) (hE : checkG g (checkF g.ts g.ns) = (er, at_)) (hcap : ∀ p ∈ g.ps, p.right.length ≤ p.rc) :
    Calls Tryz.prog 13 #[g.val] w fun e w' => NumO w (CiE g er) er e w' := by
  by_cases h0 : er = 0
  · subst h0
    exact (circular_X g w h at_ hE hcap).mono fun e w' ⟨a, c, l, q1, q2, q3⟩ => ⟨a, c, l, q1, ⟨fun _ => q2, fun q => absurd rfl q⟩, q3⟩
  · have X0 : Hid ((w.alloc (gBox g)).heap[w.heap.size]? = some (gBox g)) := heap_alloc_new _ _
    have MY : Hid (Calls Tryz.prog 26 #[g.val] (w.alloc (gBox g)) fun e w' => e = .returned (.int .i64 er) ∧ Below (w.alloc (gBox g)).heap.size (w.alloc (gBox g)) w') := by
      have := refmay_G g _ (h.later (below_alloc w (gBox g)))
      rwa [hE] at this
    obtain ⟨x0, x1, x2, x3, x4⟩ := gb_cells X0.out
    have t1 : (er != 0) = true := by simpa using h0
    have H0 : Hid (er ≠ 0) := h0
    clear h hE h0 hcap
    go_enter Tryz.func13, Tryz.ntmps13
    go_wp2_with (go_at_call 26; refine MY.out.mono ?_; rintro e w2 ⟨rfl, b2⟩; have B2 : Hid (Below w.heap.size w w2) := (below_alloc w _).trans (b2.mono (below_alloc w _).size); clear b2)
    refine bodyPost_ret (results_tmp2 rfl _ _ _) rfl ?_
    exact ⟨none, 0, [], rfl, ⟨fun q => absurd q H0.out, fun _ => rfl⟩, (fun q => absurd rfl q), B2.out⟩
set_option maxRecDepth 100000 in
set_option maxHeartbeats 8000000 in
/-- Well of any grammar: the page's. -/
theorem Well_Y (g : GV) (w : World) (h : GAt 140737488355328 w g) (er at_ : Int) (hE : checkG g (checkF g.ts g.ns) = (er, at_)) (hcap : ∀ p ∈ g.ps, p.right.length ≤ p.rc) :
    Calls Tryz.prog 15 #[g.val] w fun e w' => ∃ k s, e = .returned (.tuple #[.int .i64 k, .agg #[.int .i64 s.1, .int .i64 s.2]]) ∧ WeE g er k s ∧ Below w.heap.size w w' := by
  have X0 : Hid ((w.alloc (gBox g)).heap[w.heap.size]? = some (gBox g)) := heap_alloc_new _ _
  have B1 : Hid (Below w.heap.size w ((w.alloc (gBox g)).alloc (.cells #[.int .i64 0, .int .i64 0] 54)) ∧ ((w.alloc (gBox g)).alloc (.cells #[.int .i64 0, .int .i64 0] 54)).heap[w.heap.size]? = some (gBox g) ∧ ((w.alloc (gBox g)).alloc (.cells #[.int .i64 0, .int .i64 0] 54)).heap[w.heap.size + 1]? = some (.cells #[.int .i64 0, .int .i64 0] 54 (0, 0))) := by
    have q := heap_alloc_new (w.alloc (gBox g)) (.cells #[.int .i64 0, .int .i64 0] 54)
    rw [show (w.alloc (gBox g)).heap.size = w.heap.size + 1 by simp] at q
    exact ⟨(below_alloc w _).trans ((below_alloc (w.alloc (gBox g)) _).mono (below_alloc w _).size), ((below_alloc (w.alloc (gBox g)) _).block _ (by simp)).trans X0.out, q⟩
  obtain ⟨x0, x1, x2, x3, x4⟩ := gb_cells B1.out.2.1
  have IB : Hid (∀ wq, Below w.heap.size w wq → Calls Tryz.prog 9 #[g.val] wq fun e w' => NumO wq (BrE g er) er e w') := fun wq hb => Barren_Y g wq (h.later hb) er at_ hE
  by_cases h0 : er = 0
  · subst h0
    have ok : OkC g := OkC.of (by rw [hE])
    obtain ⟨Y0, hY0⟩ := UnL.ex (ok.fg h) ok.st
    obtain ⟨O0, hO0⟩ := CiL.ex ok h
    have IU : Hid (∀ wq, Below w.heap.size w wq → Calls Tryz.prog 11 #[g.val] wq fun e w' => SymO wq (UnE g 0) 0 e w') := fun wq hb => Unreached_Y g wq (h.later hb) 0 at_ hE
    have IC : Hid (∀ wq, Below w.heap.size w wq → Calls Tryz.prog 13 #[g.val] wq fun e w' => NumO wq (CiE g 0) 0 e w') := fun wq hb => Circular_Y g wq (h.later hb) 0 at_ hE hcap
    have HY0 : Hid (UnL g Y0 ∧ CiL g O0) := ⟨hY0, hO0⟩
    have t1 : ((0 : Int) != 0) = false := by decide
    clear h hE ok hcap hY0 hO0
    go_enter Tryz.func15, Tryz.ntmps15
    go_wp2_with (go_at_call 9; refine (IB.out _ B1.out.1).mono ?_)
    rintro e w2 ⟨a2, c2, l2, rfl, p2, r2, b2⟩
    have P2 : Hid (BrL g l2) := p2.1 rfl
    have B2 : Hid (Below w.heap.size w w2 ∧ w2.heap[w.heap.size]? = some (gBox g) ∧ w2.heap[w.heap.size + 1]? = some (.cells #[.int .i64 0, .int .i64 0] 54 (0, 0))) := ⟨B1.out.1.trans (b2.mono B1.out.1.size), (b2.block _ (lt_of_block B1.out.2.1)).trans B1.out.2.1, (b2.block _ (lt_of_block B1.out.2.2)).trans B1.out.2.2⟩
    clear p2 b2 x0 x1 x2 x3 x4
    obtain ⟨x0, x1, x2, x3, x4⟩ := gb_cells B2.out.2.1
    rcases l2 with _ | ⟨y, ys⟩
    · clear r2
      go_wp2_with (go_at_call 11; refine (IU.out _ B2.out.1).mono ?_)
      rintro e w3 ⟨a3, c3, l3, rfl, p3, r3, b3⟩
      have P3 : Hid (UnL g l3) := p3.1 rfl
      have B3 : Hid (Below w.heap.size w w3 ∧ w3.heap[w.heap.size]? = some (gBox g) ∧ w3.heap[w.heap.size + 1]? = some (.cells #[.int .i64 0, .int .i64 0] 54 (0, 0))) := ⟨B2.out.1.trans (b3.mono B2.out.1.size), (b3.block _ (lt_of_block B2.out.2.1)).trans B2.out.2.1, (b3.block _ (lt_of_block B2.out.2.2)).trans B2.out.2.2⟩
      clear p3 b3 x0 x1 x2 x3 x4
      obtain ⟨x0, x1, x2, x3, x4⟩ := gb_cells B3.out.2.1
      rcases l3 with _ | ⟨y, ys⟩
      · clear r3
        go_wp2_with (go_at_call 13; refine (IC.out _ B3.out.1).mono ?_)
        rintro e w4 ⟨a4, c4, l4, rfl, p4, r4, b4⟩
        have P4 : Hid (CiL g l4) := p4.1 rfl
        have B4 : Hid (Below w.heap.size w w4 ∧ w4.heap[w.heap.size]? = some (gBox g) ∧ w4.heap[w.heap.size + 1]? = some (.cells #[.int .i64 0, .int .i64 0] 54 (0, 0))) := ⟨B3.out.1.trans (b4.mono B3.out.1.size), (b4.block _ (lt_of_block B3.out.2.1)).trans B3.out.2.1, (b4.block _ (lt_of_block B3.out.2.2)).trans B3.out.2.2⟩
        clear p4 b4 x0 x1 x2 x3 x4
        obtain ⟨x0, x1, x2, x3, x4⟩ := gb_cells B4.out.2.1
        rcases l4 with _ | ⟨y, ys⟩
        · have HW0 : Hid (WeE g 0 0 (0, 0)) := ⟨fun _ => ⟨_, _, _, P2.out, P3.out, P4.out, rfl⟩, fun q => absurd rfl q⟩
          obtain ⟨z0, z1, f0, f1⟩ := two_cells B4.out.2.2
          clear r4
          go_wp2
          refine bodyPost_ret (v := .tuple #[.int .i64 0, .agg #[.int .i64 0, .int .i64 0]]) (by simp [results, Tryz.results15, go_sem, z0, z1]) rfl ?_
          exact ⟨0, (0, 0), rfl, HW0.out, below_set2 B4.out.1 (by omega) _ _ _ _⟩
        · have HW3 : Hid (WeE g 0 73 (2, y)) := ⟨fun _ => ⟨_, _, _, P2.out, P3.out, P4.out, rfl⟩, fun q => absurd rfl q⟩
          obtain ⟨b, o, rfl, -, hc⟩ := r4 (by simp)
          have c0 := hc 0 (by simp)
          have ylt : (0 : Int) < ((y :: ys).length : Int) := by rw [List.length_cons]; omega
          generalize (y :: ys).length = yn at *
          simp only [List.getD_cons_zero, Nat.add_zero] at c0
          clear hc
          go_wp2_with (go_at_call 28; refine (n7_R y w4).mono ?_; rintro e w9 ⟨rfl, b9⟩; have B9 : Hid (Below w.heap.size w w9 ∧ w9.heap[w.heap.size]? = some (gBox g) ∧ w9.heap[w.heap.size + 1]? = some (.cells #[.int .i64 0, .int .i64 0] 54 (0, 0))) := ⟨B4.out.1.trans (b9.mono B4.out.1.size), (b9.block _ (lt_of_block B4.out.2.1)).trans B4.out.2.1, (b9.block _ (lt_of_block B4.out.2.2)).trans B4.out.2.2⟩; clear b9; obtain ⟨z0, z1, f0, f1⟩ := two_cells B9.out.2.2)
          refine bodyPost_ret (v := .tuple #[.int .i64 73, .agg #[.int .i64 2, .int .i64 y]]) (by simp [results, Tryz.results15, go_sem, z0, z1]) rfl ?_
          exact ⟨73, (2, y), rfl, HW3.out, below_set2 B9.out.1 (by omega) _ _ _ _⟩
      · have HW2 : Hid (WeE g 0 72 y) := ⟨fun _ => ⟨_, _, O0, P2.out, P3.out, HY0.out.2, rfl⟩, fun q => absurd rfl q⟩
        obtain ⟨z0, z1, f0, f1⟩ := two_cells B3.out.2.2
        obtain ⟨b, o, rfl, -, hc⟩ := r3 (by simp)
        obtain ⟨c0, c1⟩ := hc 0 (by simp)
        obtain ⟨y1, y2⟩ := y
        have ylt : (0 : Int) < (((y1, y2) :: ys).length : Int) := by rw [List.length_cons]; omega
        generalize ((y1, y2) :: ys).length = yn at *
        simp only [List.getD_cons_zero, Nat.zero_mul, Nat.add_zero] at c0 c1
        clear hc
        go_wp2
        go_region
        go_wp2
        refine bodyPost_ret (v := .tuple #[.int .i64 72, .agg #[.int .i64 y1, .int .i64 y2]]) (by simp [results, Tryz.results15, go_sem, z0, z1]) rfl ?_
        exact ⟨72, (y1, y2), rfl, HW2.out, (below_set2 B3.out.1 (by omega) _ _ _ _).drew⟩
    · have HW1 : Hid (WeE g 0 71 (2, y)) := ⟨fun _ => ⟨_, Y0, O0, P2.out, HY0.out.1, HY0.out.2, rfl⟩, fun q => absurd rfl q⟩
      obtain ⟨b, o, rfl, -, hc⟩ := r2 (by simp)
      have c0 := hc 0 (by simp)
      have ylt : (0 : Int) < ((y :: ys).length : Int) := by rw [List.length_cons]; omega
      generalize (y :: ys).length = yn at *
      simp only [List.getD_cons_zero, Nat.add_zero] at c0
      clear hc
      go_wp2_with (go_at_call 28; refine (n7_R y w2).mono ?_; rintro e w9 ⟨rfl, b9⟩; have B9 : Hid (Below w.heap.size w w9 ∧ w9.heap[w.heap.size]? = some (gBox g) ∧ w9.heap[w.heap.size + 1]? = some (.cells #[.int .i64 0, .int .i64 0] 54 (0, 0))) := ⟨B2.out.1.trans (b9.mono B2.out.1.size), (b9.block _ (lt_of_block B2.out.2.1)).trans B2.out.2.1, (b9.block _ (lt_of_block B2.out.2.2)).trans B2.out.2.2⟩; clear b9; obtain ⟨z0, z1, f0, f1⟩ := two_cells B9.out.2.2)
      refine bodyPost_ret (v := .tuple #[.int .i64 71, .agg #[.int .i64 2, .int .i64 y]]) (by simp [results, Tryz.results15, go_sem, z0, z1]) rfl ?_
      exact ⟨71, (2, y), rfl, HW1.out, below_set2 B9.out.1 (by omega) _ _ _ _⟩
  · have t1 : (er != 0) = true := by simpa using h0
    have H0 : Hid (er ≠ 0) := h0
    clear h hE h0 hcap
    go_enter Tryz.func15, Tryz.ntmps15
    go_wp2_with (go_at_call 9; refine (IB.out _ B1.out.1).mono ?_; rintro e w5 ⟨a5, c5, l5, rfl, p5, r5, b5⟩; have B5 : Hid (Below w.heap.size w w5 ∧ w5.heap[w.heap.size]? = some (gBox g) ∧ w5.heap[w.heap.size + 1]? = some (.cells #[.int .i64 0, .int .i64 0] 54 (0, 0))) := ⟨B1.out.1.trans (b5.mono B1.out.1.size), (b5.block _ (lt_of_block B1.out.2.1)).trans B1.out.2.1, (b5.block _ (lt_of_block B1.out.2.2)).trans B1.out.2.2⟩; clear p5 r5 b5 x0 x1 x2 x3 x4; obtain ⟨z0, z1, f0, f1⟩ := two_cells B5.out.2.2)
    refine bodyPost_ret (v := .tuple #[.int .i64 er, .agg #[.int .i64 0, .int .i64 0]]) (by simp [results, Tryz.results15, go_sem, z0, z1]) rfl ?_
    exact ⟨er, (0, 0), rfl, ⟨fun q => absurd q H0.out, fun _ => ⟨rfl, rfl⟩⟩, below_set2 B5.out.1 (by omega) _ _ _ _⟩
end Go.Proofs.YtnngnbdlipjflaaGreatDoor
namespace Go.Proofs.YtnngnbdlipjflaaGreatDoor
set_option linter.unusedVariables false
open Go.RowKit Go.Shelf

theorem num07_P (x : Int) (w : World) : Calls Tryz.prog 17 #[.int .i64 x] w fun e w' => e = .returned (.int .i64 x) ∧ w = w' := by
  go_enter Tryz.func17, Tryz.ntmps17
  go_wp2
  go_ret
  exact ⟨rfl, rfl⟩
/-- The grammar of alive, its lists from block n on. -/
def thG (n : Nat) : GV := ⟨(some ⟨n + 1 + 1 + 1, 0, none⟩), 1, [⟨#[120]⟩], (some ⟨n + 1 + 1 + 1 + 1, 0, none⟩), 2, [⟨#[83]⟩, ⟨#[85]⟩], 0, (some ⟨n + 1 + 1 + 1 + 1 + 1 + 1 + 1 + 1, 0, none⟩), 3, [⟨0, (some ⟨n + 1 + 1 + 1 + 1 + 1, 0, none⟩), 1, [(1, 0)], -1⟩, ⟨1, (some ⟨n + 1 + 1 + 1 + 1 + 1 + 1, 0, none⟩), 2, [(2, 1), (1, 0)], -1⟩, ⟨0, (some ⟨n + 1 + 1 + 1 + 1 + 1 + 1 + 1, 0, none⟩), 1, [(2, 0)], -1⟩], none, 0, []⟩
theorem thG_check (n : Nat) : checkG (thG n) (checkF (thG n).ts (thG n).ns) = (0, 0) := by kernel_rfl
theorem n7_E (n : Int) (w : World) : Calls Tryz.prog 28 #[.int .i64 n] w fun e w' => e = .returned (.agg #[.int .i64 2, .int .i64 n]) ∧ w' = w.alloc (.cells #[.int .i64 2, .int .i64 n] 54) := by
  go_enter Tryz.func28, Tryz.ntmps28
  go_wp2
  refine bodyPost_ret (v := .agg #[.int .i64 2, .int .i64 n]) (by simp [results, Tryz.results28, go_sem]) rfl ?_
  exact ⟨rfl, rfl⟩
theorem t7_E (n : Int) (w : World) : Calls Tryz.prog 37 #[.int .i64 n] w fun e w' => e = .returned (.agg #[.int .i64 1, .int .i64 n]) ∧ w' = w.alloc (.cells #[.int .i64 1, .int .i64 n] 54) := by
  go_enter Tryz.func37, Tryz.ntmps37
  go_wp2
  refine bodyPost_ret (v := .agg #[.int .i64 1, .int .i64 n]) (by simp [results, Tryz.results37, go_sem]) rfl ?_
  exact ⟨rfl, rfl⟩
theorem bel_al7 {w w' : World} {o : Obj} (h : Below w.heap.size w w') : Below w.heap.size w (w'.alloc o) := h.trans ((below_alloc _ _).mono h.size)
set_option maxRecDepth 100000 in
set_option maxHeartbeats 4000000 in
theorem three_P (w : World) : Calls Tryz.prog 50 #[] w fun e w' => ∃ n, e = .returned (thG n).val ∧ GAt 140737488355328 w' (thG n) ∧ Below w.heap.size w w' := by
  have T0 : Hid True := trivial
  go_enter Tryz.func50, Tryz.ntmps50
  go_wp2_with (first
    | (go_at_call 28; have T1 : Hid True := T0; clear T0; refine (n7_E 0 _).mono ?_; rintro e w1 ⟨rfl, rfl⟩)
    | (go_at_call 28; have T2 : Hid True := T1; clear T1; refine (n7_E 1 _).mono ?_; rintro e w2 ⟨rfl, rfl⟩)
    | (go_at_call 37; refine (t7_E 0 _).mono ?_; rintro e w3 ⟨rfl, rfl⟩))
  refine bodyPost_ret (v := .agg #[.slice (some ⟨w.heap.size + 1 + 1 + 1 + 1 + 1 + 1 + 1, 0, none⟩) 1 1, .slice (some ⟨w.heap.size + 1 + 1 + 1 + 1 + 1 + 1 + 1 + 1, 0, none⟩) 2 2, .int .i64 0, .slice (some ⟨w.heap.size + 1 + 1 + 1 + 1 + 1 + 1 + 1 + 1 + 1 + 1 + 1 + 1, 0, none⟩) 3 3, .slice none 0 0]) (by simp [results, Tryz.results50, go_sem]) rfl ?_
  refine ⟨w.heap.size + 1 + 1 + 1 + 1, rfl, GAt.mono (n := 8) ⟨?_, ?_, ⟨?_, ?_⟩, ⟨?_, ?_⟩, ?_, ?_, by simp [thG], by simp [thG], by simp [thG], by simp [thG], ?_, ?_⟩ (by decide), ?_⟩
  · intro _
    refine ⟨w.heap.size + 1 + 1 + 1 + 1 + 1 + 1 + 1, 0, rfl, by simp, fun i hi => ?_⟩
    have hi : i < 1 := hi
    obtain rfl : i = 0 := by omega
    simp [go_sem, thG]
  · intro _
    refine ⟨w.heap.size + 1 + 1 + 1 + 1 + 1 + 1 + 1 + 1, 0, rfl, by simp, fun i hi => ?_⟩
    have hi : i < 2 := hi
    rcases (show i = 0 ∨ i = 1 by omega) with rfl | rfl <;> simp [go_sem, thG]
  · intro _
    refine ⟨w.heap.size + 1 + 1 + 1 + 1 + 1 + 1 + 1 + 1 + 1 + 1 + 1 + 1, 0, rfl, by simp, fun i hi => ?_⟩
    have hi : i < 3 := hi
    rcases (show i = 0 ∨ i = 1 ∨ i = 2 by omega) with rfl | rfl | rfl <;> simp [go_sem, thG]
  · intro p hp hn
    simp only [thG, List.mem_cons, List.not_mem_nil, or_false] at hp
    rcases hp with rfl | rfl | rfl
    · refine ⟨w.heap.size + 1 + 1 + 1 + 1 + 1 + 1 + 1 + 1 + 1, 0, rfl, by simp, fun i hi => ?_⟩
      have hi : i < 1 := hi
      obtain rfl : i = 0 := by omega
      simp [go_sem]
    · refine ⟨w.heap.size + 1 + 1 + 1 + 1 + 1 + 1 + 1 + 1 + 1 + 1, 0, rfl, by simp, fun i hi => ?_⟩
      have hi : i < 2 := hi
      rcases (show i = 0 ∨ i = 1 by omega) with rfl | rfl <;> simp [go_sem]
    · refine ⟨w.heap.size + 1 + 1 + 1 + 1 + 1 + 1 + 1 + 1 + 1 + 1 + 1, 0, rfl, by simp, fun i hi => ?_⟩
      have hi : i < 1 := hi
      obtain rfl : i = 0 := by omega
      simp [go_sem]
  · intro hn
    exact absurd rfl hn
  · intro p hp hn
    simp [thG] at hp
  · intro s hs; simp only [thG, List.mem_cons, List.not_mem_nil, or_false] at hs; rcases hs with rfl <;> first | decide | simp
  · intro s hs; simp only [thG, List.mem_cons, List.not_mem_nil, or_false] at hs; rcases hs with rfl | rfl <;> first | decide | simp
  · intro p hp; simp only [thG, List.mem_cons, List.not_mem_nil, or_false] at hp; rcases hp with rfl | rfl | rfl <;> first | decide | simp
  · intro p hp; simp [thG] at hp
  · repeat (first | exact Below.refl _ _ | refine bel_al7 ?_)
end Go.Proofs.YtnngnbdlipjflaaGreatDoor
