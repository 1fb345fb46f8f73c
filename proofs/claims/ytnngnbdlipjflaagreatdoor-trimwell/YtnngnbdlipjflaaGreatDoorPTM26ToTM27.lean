import Derived.Test.YtnngnbdlipjflaaGreatDoorPTM23ToTM25
namespace Go.Proofs.YtnngnbdlipjflaaGreatDoor
set_option linter.unusedVariables false
open Go.RowKit Go.Shelf

noncomputable def decC (P : Nat → Prop) (n : Nat) : List Bool := (List.range n).map fun i => @decide (P i) (Classical.propDecidable _)
theorem decC_at {P : Nat → Prop} {n i : Nat} : (decC P n).getD i false = true ↔ i < n ∧ P i := by
  unfold decC
  rw [List.getD_eq_getElem?_getD, List.getElem?_map]
  by_cases h : i < n
  · rw [List.getElem?_range h]
    simp [h]
  · rw [List.getElem?_eq_none (by simpa using h)]
    simp [h]
theorem decC_len {P : Nat → Prop} {n : Nat} : (decC P n).length = n := by unfold decC; simp
/-- There are such lists. -/
theorem UnL.ex {g : GV} {w : World} (hfg : FG w g) (hst : 0 ≤ g.start ∧ g.start < g.ns.length) : ∃ Y, UnL g Y := by
  refine ⟨_, decC (fun i => ∀ Ct Cn, ClR g Ct Cn → Ct i) g.ts.length, decC (fun i => ∀ Ct Cn, ClR g Ct Cn → Cn i) g.ns.length, ⟨decC_len, decC_len, ?_, ?_, ?_⟩, rfl⟩
  · exact decC_at.2 ⟨by omega, fun Ct Cn hC => hC.1⟩
  · intro p hp hl s hs
    have h1 := (decC_at.1 hl).2
    rcases hfg.sym p hp s hs with z | z
    · exact ⟨fun _ => decC_at.2 ⟨by omega, fun Ct Cn hC => (hC.2 p hp (h1 Ct Cn hC) s hs).1 z.1⟩, fun e => by omega⟩
    · exact ⟨fun e => by omega, fun _ => decC_at.2 ⟨by omega, fun Ct Cn hC => (hC.2 p hp (h1 Ct Cn hC) s hs).2 z.1⟩⟩
  · intro Ct Cn hC
    exact ⟨fun i hi => (decC_at.1 hi).2 Ct Cn hC, fun i hi => (decC_at.1 hi).2 Ct Cn hC⟩
theorem CiL.ex {g : GV} {w : World} (ok : OkC g) (h : GAt 140737488355328 w g) : ∃ O, CiL g O :=
  ⟨_, circ_L ok h (O := decC (fun a => TrE (alU (nullU g.ps g.ns.length) g.ps) a a) g.ns.length) fun a ha => by rw [decC_at]; exact ⟨fun q => q.2, fun q => ⟨ha, q⟩⟩⟩
theorem Well_P2 (g : GV) (w : World) (h : GAt 140737488355328 w g) (hpc : g.ps.length ≤ g.pc) (er at_ : Int) (hE : checkG g (checkF g.ts g.ns) = (er, at_)) (hcap : ∀ p ∈ g.ps, p.right.length ≤ p.rc) (hT : TabB w) :
    Calls Tryz.prog 14 #[g.val] w fun e w' => ∃ k s, e = .returned (.tuple #[.int .i64 k, .agg #[.int .i64 s.1, .int .i64 s.2]]) ∧ WeE g er k s ∧ Below w.heap.size w w' := by
  refine Well_P g w h hpc er at_ hE hcap hT ?_ ?_
  · by_cases h0 : er = 0
    · subst h0
      have ok : OkC g := OkC.of (by rw [hE])
      obtain ⟨Y, hY⟩ := UnL.ex (ok.fg h) ok.st
      exact ⟨Y, .inl hY⟩
    · exact ⟨[], .inr h0⟩
  · by_cases h0 : er = 0
    · subst h0
      have ok : OkC g := OkC.of (by rw [hE])
      obtain ⟨Y, hY⟩ := CiL.ex ok h
      exact ⟨Y, .inl hY⟩
    · exact ⟨[], .inr h0⟩
end Go.Proofs.YtnngnbdlipjflaaGreatDoor
namespace Go.Proofs.YtnngnbdlipjflaaGreatDoor
set_option linter.unusedVariables false
open Go.RowKit Go.Shelf

theorem num07_P (x : Int) (w : World) : Calls Tryz.prog 17 #[.int .i64 x] w fun e w' => e = .returned (.int .i64 x) ∧ w = w' := by
  go_enter Tryz.func17, Tryz.ntmps17
  go_wp2
  go_ret
  exact ⟨rfl, rfl⟩
/-- The grammar of alive, its lists from block n on. -/
def thG (n : Nat) : GV := ⟨(some ⟨n + 1 + 1 + 1, 0, none⟩), 1, [⟨#[120]⟩], (some ⟨n + 1 + 1 + 1 + 1, 0, none⟩), 2, [⟨#[83]⟩, ⟨#[85]⟩], 0, (some ⟨n + 1 + 1 + 1 + 1 + 1 + 1 + 1 + 1, 0, none⟩), 3, [⟨0, (some ⟨n + 1 + 1 + 1 + 1 + 1, 0, none⟩), 1, [(1, 0)], -1⟩, ⟨1, (some ⟨n + 1 + 1 + 1 + 1 + 1 + 1, 0, none⟩), 2, [(2, 1), (1, 0)], -1⟩, ⟨0, (some ⟨n + 1 + 1 + 1 + 1 + 1 + 1 + 1, 0, none⟩), 1, [(2, 0)], -1⟩], none, 0, []⟩
theorem thG_check (n : Nat) : checkG (thG n) (checkF (thG n).ts (thG n).ns) = (0, 0) := by kernel_rfl
theorem n7_E (n : Int) (w : World) : Calls Tryz.prog 28 #[.int .i64 n] w fun e w' => e = .returned (.agg #[.int .i64 2, .int .i64 n]) ∧ w' = w.alloc (.cells #[.int .i64 2, .int .i64 n] 54) := by
  go_enter Tryz.func28, Tryz.ntmps28
  go_wp2
  refine bodyPost_ret (v := .agg #[.int .i64 2, .int .i64 n]) (by simp [results, Tryz.results28, go_sem]) rfl ?_
  exact ⟨rfl, rfl⟩
theorem t7_E (n : Int) (w : World) : Calls Tryz.prog 37 #[.int .i64 n] w fun e w' => e = .returned (.agg #[.int .i64 1, .int .i64 n]) ∧ w' = w.alloc (.cells #[.int .i64 1, .int .i64 n] 54) := by
  go_enter Tryz.func37, Tryz.ntmps37
  go_wp2
  refine bodyPost_ret (v := .agg #[.int .i64 1, .int .i64 n]) (by simp [results, Tryz.results37, go_sem]) rfl ?_
  exact ⟨rfl, rfl⟩
theorem bel_al7 {w w' : World} {o : Obj} (h : Below w.heap.size w w') : Below w.heap.size w (w'.alloc o) := h.trans ((below_alloc _ _).mono h.size)
set_option maxRecDepth 100000 in
set_option maxHeartbeats 4000000 in
theorem three_P (w : World) : Calls Tryz.prog 50 #[] w fun e w' => ∃ n, e = .returned (thG n).val ∧ GAt 140737488355328 w' (thG n) ∧ Below w.heap.size w w' := by
  have T0 : Hid True := trivial
  go_enter Tryz.func50, Tryz.ntmps50
  go_wp2_with (first
    | (go_at_call 28; have T1 : Hid True := T0; clear T0; refine (n7_E 0 _).mono ?_; rintro e w1 ⟨rfl, rfl⟩)
    | (go_at_call 28; have T2 : Hid True := T1; clear T1; refine (n7_E 1 _).mono ?_; rintro e w2 ⟨rfl, rfl⟩)
    | (go_at_call 37; refine (t7_E 0 _).mono ?_; rintro e w3 ⟨rfl, rfl⟩))
  refine bodyPost_ret (v := .agg #[.slice (some ⟨w.heap.size + 1 + 1 + 1 + 1 + 1 + 1 + 1, 0, none⟩) 1 1, .slice (some ⟨w.heap.size + 1 + 1 + 1 + 1 + 1 + 1 + 1 + 1, 0, none⟩) 2 2, .int .i64 0, .slice (some ⟨w.heap.size + 1 + 1 + 1 + 1 + 1 + 1 + 1 + 1 + 1 + 1 + 1 + 1, 0, none⟩) 3 3, .slice none 0 0]) (by simp [results, Tryz.results50, go_sem]) rfl ?_
  refine ⟨w.heap.size + 1 + 1 + 1 + 1, rfl, GAt.mono (n := 8) ⟨?_, ?_, ⟨?_, ?_⟩, ⟨?_, ?_⟩, ?_, ?_, by simp [thG], by simp [thG], by simp [thG], by simp [thG], ?_, ?_⟩ (by decide), ?_⟩
  · intro _
    refine ⟨w.heap.size + 1 + 1 + 1 + 1 + 1 + 1 + 1, 0, rfl, by simp, fun i hi => ?_⟩
    have hi : i < 1 := hi
    obtain rfl : i = 0 := by omega
    simp [go_sem, thG]
  · intro _
    refine ⟨w.heap.size + 1 + 1 + 1 + 1 + 1 + 1 + 1 + 1, 0, rfl, by simp, fun i hi => ?_⟩
    have hi : i < 2 := hi
    rcases (show i = 0 ∨ i = 1 by omega) with rfl | rfl <;> simp [go_sem, thG]
  · intro _
    refine ⟨w.heap.size + 1 + 1 + 1 + 1 + 1 + 1 + 1 + 1 + 1 + 1 + 1 + 1, 0, rfl, by simp, fun i hi => ?_⟩
    have hi : i < 3 := hi
    rcases (show i = 0 ∨ i = 1 ∨ i = 2 by omega) with rfl | rfl | rfl <;> simp [go_sem, thG]
  · intro p hp hn
    simp only [thG, List.mem_cons, List.not_mem_nil, or_false] at hp
    rcases hp with rfl | rfl | rfl
    · refine ⟨w.heap.size + 1 + 1 + 1 + 1 + 1 + 1 + 1 + 1 + 1, 0, rfl, by simp, fun i hi => ?_⟩
      have hi : i < 1 := hi
      obtain rfl : i = 0 := by omega
      simp [go_sem]
    · refine ⟨w.heap.size + 1 + 1 + 1 + 1 + 1 + 1 + 1 + 1 + 1 + 1, 0, rfl, by simp, fun i hi => ?_⟩
      have hi : i < 2 := hi
      rcases (show i = 0 ∨ i = 1 by omega) with rfl | rfl <;> simp [go_sem]
    · refine ⟨w.heap.size + 1 + 1 + 1 + 1 + 1 + 1 + 1 + 1 + 1 + 1 + 1, 0, rfl, by simp, fun i hi => ?_⟩
      have hi : i < 1 := hi
      obtain rfl : i = 0 := by omega
      simp [go_sem]
  · intro hn
    exact absurd rfl hn
  · intro p hp hn
    simp [thG] at hp
  · intro s hs; simp only [thG, List.mem_cons, List.not_mem_nil, or_false] at hs; rcases hs with rfl <;> first | decide | simp
  · intro s hs; simp only [thG, List.mem_cons, List.not_mem_nil, or_false] at hs; rcases hs with rfl | rfl <;> first | decide | simp
  · intro p hp; simp only [thG, List.mem_cons, List.not_mem_nil, or_false] at hp; rcases hp with rfl | rfl | rfl <;> first | decide | simp
  · intro p hp; simp [thG] at hp
  · repeat (first | exact Below.refl _ _ | refine bel_al7 ?_)
end Go.Proofs.YtnngnbdlipjflaaGreatDoor
