import Derived.Test.YtchocojmideleaaGreatDoorGUsesToGSum
import Derived.Test.YtchocojmideleaaGreatDoorGProdG
import Derived.BigQuiet
namespace Go.Proofs.YtchocojmideleaaGreatDoor
set_option linter.unusedVariables false
open Go.RowKit

theorem CL.row {w : World} {a : Option Addr} {n c : Nat} {l : List (Int × Int)} (h : CL w (.slice a n c) l) : SymRow w a l := by
  intro hne
  rcases h.2 with ⟨e, h0⟩ | ⟨g, cap, cur, e, h1, h2, h3⟩
  · exact absurd (List.eq_nil_of_length_eq_zero h0) hne
  · have hc := fun j x hx => World.ownsRow.cells h (g := g) (by rw [e]; rfl) j x hx
    cases e
    refine ⟨g, 0, rfl, lt_of_block h2, fun i hi => ?_⟩
    obtain ⟨q1, q2⟩ := symCells_get l i hi
    have r1 := hc _ _ q1
    have r2 := hc _ _ q2
    rw [add_none] at r1 r2
    exact ⟨r1, r2⟩
theorem IL.row {w : World} {a : Option Addr} {n c : Nat} {l : List Int} (h : IL w (.slice a n c) l) : InRow w a l := by
  intro hne
  rcases h.2 with ⟨e, h0⟩ | ⟨g, cap, cur, e, h1, h2, h3⟩
  · exact absurd (List.eq_nil_of_length_eq_zero h0) hne
  · have hc := fun j x hx => World.ownsRow.cells h (g := g) (by rw [e]; rfl) j x hx
    cases e
    refine ⟨g, 0, rfl, lt_of_block h2, fun i hi => ?_⟩
    have r1 := hc i (.int .i64 (l.getD i 0)) (by simp [List.getD, hi])
    rw [add_none] at r1
    exact r1
/-- Where a use is. -/
theorem mem_at {α : Type} {l : List α} {d : α} {j : Nat} (h : j < l.length) : l.getD j d ∈ l := by
  have e : l.getD j d = l[j] := by simp [List.getD, h]
  rw [e]; exact List.getElem_mem h
theorem use_at {g : GV} {q : Int × Int} {m : Nat} (hm : m < (usesU g.ps q g.ps.length).length) : ∃ i j : Nat, (usesU g.ps q g.ps.length).getD m (0, 0) = ((i : Int), (j : Int)) ∧ i < g.ps.length ∧ j < (g.ps.getD i .none).right.length ∧ (g.ps.getD i .none).right.getD j (0, 0) = q :=
  usesU_mem (by
    have e : (usesU g.ps q g.ps.length).getD m (0, 0) = (usesU g.ps q g.ps.length)[m] := by simp [List.getD, hm]
    rw [e]; exact List.getElem_mem hm)
set_option maxRecDepth 100000 in
set_option maxHeartbeats 4000000 in
theorem law_uses (g : GV) (k n : Int) (w : World) (h : GAt 1048576 w g) :
    Calls Tryz.prog 37 #[g.val, .agg #[.int .i64 k, .int .i64 n]] w fun e w' => e = .returned (.int .i64 (usesU g.ps (k, n) g.ps.length).length) ∧ Below w.heap.size w w' := by
  have hbox := heap_alloc_new (w.alloc (gBox g)) (syBox k n)
  have hW := two_box w g k n
  have hpl := h.pl
  have HL : Hid ((usesU g.ps (k, n) g.ps.length).length ≤ 1048576 * 1048576) := Nat.le_trans (usesU_len (k, n) h.rl g.ps.length (Nat.le_refl _)) (Nat.mul_le_mul_right _ hpl)
  have HB : Hid (∀ wr, Below ((w.alloc (gBox g)).alloc (syBox k n)).heap.size ((w.alloc (gBox g)).alloc (syBox k n)) wr → BoxG g w.heap.size wr ∧ (wr.cell? ⟨w.heap.size + 1, 0, none⟩ = some (.int .i64 k) ∧ wr.cell? ⟨w.heap.size + 1, 1, none⟩ = some (.int .i64 n)) ∧ GAt 1048576 wr g ∧ Below w.heap.size w wr) := fun wr hb => by
    have q := (hb.block _ (lt_of_block hbox)).trans hbox
    have e : (w.alloc (gBox g)).heap.size = w.heap.size + 1 := by simp
    rw [e] at q
    have hw := hW.trans (hb.mono hW.size)
    exact ⟨(BoxG.new.later (below_alloc _ _)).later hb, ⟨(cellq_any q).trans rfl, (cellq_any q).trans rfl⟩, h.later hw, hw⟩
  clear h hbox hW
  go_enter Tryz.func37, Tryz.ntmps37
  go_wp2_with (go_at_call 19; refine (uses_any g k n _ (HB.out _ (Below.refl _ _)).2.2.1).mono ?_; rintro e w1 ⟨ua, uc, rfl, hcl, hb1⟩)
  have B1 : Hid (∀ wr, Below w1.heap.size w1 wr → BoxG g w.heap.size wr ∧ (wr.cell? ⟨w.heap.size + 1, 0, none⟩ = some (.int .i64 k) ∧ wr.cell? ⟨w.heap.size + 1, 1, none⟩ = some (.int .i64 n)) ∧ GAt 1048576 wr g ∧ Below w.heap.size w wr) := fun wr hb => HB.out wr (hb1.trans (hb.mono hb1.size))
  have CR : Hid (SymRow w1 ua (usesU g.ps (k, n) g.ps.length)) := hcl.row
  clear HB hcl hb1
  go_loopw [6] (fun i wr => ∃ m : Nat, m ≤ (usesU g.ps (k, n) g.ps.length).length ∧ i = .int .i64 m ∧ Below w1.heap.size w1 wr) (fun i _ => (usesU g.ps (k, n) g.ps.length).length - (intOf i).toNat)
  case atStart => exact ⟨0, Nat.zero_le _, rfl, Below.refl _ _⟩
  case round =>
    obtain ⟨m, hm, rfl, hb⟩ := hrel
    have hl := HL.out
    by_cases hlt : m < (usesU g.ps (k, n) g.ps.length).length
    · obtain ⟨i, j, he, hi, hj, hq⟩ := use_at hlt
      obtain ⟨ub, uo, rfl, hub, huc⟩ := (CR.out.later (Nat.le_refl _) hb) (by intro e; rw [e] at hlt; simp at hlt)
      obtain ⟨u0, u1⟩ := huc m hlt
      rw [he] at u0 u1
      have hbA : Below w1.heap.size w1 (wr.alloc (.cells #[.int .i64 i, .int .i64 j] 101)) := hb.alloc hb.size _
      obtain ⟨X0, ⟨s0, s1⟩, X2, X3⟩ := B1.out _ hbA
      have g3 := X0.g3
      obtain ⟨pb, po, hpa, hpb, hpc⟩ := X2.p.cells (by intro e; rw [e] at hi; simp at hi)
      obtain ⟨_, p1, _⟩ := hpc i hi
      have hrow := X2.p.rows (g.ps.getD i .none) (mem_at hi)
      have hrl := X2.rl (g.ps.getD i .none) (mem_at hi)
      obtain ⟨rb, ro, hra, hrb, hrc⟩ := hrow (by intro e; rw [e] at hj; simp at hj)
      obtain ⟨r0, r1⟩ := hrc j hj
      rw [hq] at r0 r1
      simp only at r0 r1
      rw [hra] at p1
      rw [hpa] at g3
      clear X0 X2 hpc hrow hrc huc hra hpa hq
      generalize (g.ps.getD i .none).right.length = RL at *
      generalize (usesU g.ps (k, n) g.ps.length).length = UL at *
      have t1 : decide ((i : Int) < 0) = false := by simp
      have t2 : decide ((i : Int) ≥ (g.ps.length : Int)) = false := by simp; omega
      have t3 : decide ((j : Int) < 0) = false := by simp
      have t4 : decide ((j : Int) ≥ (RL : Int)) = false := by simp; omega
      have e1 : (k == k) = true := by simp
      have e2 : (n == n) = true := by simp
      go_wp2
      go_quiet (fail)
      go_wp2
      go_roundw
      case rel => exact ⟨m + 1, by omega, by go_num, below_drewN hbA _⟩
      case measure => simp [intOf]; omega
    · go_wp2
      go_ret
      obtain rfl : m = (usesU g.ps (k, n) g.ps.length).length := by omega
      exact ⟨rfl, (B1.out _ hb).2.2.2⟩
end Go.Proofs.YtchocojmideleaaGreatDoor
