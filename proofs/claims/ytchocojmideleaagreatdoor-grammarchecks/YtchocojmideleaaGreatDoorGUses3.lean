import Derived.Test.YtchocojmideleaaGreatDoorGUsesToGSum
namespace Go.Proofs.YtchocojmideleaaGreatDoor
set_option linter.unusedVariables false
open Go.RowKit

theorem below_drewG {B : Nat} {w w' : World} (h : Below B w w') (n : Nat) : Below B w (w'.drewN n) := below_drewN h n
set_option maxRecDepth 100000 in
set_option maxHeartbeats 8000000 in
theorem refuses_any (g : GV) (k n : Int) (w : World) (h : GAt 1048576 w g) :
    Calls Tryz.prog 20 #[g.val, .agg #[.int .i64 k, .int .i64 n]] w fun e w' => ∃ a c, e = .returned (.slice a (usesU g.ps (k, n) g.ps.length).length c) ∧ CL w' (.slice a (usesU g.ps (k, n) g.ps.length).length c) (usesU g.ps (k, n) g.ps.length) ∧ Below w.heap.size w w' := by
  have hpl := h.pl
  have HP : Hid (PrRow w g.pa g.ps) := h.p
  have HRL : Hid (∀ p ∈ g.ps, p.right.length ≤ 1048576) := h.rl
  have hbox := heap_alloc_new (w.alloc (gBox g)) (syBox k n)
  have hgb := heap_alloc_new w (gBox g)
  have hW := two_box w g k n
  have HBX : Hid (∀ wr, Below ((w.alloc (gBox g)).alloc (syBox k n)).heap.size ((w.alloc (gBox g)).alloc (syBox k n)) wr → wr.cell? ⟨w.heap.size + 1, 0, none⟩ = some (.int .i64 k) ∧ wr.cell? ⟨w.heap.size + 1, 1, none⟩ = some (.int .i64 n) ∧ wr.cell? ⟨w.heap.size, 3, none⟩ = some (.slice g.pa g.ps.length g.pc)) := fun wr hb => by
    have q := (hb.block _ (lt_of_block hbox)).trans hbox
    have e : (w.alloc (gBox g)).heap.size = w.heap.size + 1 := by simp
    rw [e] at q
    have q2 : ((w.alloc (gBox g)).alloc (syBox k n)).heap[w.heap.size]? = some (gBox g) := (Below.heap_alloc _ _ _ (lt_of_block hgb)).trans hgb
    have q3 := (hb.block _ (lt_of_block q2)).trans q2
    exact ⟨(cellq_any q).trans rfl, (cellq_any q).trans rfl, (cellq_any q3).trans rfl⟩
  have HBW : Hid (∀ wr, Below ((w.alloc (gBox g)).alloc (syBox k n)).heap.size ((w.alloc (gBox g)).alloc (syBox k n)) wr → Below w.heap.size w wr) := fun wr hb => hW.trans (hb.mono hW.size)
  clear h hbox hW hgb
  go_enter Tryz.func20, Tryz.ntmps20
  go_wp2
  generalize (w.alloc (gBox g)).alloc (syBox k n) = W0 at *
  go_loopw [5, 6] (fun v i wr => ∃ i' : Nat, i' ≤ g.ps.length ∧ i = .int .i64 i' ∧ CL wr v (usesU g.ps (k, n) i') ∧ (∀ j, v.ownBlock = some j → W0.heap.size ≤ j) ∧ Below W0.heap.size W0 wr) (fun _ i _ => g.ps.length - (intOf i).toNat)
  case atStart => exact ⟨0, Nat.zero_le _, rfl, CL.nil _, (fun j hj => by simp [Value.ownBlock] at hj), Below.refl _ _⟩
  case round =>
    obtain ⟨i, hi, rfl, hI, hv, hB⟩ := hrel
    obtain ⟨va, vc, rfl⟩ := cl_len hI
    obtain ⟨d0, d1, d2⟩ := HBX.out _ hB
    by_cases hlt : i < g.ps.length
    · have hmem : g.ps.getD i .none ∈ g.ps := by simp [List.getD, hlt]
      have hrow : Hid _ := HP.out.rows _ hmem
      have hrl := HRL.out _ hmem
      have hul : Hid _ := usesU_len (k, n) HRL.out i (by omega)
      have hst : Hid _ := usesU_step g.ps (k, n) i
      have HPC : Hid (∀ wi, Below W0.heap.size W0 wi → ∃ b off, g.pa = some ⟨b, off, none⟩ ∧ wi.cell? ⟨b, off + i * 3 + 1, none⟩ = some (.slice (g.ps.getD i .none).ra (g.ps.getD i .none).right.length (g.ps.getD i .none).rc)) := fun wi hb => by
        obtain ⟨b, off, hpa, _, hc⟩ := (HP.out.later (HBW.out wi hb)).cells (by intro e; rw [e] at hlt; simp at hlt)
        exact ⟨b, off, hpa, (hc i hlt).2.1⟩
      clear hmem
      generalize g.ps.getD i .none = p at *
      obtain ⟨pl, pa, pc, pr, pp⟩ := p
      simp only at hrl hrow HPC hst
      have hrA : Hid (SymRow w pa pr) := hrow.out
      obtain ⟨pb, po, hpa, _⟩ := HPC.out wr hB
      have HPC2 : Hid (∀ wi, Below W0.heap.size W0 wi → wi.cell? ⟨pb, po + i * 3 + 1, none⟩ = some (.slice pa pr.length pc) ∧ wi.cell? ⟨w.heap.size, 3, none⟩ = some (.slice (some ⟨pb, po, none⟩) g.ps.length g.pc)) := fun wi hb => by
        obtain ⟨pb', po', hpa', f1⟩ := HPC.out wi hb
        have f2 := (HBX.out wi hb).2.2
        rw [hpa] at hpa' f2
        simp only [Option.some.injEq, Addr.mk.injEq, and_true] at hpa'
        obtain ⟨rfl, rfl⟩ := hpa'
        exact ⟨f1, f2⟩
      have f1 := (HPC2.out wr hB).1
      rw [hpa] at d2
      clear hpa HPC
      generalize hU : usesU g.ps (k, n) i = U at *
      go_wp2
      go_loopw [5, 7] (fun v i2 wi => ∃ m : Nat, m ≤ pr.length ∧ i2 = .int .i64 m ∧ CL wi v (U ++ usesP pr (k, n) i m) ∧ (∀ j, v.ownBlock = some j → W0.heap.size ≤ j) ∧ Below W0.heap.size W0 wi) (fun _ i2 _ => pr.length - (intOf i2).toNat)
      case atStart => exact ⟨0, Nat.zero_le _, rfl, by simpa [usesP] using hI, hv, hB⟩
      case round =>
        clear hI hv hB d0 d1 d2 f1
        obtain ⟨m, hm, rfl, hI, hv, hB2⟩ := hrel
        obtain ⟨va2, vc2, rfl⟩ := cl_len hI
        have hx := HBX.out _ hB2
        have d0 := hx.1
        have d1 := hx.2.1
        clear hx
        obtain ⟨f1, d2⟩ := HPC2.out _ hB2
        by_cases hlm : m < pr.length
        · obtain ⟨rb, ro, rfl, hrb, hrc⟩ := (hrA.out.later (Nat.le_refl _) (HBW.out _ hB2)) (by intro e; subst e; simp at hlm)
          obtain ⟨r0, r1⟩ := hrc m hlm
          have hsp : Hid _ := usesP_succ pr (k, n) i m
          have hpl2 : Hid ((U ++ usesP pr (k, n) i m).length ≤ 8000000000000) := by
            have q1 := usesP_len pr (k, n) i m
            have q2 := hul.out
            show _ ≤ _
            rw [List.length_append]
            have q3 : i * 1048576 ≤ 1048576 * 1048576 := Nat.mul_le_mul_right _ (by omega)
            omega
          clear hrc
          generalize pr.getD m (0, 0) = x at *
          obtain ⟨x1, x2⟩ := x
          simp only at r0 r1
          generalize hPP : usesP pr (k, n) i m = PP at *
          by_cases he : x1 = k ∧ x2 = n
          · obtain ⟨rfl, rfl⟩ := he
            have e1 : (x1 == x1) = true := by simp
            have e2 : (x2 == x2) = true := by simp
            generalize hUL : (U ++ PP).length = UL at *
            have HV : Hid (∀ j, (Value.slice va2 UL vc2).ownBlock = some j → W0.heap.size ≤ j) := hv
            go_wp2
            go_quiet (fail)
            have hI5 := hI.later (below_drewN (Below.refl wr.heap.size wr) nq)
            have hB5 := below_drewN hB2 nq
            clear hI hB2 d0 d1 d2 f1 r0 r1
            generalize wr.drewN nq = w5 at *
            have HIA : Hid (CL (w5.alloc (.cells #[.int .i64 i, .int .i64 m] 101)) (.slice va2 UL vc2) (U ++ PP)) := hI5.later (below_alloc _ _)
            have HBA : Hid (Below W0.heap.size W0 (w5.alloc (.cells #[.int .i64 i, .int .i64 m] 101))) := hB5.alloc hB5.size _
            go_wp2_with (first
              | (at_builtin; refine wpList_cl_append rfl _ _ rfl (.slice va2 UL vc2) (U ++ PP) rfl HIA.out _ 1 i m rfl (by simp) (by simp) (Nat.le_trans (Nat.le_of_eq hUL) hpl2.out) ?_; intro a4 n4 c4 w4 ho4 hg4))
            go_roundw
            case rel =>
              obtain ⟨g1, g2⟩ := grew_belowI HBA.out HV.out hg4
              refine ⟨m + 1, by omega, by go_num, ?_, g2, g1⟩
              rw [hsp.out, if_pos (by first | rfl | trivial), ← List.append_assoc]
              exact ho4
            case measure => simp [intOf]; omega
          · have hne : (x1 == k) = false ∨ (x1 == k) = true ∧ (x2 == n) = false := by
              by_cases q : x1 = k
              · right; exact ⟨by simp [q], by simp only [beq_eq_false_iff_ne, ne_eq]; exact fun q2 => he ⟨q, q2⟩⟩
              · left; simpa using q
            rcases hne with e1 | ⟨e1, e2⟩
            all_goals
              go_wp2
              go_quiet (fail)
              go_wp2
              go_roundw
              case rel =>
                refine ⟨m + 1, by omega, by go_num, ?_, hv, below_drewN hB2 _⟩
                rw [hsp.out, if_neg (by simpa using he)]
                exact hI.later (below_drewN (Below.refl _ _) _)
              case measure => simp [intOf]; omega
        · obtain rfl : m = pr.length := by omega
          go_wp2
          go_roundw
          case rel =>
            refine ⟨i + 1, by omega, by go_num, ?_, hv, hB2⟩
            rw [hst.out]
            exact hI
          case measure => simp [intOf]; omega
    · obtain rfl : i = g.ps.length := by omega
      go_wp2
      go_ret
      exact ⟨va, vc, rfl, hI, HBW.out wr hB⟩
end Go.Proofs.YtchocojmideleaaGreatDoor
