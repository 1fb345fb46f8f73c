import Derived.Test.YtchocojmideleaaGreatDoorGProdG
namespace Go.Proofs.YtchocojmideleaaGreatDoor
set_option linter.unusedVariables false
open Go.RowKit

theorem PrRow.take {w : World} {ao : Option Addr} {l : List PV} (h : PrRow w ao l) (i : Nat) : PrRow w ao (l.take i) := by
  refine ⟨fun hne => ?_, fun p hp => h.rows p (List.mem_of_mem_take hp)⟩
  obtain ⟨b, off, e, hl, hc⟩ := h.cells (by intro e; rw [e] at hne; simp at hne)
  refine ⟨b, off, e, hl, fun j hj => ?_⟩
  rw [List.length_take] at hj
  have e2 : (l.take i).getD j .none = l.getD j .none := by simp only [List.getD, List.getElem?_take_of_lt (show j < i by omega)]
  rw [e2]
  exact hc j (by omega)
/-- What the walk of checkProd knows behind its boxes. -/
structure CB (g : GV) (p : PV) (gb pb : Nat) (w W : World) : Prop where
  at_ : GAt 140737488355328 W g
  bg : BoxG g gb W
  bp : BoxP p pb W
  bel : Below w.heap.size w W
theorem CB.later {g : GV} {p : PV} {gb pb : Nat} {w W W' : World} (h : CB g p gb pb w W) (hb : Below W.heap.size W W') : CB g p gb pb w W' := ⟨h.at_.later hb, h.bg.later hb, h.bp.later hb, h.bel.trans (hb.mono h.bel.size)⟩
theorem CB.one {g : GV} {p : PV} {w : World} (o : Obj) {t : TypeId} (h : GAt 140737488355328 w g) (hr : SymRow w p.ra p.right) : CB g p (w.heap.size + 1) (w.heap.size + 1 + 1) w (((w.alloc o).alloc (.cells #[.slice g.ta g.ts.length g.tc, .slice g.na g.ns.length g.nc, .int .i64 g.start, .slice g.pa g.ps.length g.pc, .slice g.la g.ls.length g.lc] t)).alloc (pBox p)).drew := by
  have b1 := below_alloc w o
  have n2 := BoxG.new (g := g) (w := w.alloc o) (t := t)
  have b2 := below_alloc (w.alloc o) (.cells #[.slice g.ta g.ts.length g.tc, .slice g.na g.ns.length g.nc, .int .i64 g.start, .slice g.pa g.ps.length g.pc, .slice g.la g.ls.length g.lc] t)
  have r2 := hr.later (Nat.le_refl _) (b1.trans (b2.mono b1.size))
  have n3 := BoxP.new (p := p) r2
  have b3 := below_alloc ((w.alloc o).alloc (.cells #[.slice g.ta g.ts.length g.tc, .slice g.na g.ns.length g.nc, .int .i64 g.start, .slice g.pa g.ps.length g.pc, .slice g.la g.ls.length g.lc] t)) (pBox p)
  have b4 := (b1.trans (b2.mono b1.size)).trans (b3.mono (Nat.le_trans b1.size b2.size))
  rw [alloc_size] at n2 n3
  rw [alloc_size] at n3
  exact ⟨h.later b4.drew, (n2.later b3).later (Below.refl _ _).drew, n3.later (Below.refl _ _).drew, b4.drew⟩
theorem CB.two {g : GV} {p : PV} {w : World} (o : Obj) {t : TypeId} (h : GAt 140737488355328 w g) (hr : SymRow w p.ra p.right) : CB g p (w.heap.size + 1 + 1) (w.heap.size + 1) w (((w.alloc o).alloc (pBox p)).alloc (.cells #[.slice g.ta g.ts.length g.tc, .slice g.na g.ns.length g.nc, .int .i64 g.start, .slice g.pa g.ps.length g.pc, .slice g.la g.ls.length g.lc] t)).drew := by
  have b1 := below_alloc w o
  have n2 := BoxP.new (p := p) (hr.later (Nat.le_refl _) b1)
  have b2 := below_alloc (w.alloc o) (pBox p)
  have n3 := BoxG.new (g := g) (w := (w.alloc o).alloc (pBox p)) (t := t)
  have b3 := below_alloc ((w.alloc o).alloc (pBox p)) (.cells #[.slice g.ta g.ts.length g.tc, .slice g.na g.ns.length g.nc, .int .i64 g.start, .slice g.pa g.ps.length g.pc, .slice g.la g.ls.length g.lc] t)
  have b4 := (b1.trans (b2.mono b1.size)).trans (b3.mono (Nat.le_trans b1.size b2.size))
  rw [alloc_size] at n2 n3
  rw [alloc_size] at n3
  exact ⟨h.later b4.drew, n3.later (Below.refl _ _).drew, (n2.later b3).later (Below.refl _ _).drew, b4.drew⟩
set_option maxRecDepth 100000 in
set_option maxHeartbeats 4000000 in
theorem checkprod_any (g : GV) (i : Nat) (w : World) (h : GAt 140737488355328 w g) (hi : i < g.ps.length) (hpc : g.ps.length ≤ g.pc) :
    Calls Tryz.prog 102 #[g.val, .int .i64 i] w fun e w' => e = .returned (.int .i64 (prodU g i)) ∧ Below w.heap.size w w' := by
  obtain ⟨b, off, hpa, hbl, hc⟩ := h.p.cells (by intro e; rw [e] at hi; simp at hi)
  obtain ⟨c0, c1, c2⟩ := hc i hi
  have hm : g.ps.getD i .none ∈ g.ps := by simp [List.getD, hi]
  have hrow := h.p.rows _ hm
  have hrl := h.rl _ hm
  have hnl := h.nl
  have htl := h.tl
  have hpl := h.pl
  rw [prodQ_is]
  have hv : g.val = .agg #[.slice g.ta g.ts.length g.tc, .slice g.na g.ns.length g.nc, .int .i64 g.start, .slice (some ⟨b, off, none⟩) g.ps.length g.pc, .slice g.la g.ls.length g.lc] := by unfold GV.val; rw [hpa]
  clear hc hm
  generalize g.ps.getD i .none = p at *
  obtain ⟨pl, ra, rc, right, prec⟩ := p
  simp only at c0 c1 c2 hrl
  rw [hv]
  have a1 : ∀ (o1 : Obj) (j : Nat), (w.alloc o1).cell? ⟨b, j, none⟩ = w.cell? ⟨b, j, none⟩ := fun o1 j => (below_alloc w o1).cell (p := ⟨b, j, none⟩) hbl
  have a2 : ∀ (o1 o2 : Obj) (j : Nat), ((w.alloc o1).alloc o2).cell? ⟨b, j, none⟩ = w.cell? ⟨b, j, none⟩ := fun o1 o2 j => ((below_alloc (w.alloc o1) o2).cell (p := ⟨b, j, none⟩) (Nat.lt_of_lt_of_le hbl (below_alloc w o1).size)).trans (a1 o1 j)
  have a3 : ∀ (o1 o2 o3 : Obj) (j : Nat), (((w.alloc o1).alloc o2).alloc o3).cell? ⟨b, j, none⟩ = w.cell? ⟨b, j, none⟩ := fun o1 o2 o3 j => ((below_alloc ((w.alloc o1).alloc o2) o3).cell (p := ⟨b, j, none⟩) (Nat.lt_of_lt_of_le hbl (Nat.le_trans (below_alloc w o1).size (below_alloc _ o2).size))).trans (a2 o1 o2 j)
  have HRW : Hid (SymRow w ra right) := hrow
  have CN : Hid (∀ z, Calls Tryz.prog 51 #[.agg #[.slice g.ta g.ts.length g.tc, .slice g.na g.ns.length g.nc, .int .i64 g.start, .slice (some ⟨b, off, none⟩) g.ps.length g.pc, .slice g.la g.ls.length g.lc], .int .i64 pl] z fun e w' => e = .returned (.bool (inN g pl)) ∧ Below z.heap.size z w') := fun z => by rw [← hv]; exact isnon_any g pl z hnl
  have CT : Hid (∀ z, Calls Tryz.prog 50 #[.agg #[.slice g.ta g.ts.length g.tc, .slice g.na g.ns.length g.nc, .int .i64 g.start, .slice (some ⟨b, off, none⟩) g.ps.length g.pc, .slice g.la g.ls.length g.lc], .int .i64 prec] z fun e w' => e = .returned (.bool (inT g prec)) ∧ Below z.heap.size z w') := fun z => by rw [← hv]; exact isterm_any g prec z htl
  have HH : Hid (GAt 140737488355328 w g) := h
  have C1 := CB.one (g := g) (p := ⟨pl, ra, rc, right, prec⟩) (w := w) (t := 26) (.cells #[.slice g.ta g.ts.length g.tc, .slice g.na g.ns.length g.nc, .int .i64 g.start, .slice (some ⟨b, off, none⟩) g.ps.length g.pc, .slice g.la g.ls.length g.lc] 95) h hrow
  have C2 := CB.two (g := g) (p := ⟨pl, ra, rc, right, prec⟩) (w := w) (t := 26) (.cells #[.slice g.ta g.ts.length g.tc, .slice g.na g.ns.length g.nc, .int .i64 g.start, .slice (some ⟨b, off, none⟩) g.ps.length g.pc, .slice g.la g.ls.length g.lc] 95) h hrow
  rw [hpa] at C1 C2
  have D1 : Hid _ := C1
  have D2 : Hid _ := C2
  clear h hrow hv C1 C2
  go_enter Tryz.func102, Tryz.ntmps102
  go_wp2
  go_region
  · have C1 := D1.out
    clear D1 D2 a1 a2 a3 c0 c1 c2
    generalize (((w.alloc (.cells #[.slice g.ta g.ts.length g.tc, .slice g.na g.ns.length g.nc, .int .i64 g.start, .slice (some ⟨b, off, none⟩) g.ps.length g.pc, .slice g.la g.ls.length g.lc] 95)).alloc (.cells #[.slice g.ta g.ts.length g.tc, .slice g.na g.ns.length g.nc, .int .i64 g.start, .slice (some ⟨b, off, none⟩) g.ps.length g.pc, .slice g.la g.ls.length g.lc] 26)).alloc (pBox ⟨pl, ra, rc, right, prec⟩)).drew = W at *
    generalize w.heap.size + 1 + 1 = pb at *
    generalize w.heap.size + 1 = gb at *
    have HC : Hid (CB g ⟨pl, ra, rc, right, prec⟩ gb pb w W) := C1
    clear C1
    have k0 := HC.out.bg.g0
    have k1 := HC.out.bg.g1
    have k2 := HC.out.bg.g2
    have k3 := HC.out.bg.g3
    have k4 := HC.out.bg.g4
    rw [hpa] at k3
    have j0 := HC.out.bp.p0
    have j1 := HC.out.bp.p1
    have j2 := HC.out.bp.p2
    simp only at j0 j1 j2
    cases hA : inN g pl with
    | false =>
      have HU : Hid (prodQ g i ⟨pl, ra, rc, right, prec⟩ = 35) := by show _ = _; unfold prodQ; simp [hA]
      rw [hA] at CN
      clear hA
      go_wp2_with (go_at_call 51; refine (CN.out W).mono ?_; rintro e w1 ⟨rfl, hb1⟩)
      go_ret
      exact ⟨by rw [HU.out]; rfl, HC.out.bel.trans (hb1.mono HC.out.bel.size)⟩
    | true =>
      rw [hA] at CN
      by_cases hB : 16 < right.length
      · have HU : Hid (prodQ g i ⟨pl, ra, rc, right, prec⟩ = 34) := by show _ = _; unfold prodQ; simp [hA, hB]
        have d3 : decide ((right.length : Int) > 16) = true := by simp; omega
        clear hA hB
        go_wp2_with (first
          | (go_at_call 51; refine (CN.out W).mono ?_; rintro e w1 ⟨rfl, hb1⟩; have X1 : Hid (CB g ⟨pl, ra, rc, right, prec⟩ gb pb w w1) := HC.out.later hb1; have x0 := X1.out.bg.g0; have x1 := X1.out.bg.g1; have x2 := X1.out.bg.g2; have x3 := X1.out.bg.g3; have x4 := X1.out.bg.g4; have y0 := X1.out.bp.p0; have y1 := X1.out.bp.p1; have y2 := X1.out.bp.p2; rw [hpa] at x3; simp only at y0 y1 y2))
        go_ret
        exact ⟨by rw [HU.out]; rfl, X1.out.bel⟩
      · have d3 : decide ((right.length : Int) > 16) = false := by simp; omega
        have HU : Hid (prodQ g i ⟨pl, ra, rc, right, prec⟩ = if (right.any fun s => !inG g s.1 s.2) = true then 35 else if ((g.ps.take i).any fun q => q.left == pl && q.right == right) = true then 6 else if prec ≠ -1 ∧ inT g prec = false then 38 else 0) := by show _ = _; unfold prodQ; simp [hA, hB]
        clear hA hB
        cases hC' : (right.any fun s => !inG g s.1 s.2) with
        | true =>
          have hC : Hid ((right.any fun s => !inG g s.1 s.2) = true) := hC'
          have HU2 : Hid (prodQ g i ⟨pl, ra, rc, right, prec⟩ = 35) := by show _ = _; rw [HU.out, if_pos hC']
          clear hC' HU
          go_wp2_with (first
          | (go_at_call 51; refine (CN.out W).mono ?_; rintro e w1 ⟨rfl, hb1⟩; have X1 : Hid (CB g ⟨pl, ra, rc, right, prec⟩ gb pb w w1) := HC.out.later hb1; have x0 := X1.out.bg.g0; have x1 := X1.out.bg.g1; have x2 := X1.out.bg.g2; have x3 := X1.out.bg.g3; have x4 := X1.out.bg.g4; have y0 := X1.out.bp.p0; have y1 := X1.out.bp.p1; have y2 := X1.out.bp.p2; rw [hpa] at x3; simp only at y0 y1 y2)
          | (go_at_call 166; refine (contains_strange g gb ra rc right w1 true hC.out hrl htl hnl X1.out.bp.row X1.out.bg).mono ?_; rintro e w2 ⟨rfl, hb2⟩; have X2 : Hid (CB g ⟨pl, ra, rc, right, prec⟩ gb pb w w2) := X1.out.later hb2; have u0 := X2.out.bg.g0; have u1 := X2.out.bg.g1; have u2 := X2.out.bg.g2; have u3 := X2.out.bg.g3; have u4 := X2.out.bg.g4; have v0 := X2.out.bp.p0; have v1 := X2.out.bp.p1; have v2 := X2.out.bp.p2; rw [hpa] at u3; simp only at v0 v1 v2))
          go_ret
          exact ⟨by rw [HU2.out]; rfl, X2.out.bel⟩
        | false =>
          have hC : Hid ((right.any fun s => !inG g s.1 s.2) = false) := hC'
          have HU2 : Hid (prodQ g i ⟨pl, ra, rc, right, prec⟩ = if ((g.ps.take i).any fun q => q.left == pl && q.right == right) = true then 6 else if prec ≠ -1 ∧ inT g prec = false then 38 else 0) := by show _ = _; rw [HU.out, hC']; rfl
          clear hC' HU
          have hipc : i ≤ g.pc := by omega
          have CS : Hid (∀ z x, CB g ⟨pl, ra, rc, right, prec⟩ gb pb w z → ((g.ps.take i).any fun q => q.left == pl && q.right == right) = x → Calls Tryz.prog 167 #[.slice (some ⟨b, off, none⟩) i g.pc, .func (.func 164) #[] #[.pointer (some ⟨pb, 0, none⟩)]] z fun e w' => e = .returned (.bool x) ∧ Below z.heap.size z w') := fun z x hz hx => by
            have hti : (g.ps.take i).length = i := by rw [List.length_take]; omega
            have hrw := hz.at_.p.take i
            rw [hpa] at hrw
            have := contains_same ⟨pl, ra, rc, right, prec⟩ pb (some ⟨b, off, none⟩) g.pc (g.ps.take i) z x hx (by omega) hrl (fun q hq => hz.at_.rl q (List.mem_of_mem_take hq)) hrw hz.bp
            rw [hti] at this
            exact this
          cases hD' : ((g.ps.take i).any fun q => q.left == pl && q.right == right) with
          | true =>
            have hD : Hid (((g.ps.take i).any fun q => q.left == pl && q.right == right) = true) := hD'
            have HU3 : Hid (prodQ g i ⟨pl, ra, rc, right, prec⟩ = 6) := by show _ = _; rw [HU2.out, if_pos hD']
            clear hD' HU2
            go_wp2_with (first
          | (go_at_call 51; refine (CN.out W).mono ?_; rintro e w1 ⟨rfl, hb1⟩; have X1 : Hid (CB g ⟨pl, ra, rc, right, prec⟩ gb pb w w1) := HC.out.later hb1; have x0 := X1.out.bg.g0; have x1 := X1.out.bg.g1; have x2 := X1.out.bg.g2; have x3 := X1.out.bg.g3; have x4 := X1.out.bg.g4; have y0 := X1.out.bp.p0; have y1 := X1.out.bp.p1; have y2 := X1.out.bp.p2; rw [hpa] at x3; simp only at y0 y1 y2)
          | (go_at_call 166; refine (contains_strange g gb ra rc right w1 false hC.out hrl htl hnl X1.out.bp.row X1.out.bg).mono ?_; rintro e w2 ⟨rfl, hb2⟩; have X2 : Hid (CB g ⟨pl, ra, rc, right, prec⟩ gb pb w w2) := X1.out.later hb2; have u0 := X2.out.bg.g0; have u1 := X2.out.bg.g1; have u2 := X2.out.bg.g2; have u3 := X2.out.bg.g3; have u4 := X2.out.bg.g4; have v0 := X2.out.bp.p0; have v1 := X2.out.bp.p1; have v2 := X2.out.bp.p2; rw [hpa] at u3; simp only at v0 v1 v2)
          | (go_at_call 167; refine (CS.out w2 true X2.out hD.out).mono ?_; rintro e w3 ⟨rfl, hb3⟩; have X3 : Hid (CB g ⟨pl, ra, rc, right, prec⟩ gb pb w w3) := X2.out.later hb3; have r0 := X3.out.bg.g0; have r1 := X3.out.bg.g1; have r2 := X3.out.bg.g2; have r3 := X3.out.bg.g3; have r4 := X3.out.bg.g4; have s0 := X3.out.bp.p0; have s1 := X3.out.bp.p1; have s2 := X3.out.bp.p2; rw [hpa] at r3; simp only at s0 s1 s2))
            go_ret
            exact ⟨by rw [HU3.out]; rfl, X3.out.bel⟩
          | false =>
            have hD : Hid (((g.ps.take i).any fun q => q.left == pl && q.right == right) = false) := hD'
            have HU3 : Hid (prodQ g i ⟨pl, ra, rc, right, prec⟩ = if prec ≠ -1 ∧ inT g prec = false then 38 else 0) := by show _ = _; rw [HU2.out, hD']; rfl
            clear hD' HU2
            by_cases hp : prec = -1
            · have HU4 : Hid (prodQ g i ⟨pl, ra, rc, right, prec⟩ = 0) := by show _ = _; rw [HU3.out, if_neg (fun h => h.1 hp)]
              have t1 : (prec != -1) = false := by simp [hp]
              clear HU3 hp
              go_wp2_with (first
          | (go_at_call 51; refine (CN.out W).mono ?_; rintro e w1 ⟨rfl, hb1⟩; have X1 : Hid (CB g ⟨pl, ra, rc, right, prec⟩ gb pb w w1) := HC.out.later hb1; have x0 := X1.out.bg.g0; have x1 := X1.out.bg.g1; have x2 := X1.out.bg.g2; have x3 := X1.out.bg.g3; have x4 := X1.out.bg.g4; have y0 := X1.out.bp.p0; have y1 := X1.out.bp.p1; have y2 := X1.out.bp.p2; rw [hpa] at x3; simp only at y0 y1 y2)
          | (go_at_call 166; refine (contains_strange g gb ra rc right w1 false hC.out hrl htl hnl X1.out.bp.row X1.out.bg).mono ?_; rintro e w2 ⟨rfl, hb2⟩; have X2 : Hid (CB g ⟨pl, ra, rc, right, prec⟩ gb pb w w2) := X1.out.later hb2; have u0 := X2.out.bg.g0; have u1 := X2.out.bg.g1; have u2 := X2.out.bg.g2; have u3 := X2.out.bg.g3; have u4 := X2.out.bg.g4; have v0 := X2.out.bp.p0; have v1 := X2.out.bp.p1; have v2 := X2.out.bp.p2; rw [hpa] at u3; simp only at v0 v1 v2)
          | (go_at_call 167; refine (CS.out w2 false X2.out hD.out).mono ?_; rintro e w3 ⟨rfl, hb3⟩; have X3 : Hid (CB g ⟨pl, ra, rc, right, prec⟩ gb pb w w3) := X2.out.later hb3; have r0 := X3.out.bg.g0; have r1 := X3.out.bg.g1; have r2 := X3.out.bg.g2; have r3 := X3.out.bg.g3; have r4 := X3.out.bg.g4; have s0 := X3.out.bp.p0; have s1 := X3.out.bp.p1; have s2 := X3.out.bp.p2; rw [hpa] at r3; simp only at s0 s1 s2))
              go_ret
              exact ⟨by rw [HU4.out]; rfl, X3.out.bel⟩
            · have t1 : (prec != -1) = true := by simpa using hp
              cases hT : inT g prec with
              | true =>
                have HU4 : Hid (prodQ g i ⟨pl, ra, rc, right, prec⟩ = 0) := by show _ = _; rw [HU3.out, if_neg (fun h => by rw [hT] at h; cases h.2)]
                rw [hT] at CT
                clear HU3 hp hT
                go_wp2_with (first
          | (go_at_call 51; refine (CN.out W).mono ?_; rintro e w1 ⟨rfl, hb1⟩; have X1 : Hid (CB g ⟨pl, ra, rc, right, prec⟩ gb pb w w1) := HC.out.later hb1; have x0 := X1.out.bg.g0; have x1 := X1.out.bg.g1; have x2 := X1.out.bg.g2; have x3 := X1.out.bg.g3; have x4 := X1.out.bg.g4; have y0 := X1.out.bp.p0; have y1 := X1.out.bp.p1; have y2 := X1.out.bp.p2; rw [hpa] at x3; simp only at y0 y1 y2)
          | (go_at_call 166; refine (contains_strange g gb ra rc right w1 false hC.out hrl htl hnl X1.out.bp.row X1.out.bg).mono ?_; rintro e w2 ⟨rfl, hb2⟩; have X2 : Hid (CB g ⟨pl, ra, rc, right, prec⟩ gb pb w w2) := X1.out.later hb2; have u0 := X2.out.bg.g0; have u1 := X2.out.bg.g1; have u2 := X2.out.bg.g2; have u3 := X2.out.bg.g3; have u4 := X2.out.bg.g4; have v0 := X2.out.bp.p0; have v1 := X2.out.bp.p1; have v2 := X2.out.bp.p2; rw [hpa] at u3; simp only at v0 v1 v2)
          | (go_at_call 167; refine (CS.out w2 false X2.out hD.out).mono ?_; rintro e w3 ⟨rfl, hb3⟩; have X3 : Hid (CB g ⟨pl, ra, rc, right, prec⟩ gb pb w w3) := X2.out.later hb3; have r0 := X3.out.bg.g0; have r1 := X3.out.bg.g1; have r2 := X3.out.bg.g2; have r3 := X3.out.bg.g3; have r4 := X3.out.bg.g4; have s0 := X3.out.bp.p0; have s1 := X3.out.bp.p1; have s2 := X3.out.bp.p2; rw [hpa] at r3; simp only at s0 s1 s2)
          | (go_at_call 50; refine (CT.out w3).mono ?_; rintro e w4 ⟨rfl, hb4⟩; have X4 : Hid (CB g ⟨pl, ra, rc, right, prec⟩ gb pb w w4) := X3.out.later hb4))
                go_ret
                exact ⟨by rw [HU4.out]; rfl, X4.out.bel⟩
              | false =>
                have HU4 : Hid (prodQ g i ⟨pl, ra, rc, right, prec⟩ = 38) := by show _ = _; rw [HU3.out, if_pos ⟨hp, hT⟩]
                rw [hT] at CT
                clear HU3 hp hT
                go_wp2_with (first
          | (go_at_call 51; refine (CN.out W).mono ?_; rintro e w1 ⟨rfl, hb1⟩; have X1 : Hid (CB g ⟨pl, ra, rc, right, prec⟩ gb pb w w1) := HC.out.later hb1; have x0 := X1.out.bg.g0; have x1 := X1.out.bg.g1; have x2 := X1.out.bg.g2; have x3 := X1.out.bg.g3; have x4 := X1.out.bg.g4; have y0 := X1.out.bp.p0; have y1 := X1.out.bp.p1; have y2 := X1.out.bp.p2; rw [hpa] at x3; simp only at y0 y1 y2)
          | (go_at_call 166; refine (contains_strange g gb ra rc right w1 false hC.out hrl htl hnl X1.out.bp.row X1.out.bg).mono ?_; rintro e w2 ⟨rfl, hb2⟩; have X2 : Hid (CB g ⟨pl, ra, rc, right, prec⟩ gb pb w w2) := X1.out.later hb2; have u0 := X2.out.bg.g0; have u1 := X2.out.bg.g1; have u2 := X2.out.bg.g2; have u3 := X2.out.bg.g3; have u4 := X2.out.bg.g4; have v0 := X2.out.bp.p0; have v1 := X2.out.bp.p1; have v2 := X2.out.bp.p2; rw [hpa] at u3; simp only at v0 v1 v2)
          | (go_at_call 167; refine (CS.out w2 false X2.out hD.out).mono ?_; rintro e w3 ⟨rfl, hb3⟩; have X3 : Hid (CB g ⟨pl, ra, rc, right, prec⟩ gb pb w w3) := X2.out.later hb3; have r0 := X3.out.bg.g0; have r1 := X3.out.bg.g1; have r2 := X3.out.bg.g2; have r3 := X3.out.bg.g3; have r4 := X3.out.bg.g4; have s0 := X3.out.bp.p0; have s1 := X3.out.bp.p1; have s2 := X3.out.bp.p2; rw [hpa] at r3; simp only at s0 s1 s2)
          | (go_at_call 50; refine (CT.out w3).mono ?_; rintro e w4 ⟨rfl, hb4⟩; have X4 : Hid (CB g ⟨pl, ra, rc, right, prec⟩ gb pb w w4) := X3.out.later hb4))
                go_ret
                exact ⟨by rw [HU4.out]; rfl, X4.out.bel⟩
  · have C1 := D2.out
    clear D1 D2 a1 a2 a3 c0 c1 c2
    generalize (((w.alloc (.cells #[.slice g.ta g.ts.length g.tc, .slice g.na g.ns.length g.nc, .int .i64 g.start, .slice (some ⟨b, off, none⟩) g.ps.length g.pc, .slice g.la g.ls.length g.lc] 95)).alloc (pBox ⟨pl, ra, rc, right, prec⟩)).alloc (.cells #[.slice g.ta g.ts.length g.tc, .slice g.na g.ns.length g.nc, .int .i64 g.start, .slice (some ⟨b, off, none⟩) g.ps.length g.pc, .slice g.la g.ls.length g.lc] 26)).drew = W at *
    generalize w.heap.size + 1 + 1 = gb at *
    generalize w.heap.size + 1 = pb at *
    have HC : Hid (CB g ⟨pl, ra, rc, right, prec⟩ gb pb w W) := C1
    clear C1
    have k0 := HC.out.bg.g0
    have k1 := HC.out.bg.g1
    have k2 := HC.out.bg.g2
    have k3 := HC.out.bg.g3
    have k4 := HC.out.bg.g4
    rw [hpa] at k3
    have j0 := HC.out.bp.p0
    have j1 := HC.out.bp.p1
    have j2 := HC.out.bp.p2
    simp only at j0 j1 j2
    cases hA : inN g pl with
    | false =>
      have HU : Hid (prodQ g i ⟨pl, ra, rc, right, prec⟩ = 35) := by show _ = _; unfold prodQ; simp [hA]
      rw [hA] at CN
      clear hA
      go_wp2_with (go_at_call 51; refine (CN.out W).mono ?_; rintro e w1 ⟨rfl, hb1⟩)
      go_ret
      exact ⟨by rw [HU.out]; rfl, HC.out.bel.trans (hb1.mono HC.out.bel.size)⟩
    | true =>
      rw [hA] at CN
      by_cases hB : 16 < right.length
      · have HU : Hid (prodQ g i ⟨pl, ra, rc, right, prec⟩ = 34) := by show _ = _; unfold prodQ; simp [hA, hB]
        have d3 : decide ((right.length : Int) > 16) = true := by simp; omega
        clear hA hB
        go_wp2_with (first
          | (go_at_call 51; refine (CN.out W).mono ?_; rintro e w1 ⟨rfl, hb1⟩; have X1 : Hid (CB g ⟨pl, ra, rc, right, prec⟩ gb pb w w1) := HC.out.later hb1; have x0 := X1.out.bg.g0; have x1 := X1.out.bg.g1; have x2 := X1.out.bg.g2; have x3 := X1.out.bg.g3; have x4 := X1.out.bg.g4; have y0 := X1.out.bp.p0; have y1 := X1.out.bp.p1; have y2 := X1.out.bp.p2; rw [hpa] at x3; simp only at y0 y1 y2))
        go_ret
        exact ⟨by rw [HU.out]; rfl, X1.out.bel⟩
      · have d3 : decide ((right.length : Int) > 16) = false := by simp; omega
        have HU : Hid (prodQ g i ⟨pl, ra, rc, right, prec⟩ = if (right.any fun s => !inG g s.1 s.2) = true then 35 else if ((g.ps.take i).any fun q => q.left == pl && q.right == right) = true then 6 else if prec ≠ -1 ∧ inT g prec = false then 38 else 0) := by show _ = _; unfold prodQ; simp [hA, hB]
        clear hA hB
        cases hC' : (right.any fun s => !inG g s.1 s.2) with
        | true =>
          have hC : Hid ((right.any fun s => !inG g s.1 s.2) = true) := hC'
          have HU2 : Hid (prodQ g i ⟨pl, ra, rc, right, prec⟩ = 35) := by show _ = _; rw [HU.out, if_pos hC']
          clear hC' HU
          go_wp2_with (first
          | (go_at_call 51; refine (CN.out W).mono ?_; rintro e w1 ⟨rfl, hb1⟩; have X1 : Hid (CB g ⟨pl, ra, rc, right, prec⟩ gb pb w w1) := HC.out.later hb1; have x0 := X1.out.bg.g0; have x1 := X1.out.bg.g1; have x2 := X1.out.bg.g2; have x3 := X1.out.bg.g3; have x4 := X1.out.bg.g4; have y0 := X1.out.bp.p0; have y1 := X1.out.bp.p1; have y2 := X1.out.bp.p2; rw [hpa] at x3; simp only at y0 y1 y2)
          | (go_at_call 166; refine (contains_strange g gb ra rc right w1 true hC.out hrl htl hnl X1.out.bp.row X1.out.bg).mono ?_; rintro e w2 ⟨rfl, hb2⟩; have X2 : Hid (CB g ⟨pl, ra, rc, right, prec⟩ gb pb w w2) := X1.out.later hb2; have u0 := X2.out.bg.g0; have u1 := X2.out.bg.g1; have u2 := X2.out.bg.g2; have u3 := X2.out.bg.g3; have u4 := X2.out.bg.g4; have v0 := X2.out.bp.p0; have v1 := X2.out.bp.p1; have v2 := X2.out.bp.p2; rw [hpa] at u3; simp only at v0 v1 v2))
          go_ret
          exact ⟨by rw [HU2.out]; rfl, X2.out.bel⟩
        | false =>
          have hC : Hid ((right.any fun s => !inG g s.1 s.2) = false) := hC'
          have HU2 : Hid (prodQ g i ⟨pl, ra, rc, right, prec⟩ = if ((g.ps.take i).any fun q => q.left == pl && q.right == right) = true then 6 else if prec ≠ -1 ∧ inT g prec = false then 38 else 0) := by show _ = _; rw [HU.out, hC']; rfl
          clear hC' HU
          have hipc : i ≤ g.pc := by omega
          have CS : Hid (∀ z x, CB g ⟨pl, ra, rc, right, prec⟩ gb pb w z → ((g.ps.take i).any fun q => q.left == pl && q.right == right) = x → Calls Tryz.prog 167 #[.slice (some ⟨b, off, none⟩) i g.pc, .func (.func 164) #[] #[.pointer (some ⟨pb, 0, none⟩)]] z fun e w' => e = .returned (.bool x) ∧ Below z.heap.size z w') := fun z x hz hx => by
            have hti : (g.ps.take i).length = i := by rw [List.length_take]; omega
            have hrw := hz.at_.p.take i
            rw [hpa] at hrw
            have := contains_same ⟨pl, ra, rc, right, prec⟩ pb (some ⟨b, off, none⟩) g.pc (g.ps.take i) z x hx (by omega) hrl (fun q hq => hz.at_.rl q (List.mem_of_mem_take hq)) hrw hz.bp
            rw [hti] at this
            exact this
          cases hD' : ((g.ps.take i).any fun q => q.left == pl && q.right == right) with
          | true =>
            have hD : Hid (((g.ps.take i).any fun q => q.left == pl && q.right == right) = true) := hD'
            have HU3 : Hid (prodQ g i ⟨pl, ra, rc, right, prec⟩ = 6) := by show _ = _; rw [HU2.out, if_pos hD']
            clear hD' HU2
            go_wp2_with (first
          | (go_at_call 51; refine (CN.out W).mono ?_; rintro e w1 ⟨rfl, hb1⟩; have X1 : Hid (CB g ⟨pl, ra, rc, right, prec⟩ gb pb w w1) := HC.out.later hb1; have x0 := X1.out.bg.g0; have x1 := X1.out.bg.g1; have x2 := X1.out.bg.g2; have x3 := X1.out.bg.g3; have x4 := X1.out.bg.g4; have y0 := X1.out.bp.p0; have y1 := X1.out.bp.p1; have y2 := X1.out.bp.p2; rw [hpa] at x3; simp only at y0 y1 y2)
          | (go_at_call 166; refine (contains_strange g gb ra rc right w1 false hC.out hrl htl hnl X1.out.bp.row X1.out.bg).mono ?_; rintro e w2 ⟨rfl, hb2⟩; have X2 : Hid (CB g ⟨pl, ra, rc, right, prec⟩ gb pb w w2) := X1.out.later hb2; have u0 := X2.out.bg.g0; have u1 := X2.out.bg.g1; have u2 := X2.out.bg.g2; have u3 := X2.out.bg.g3; have u4 := X2.out.bg.g4; have v0 := X2.out.bp.p0; have v1 := X2.out.bp.p1; have v2 := X2.out.bp.p2; rw [hpa] at u3; simp only at v0 v1 v2)
          | (go_at_call 167; refine (CS.out w2 true X2.out hD.out).mono ?_; rintro e w3 ⟨rfl, hb3⟩; have X3 : Hid (CB g ⟨pl, ra, rc, right, prec⟩ gb pb w w3) := X2.out.later hb3; have r0 := X3.out.bg.g0; have r1 := X3.out.bg.g1; have r2 := X3.out.bg.g2; have r3 := X3.out.bg.g3; have r4 := X3.out.bg.g4; have s0 := X3.out.bp.p0; have s1 := X3.out.bp.p1; have s2 := X3.out.bp.p2; rw [hpa] at r3; simp only at s0 s1 s2))
            go_ret
            exact ⟨by rw [HU3.out]; rfl, X3.out.bel⟩
          | false =>
            have hD : Hid (((g.ps.take i).any fun q => q.left == pl && q.right == right) = false) := hD'
            have HU3 : Hid (prodQ g i ⟨pl, ra, rc, right, prec⟩ = if prec ≠ -1 ∧ inT g prec = false then 38 else 0) := by show _ = _; rw [HU2.out, hD']; rfl
            clear hD' HU2
            by_cases hp : prec = -1
            · have HU4 : Hid (prodQ g i ⟨pl, ra, rc, right, prec⟩ = 0) := by show _ = _; rw [HU3.out, if_neg (fun h => h.1 hp)]
              have t1 : (prec != -1) = false := by simp [hp]
              clear HU3 hp
              go_wp2_with (first
          | (go_at_call 51; refine (CN.out W).mono ?_; rintro e w1 ⟨rfl, hb1⟩; have X1 : Hid (CB g ⟨pl, ra, rc, right, prec⟩ gb pb w w1) := HC.out.later hb1; have x0 := X1.out.bg.g0; have x1 := X1.out.bg.g1; have x2 := X1.out.bg.g2; have x3 := X1.out.bg.g3; have x4 := X1.out.bg.g4; have y0 := X1.out.bp.p0; have y1 := X1.out.bp.p1; have y2 := X1.out.bp.p2; rw [hpa] at x3; simp only at y0 y1 y2)
          | (go_at_call 166; refine (contains_strange g gb ra rc right w1 false hC.out hrl htl hnl X1.out.bp.row X1.out.bg).mono ?_; rintro e w2 ⟨rfl, hb2⟩; have X2 : Hid (CB g ⟨pl, ra, rc, right, prec⟩ gb pb w w2) := X1.out.later hb2; have u0 := X2.out.bg.g0; have u1 := X2.out.bg.g1; have u2 := X2.out.bg.g2; have u3 := X2.out.bg.g3; have u4 := X2.out.bg.g4; have v0 := X2.out.bp.p0; have v1 := X2.out.bp.p1; have v2 := X2.out.bp.p2; rw [hpa] at u3; simp only at v0 v1 v2)
          | (go_at_call 167; refine (CS.out w2 false X2.out hD.out).mono ?_; rintro e w3 ⟨rfl, hb3⟩; have X3 : Hid (CB g ⟨pl, ra, rc, right, prec⟩ gb pb w w3) := X2.out.later hb3; have r0 := X3.out.bg.g0; have r1 := X3.out.bg.g1; have r2 := X3.out.bg.g2; have r3 := X3.out.bg.g3; have r4 := X3.out.bg.g4; have s0 := X3.out.bp.p0; have s1 := X3.out.bp.p1; have s2 := X3.out.bp.p2; rw [hpa] at r3; simp only at s0 s1 s2))
              go_ret
              exact ⟨by rw [HU4.out]; rfl, X3.out.bel⟩
            · have t1 : (prec != -1) = true := by simpa using hp
              cases hT : inT g prec with
              | true =>
                have HU4 : Hid (prodQ g i ⟨pl, ra, rc, right, prec⟩ = 0) := by show _ = _; rw [HU3.out, if_neg (fun h => by rw [hT] at h; cases h.2)]
                rw [hT] at CT
                clear HU3 hp hT
                go_wp2_with (first
          | (go_at_call 51; refine (CN.out W).mono ?_; rintro e w1 ⟨rfl, hb1⟩; have X1 : Hid (CB g ⟨pl, ra, rc, right, prec⟩ gb pb w w1) := HC.out.later hb1; have x0 := X1.out.bg.g0; have x1 := X1.out.bg.g1; have x2 := X1.out.bg.g2; have x3 := X1.out.bg.g3; have x4 := X1.out.bg.g4; have y0 := X1.out.bp.p0; have y1 := X1.out.bp.p1; have y2 := X1.out.bp.p2; rw [hpa] at x3; simp only at y0 y1 y2)
          | (go_at_call 166; refine (contains_strange g gb ra rc right w1 false hC.out hrl htl hnl X1.out.bp.row X1.out.bg).mono ?_; rintro e w2 ⟨rfl, hb2⟩; have X2 : Hid (CB g ⟨pl, ra, rc, right, prec⟩ gb pb w w2) := X1.out.later hb2; have u0 := X2.out.bg.g0; have u1 := X2.out.bg.g1; have u2 := X2.out.bg.g2; have u3 := X2.out.bg.g3; have u4 := X2.out.bg.g4; have v0 := X2.out.bp.p0; have v1 := X2.out.bp.p1; have v2 := X2.out.bp.p2; rw [hpa] at u3; simp only at v0 v1 v2)
          | (go_at_call 167; refine (CS.out w2 false X2.out hD.out).mono ?_; rintro e w3 ⟨rfl, hb3⟩; have X3 : Hid (CB g ⟨pl, ra, rc, right, prec⟩ gb pb w w3) := X2.out.later hb3; have r0 := X3.out.bg.g0; have r1 := X3.out.bg.g1; have r2 := X3.out.bg.g2; have r3 := X3.out.bg.g3; have r4 := X3.out.bg.g4; have s0 := X3.out.bp.p0; have s1 := X3.out.bp.p1; have s2 := X3.out.bp.p2; rw [hpa] at r3; simp only at s0 s1 s2)
          | (go_at_call 50; refine (CT.out w3).mono ?_; rintro e w4 ⟨rfl, hb4⟩; have X4 : Hid (CB g ⟨pl, ra, rc, right, prec⟩ gb pb w w4) := X3.out.later hb4))
                go_ret
                exact ⟨by rw [HU4.out]; rfl, X4.out.bel⟩
              | false =>
                have HU4 : Hid (prodQ g i ⟨pl, ra, rc, right, prec⟩ = 38) := by show _ = _; rw [HU3.out, if_pos ⟨hp, hT⟩]
                rw [hT] at CT
                clear HU3 hp hT
                go_wp2_with (first
          | (go_at_call 51; refine (CN.out W).mono ?_; rintro e w1 ⟨rfl, hb1⟩; have X1 : Hid (CB g ⟨pl, ra, rc, right, prec⟩ gb pb w w1) := HC.out.later hb1; have x0 := X1.out.bg.g0; have x1 := X1.out.bg.g1; have x2 := X1.out.bg.g2; have x3 := X1.out.bg.g3; have x4 := X1.out.bg.g4; have y0 := X1.out.bp.p0; have y1 := X1.out.bp.p1; have y2 := X1.out.bp.p2; rw [hpa] at x3; simp only at y0 y1 y2)
          | (go_at_call 166; refine (contains_strange g gb ra rc right w1 false hC.out hrl htl hnl X1.out.bp.row X1.out.bg).mono ?_; rintro e w2 ⟨rfl, hb2⟩; have X2 : Hid (CB g ⟨pl, ra, rc, right, prec⟩ gb pb w w2) := X1.out.later hb2; have u0 := X2.out.bg.g0; have u1 := X2.out.bg.g1; have u2 := X2.out.bg.g2; have u3 := X2.out.bg.g3; have u4 := X2.out.bg.g4; have v0 := X2.out.bp.p0; have v1 := X2.out.bp.p1; have v2 := X2.out.bp.p2; rw [hpa] at u3; simp only at v0 v1 v2)
          | (go_at_call 167; refine (CS.out w2 false X2.out hD.out).mono ?_; rintro e w3 ⟨rfl, hb3⟩; have X3 : Hid (CB g ⟨pl, ra, rc, right, prec⟩ gb pb w w3) := X2.out.later hb3; have r0 := X3.out.bg.g0; have r1 := X3.out.bg.g1; have r2 := X3.out.bg.g2; have r3 := X3.out.bg.g3; have r4 := X3.out.bg.g4; have s0 := X3.out.bp.p0; have s1 := X3.out.bp.p1; have s2 := X3.out.bp.p2; rw [hpa] at r3; simp only at s0 s1 s2)
          | (go_at_call 50; refine (CT.out w3).mono ?_; rintro e w4 ⟨rfl, hb4⟩; have X4 : Hid (CB g ⟨pl, ra, rc, right, prec⟩ gb pb w w4) := X3.out.later hb4))
                go_ret
                exact ⟨by rw [HU4.out]; rfl, X4.out.bel⟩
end Go.Proofs.YtchocojmideleaaGreatDoor
