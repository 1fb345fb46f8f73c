import Derived.Test.YtndbdliaidbocaaGreatPGCheckPToGSame2
namespace Go.Proofs.YtndbdliaidbocaaGreat
set_option linter.unusedVariables false
open Go.RowKit
def prodQ (g : GV) (i : Nat) (p : PV) : Int :=
 if inN g p.left = false then 35
 else if 16 < p.right.length then 34
 else if (p.right.any fun s => !inG g s.1 s.2) = true then 35
 else if ((g.ps.take i).any fun q => q.left == p.left && q.right == p.right) = true then 6
 else if p.prec ≠ -1 /\ inT g p.prec = false then 38
 else 0
theorem prodQ_is (g : GV) (i : Nat) : prodU g i = prodQ g i (g.ps.getD i .none) := rfl
abbrev pBox (p : PV) : Obj := .cells #[.int .i64 p.left, .slice p.ra p.right.length p.rc, .int .i64 p.prec] 60
structure PB (g : GV) (p : PV) (w wr : World) : Prop where
 at_ : GAt 140737488355328 wr g
 row : SymRow wr p.ra p.right
 g0 : wr.cell? ⟨w.heap.size, 0, none⟩ = some (.slice g.ta g.ts.length g.tc)
 g1 : wr.cell? ⟨w.heap.size, 1, none⟩ = some (.slice g.na g.ns.length g.nc)
 g2 : wr.cell? ⟨w.heap.size, 2, none⟩ = some (.int .i64 g.start)
 g3 : wr.cell? ⟨w.heap.size, 3, none⟩ = some (.slice g.pa g.ps.length g.pc)
 g4 : wr.cell? ⟨w.heap.size, 4, none⟩ = some (.slice g.la g.ls.length g.lc)
 p0 : wr.cell? ⟨w.heap.size + 1, 0, none⟩ = some (.int .i64 p.left)
 p1 : wr.cell? ⟨w.heap.size + 1, 1, none⟩ = some (.slice p.ra p.right.length p.rc)
 p2 : wr.cell? ⟨w.heap.size + 1, 2, none⟩ = some (.int .i64 p.prec)
 lt0 : w.heap.size < wr.heap.size
 lt1 : w.heap.size + 1 < wr.heap.size
theorem alloc_size (w : World) (o : Obj) : (w.alloc o).heap.size = w.heap.size + 1 := by simp
theorem PB.new {g : GV} {p : PV} {w : World} (h : GAt 140737488355328 w g) (hr : SymRow w p.ra p.right) : PB g p w ((w.alloc (gBox g)).alloc (pBox p)) := by
 have b1 := below_alloc w (gBox g)
 have b2 := below_alloc (w.alloc (gBox g)) (pBox p)
 have b3 : Below w.heap.size w ((w.alloc (gBox g)).alloc (pBox p)) := b1.trans (b2.mono b1.size)
 have e1 : ((w.alloc (gBox g)).alloc (pBox p)).heap[w.heap.size]? = some (gBox g) := (b2.block _ (by rw [alloc_size]; omega)).trans (heap_alloc_new w _)
 have e2 : ((w.alloc (gBox g)).alloc (pBox p)).heap[w.heap.size + 1]? = some (pBox p) := by have := heap_alloc_new (w.alloc (gBox g)) (pBox p); rwa [alloc_size] at this
 refine ⟨h.later b3, hr.later (Nat.le_refl _) b3, ?_, ?_, ?_, ?_, ?_, ?_, ?_, ?_, lt_of_block e1, lt_of_block e2⟩
 ·rw [cellq_any e1]; rfl
 ·rw [cellq_any e1]; rfl
 ·rw [cellq_any e1]; rfl
 ·rw [cellq_any e1]; rfl
 ·rw [cellq_any e1]; rfl
 ·rw [cellq_any e2]; rfl
 ·rw [cellq_any e2]; rfl
 ·rw [cellq_any e2]; rfl
theorem PB.later {g : GV} {p : PV} {w wr w' : World} (h : PB g p w wr) (hb : Below wr.heap.size wr w') : PB g p w w' := by
 have e0 : ∀ j, w'.cell? ⟨w.heap.size, j, none⟩ = wr.cell? ⟨w.heap.size, j, none⟩ := fun j => hb.cell (p := ⟨w.heap.size, j, none⟩) h.lt0
 have e1 : ∀ j, w'.cell? ⟨w.heap.size + 1, j, none⟩ = wr.cell? ⟨w.heap.size + 1, j, none⟩ := fun j => hb.cell (p := ⟨w.heap.size + 1, j, none⟩) h.lt1
 exact ⟨h.at_.later hb, h.row.later (Nat.le_refl _) hb, (e0 0).trans h.g0, (e0 1).trans h.g1, (e0 2).trans h.g2, (e0 3).trans h.g3, (e0 4).trans h.g4, (e1 0).trans h.p0, (e1 1).trans h.p1, (e1 2).trans h.p2, Nat.lt_of_lt_of_le h.lt0 hb.size, Nat.lt_of_lt_of_le h.lt1 hb.size⟩
theorem PB.ahead {g : GV} {p : PV} {w wr : World} (h : PB g p w wr) {k : Nat} (hk : k < g.ps.length) : ∃ b off, g.pa = some ⟨b, off, none⟩ /\ b < wr.heap.size /\ wr.cell? ⟨b, off + k * 3, none⟩ = some (.int .i64 (g.ps.getD k .none).left) /\ wr.cell? ⟨b, off + k * 3 + 1, none⟩ = some (.slice (g.ps.getD k .none).ra (g.ps.getD k .none).right.length (g.ps.getD k .none).rc) /\ SymRow wr (g.ps.getD k .none).ra (g.ps.getD k .none).right /\ (g.ps.getD k .none).right.length <= 140737488355328 := by
 obtain ⟨b, off, e, hl, hc⟩ := h.at_.p.cells (by intro e; rw [e] at hk; simp at hk)
 obtain ⟨c0, c1, _⟩ := hc k hk
 have hm : g.ps.getD k .none ∈ g.ps := by simp [List.getD, hk]
 exact ⟨b, off, e, hl, c0, c1, h.at_.p.rows _ hm, h.at_.rl _ hm⟩
set_option maxRecDepth 100000 in
set_option maxHeartbeats 4000000 in
theorem refprod_any (g : GV) (i : Nat) (w : World) (h : GAt 140737488355328 w g) (hi : i < g.ps.length) :
  Calls Tryz.prog 50 #[g.val, .int .i64 i] w fun e w' => e = .returned (.int .i64 (prodU g i)) /\ Below w.heap.size w w' := by
 obtain ⟨b, off, hpa, hbl, hc⟩ := h.p.cells (by intro e; rw [e] at hi; simp at hi)
 obtain ⟨c0, c1, c2⟩ := hc i hi
 have hm : g.ps.getD i .none ∈ g.ps := by simp [List.getD, hi]
 have hrow := h.p.rows _ hm
 have hrl := h.rl _ hm
 have hnl := h.nl
 have htl := h.tl
 have hpl := h.pl
 rw [prodQ_is]
 have hv : g.val = .agg #[.slice g.ta g.ts.length g.tc, .slice g.na g.ns.length g.nc, .int .i64 g.start, .slice (some ⟨b, off, none⟩) g.ps.length g.pc, .slice g.la g.ls.length g.lc] := by unfold GV.val; rw [hpa]
 have hgb : gBox g = .cells #[.slice g.ta g.ts.length g.tc, .slice g.na g.ns.length g.nc, .int .i64 g.start, .slice (some ⟨b, off, none⟩) g.ps.length g.pc, .slice g.la g.ls.length g.lc] 26 := by unfold gBox; rw [hpa]
 clear hc hm
 generalize g.ps.getD i .none = p at *
 have HP : Hid (PB g p w ((w.alloc (gBox g)).alloc (pBox p))) := PB.new h hrow
 have HB0 : Hid (Below w.heap.size w ((w.alloc (gBox g)).alloc (pBox p))) := (below_alloc w _).trans ((below_alloc _ _).mono (below_alloc w _).size)
 clear h hrow
 rw [hgb] at HP HB0
 have CI : Hid (∀ q1 q2 z, Calls Tryz.prog 67 #[.agg #[.slice g.ta g.ts.length g.tc, .slice g.na g.ns.length g.nc, .int .i64 g.start, .slice (some ⟨b, off, none⟩) g.ps.length g.pc, .slice g.la g.ls.length g.lc], .agg #[.int .i64 q1, .int .i64 q2]] z fun e w' => e = .returned (.bool (inG g q1 q2)) /\ Below z.heap.size z w') := fun q1 q2 z => by rw [<- hv]; exact refin_g g q1 q2 z htl hnl
 have HPA : Hid (g.pa = some ⟨b, off, none⟩) := hpa
 rw [hv]
 clear hv hgb hpa
 obtain ⟨pl, ra, rc, right, prec⟩ := p
 simp only at c0 c1 c2 hrl
 by_cases hA : inN g pl = false
 ·have HU : Hid (prodQ g i ⟨pl, ra, rc, right, prec⟩ = 35) := by show _ = _; unfold prodQ; simp [hA]
  have hA' : pl < 0 ∨ ¬ pl < 0 /\ pl ≥ g.ns.length := by unfold inN at hA; simp at hA; omega
  clear hA
  rcases hA' with hA | ⟨hA, hA2⟩
  ·have d1 : decide (pl < 0) = true := by simpa using hA
   clear hA
   go_enter Tryz.func50, Tryz.ntmps50
   go_wp2
   go_ret
   exact ⟨by rw [HU.out]; rfl, HB0.out⟩
  ·have d1 : decide (pl < 0) = false := by simpa using hA
   have d2 : decide (pl ≥ (g.ns.length : Int)) = true := by simpa using hA2
   clear hA hA2
   go_enter Tryz.func50, Tryz.ntmps50
   go_wp2
   go_ret
   exact ⟨by rw [HU.out]; rfl, HB0.out⟩
 ·have hA1 : inN g pl = true := by simpa using hA
  have hA2 : ¬ pl < 0 /\ ¬ pl ≥ (g.ns.length : Int) := by unfold inN at hA1; simp at hA1; omega
  have d1 : decide (pl < 0) = false := by simpa using hA2.1
  have d2 : decide (pl ≥ (g.ns.length : Int)) = false := by simpa using hA2.2
  clear hA hA2
  by_cases hB : 16 < right.length
  ·have HU : Hid (prodQ g i ⟨pl, ra, rc, right, prec⟩ = 34) := by show _ = _; unfold prodQ; simp [hA1, hB]
   have d3 : decide ((right.length : Int) > 16) = true := by simp; omega
   clear hA1
   go_enter Tryz.func50, Tryz.ntmps50
   go_wp2
   go_ret
   exact ⟨by rw [HU.out]; rfl, HB0.out⟩
  ·have d3 : decide ((right.length : Int) > 16) = false := by simp; omega
   have HU : Hid (prodQ g i ⟨pl, ra, rc, right, prec⟩ = if (right.any fun s => !inG g s.1 s.2) = true then 35 else if ((g.ps.take i).any fun q => q.left == pl && q.right == right) = true then 6 else if prec ≠ -1 /\ inT g prec = false then 38 else 0) := by show _ = _; unfold prodQ; simp [hA1, hB]
   clear hA1 hB
   go_enter Tryz.func50, Tryz.ntmps50
   go_wp2
   generalize ((w.alloc (.cells #[.slice g.ta g.ts.length g.tc, .slice g.na g.ns.length g.nc, .int .i64 g.start, .slice (some ⟨b, off, none⟩) g.ps.length g.pc, .slice g.la g.ls.length g.lc] 26)).alloc (pBox ⟨pl, ra, rc, right, prec⟩)) = W at *
   go_loopw [6] (fun i wr => ∃ k : Nat, k <= right.length /\ i = .int .i64 k /\ Below W.heap.size W wr /\ Hid (∀ j, j < k -> inG g (right.getD j (0, 0)).1 (right.getD j (0, 0)).2 = true)) (fun i _ => right.length - (intOf i).toNat)
   case atStart => exact ⟨0, Nat.zero_le _, rfl, Below.refl _ _, fun j hj => by omega⟩
   case round =>
    obtain ⟨k, hk, rfl, hb, HA⟩ := hrel
    have HW : Hid (PB g ⟨pl, ra, rc, right, prec⟩ w wr) := HP.out.later hb
    have g3' : wr.cell? ⟨w.heap.size, 3, none⟩ = some (.slice (some ⟨b, off, none⟩) g.ps.length g.pc) := by rw [HW.out.g3, HPA.out]
    have q1' := HW.out.p1
    by_cases hlt : k < right.length
    ·obtain ⟨rb, ro, rfl, hrb, hrc⟩ := HW.out.row (by intro e; subst e; simp at hlt)
     obtain ⟨r0, r1⟩ := hrc k hlt
     simp only at r0 r1
     have HIT : Hid (inG g (right.getD k (0, 0)).1 (right.getD k (0, 0)).2 = false -> (right.any fun s => !inG g s.1 s.2) = true) := fun e => any_hit (d := (0, 0)) hlt (by show (!inG g _ _) = true; rw [e]; rfl)
     have HST : Hid (inG g (right.getD k (0, 0)).1 (right.getD k (0, 0)).2 = true -> ∀ j, j < k + 1 -> inG g (right.getD j (0, 0)).1 (right.getD j (0, 0)).2 = true) := fun e j hj => by
      rcases Nat.lt_succ_iff_lt_or_eq.1 hj with r | rfl
      ·exact HA.out j r
      ·exact e
     generalize right.getD k (0, 0) = s at *
     obtain ⟨s1, s2⟩ := s
     simp only at r0 r1 HIT HST
     have lts := HW.out.lt0
     have x0 := fun y : Ext wr => (y.cell (a := ⟨w.heap.size, 0, none⟩) lts).trans HW.out.g0
     have x1 := fun y : Ext wr => (y.cell (a := ⟨w.heap.size, 1, none⟩) lts).trans HW.out.g1
     have x2 := fun y : Ext wr => (y.cell (a := ⟨w.heap.size, 2, none⟩) lts).trans HW.out.g2
     have x3 := fun y : Ext wr => (y.cell (a := ⟨w.heap.size, 3, none⟩) lts).trans g3'
     have x4 := fun y : Ext wr => (y.cell (a := ⟨w.heap.size, 4, none⟩) lts).trans HW.out.g4
     have x5 := fun y : Ext wr => (y.cell (a := ⟨w.heap.size + 1, 1, none⟩) HW.out.lt1).trans q1'
     have x6 := fun y : Ext wr => (y.cell (a := ⟨rb, ro + k * 2, none⟩) hrb).trans r0
     have x7 := fun y : Ext wr => (y.cell (a := ⟨rb, ro + k * 2 + 1, none⟩) hrb).trans r1
     go_wp2
     refine wp_region_ext (by kernel_rfl) (by kernel_rfl) fun neX => ?_
     repeat (quiet_step (first | (go_at_call 67; exact Calls.ext_of (CI.out _ _ _))))
     refine wpQuiet_nil ?_
     rintro _ ⟨y, rfl⟩
     have hby : Below W.heap.size W y.w := hb.trans (y.h.mono hb.size)
     cases hin : inG g s1 s2 with
     | false =>
      have HU2 : Hid (prodQ g i ⟨pl, some ⟨rb, ro, none⟩, rc, right, prec⟩ = 35) := by show _ = _; rw [HU.out, if_pos (HIT.out hin)]
      have HY : Hid (Below W.heap.size W y.w) := hby
      clear hin HIT HST x0 x1 x2 x3 x4 x5 x6 x7 HU
      go_wp2
      go_ret
      exact ⟨by rw [HU2.out]; rfl, HB0.out.trans (HY.out.mono HB0.out.size)⟩
     | true =>
      have HS1 : Hid _ := HST.out hin
      clear hin HIT HST x0 x1 x2 x3 x4 x5 x6 x7
      go_wp2
      go_roundw
      case rel => exact ⟨k + 1, by omega, by go_num, hby, HS1.out⟩
      case measure => simp [intOf]; omega
    ·have HNA : Hid ((right.any fun s => !inG g s.1 s.2) = false) := any_none (0, 0) fun j hj => by show (!inG g _ _) = false; rw [HA.out j (by omega)]; rfl
     have HU1 : Hid (prodQ g i ⟨pl, ra, rc, right, prec⟩ = if ((g.ps.take i).any fun q => q.left == pl && q.right == right) = true then 6 else if prec ≠ -1 /\ inT g prec = false then 38 else 0) := by
      show _ = _
      rw [HU.out, HNA.out]
      rfl
     clear HU HNA HA
     go_wp2
     obtain ⟨wo, rfl⟩ : ∃ wo : World, wo = wr := ⟨_, rfl⟩
     go_loopw [7] (fun z wr => ∃ m : Nat, m <= i /\ z = .int .i64 m /\ Below W.heap.size W wr /\ Hid (∀ j, j < m -> ((g.ps.getD j .none).left == pl && (g.ps.getD j .none).right == right) = false)) (fun z _ => i - (intOf z).toNat)
     case atStart => exact ⟨0, Nat.zero_le _, rfl, hb, fun j hj => by omega⟩
     case round =>
      clear HW g3' q1' hb
      obtain ⟨m, hm, rfl, hb, HA⟩ := hrel
      have HW : Hid (PB g ⟨pl, ra, rc, right, prec⟩ w wr) := HP.out.later hb
      have g3' : wr.cell? ⟨w.heap.size, 3, none⟩ = some (.slice (some ⟨b, off, none⟩) g.ps.length g.pc) := by rw [HW.out.g3, HPA.out]
      have q0' := HW.out.p0
      have q1' := HW.out.p1
      have q2' := HW.out.p2
      simp only at q0' q1' q2'
      by_cases hlm : m < i
      ·have hmp : m < g.ps.length := by omega
       obtain ⟨b2, off2, e2, _, a0, a1, arow, alen⟩ := HW.out.ahead hmp
       rw [HPA.out] at e2
       simp only [Option.some.injEq, Addr.mk.injEq] at e2
       obtain ⟨rfl, rfl, _⟩ := e2
       have HIT : Hid (((g.ps.getD m .none).left == pl && (g.ps.getD m .none).right == right) = true -> ((g.ps.take i).any fun q => q.left == pl && q.right == right) = true) := fun e => by
        rw [List.any_eq_true]
        refine ⟨g.ps.getD m .none, ?_, e⟩
        rw [List.mem_take_iff_getElem]
        exact ⟨m, by omega, by simp [List.getD, hmp]⟩
       have HST : Hid (((g.ps.getD m .none).left == pl && (g.ps.getD m .none).right == right) = false -> ∀ j, j < m + 1 -> ((g.ps.getD j .none).left == pl && (g.ps.getD j .none).right == right) = false) := fun e j hj => by
        rcases Nat.lt_succ_iff_lt_or_eq.1 hj with r | rfl
        ·exact HA.out j r
        ·exact e
       generalize g.ps.getD m .none = P at *
       obtain ⟨xl, xa, xc, xr, xp⟩ := P
       simp only at a0 a1 arow alen HIT HST
       have HR : Hid (∀ d, SymRow (wr.drewN d) xa xr /\ SymRow (wr.drewN d) ra right) := fun d => ⟨arow.later (Nat.le_refl _) (below_drewN (Below.refl _ _) d), HW.out.row.later (Nat.le_refl _) (below_drewN (Below.refl _ _) d)⟩
       have HLs : Hid (xr.length <= 140737488355328 /\ right.length <= 140737488355328) := ⟨by omega, by omega⟩
       clear arow
       by_cases hxl : xl = pl
       ·subst hxl
        have t1 : (xl == xl) = true := by simp
        by_cases hxr : xr = right
        ·have HU2 : Hid (prodQ g i ⟨xl, ra, rc, right, prec⟩ = 6) := by
          show _ = _
          rw [HU1.out, if_pos (HIT.out (by simp [hxr]))]
         have HE : Hid ((xr == right) = true) := by show _ = _; simp [hxr]
         clear HIT HST HU1 hxr
         go_wp2
         go_quiet ((go_at_call 27; (exact Calls.quiet_of (samesyms_b xa ra xc rc xr right (wr.drewN _) true HE.out HLs.out.1 HLs.out.2 (HR.out _).1 (HR.out _).2))))
         go_wp2
         go_ret
         exact ⟨by rw [HU2.out]; rfl, HB0.out.trans ((below_drewN hb _).mono HB0.out.size)⟩
        ·have HS1 : Hid _ := HST.out (by simp [hxr])
         have HE : Hid ((xr == right) = false) := by show _ = _; simp [hxr]
         clear HIT HST hxr
         go_wp2
         go_quiet ((go_at_call 27; (exact Calls.quiet_of (samesyms_b xa ra xc rc xr right (wr.drewN _) false HE.out HLs.out.1 HLs.out.2 (HR.out _).1 (HR.out _).2))))
         go_wp2
         go_roundw
         case rel => exact ⟨m + 1, by omega, by go_num, below_drewN hb _, HS1.out⟩
         case measure => simp [intOf]; omega
       ·have t1 : (xl == pl) = false := by simpa using hxl
        have HS1 : Hid _ := HST.out (by simp [hxl])
        clear HIT HST hxl
        go_wp2
        go_quiet (fail)
        go_wp2
        go_roundw
        case rel => exact ⟨m + 1, by omega, by go_num, below_drewN hb _, HS1.out⟩
        case measure => simp [intOf]; omega
      ·have HNA : Hid (((g.ps.take i).any fun q => q.left == pl && q.right == right) = false) := by
        show _ = _
        rw [List.any_eq_false]
        intro x hx
        rw [List.mem_take_iff_getElem] at hx
        obtain ⟨j, hj, rfl⟩ := hx
        have := HA.out j (by omega)
        have hj2 : j < g.ps.length := by omega
        simp only [List.getD, List.getElem?_eq_getElem hj2, Option.getD_some] at this
        rw [this]
        decide
       have HU2 : Hid (prodQ g i ⟨pl, ra, rc, right, prec⟩ = if prec ≠ -1 /\ inT g prec = false then 38 else 0) := by
        show _ = _
        rw [HU1.out, HNA.out]
        rfl
       have g0' := HW.out.g0
       clear HU1 HNA HA
       by_cases hp : prec < -1 ∨ prec ≥ g.ts.length
       ·have HU3 : Hid (prodQ g i ⟨pl, ra, rc, right, prec⟩ = 38) := by
         show _ = _
         rw [HU2.out, if_pos]
         refine ⟨by omega, ?_⟩
         unfold inT
         simp
         omega
        clear HU2
        by_cases hp1 : prec < -1
        ·have t1 : decide (prec < -1) = true := by simpa using hp1
         clear hp hp1
         go_wp2
         go_ret
         exact ⟨by rw [HU3.out]; rfl, HB0.out.trans (hb.mono HB0.out.size)⟩
        ·have t1 : decide (prec < -1) = false := by simpa using hp1
         have t2 : decide (prec ≥ (g.ts.length : Int)) = true := by simp; omega
         clear hp hp1
         go_wp2
         go_ret
         exact ⟨by rw [HU3.out]; rfl, HB0.out.trans (hb.mono HB0.out.size)⟩
       ·have HU3 : Hid (prodQ g i ⟨pl, ra, rc, right, prec⟩ = 0) := by
         show _ = _
         rw [HU2.out, if_neg]
         rintro ⟨h1, h2⟩
         unfold inT at h2
         simp at h2
         omega
        have t1 : decide (prec < -1) = false := by simp; omega
        have t2 : decide (prec ≥ (g.ts.length : Int)) = false := by simp; omega
        clear hp HU2
        go_wp2
        go_ret
        exact ⟨by rw [HU3.out]; rfl, HB0.out.trans (hb.mono HB0.out.size)⟩
def levelQ (g : GV) (i : Nat) (l : LV) : Int :=
 if l.assoc < 1 ∨ 3 < l.assoc ∨ l.terms.length = 0 then 37
 else if (l.terms.any fun n => !inT g n) = true then 4
 else if risesU l.terms = false then 7
 else if (l.terms.any fun n => (namedU g.ls i).contains n) = true then 6
 else 0
theorem levelQ_is (g : GV) (i : Nat) : levelU g i = levelQ g i (g.ls.getD i .none) := rfl
abbrev lBox (l : LV) : Obj := .cells #[.int .i64 l.assoc, .slice l.ta l.terms.length l.tc] 65
structure LB (g : GV) (l : LV) (w wr : World) : Prop where
 at_ : GAt 140737488355328 wr g
 row : InRow wr l.ta l.terms
 g0 : wr.cell? ⟨w.heap.size, 0, none⟩ = some (.slice g.ta g.ts.length g.tc)
 g1 : wr.cell? ⟨w.heap.size, 1, none⟩ = some (.slice g.na g.ns.length g.nc)
 g2 : wr.cell? ⟨w.heap.size, 2, none⟩ = some (.int .i64 g.start)
 g3 : wr.cell? ⟨w.heap.size, 3, none⟩ = some (.slice g.pa g.ps.length g.pc)
 g4 : wr.cell? ⟨w.heap.size, 4, none⟩ = some (.slice g.la g.ls.length g.lc)
 l0 : wr.cell? ⟨w.heap.size + 1, 0, none⟩ = some (.int .i64 l.assoc)
 l1 : wr.cell? ⟨w.heap.size + 1, 1, none⟩ = some (.slice l.ta l.terms.length l.tc)
 lt0 : w.heap.size < wr.heap.size
 lt1 : w.heap.size + 1 < wr.heap.size
theorem LB.new {g : GV} {l : LV} {w : World} (h : GAt 140737488355328 w g) (hr : InRow w l.ta l.terms) : LB g l w ((w.alloc (gBox g)).alloc (lBox l)) := by
 have b1 := below_alloc w (gBox g)
 have b2 := below_alloc (w.alloc (gBox g)) (lBox l)
 have b3 : Below w.heap.size w ((w.alloc (gBox g)).alloc (lBox l)) := b1.trans (b2.mono b1.size)
 have e1 : ((w.alloc (gBox g)).alloc (lBox l)).heap[w.heap.size]? = some (gBox g) := (b2.block _ (by rw [alloc_size]; omega)).trans (heap_alloc_new w _)
 have e2 : ((w.alloc (gBox g)).alloc (lBox l)).heap[w.heap.size + 1]? = some (lBox l) := by have := heap_alloc_new (w.alloc (gBox g)) (lBox l); rwa [alloc_size] at this
 refine ⟨h.later b3, hr.later b3, ?_, ?_, ?_, ?_, ?_, ?_, ?_, lt_of_block e1, lt_of_block e2⟩
 ·rw [cellq_any e1]; rfl
 ·rw [cellq_any e1]; rfl
 ·rw [cellq_any e1]; rfl
 ·rw [cellq_any e1]; rfl
 ·rw [cellq_any e1]; rfl
 ·rw [cellq_any e2]; rfl
 ·rw [cellq_any e2]; rfl
theorem LB.later {g : GV} {l : LV} {w wr w' : World} (h : LB g l w wr) (hb : Below wr.heap.size wr w') : LB g l w w' := by
 have e0 : ∀ j, w'.cell? ⟨w.heap.size, j, none⟩ = wr.cell? ⟨w.heap.size, j, none⟩ := fun j => hb.cell (p := ⟨w.heap.size, j, none⟩) h.lt0
 have e1 : ∀ j, w'.cell? ⟨w.heap.size + 1, j, none⟩ = wr.cell? ⟨w.heap.size + 1, j, none⟩ := fun j => hb.cell (p := ⟨w.heap.size + 1, j, none⟩) h.lt1
 exact ⟨h.at_.later hb, h.row.later hb, (e0 0).trans h.g0, (e0 1).trans h.g1, (e0 2).trans h.g2, (e0 3).trans h.g3, (e0 4).trans h.g4, (e1 0).trans h.l0, (e1 1).trans h.l1, Nat.lt_of_lt_of_le h.lt0 hb.size, Nat.lt_of_lt_of_le h.lt1 hb.size⟩
theorem LB.ahead {g : GV} {l : LV} {w wr : World} (h : LB g l w wr) {k : Nat} (hk : k < g.ls.length) : ∃ b off, g.la = some ⟨b, off, none⟩ /\ b < wr.heap.size /\ wr.cell? ⟨b, off + k * 2 + 1, none⟩ = some (.slice (g.ls.getD k .none).ta (g.ls.getD k .none).terms.length (g.ls.getD k .none).tc) /\ InRow wr (g.ls.getD k .none).ta (g.ls.getD k .none).terms /\ (g.ls.getD k .none).terms.length <= 140737488355328 := by
 obtain ⟨b, off, e, hl, hc⟩ := h.at_.l.cells (by intro e; rw [e] at hk; simp at hk)
 obtain ⟨_, c1⟩ := hc k hk
 have hm : g.ls.getD k .none ∈ g.ls := by simp [List.getD, hk]
 exact ⟨b, off, e, hl, c1, h.at_.l.rows _ hm, h.at_.vl _ hm⟩
theorem getD_memI {l : List Int} {c : Nat} (h : c < l.length) : l.getD c 0 ∈ l := by simp [List.getD, h]
theorem named_in {ls : List LV} {i b c : Nat} {x : Int} (hb : b < i) (hbl : b < ls.length) (hc : c < (ls.getD b .none).terms.length) (e : (ls.getD b .none).terms.getD c 0 = x) : (namedU ls i).contains x = true := by
 rw [List.contains_iff_mem]
 unfold namedU
 rw [List.mem_flatMap]
 refine ⟨ls.getD b .none, ?_, ?_⟩
 ·rw [List.mem_take_iff_getElem]
  exact ⟨b, by omega, by simp [List.getD, hbl]⟩
 ·rw [<- e]; exact getD_memI hc
theorem named_out {ls : List LV} {i : Nat} {x : Int} (h : ∀ b, b < i -> b < ls.length -> ∀ c, c < (ls.getD b .none).terms.length -> (ls.getD b .none).terms.getD c 0 ≠ x) : (namedU ls i).contains x = false := by
 cases e : (namedU ls i).contains x with
 | false => rfl
 | true =>
  exfalso
  rw [List.contains_iff_mem] at e
  unfold namedU at e
  rw [List.mem_flatMap] at e
  obtain ⟨l, hl, hx⟩ := e
  rw [List.mem_take_iff_getElem] at hl
  obtain ⟨b, hb, rfl⟩ := hl
  have hbl : b < ls.length := by omega
  obtain ⟨c, hc, hcx⟩ := List.getElem_of_mem hx
  refine h b (by omega) hbl c (by simpa [List.getD, hbl] using hc) ?_
  simp only [List.getD, List.getElem?_eq_getElem hbl, Option.getD_some, List.getElem?_eq_getElem hc]
  exact hcx
theorem rises_hit {l : List Int} {k : Nat} (h1 : 1 <= k) (hk : k < l.length) (h : l.getD k 0 <= l.getD (k - 1) 0) : risesU l = false := by
 unfold risesU
 rw [List.all_eq_false]
 refine ⟨k - 1, by simp; omega, ?_⟩
 rw [show k - 1 + 1 = k by omega]
 simp only [decide_eq_true_eq]
 omega
theorem rises_all {l : List Int} (h : ∀ j, j + 1 < l.length -> l.getD j 0 < l.getD (j + 1) 0) : risesU l = true := by
 unfold risesU
 rw [List.all_eq_true]
 intro j hj
 simp at hj
 simp only [decide_eq_true_eq]
 exact h j (by omega)
set_option maxRecDepth 100000 in
set_option maxHeartbeats 4000000 in
theorem reflevel_any (g : GV) (i : Nat) (w : World) (h : GAt 140737488355328 w g) (hi : i < g.ls.length) :
  Calls Tryz.prog 51 #[g.val, .int .i64 i] w fun e w' => e = .returned (.int .i64 (levelU g i)) /\ Below w.heap.size w w' := by
 obtain ⟨b, off, hla, hbl, hc⟩ := h.l.cells (by intro e; rw [e] at hi; simp at hi)
 obtain ⟨c0, c1⟩ := hc i hi
 have hm : g.ls.getD i .none ∈ g.ls := by simp [List.getD, hi]
 have hrow := h.l.rows _ hm
 have hrl := h.vl _ hm
 have htl := h.tl
 have hll := h.ll
 rw [levelQ_is]
 have hv : g.val = .agg #[.slice g.ta g.ts.length g.tc, .slice g.na g.ns.length g.nc, .int .i64 g.start, .slice g.pa g.ps.length g.pc, .slice (some ⟨b, off, none⟩) g.ls.length g.lc] := by unfold GV.val; rw [hla]
 have hgb : gBox g = .cells #[.slice g.ta g.ts.length g.tc, .slice g.na g.ns.length g.nc, .int .i64 g.start, .slice g.pa g.ps.length g.pc, .slice (some ⟨b, off, none⟩) g.ls.length g.lc] 26 := by unfold gBox; rw [hla]
 clear hc hm
 generalize g.ls.getD i .none = l at *
 have HP : Hid (LB g l w ((w.alloc (gBox g)).alloc (lBox l))) := LB.new h hrow
 have HB0 : Hid (Below w.heap.size w ((w.alloc (gBox g)).alloc (lBox l))) := (below_alloc w _).trans ((below_alloc _ _).mono (below_alloc w _).size)
 clear h hrow
 rw [hgb] at HP HB0
 have HPA : Hid (g.la = some ⟨b, off, none⟩) := hla
 rw [hv]
 clear hv hgb hla
 obtain ⟨assoc, ta, tc, terms⟩ := l
 simp only at c0 c1 hrl
 by_cases hA : assoc < 1 ∨ 3 < assoc ∨ terms.length = 0
 ·have HU : Hid (levelQ g i ⟨assoc, ta, tc, terms⟩ = 37) := by show _ = _; unfold levelQ; rw [if_pos hA]
  by_cases h1 : assoc < 1
  ·have d1 : decide (assoc < 1) = true := by simpa using h1
   clear hA h1
   go_enter Tryz.func51, Tryz.ntmps51
   go_wp2
   go_ret
   exact ⟨by rw [HU.out]; rfl, HB0.out⟩
  ·have d1 : decide (assoc < 1) = false := by simpa using h1
   by_cases h2 : 3 < assoc
   ·have d2 : decide (assoc > 3) = true := by simpa using h2
    clear hA h1 h2
    go_enter Tryz.func51, Tryz.ntmps51
    go_wp2
    go_ret
    exact ⟨by rw [HU.out]; rfl, HB0.out⟩
   ·have d2 : decide (assoc > 3) = false := by simpa using h2
    have h3 : terms.length = 0 := by omega
    have d3 : ((terms.length : Int) == 0) = true := by simp [h3]
    clear hA h1 h2 h3
    go_enter Tryz.func51, Tryz.ntmps51
    go_wp2
    go_ret
    exact ⟨by rw [HU.out]; rfl, HB0.out⟩
 ·have d1 : decide (assoc < 1) = false := by simp; omega
  have d2 : decide (assoc > 3) = false := by simp; omega
  have d3 : ((terms.length : Int) == 0) = false := by simp only [beq_eq_false_iff_ne, ne_eq]; omega
  have HU : Hid (levelQ g i ⟨assoc, ta, tc, terms⟩ = if (terms.any fun n => !inT g n) = true then 4 else if risesU terms = false then 7 else if (terms.any fun n => (namedU g.ls i).contains n) = true then 6 else 0) := by show _ = _; unfold levelQ; rw [if_neg hA]
  clear hA
  go_enter Tryz.func51, Tryz.ntmps51
  go_wp2
  generalize ((w.alloc (.cells #[.slice g.ta g.ts.length g.tc, .slice g.na g.ns.length g.nc, .int .i64 g.start, .slice g.pa g.ps.length g.pc, .slice (some ⟨b, off, none⟩) g.ls.length g.lc] 26)).alloc (lBox ⟨assoc, ta, tc, terms⟩)) = W at *
  have HF : Hid (∀ wr, Below W.heap.size W wr -> Below w.heap.size w wr) := fun wr hb => HB0.out.trans (hb.mono HB0.out.size)
  go_loopw [6] (fun z wr => ∃ k : Nat, k <= terms.length /\ z = .int .i64 k /\ Below W.heap.size W wr /\ Hid (∀ j, j < k -> inT g (terms.getD j 0) = true)) (fun z _ => terms.length - (intOf z).toNat)
  case atStart => exact ⟨0, Nat.zero_le _, rfl, Below.refl _ _, fun j hj => by omega⟩
  case round =>
   obtain ⟨k, hk, rfl, hb, HA⟩ := hrel
   have HW : Hid (LB g ⟨assoc, ta, tc, terms⟩ w wr) := HP.out.later hb
   have q1 := HW.out.l1
   have q0 := HW.out.g0
   simp only at q1
   by_cases hlt : k < terms.length
   ·obtain ⟨rb, ro, rfl, hrb, hrc⟩ := HW.out.row (by intro e; subst e; simp at hlt)
    have r0 := hrc k hlt
    simp only at r0
    clear hrc
    have HIT : Hid (inT g (terms.getD k 0) = false -> (terms.any fun n => !inT g n) = true) := fun e => any_hit (d := 0) hlt (by show (!inT g _) = true; rw [e]; rfl)
    have HST : Hid (inT g (terms.getD k 0) = true -> ∀ j, j < k + 1 -> inT g (terms.getD j 0) = true) := fun e j hj => by
     rcases Nat.lt_succ_iff_lt_or_eq.1 hj with r | rfl
     ·exact HA.out j r
     ·exact e
    generalize terms.getD k 0 = x at *
    by_cases hx1 : x < 0
    ·have t1 : decide (x < 0) = true := by simpa using hx1
     have HU2 : Hid (levelQ g i ⟨assoc, some ⟨rb, ro, none⟩, tc, terms⟩ = 4) := by
      show _ = _
      rw [HU.out, if_pos (HIT.out (by unfold inT; simp; omega))]
     clear HIT HST HU
     go_wp2
     go_quiet (fail)
     go_wp2
     go_ret
     exact ⟨by rw [HU2.out]; rfl, HF.out _ (below_drewN hb _)⟩
    ·have t1 : decide (x < 0) = false := by simpa using hx1
     by_cases hx2 : x ≥ g.ts.length
     ·have t2 : decide (x ≥ (g.ts.length : Int)) = true := by simpa using hx2
      have HU2 : Hid (levelQ g i ⟨assoc, some ⟨rb, ro, none⟩, tc, terms⟩ = 4) := by
       show _ = _
       rw [HU.out, if_pos (HIT.out (by unfold inT; simp; omega))]
      clear HIT HST HU
      go_wp2
      go_quiet (fail)
      go_wp2
      go_ret
      exact ⟨by rw [HU2.out]; rfl, HF.out _ (below_drewN hb _)⟩
     ·have t2 : decide (x ≥ (g.ts.length : Int)) = false := by simpa using hx2
      have HS1 : Hid _ := HST.out (by unfold inT; simp; omega)
      clear HIT HST
      go_wp2
      go_quiet (fail)
      go_wp2
      go_roundw
      case rel => exact ⟨k + 1, by omega, by go_num, below_drewN hb _, HS1.out⟩
      case measure => simp [intOf]; omega
   ·have HNA : Hid ((terms.any fun n => !inT g n) = false) := any_none 0 fun j hj => by show (!inT g _) = false; rw [HA.out j (by omega)]; rfl
    have HU1 : Hid (levelQ g i ⟨assoc, ta, tc, terms⟩ = if risesU terms = false then 7 else if (terms.any fun n => (namedU g.ls i).contains n) = true then 6 else 0) := by
     show _ = _
     rw [HU.out, HNA.out]
     rfl
    clear HU HNA HA
    go_wp2
    obtain ⟨wo, rfl⟩ : ∃ wo : World, wo = wr := ⟨_, rfl⟩
    go_loopw [7] (fun z wr => ∃ k : Nat, 1 <= k /\ k <= terms.length + 1 /\ z = .int .i64 k /\ Below W.heap.size W wr /\ Hid (∀ j, j + 1 < k -> j + 1 < terms.length -> terms.getD j 0 < terms.getD (j + 1) 0)) (fun z _ => terms.length + 1 - (intOf z).toNat)
    case atStart => exact ⟨1, by omega, by omega, rfl, hb, fun j hj => by omega⟩
    case round =>
     clear HW q1 q0 hb hlt hk
     obtain ⟨k, hk1, hk, rfl, hb, HA⟩ := hrel
     have HW : Hid (LB g ⟨assoc, ta, tc, terms⟩ w wr) := HP.out.later hb
     have q1 := HW.out.l1
     simp only at q1
     by_cases hlt : k < terms.length
     ·obtain ⟨rb, ro, rfl, hrb, hrc⟩ := HW.out.row (by intro e; subst e; simp at hlt)
      obtain ⟨k', rfl⟩ : ∃ k', k = k' + 1 := ⟨k - 1, by omega⟩
      have r0 := hrc (k' + 1) hlt
      have r1 := hrc k' (show k' < terms.length by omega)
      simp only at r0 r1
      clear hrc
      have ei : ((k' + 1 : Nat) : Int) - 1 = (k' : Int) := by omega
      have HIT : Hid (terms.getD (k' + 1) 0 <= terms.getD k' 0 -> risesU terms = false) := fun e => rises_hit (k := k' + 1) (by omega) hlt e
      have HST : Hid (terms.getD k' 0 < terms.getD (k' + 1) 0 -> ∀ j, j + 1 < k' + 1 + 1 -> j + 1 < terms.length -> terms.getD j 0 < terms.getD (j + 1) 0) := fun e j hj hj2 => by
       by_cases r : j + 1 < k' + 1
       ·exact HA.out j r hj2
       ·obtain rfl : j = k' := by omega
        exact e
      generalize terms.getD (k' + 1) 0 = x at *
      generalize terms.getD k' 0 = y at *
      by_cases hxy : x <= y
      ·have HU2 : Hid (levelQ g i ⟨assoc, some ⟨rb, ro, none⟩, tc, terms⟩ = 7) := by
        show _ = _
        rw [HU1.out, if_pos (HIT.out hxy)]
       have t1 : decide (x <= y) = true := by simpa using hxy
       clear HIT HST HU1
       go_wp2
       go_quiet (fail)
       go_wp2
       go_ret
       exact ⟨by rw [HU2.out]; rfl, HF.out _ (below_drewN hb _)⟩
      ·have HS1 : Hid _ := HST.out (by omega)
       have t1 : decide (x <= y) = false := by simpa using hxy
       clear HIT HST
       go_wp2
       go_quiet (fail)
       go_wp2
       go_roundw
       case rel => exact ⟨k' + 1 + 1, by omega, by omega, by go_num, below_drewN hb _, HS1.out⟩
       case measure => simp [intOf]; omega
     ·have HR : Hid (risesU terms = true) := rises_all fun j hj => HA.out j (by omega) hj
      have HU2 : Hid (levelQ g i ⟨assoc, ta, tc, terms⟩ = if (terms.any fun n => (namedU g.ls i).contains n) = true then 6 else 0) := by
       show _ = _
       rw [HU1.out, HR.out]
       rfl
      clear HU1 HR HA
      go_wp2
      obtain ⟨wo2, rfl⟩ : ∃ wo2 : World, wo2 = wr := ⟨_, rfl⟩
      go_loopw [8] (fun z wr => ∃ k : Nat, k <= terms.length /\ z = .int .i64 k /\ Below W.heap.size W wr /\ Hid (∀ j, j < k -> (namedU g.ls i).contains (terms.getD j 0) = false)) (fun z _ => terms.length - (intOf z).toNat)
      case atStart => exact ⟨0, Nat.zero_le _, rfl, hb, fun j hj => by omega⟩
      case round =>
       clear HW q1 hb hlt hk1 hk
       obtain ⟨k, hk, rfl, hb, HA⟩ := hrel
       have HW : Hid (LB g ⟨assoc, ta, tc, terms⟩ w wr) := HP.out.later hb
       have q1 := HW.out.l1
       simp only at q1
       by_cases hlt : k < terms.length
       ·have HIT : Hid ((namedU g.ls i).contains (terms.getD k 0) = true -> levelQ g i ⟨assoc, ta, tc, terms⟩ = 6) := fun e => by rw [HU2.out, if_pos (any_hit (d := 0) hlt e)]
        have HST : Hid ((namedU g.ls i).contains (terms.getD k 0) = false -> ∀ j, j < k + 1 -> (namedU g.ls i).contains (terms.getD j 0) = false) := fun e j hj => by
         rcases Nat.lt_succ_iff_lt_or_eq.1 hj with r | rfl
         ·exact HA.out j r
         ·exact e
        have HX : Hid (∀ wr, Below W.heap.size W wr -> ∃ rb ro, ta = some ⟨rb, ro, none⟩ /\ wr.cell? ⟨rb, ro + k, none⟩ = some (.int .i64 (terms.getD k 0))) := fun wr hb => by
         obtain ⟨rb, ro, e, _, hrc⟩ := (HP.out.later hb).row (by intro e; simp only at e; subst e; simp at hlt)
         exact ⟨rb, ro, e, hrc k hlt⟩
        clear HA HU2
        generalize terms.getD k 0 = x at *
        go_wp2
        obtain ⟨wo3, rfl⟩ : ∃ wo3 : World, wo3 = wr := ⟨_, rfl⟩
        go_loopw [9] (fun z wr => ∃ j : Nat, j <= i /\ z = .int .i64 j /\ Below W.heap.size W wr /\ Hid (∀ b, b < j -> b < g.ls.length -> ∀ c, c < (g.ls.getD b .none).terms.length -> (g.ls.getD b .none).terms.getD c 0 ≠ x)) (fun z _ => i - (intOf z).toNat)
        case atStart => exact ⟨0, Nat.zero_le _, rfl, hb, fun j hj => by omega⟩
        case round =>
         clear HW q1 hb
         obtain ⟨j, hj, rfl, hb, HA⟩ := hrel
         have HW : Hid (LB g ⟨assoc, ta, tc, terms⟩ w wr) := HP.out.later hb
         have g4' : wr.cell? ⟨w.heap.size, 4, none⟩ = some (.slice (some ⟨b, off, none⟩) g.ls.length g.lc) := by rw [HW.out.g4, HPA.out]
         by_cases hlj : j < i
         ·have hjl : j < g.ls.length := by omega
          have HIN : Hid (∀ c, c < (g.ls.getD j .none).terms.length -> (g.ls.getD j .none).terms.getD c 0 = x -> (namedU g.ls i).contains x = true) := fun c hc e => named_in hlj hjl hc e
          have HOUT : Hid ((∀ c, c < (g.ls.getD j .none).terms.length -> (g.ls.getD j .none).terms.getD c 0 ≠ x) -> ∀ b, b < j + 1 -> b < g.ls.length -> ∀ c, c < (g.ls.getD b .none).terms.length -> (g.ls.getD b .none).terms.getD c 0 ≠ x) := fun e b2 hb2 => by
           rcases Nat.lt_succ_iff_lt_or_eq.1 hb2 with r | rfl
           ·exact HA.out b2 r
           ·exact fun _ => e
          have HY : Hid (∀ wr, Below W.heap.size W wr -> wr.cell? ⟨w.heap.size, 4, none⟩ = some (.slice (some ⟨b, off, none⟩) g.ls.length g.lc) /\ wr.cell? ⟨b, off + j * 2 + 1, none⟩ = some (.slice (g.ls.getD j .none).ta (g.ls.getD j .none).terms.length (g.ls.getD j .none).tc) /\ InRow wr (g.ls.getD j .none).ta (g.ls.getD j .none).terms /\ wr.cell? ⟨w.heap.size + 1, 1, none⟩ = some (.slice ta terms.length tc)) := fun wr hb => by
           have hL := HP.out.later hb
           obtain ⟨b2, off2, e2, _, a1, arow, _⟩ := hL.ahead hjl
           rw [HPA.out] at e2
           simp only [Option.some.injEq, Addr.mk.injEq] at e2
           obtain ⟨rfl, rfl, _⟩ := e2
           exact ⟨by rw [hL.g4, HPA.out], a1, arow, hL.l1⟩
          have alen : (g.ls.getD j .none).terms.length <= 140737488355328 := by
           obtain ⟨_, _, _, _, _, _, h⟩ := HW.out.ahead hjl
           exact h
          obtain ⟨_, y1, _, _⟩ := HY.out wr hb
          clear HA
          generalize g.ls.getD j .none = P at *
          obtain ⟨xs, xa, xc, xt⟩ := P
          simp only at y1 alen HIN HOUT HY
          go_wp2
          obtain ⟨wo4, rfl⟩ : ∃ wo4 : World, wo4 = wr := ⟨_, rfl⟩
          go_loopw [10] (fun z wr => ∃ m : Nat, m <= xt.length /\ z = .int .i64 m /\ Below W.heap.size W wr /\ Hid (∀ c, c < m -> xt.getD c 0 ≠ x)) (fun z _ => xt.length - (intOf z).toNat)
          case atStart => exact ⟨0, Nat.zero_le _, rfl, hb, fun j hj => by omega⟩
          case round =>
           clear HW g4' hb y1
           obtain ⟨m, hm, rfl, hb, HA⟩ := hrel
           obtain ⟨y0, y1, y2, y3⟩ := HY.out wr hb
           obtain ⟨rb, ro, hta, y4⟩ := HX.out wr hb
           by_cases hlm : m < xt.length
           ·obtain ⟨tb, to, rfl, _, htc⟩ := y2 (by intro e; subst e; simp at hlm)
            have y5 := htc m hlm
            have HN : Hid (xt.getD m 0 ≠ x -> ∀ c, c < m + 1 -> xt.getD c 0 ≠ x) := fun e c hc => by
             rcases Nat.lt_succ_iff_lt_or_eq.1 hc with r | rfl
             ·exact HA.out c r
             ·exact e
            have HI : Hid (xt.getD m 0 = x -> levelQ g i ⟨assoc, ta, tc, terms⟩ = 6) := fun e => HIT.out (HIN.out m hlm e)
            have HTA : Hid (ta = some ⟨rb, ro, none⟩) := hta
            rw [hta] at y3
            clear htc y2 hta HA HIN HOUT HIT HST
            generalize xt.getD m 0 = y at *
            by_cases hyx : y = x
            ·have HU3 : Hid (levelQ g i ⟨assoc, ta, tc, terms⟩ = 6) := HI.out hyx
             have t1 : (y == x) = true := by simpa using hyx
             clear HI HN
             subst hyx
             go_wp2
             go_quiet (fail)
             go_wp2
             go_ret
             exact ⟨by rw [HU3.out]; rfl, HF.out _ (below_drewN hb _)⟩
            ·have HS1 : Hid _ := HN.out hyx
             have t1 : (y == x) = false := by simpa using hyx
             clear HI HN
             go_wp2
             go_quiet (fail)
             go_wp2
             go_roundw
             case rel => exact ⟨m + 1, by omega, by go_num, below_drewN hb _, HS1.out⟩
             case measure => simp [intOf]; omega
           ·have HO : Hid _ := HOUT.out fun c hc => HA.out c (by omega)
            clear HA y2
            go_wp2
            go_roundw
            case rel => exact ⟨j + 1, by omega, by go_num, hb, HO.out⟩
            case measure => simp [intOf]; omega
         ·have HS1 : Hid _ := HST.out (named_out fun b2 hb2 => HA.out b2 (by omega))
          clear HA
          go_wp2
          go_roundw
          case rel => exact ⟨k + 1, by omega, by go_num, hb, HS1.out⟩
          case measure => simp [intOf]; omega
       ·have HU3 : Hid (levelQ g i ⟨assoc, ta, tc, terms⟩ = 0) := by
         show _ = _
         rw [HU2.out, any_none 0 fun j hj => HA.out j (by omega)]
         rfl
        clear HU2 HA
        go_wp2
        go_ret
        exact ⟨by rw [HU3.out]; rfl, HF.out _ hb⟩
end Go.Proofs.YtndbdliaidbocaaGreat
