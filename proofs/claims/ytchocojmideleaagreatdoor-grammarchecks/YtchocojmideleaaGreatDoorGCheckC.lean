import Derived.Test.YtchocojmideleaaGreatDoorGProdC
import Derived.Test.YtchocojmideleaaGreatDoorGLevGToGLevC
import Derived.Test.YtchocojmideleaaGreatDoorSCheckN1ToSCheckN
namespace Go.Proofs.YtchocojmideleaaGreatDoor
set_option linter.unusedVariables false
open Go.RowKit Go.Maps

def countsF (g : GV) : Int × Int := if g.ts.length = 0 ∨ 64 < g.ts.length then (31, 0) else if g.ns.length = 0 ∨ 64 < g.ns.length then (32, 0) else (0, 0)
def startF (g : GV) : Int × Int := if inN g g.start = false then (36, 0) else (0, 0)
def prodsF (g : GV) : Int × Int := if g.ps.length = 0 ∨ 256 < g.ps.length then (33, 0) else firstU (prodU g) g.ps.length 0
def levelsF (g : GV) : Int × Int := if 32 < g.ls.length then (37, 0) else firstU (levelU g) g.ls.length 0
abbrev cBox (g : GV) : Obj := .cells #[.slice g.ta g.ts.length g.tc, .slice g.na g.ns.length g.nc, .int .i64 g.start, .slice g.pa g.ps.length g.pc, .slice g.la g.ls.length g.lc] 95
set_option maxRecDepth 100000 in
set_option maxHeartbeats 2000000 in
theorem counts_G (g : GV) (w : World) (er at_ : Int) (hE : countsF g = (er, at_)) (htl : g.ts.length ≤ 140737488355328) (hnl : g.ns.length ≤ 140737488355328) :
    Calls Tryz.prog 42 #[g.val] w fun e w' => e = .returned (.tuple #[.int .i64 er, .int .i64 at_]) ∧ Below w.heap.size w w' := by
  have HB0 : Hid (Below w.heap.size w (w.alloc (cBox g))) := below_alloc w _
  unfold countsF at hE
  by_cases a1 : g.ts.length = 0
  · have t1 : ((g.ts.length : Int) == 0) = true := by rw [eq0_bL]; simpa using a1
    rw [if_pos (.inl a1)] at hE
    simp only [Prod.mk.injEq] at hE
    obtain ⟨rfl, rfl⟩ := hE
    clear a1
    go_enter Tryz.func42, Tryz.ntmps42
    go_wp2
    go_returns
    exact ⟨rfl, HB0.out⟩
  · have t1 : ((g.ts.length : Int) == 0) = false := by rw [eq0_bL]; simpa using a1
    by_cases a2 : 64 < g.ts.length
    · have t2 : decide ((g.ts.length : Int) > 64) = true := by simp; omega
      rw [if_pos (.inr a2)] at hE
      simp only [Prod.mk.injEq] at hE
      obtain ⟨rfl, rfl⟩ := hE
      clear a1 a2
      go_enter Tryz.func42, Tryz.ntmps42
      go_wp2
      go_returns
      exact ⟨rfl, HB0.out⟩
    · have t2 : decide ((g.ts.length : Int) > 64) = false := by simp; omega
      rw [if_neg (by omega)] at hE
      by_cases a3 : g.ns.length = 0
      · have t3 : ((g.ns.length : Int) == 0) = true := by rw [eq0_bL]; simpa using a3
        rw [if_pos (.inl a3)] at hE
        simp only [Prod.mk.injEq] at hE
        obtain ⟨rfl, rfl⟩ := hE
        clear a1 a2 a3
        go_enter Tryz.func42, Tryz.ntmps42
        go_wp2
        go_returns
        exact ⟨rfl, HB0.out⟩
      · have t3 : ((g.ns.length : Int) == 0) = false := by rw [eq0_bL]; simpa using a3
        by_cases a4 : 64 < g.ns.length
        · have t4 : decide ((g.ns.length : Int) > 64) = true := by simp; omega
          rw [if_pos (.inr a4)] at hE
          simp only [Prod.mk.injEq] at hE
          obtain ⟨rfl, rfl⟩ := hE
          clear a1 a2 a3 a4
          go_enter Tryz.func42, Tryz.ntmps42
          go_wp2
          go_returns
          exact ⟨rfl, HB0.out⟩
        · have t4 : decide ((g.ns.length : Int) > 64) = false := by simp; omega
          rw [if_neg (by omega)] at hE
          simp only [Prod.mk.injEq] at hE
          obtain ⟨rfl, rfl⟩ := hE
          clear a1 a2 a3 a4
          go_enter Tryz.func42, Tryz.ntmps42
          go_wp2
          go_returns
          exact ⟨rfl, HB0.out⟩
theorem names_G (g : GV) (w : World) (er at_ : Int) (hE : checkF g.ts g.ns = (er, at_)) (h : GAt 140737488355328 w g) :
    Calls Tryz.prog 43 #[g.val] w fun e w' => e = .returned (.tuple #[.int .i64 er, .int .i64 at_]) ∧ Below w.heap.size w w' := by
  have hbx := BoxG.new (g := g) (w := w) (t := 95)
  have c0 := hbx.g0
  have c1 := hbx.g1
  have HB0 : Hid (Below w.heap.size w (w.alloc (cBox g))) := below_alloc w _
  have CN : Hid (Calls Tryz.prog 101 #[.slice g.ta g.ts.length g.tc, .slice g.na g.ns.length g.nc] (w.alloc (cBox g)) fun e w' => e = .returned (.tuple #[.int .i64 er, .int .i64 at_]) ∧ Below (w.alloc (cBox g)).heap.size (w.alloc (cBox g)) w') :=
    (checknames_any g.ta g.na g.tc g.nc _ _ g.ts g.ns (w.alloc (cBox g)) rfl rfl h.tz h.nz (h.later (below_alloc w _)).t (h.later (below_alloc w _)).n_).mono fun e w' ⟨_, _, h, h1, h2, hb⟩ => ⟨by rw [h, h1, h2, hE], hb⟩
  clear hbx h hE
  go_enter Tryz.func43, Tryz.ntmps43
  go_wp2_with (go_at_call 101; refine CN.out.mono ?_; rintro e w1 ⟨rfl, hb1⟩)
  go_returns
  exact ⟨rfl, HB0.out.trans (hb1.mono HB0.out.size)⟩
theorem start_G (g : GV) (w : World) (er at_ : Int) (hE : startF g = (er, at_)) (hnl : g.ns.length ≤ 140737488355328) :
    Calls Tryz.prog 44 #[g.val] w fun e w' => e = .returned (.tuple #[.int .i64 er, .int .i64 at_]) ∧ Below w.heap.size w w' := by
  have hbx := BoxG.new (g := g) (w := w) (t := 95)
  have c0 := hbx.g0
  have c1 := hbx.g1
  have c2 := hbx.g2
  have c3 := hbx.g3
  have c4 := hbx.g4
  have HB0 : Hid (Below w.heap.size w (w.alloc (cBox g))) := below_alloc w _
  have CN : Hid (∀ z, Calls Tryz.prog 51 #[g.val, .int .i64 g.start] z fun e w' => e = .returned (.bool (inN g g.start)) ∧ Below z.heap.size z w') := fun z => isnon_any g g.start z hnl
  clear hbx
  unfold startF at hE
  cases hA : inN g g.start with
  | false =>
    rw [hA] at CN hE
    simp only [if_true, Prod.mk.injEq] at hE
    obtain ⟨rfl, rfl⟩ := hE
    clear hA
    go_enter Tryz.func44, Tryz.ntmps44
    go_wp2_with (go_at_call 51; refine (CN.out _).mono ?_; rintro e w1 ⟨rfl, hb1⟩)
    go_returns
    exact ⟨rfl, HB0.out.trans (hb1.mono HB0.out.size)⟩
  | true =>
    rw [hA] at CN hE
    simp only [Bool.true_eq_false, if_false, Prod.mk.injEq] at hE
    obtain ⟨rfl, rfl⟩ := hE
    clear hA
    go_enter Tryz.func44, Tryz.ntmps44
    go_wp2_with (go_at_call 51; refine (CN.out _).mono ?_; rintro e w1 ⟨rfl, hb1⟩)
    go_returns
    exact ⟨rfl, HB0.out.trans (hb1.mono HB0.out.size)⟩
set_option maxRecDepth 100000 in
set_option maxHeartbeats 2000000 in
theorem prods_G (g : GV) (w : World) (er at_ : Int) (hE : prodsF g = (er, at_)) (h : GAt 140737488355328 w g) (hpc : g.ps.length ≤ g.pc) :
    Calls Tryz.prog 45 #[g.val] w fun e w' => e = .returned (.tuple #[.int .i64 er, .int .i64 at_]) ∧ Below w.heap.size w w' := by
  have HB0 : Hid (Below w.heap.size w (w.alloc (cBox g))) := below_alloc w _
  have HG : Hid (∀ wr, Below (w.alloc (cBox g)).heap.size (w.alloc (cBox g)) wr → BoxG g w.heap.size wr ∧ GAt 140737488355328 wr g) := fun wr hb => ⟨BoxG.new.later hb, (h.later (below_alloc w _)).later hb⟩
  have HF : Hid (∀ wr, Below (w.alloc (cBox g)).heap.size (w.alloc (cBox g)) wr → Below w.heap.size w wr) := fun wr hb => HB0.out.trans (hb.mono HB0.out.size)
  have CP : Hid (∀ wr (i : Nat), Below (w.alloc (cBox g)).heap.size (w.alloc (cBox g)) wr → i < g.ps.length → Calls Tryz.prog 102 #[g.val, .int .i64 i] wr fun e w' => e = .returned (.int .i64 (prodU g i)) ∧ Below wr.heap.size wr w') := fun wr i hb hi => checkprod_any g i wr (HG.out wr hb).2 hi hpc
  have hpl := h.pl
  clear h hpc
  unfold prodsF at hE
  by_cases a6 : g.ps.length = 0
  · have t8 : ((g.ps.length : Int) == 0) = true := by rw [eq0_bL]; simpa using a6
    rw [if_pos (.inl a6)] at hE
    simp only [Prod.mk.injEq] at hE
    obtain ⟨rfl, rfl⟩ := hE
    clear a6
    go_enter Tryz.func45, Tryz.ntmps45
    go_wp2
    go_returns
    exact ⟨rfl, HB0.out⟩
  · have t8 : ((g.ps.length : Int) == 0) = false := by rw [eq0_bL]; simpa using a6
    by_cases a7 : 256 < g.ps.length
    · have t9 : decide ((g.ps.length : Int) > 256) = true := by simp; omega
      rw [if_pos (.inr a7)] at hE
      simp only [Prod.mk.injEq] at hE
      obtain ⟨rfl, rfl⟩ := hE
      clear a6 a7
      go_enter Tryz.func45, Tryz.ntmps45
      go_wp2
      go_returns
      exact ⟨rfl, HB0.out⟩
    · have t9 : decide ((g.ps.length : Int) > 256) = false := by simp; omega
      rw [if_neg (by omega)] at hE
      have HEE : Hid (firstU (prodU g) g.ps.length 0 = (er, at_)) := hE
      clear a6 a7 hE
      go_enter Tryz.func45, Tryz.ntmps45
      go_wp2
      generalize w.alloc (cBox g) = W at *
      go_loopw [19] (fun z wr => ∃ k : Nat, k ≤ g.ps.length ∧ z = .int .i64 k ∧ Below W.heap.size W wr ∧ Hid (∀ j, j < k → prodU g j = 0)) (fun z _ => g.ps.length - (intOf z).toNat)
      case atStart => exact ⟨0, Nat.zero_le _, rfl, Below.refl _ _, fun j hj => by omega⟩
      case round =>
        obtain ⟨k, hk, rfl, hb, HA⟩ := hrel
        have HW : Hid (BoxG g w.heap.size wr) := (HG.out wr hb).1
        have q0 := HW.out.g0
        have q1 := HW.out.g1
        have q2 := HW.out.g2
        have q3 := HW.out.g3
        have q4 := HW.out.g4
        by_cases hlt : k < g.ps.length
        · have klt : (k : Int) < (g.ps.length : Int) := by omega
          have HIT : Hid (prodU g k ≠ 0 → (prodU g k, (k : Int)) = (er, at_)) := fun e => by
            have h1 := firstU_hit hlt HA.out e
            have h2 := HEE.out
            rw [h1] at h2
            exact h2
          have HST : Hid (prodU g k = 0 → ∀ j, j < k + 1 → prodU g j = 0) := fun e j hj => by
            rcases Nat.lt_succ_iff_lt_or_eq.1 hj with r | rfl
            · exact HA.out j r
            · exact e
          have CPk : Hid (Calls Tryz.prog 102 #[g.val, .int .i64 k] wr fun e w' => e = .returned (.int .i64 (prodU g k)) ∧ Below wr.heap.size wr w') := CP.out wr k hb hlt
          clear HA
          generalize prodU g k = x at *
          by_cases hx : x = 0
          · have HS1 : Hid _ := HST.out hx
            subst hx
            clear HIT HST
            go_wp2_with (go_at_call 102; refine CPk.out.mono ?_; rintro e w2 ⟨rfl, hb2⟩)
            go_roundw
            case rel => exact ⟨k + 1, by omega, by go_num, hb.trans (hb2.mono hb.size), HS1.out⟩
            case measure => simp [intOf]; omega
          · have HS1 : Hid _ := HIT.out hx
            have t10 : (x != 0) = true := by simpa using hx
            clear HIT HST hx
            go_wp2_with (go_at_call 102; refine CPk.out.mono ?_; rintro e w2 ⟨rfl, hb2⟩)
            go_returns
            have := HS1.out
            simp only [Prod.mk.injEq] at this
            obtain ⟨rfl, rfl⟩ := this
            exact ⟨rfl, HF.out _ (hb.trans (hb2.mono hb.size))⟩
        · have HL3 := HEE.out
          rw [firstU_none fun j hj => HA.out j (by omega)] at HL3
          simp only [Prod.mk.injEq] at HL3
          obtain ⟨rfl, rfl⟩ := HL3
          clear HA HEE
          go_wp2
          go_returns
          exact ⟨rfl, HF.out _ hb⟩
end Go.Proofs.YtchocojmideleaaGreatDoor
