import Derived.Test.YthgnhdnmcjpdmaaGreatDoorPGSame3ToGSame6
import Derived.Test.YthgnhdnmcjpdmaaGreatDoorPGDec12ToGDec14
import Derived.Test.YthgnhdnmcjpdmaaGreatDoorPGUsesToGSum
import Derived.Test.YthgnhdnmcjpdmaaGreatDoorPGRulesToGIn2
import Derived.Deep.RegionWith
namespace Go.Proofs.YthgnhdnmcjpdmaaGreatDoor
set_option linter.unusedVariables false
set_option maxRecDepth 100000
set_option maxHeartbeats 16000000
open Go.RowKit
theorem small_at (w : World) :
  Calls Tryz.prog 5 #[] w fun e w' => ∃ g : GV, e = .returned g.val /\ GAt 8 w' g /\ g.ts = [⟨#[120]⟩] /\ g.ns = [⟨#[83]⟩] /\ g.start = 0 /\ g.ps.map PV.core = [(0, [(1, 0)], -1)] /\ g.ls = [] /\ g.ps.length <= g.pc /\ Below w.heap.size w w' := by
 go_enter Tryz.func5, Tryz.ntmps5
 go_wp2
 refine bodyPost_ret (v := .agg #[.slice (some ⟨w.heap.size + 1, 0, none⟩) 1 1, .slice (some ⟨w.heap.size + 1 + 1, 0, none⟩) 1 1, .int .i64 0, .slice (some ⟨w.heap.size + 1 + 1 + 1 + 1 + 1, 0, none⟩) 1 1, .slice none 0 0]) (by simp [results, Tryz.results5, go_sem]) rfl ?_
 refine ⟨⟨some ⟨w.heap.size + 1, 0, none⟩, 1, [⟨#[120]⟩], some ⟨w.heap.size + 1 + 1, 0, none⟩, 1, [⟨#[83]⟩], 0, some ⟨w.heap.size + 1 + 1 + 1 + 1 + 1, 0, none⟩, 1, [⟨0, some ⟨w.heap.size + 1 + 1 + 1 + 1, 0, none⟩, 1, [(1, 0)], -1⟩], none, 0, []⟩, rfl, ⟨?_, ?_, ⟨?_, ?_⟩, ⟨?_, ?_⟩, ?_, ?_, ?_, ?_, ?_, ?_, ?_, ?_⟩, rfl, rfl, rfl, rfl, rfl, Nat.le_refl _, ?_⟩
 ·intro _
  refine ⟨w.heap.size + 1, 0, rfl, by simp, fun i hi => ?_⟩
  obtain rfl : i = 0 := by simpa using hi
  simp [go_sem]
 ·intro _
  refine ⟨w.heap.size + 1 + 1, 0, rfl, by simp, fun i hi => ?_⟩
  obtain rfl : i = 0 := by simpa using hi
  simp [go_sem]
 ·intro _
  refine ⟨w.heap.size + 1 + 1 + 1 + 1 + 1, 0, rfl, by simp, fun i hi => ?_⟩
  obtain rfl : i = 0 := by simpa using hi
  simp [go_sem]
 ·intro p hp _
  obtain rfl := List.mem_singleton.1 hp
  refine ⟨w.heap.size + 1 + 1 + 1 + 1, 0, rfl, by simp, fun i hi => ?_⟩
  obtain rfl : i = 0 := by simpa using hi
  simp [go_sem]
 ·intro h; exact absurd rfl h
 ·intro p hp; cases hp
 ·intro s hs; obtain rfl := List.mem_singleton.1 hs; first | decide | simp
 ·intro s hs; obtain rfl := List.mem_singleton.1 hs; first | decide | simp
 ·simp
 ·simp
 ·simp
 ·simp
 ·intro s hs; obtain rfl := List.mem_singleton.1 hs; first | decide | simp
 ·intro p hp; cases hp
 ·exact (two_below w _ _).trans (((two_below _ _ _).mono (two_below w _ _).size).trans ((two_below _ _ _).mono (Nat.le_trans (two_below w _ _).size (two_below _ _ _).size)))
structure Small (g : GV) : Prop where
 ts : g.ts = [⟨#[120]⟩]
 ns : g.ns = [⟨#[83]⟩]
 st : g.start = 0
 ps : g.ps.map PV.core = [(0, [(1, 0)], -1)]
 ls : g.ls = []
def smallV : GV := ⟨none, 0, [⟨#[120]⟩], none, 0, [⟨#[83]⟩], 0, none, 0, [⟨0, none, 0, [(1, 0)], -1⟩], none, 0, []⟩
theorem Small.same {g : GV} (h : Small g) : SameG smallV g := ⟨h.ts, h.ns, h.st, h.ps, by rw [h.ls]; rfl⟩
theorem small_checkV : checkG smallV (checkF smallV.ts smallV.ns) = (0, 0) := by decide +kernel
theorem Small.check {g : GV} (h : Small g) : checkG g (checkF g.ts g.ns) = (0, 0) := (same_check h.same).trans small_checkV
theorem Small.one {g : GV} (h : Small g) : ∃ a c, g.ps = [⟨0, a, c, [(1, 0)], -1⟩] := by
 have hp := h.ps
 match hq : g.ps with
 | [] => rw [hq] at hp; simp at hp
 | ⟨l, a, c, r, q⟩ :: x :: y => rw [hq] at hp; simp at hp
 | [⟨l, a, c, r, q⟩] =>
  rw [hq] at hp
  simp [PV.core] at hp
  obtain ⟨rfl, rfl, rfl⟩ := hp
  exact ⟨a, c, rfl⟩
theorem Small.okd {g : GV} (h : Small g) : OkD g := by
 obtain ⟨a, c, hp⟩ := h.one
 refine ⟨?_, ?_, by rw [h.st]; omega, ?_, (by rw [h.ls]; intro s hs; cases hs), by rw [h.ts]; simp, by rw [h.ns]; simp, by rw [hp]; simp, by rw [h.ls]; simp⟩
 ·rw [h.ts]; intro s hs; obtain rfl := List.mem_singleton.1 hs; decide
 ·rw [h.ns]; intro s hs; obtain rfl := List.mem_singleton.1 hs; decide
 ·rw [hp]; intro s hs; obtain rfl := List.mem_singleton.1 hs
  simp [OkQ]
theorem Small.okg {g : GV} (h : Small g) : OkG g := by
 obtain ⟨a, c, hp⟩ := h.one
 refine ⟨?_, ?_, by rw [h.st]; omega, ?_, (by rw [h.ls]; intro s hs; cases hs), ?_⟩
 ·rw [h.ts]; intro s hs; obtain rfl := List.mem_singleton.1 hs; decide
 ·rw [h.ns]; intro s hs; obtain rfl := List.mem_singleton.1 hs; decide
 ·rw [hp]; intro s hs; obtain rfl := List.mem_singleton.1 hs
  exact ⟨by simp, by simp, by simp, by intro s hs; obtain rfl := List.mem_singleton.1 hs; simp⟩
 ·have e : encG g = encG smallV := by
   unfold encG
   rw [h.ts, h.ns, h.st, hp, h.ls]
   rfl
  rw [e]
  decide +kernel
def gVoid : GV := ⟨none, 0, [], none, 0, [], 0, none, 0, [], none, 0, []⟩
theorem gVoid_at (w : World) : GAt 140737488355328 w gVoid := ⟨fun h => absurd rfl h, fun h => absurd rfl h, ⟨fun h => absurd rfl h, fun p hp => (by cases hp)⟩, ⟨fun h => absurd rfl h, fun p hp => (by cases hp)⟩, fun p hp => (by cases hp), fun p hp => (by cases hp), Nat.zero_le _, Nat.zero_le _, Nat.zero_le _, Nat.zero_le _, fun p hp => (by cases hp), fun p hp => (by cases hp)⟩
theorem check_nil (w : World) : Calls Tryz.prog 17 #[.agg #[.slice none 0 0, .slice none 0 0, .int .i64 0, .slice none 0 0, .slice none 0 0]] w fun e w' => e = .returned (.tuple #[.int .i64 31, .int .i64 0]) /\ Below w.heap.size w w' := check_G gVoid w (gVoid_at w) (Nat.le_refl _) 31 0 (by decide +kernel)
theorem Small.uses {g : GV} (h : Small g) : (usesU g.ps (1, 0) g.ps.length).length = 1 := by
 obtain ⟨a, c, hp⟩ := h.one
 rw [hp]; rfl
theorem Small.rules {g : GV} (h : Small g) : (rulesU g.ps 0 g.ps.length).length = 1 := by
 obtain ⟨a, c, hp⟩ := h.one
 rw [hp]; rfl
theorem Small.frame {g : GV} (h : Small g) : (C.frame 1 (encG g)).length <= 140737488355328 := by
 obtain ⟨a, c, hp⟩ := h.one
 have e : encG g = encG smallV := by
  unfold encG
  rw [h.ts, h.ns, h.st, hp, h.ls]
  rfl
 rw [e]
 decide +kernel
theorem BoxG.of {g : GV} {b : Nat} {w : World} {t : TypeId} {fz : Nat × Nat} (h : w.heap[b]? = some (.cells #[.slice g.ta g.ts.length g.tc, .slice g.na g.ns.length g.nc, .int .i64 g.start, .slice g.pa g.ps.length g.pc, .slice g.la g.ls.length g.lc] t fz)) : BoxG g b w :=
 ⟨(cellq_any h).trans rfl, (cellq_any h).trans rfl, (cellq_any h).trans rfl, (cellq_any h).trans rfl, (cellq_any h).trans rfl, lt_of_block h⟩
theorem alive_G (w : World) (hm : C.Magic w) : Calls Tryz.prog 4 #[] w fun e w' => e = .returned (.bool true) /\ Below w.heap.size w w' := by
 have HM : Hid (C.Magic w) := hm
 clear hm
 go_enter Tryz.func4, Tryz.ntmps4
 go_wp2_with (first
  | (go_at_call 5; refine (small_at _).mono ?_; rintro e w1 ⟨g, rfl, ga', t', n', s', p', l', pc', hb'⟩; have SM : Hid (Small g) := ⟨t', n', s', p', l'⟩; have PC : Hid _ := pc'; have B0 : Hid (Below w.heap.size w w1) := hb'; have S1 : Hid (Below w1.heap.size w1 (w1.alloc (.cells (gA g) 26))) := below_alloc w1 _; have GA : Hid (∀ w', Below (w1.alloc (.cells (gA g) 26)).heap.size (w1.alloc (.cells (gA g) 26)) w' -> GAt 1048576 w' g) := (fun w' hb => (ga'.mono (by omega)).later ((below_alloc w1 _).trans (hb.mono (below_alloc w1 _).size))); have KB : Hid (∀ w', Below (w1.alloc (.cells (gA g) 26)).heap.size (w1.alloc (.cells (gA g) 26)) w' -> w'.heap[w1.heap.size]? = some (.cells (gA g) 26 (0, 0))) := (fun w' hb => (hb.block _ (lt_of_block (heap_alloc_new w1 _))).trans (heap_alloc_new w1 _)); have MG : Hid (∀ w', Below (w1.alloc (.cells (gA g) 26)).heap.size (w1.alloc (.cells (gA g) 26)) w' -> C.Magic w') := (fun w' hb => C.Magic.later HM.out (hb'.trans (((below_alloc w1 _).trans (hb.mono (below_alloc w1 _).size)).mono hb'.size)) HM.out.lt); clear ga' t' n' s' p' l' pc' hb')
  | (go_at_call 17; refine (check_nil w2).mono ?_; rintro e w3 ⟨rfl, hb'⟩; have B3 : Hid (Below (w1.alloc (.cells (gA g) 26)).heap.size (w1.alloc (.cells (gA g) 26)) w3) := B2.out.trans (hb'.mono B2.out.size); clear c0 c1 c2 c3 c4; have kk := KB.out w3 B3.out; have c0 : w3.cell? ⟨w1.heap.size, 0, none⟩ = some (.slice g.ta g.ts.length g.tc) := (by rw [cellq_any kk]; rfl); have c1 : w3.cell? ⟨w1.heap.size, 1, none⟩ = some (.slice g.na g.ns.length g.nc) := (by rw [cellq_any kk]; rfl); have c2 : w3.cell? ⟨w1.heap.size, 2, none⟩ = some (.int .i64 g.start) := (by rw [cellq_any kk]; rfl); have c3 : w3.cell? ⟨w1.heap.size, 3, none⟩ = some (.slice g.pa g.ps.length g.pc) := (by rw [cellq_any kk]; rfl); have c4 : w3.cell? ⟨w1.heap.size, 4, none⟩ = some (.slice g.la g.ls.length g.lc) := (by rw [cellq_any kk]; rfl); clear kk hb')
  | (go_at_call 17; refine (check_G g (w1.alloc (.cells #[.slice g.ta g.ts.length g.tc, .slice g.na g.ns.length g.nc, .int .i64 g.start, .slice g.pa g.ps.length g.pc, .slice g.la g.ls.length g.lc] 26)) ((GA.out _ (Below.refl _ _)).mono (by omega)) PC.out 0 0 SM.out.check).mono ?_; rintro e w2 ⟨rfl, hb'⟩; have B2 : Hid (Below (w1.alloc (.cells (gA g) 26)).heap.size (w1.alloc (.cells (gA g) 26)) w2) := hb'; have kk := KB.out w2 B2.out; have c0 : w2.cell? ⟨w1.heap.size, 0, none⟩ = some (.slice g.ta g.ts.length g.tc) := (by rw [cellq_any kk]; rfl); have c1 : w2.cell? ⟨w1.heap.size, 1, none⟩ = some (.slice g.na g.ns.length g.nc) := (by rw [cellq_any kk]; rfl); have c2 : w2.cell? ⟨w1.heap.size, 2, none⟩ = some (.int .i64 g.start) := (by rw [cellq_any kk]; rfl); have c3 : w2.cell? ⟨w1.heap.size, 3, none⟩ = some (.slice g.pa g.ps.length g.pc) := (by rw [cellq_any kk]; rfl); have c4 : w2.cell? ⟨w1.heap.size, 4, none⟩ = some (.slice g.la g.ls.length g.lc) := (by rw [cellq_any kk]; rfl); clear kk hb')
  | (go_at_call 8; refine (encode_ok g w3 (GA.out _ B3.out) PC.out 0 SM.out.check SM.out.okg (MG.out _ B3.out)).mono ?_; rintro e w4 ⟨gg, eN, ec, rfl, ow', gl', hb'⟩; have OW : Hid _ := ow'; have B4 : Hid (Below (w1.alloc (.cells (gA g) 26)).heap.size (w1.alloc (.cells (gA g) 26)) w4) := B3.out.trans (hb'.mono B3.out.size); clear c0 c1 c2 c3 c4; have kk := KB.out w4 B4.out; have c0 : w4.cell? ⟨w1.heap.size, 0, none⟩ = some (.slice g.ta g.ts.length g.tc) := (by rw [cellq_any kk]; rfl); have c1 : w4.cell? ⟨w1.heap.size, 1, none⟩ = some (.slice g.na g.ns.length g.nc) := (by rw [cellq_any kk]; rfl); have c2 : w4.cell? ⟨w1.heap.size, 2, none⟩ = some (.int .i64 g.start) := (by rw [cellq_any kk]; rfl); have c3 : w4.cell? ⟨w1.heap.size, 3, none⟩ = some (.slice g.pa g.ps.length g.pc) := (by rw [cellq_any kk]; rfl); have c4 : w4.cell? ⟨w1.heap.size, 4, none⟩ = some (.slice g.la g.ls.length g.lc) := (by rw [cellq_any kk]; rfl); clear kk hb' ow' gl')
  | (go_at_call 9; refine (decode_ok g w4 _ eN ec (C.own_len OW.out).1 SM.out.frame (C.own_cap OW.out) (C.own_len OW.out).2.1 (MG.out _ B4.out) 0 SM.out.check SM.out.okd SM.out.okg.len).mono ?_; rintro e w5 ⟨xg, rfl, sg', dg', hb'⟩; have SG : Hid (SameG g xg) := sg'; have GX : Hid (GAt 1048576 w5 xg) := (dg'.at sg' SM.out.okd).1; have B5 : Hid (Below (w1.alloc (.cells (gA g) 26)).heap.size (w1.alloc (.cells (gA g) 26)) (w5.alloc (.cells #[.slice xg.ta xg.ts.length xg.tc, .slice xg.na xg.ns.length xg.nc, .int .i64 xg.start, .slice xg.pa xg.ps.length xg.pc, .slice xg.la xg.ls.length xg.lc] 26))) := (B4.out.trans (hb'.mono B4.out.size)).trans ((below_alloc w5 _).mono (Nat.le_trans B4.out.size hb'.size)); have KX : Hid (∀ w', Below (w5.alloc (.cells #[.slice xg.ta xg.ts.length xg.tc, .slice xg.na xg.ns.length xg.nc, .int .i64 xg.start, .slice xg.pa xg.ps.length xg.pc, .slice xg.la xg.ls.length xg.lc] 26)).heap.size (w5.alloc (.cells #[.slice xg.ta xg.ts.length xg.tc, .slice xg.na xg.ns.length xg.nc, .int .i64 xg.start, .slice xg.pa xg.ps.length xg.pc, .slice xg.la xg.ls.length xg.lc] 26)) w' -> w'.heap[w5.heap.size]? = some (.cells #[.slice xg.ta xg.ts.length xg.tc, .slice xg.na xg.ns.length xg.nc, .int .i64 xg.start, .slice xg.pa xg.ps.length xg.pc, .slice xg.la xg.ls.length xg.lc] 26 (0, 0)) /\ GAt 1048576 w' xg) := (fun w' hb => ⟨(hb.block _ (lt_of_block (heap_alloc_new w5 _))).trans (heap_alloc_new w5 _), GX.out.later ((below_alloc w5 _).trans (hb.mono (below_alloc w5 _).size))⟩); clear c0 c1 c2 c3 c4; have kk := KB.out _ B5.out; have c0 : (w5.alloc (.cells #[.slice xg.ta xg.ts.length xg.tc, .slice xg.na xg.ns.length xg.nc, .int .i64 xg.start, .slice xg.pa xg.ps.length xg.pc, .slice xg.la xg.ls.length xg.lc] 26)).cell? ⟨w1.heap.size, 0, none⟩ = some (.slice g.ta g.ts.length g.tc) := (by rw [cellq_any kk]; rfl); have c1 : (w5.alloc (.cells #[.slice xg.ta xg.ts.length xg.tc, .slice xg.na xg.ns.length xg.nc, .int .i64 xg.start, .slice xg.pa xg.ps.length xg.pc, .slice xg.la xg.ls.length xg.lc] 26)).cell? ⟨w1.heap.size, 1, none⟩ = some (.slice g.na g.ns.length g.nc) := (by rw [cellq_any kk]; rfl); have c2 : (w5.alloc (.cells #[.slice xg.ta xg.ts.length xg.tc, .slice xg.na xg.ns.length xg.nc, .int .i64 xg.start, .slice xg.pa xg.ps.length xg.pc, .slice xg.la xg.ls.length xg.lc] 26)).cell? ⟨w1.heap.size, 2, none⟩ = some (.int .i64 g.start) := (by rw [cellq_any kk]; rfl); have c3 : (w5.alloc (.cells #[.slice xg.ta xg.ts.length xg.tc, .slice xg.na xg.ns.length xg.nc, .int .i64 xg.start, .slice xg.pa xg.ps.length xg.pc, .slice xg.la xg.ls.length xg.lc] 26)).cell? ⟨w1.heap.size, 3, none⟩ = some (.slice g.pa g.ps.length g.pc) := (by rw [cellq_any kk]; rfl); have c4 : (w5.alloc (.cells #[.slice xg.ta xg.ts.length xg.tc, .slice xg.na xg.ns.length xg.nc, .int .i64 xg.start, .slice xg.pa xg.ps.length xg.pc, .slice xg.la xg.ls.length xg.lc] 26)).cell? ⟨w1.heap.size, 4, none⟩ = some (.slice g.la g.ls.length g.lc) := (by rw [cellq_any kk]; rfl); clear kk hb' sg' dg'))
 have AL5 : Hid (∀ W', Below (w5.alloc (.cells #[.slice xg.ta xg.ts.length xg.tc, .slice xg.na xg.ns.length xg.nc, .int .i64 xg.start, .slice xg.pa xg.ps.length xg.pc, .slice xg.la xg.ls.length xg.lc] 26)).heap.size (w5.alloc (.cells #[.slice xg.ta xg.ts.length xg.tc, .slice xg.na xg.ns.length xg.nc, .int .i64 xg.start, .slice xg.pa xg.ps.length xg.pc, .slice xg.la xg.ls.length xg.lc] 26)) W' -> BoxG g w1.heap.size W' /\ GAt 1048576 W' g /\ BoxG xg w5.heap.size W' /\ GAt 1048576 W' xg /\ Below w.heap.size w W') := fun W' hb => by
  have hb5 := B5.out.trans (hb.mono B5.out.size)
  exact ⟨BoxG.of (KB.out W' hb5), GA.out W' hb5, BoxG.of (KX.out W' hb).1, (KX.out W' hb).2, B0.out.trans ((S1.out.trans (hb5.mono S1.out.size)).mono B0.out.size)⟩
 clear c0 c1 c2 c3 c4 KB KX GA MG OW GX B2 B3 B4 B5 S1 B0 HM PC
 generalize (w5.alloc (.cells #[.slice xg.ta xg.ts.length xg.tc, .slice xg.na xg.ns.length xg.nc, .int .i64 xg.start, .slice xg.pa xg.ps.length xg.pc, .slice xg.la xg.ls.length xg.lc] 26)) = V at *
 have b5 : Hid _ := AL5.out V (Below.refl _ _)
 have c0 := b5.out.1.g0
 have c1 := b5.out.1.g1
 have c2 := b5.out.1.g2
 have c3 := b5.out.1.g3
 have c4 := b5.out.1.g4
 go_region_with (first
  | (go_at_call 18; refine (t_any 0 _).mono ?_; rintro e wT ⟨rfl, hbT⟩; have BT : Hid (Below V.heap.size V wT) := ((Below.refl _ _).drew.trans hbT); have f0 := (AL5.out wT BT.out).1.g0; have f1 := (AL5.out wT BT.out).1.g1; have f2 := (AL5.out wT BT.out).1.g2; have f3 := (AL5.out wT BT.out).1.g3; have f4 := (AL5.out wT BT.out).1.g4; clear hbT)
  | (go_at_call 15; refine (uses_any g 1 0 _ (AL5.out wT BT.out).2.1).mono ?_; rintro e w6 ⟨ua, uc, rfl, _, hb'⟩; have B6 : Hid (Below V.heap.size V w6) := BT.out.trans (hb'.mono BT.out.size); clear hb'))
 all_goals
  have a6 : Hid _ := AL5.out w6 B6.out
  clear c0 c1 c2 c3 c4 f0 f1 f2 f3 f4 b5
  have c0 := a6.out.1.g0
  have c1 := a6.out.1.g1
  have c2 := a6.out.1.g2
  have c3 := a6.out.1.g3
  have c4 := a6.out.1.g4
  have d0 := a6.out.2.2.1.g0
  have d1 := a6.out.2.2.1.g1
  have d2 := a6.out.2.2.1.g2
  have d3 := a6.out.2.2.1.g3
  have d4 := a6.out.2.2.1.g4
  rw [SM.out.uses]
  go_wp2_with (first
   | (go_at_call 19; refine (num_g _ _).mono ?_; rintro e w' ⟨rfl, rfl⟩)
   | (go_at_call 20; refine (samegram_g w6 g xg 1048576 (by omega) a6.out.2.1 a6.out.2.2.2.1 SG.out).mono ?_; rintro e w7 ⟨rfl, hb'⟩; have B7 : Hid (Below V.heap.size V w7) := B6.out.trans (hb'.mono B6.out.size); have a7 : Hid _ := AL5.out w7 B7.out; clear c0 c1 c2 c3 c4 hb'; have c0 := a7.out.1.g0; have c1 := a7.out.1.g1; have c2 := a7.out.1.g2; have c3 := a7.out.1.g3; have c4 := a7.out.1.g4)
   | (go_at_call 13; refine (rules_any g 0 w7 a7.out.2.1).mono ?_; rintro e w8 ⟨ra, rc, rfl, _, hb'⟩; have B8 : Hid (Below V.heap.size V w8) := B7.out.trans (hb'.mono B7.out.size); rw [SM.out.rules]; clear hb'))
  go_ret
  exact ⟨rfl, (AL5.out w8 B8.out).2.2.2.2⟩
end Go.Proofs.YthgnhdnmcjpdmaaGreatDoor
