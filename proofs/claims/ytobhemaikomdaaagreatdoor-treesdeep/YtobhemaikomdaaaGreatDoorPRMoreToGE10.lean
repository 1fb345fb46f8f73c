import Derived.Test.YtobhemaikomdaaaGreatDoorPGEncToBack0
import Derived.Test.YtobhemaikomdaaaGreatDoorPGDecToGE1
import Derived.Test.YtobhemaikomdaaaGreatDoorPGCheckPToGSame2
import Derived.Test.YtobhemaikomdaaaGreatDoorPBBaseToGRow
import Derived.Test.YtobhemaikomdaaaGreatDoorPGRulesToGBulk
import Derived.Test.YtobhemaikomdaaaGreatDoorPGT0ToGT6
namespace Go.Proofs.YtobhemaikomdaaaGreatDoor.C
set_option linter.unusedVariables false
open Go.RowKit
section
variable {w : World} {r : Nat} {ao : Option Addr} {N cap : Nat} {xs : List Int} {pos : Nat} {err : Int}
def REnds (r : Nat) (ao : Option Addr) (N cap : Nat) (xs : List Int) (v : Value) (p : Nat) (e : Int) (w : World) (x : Ending) (w' : World) : Prop :=
 x = .returned v /\ RInv w' r ao N cap xs p e /\ ROnly w w' r
end
end Go.Proofs.YtobhemaikomdaaaGreatDoor.C
namespace Go.Proofs.YtobhemaikomdaaaGreatDoor.C
set_option linter.unusedVariables false
open Go.RowKit
section
variable {w : World} {r : Nat} {ao : Option Addr} {N cap : Nat} {xs : List Int} {pos : Nat} {err : Int}
set_option maxRecDepth 100000 in
set_option maxHeartbeats 800000 in
theorem pcount_none (least most : Int) (h : RInv w r ao N cap xs pos err) (hne : (err == 0) = false) (hm1 : most <= 9223372036854775807) (hl1 : least <= 9223372036854775807) :
  Calls Tryz.prog 105 #[.pointer (some ⟨r, 0, none⟩), .int .i64 least, .int .i64 most] w (PeekEnds r ao N cap xs pos 0 0 err w) := by
 have h1 := h.later (below_alloc w (.cells #[.int .u64 0, .int .i64 0] 169))
 have hrl := h.lt
 have fin := ROnly.ofBelow (r := r) (below_alloc w (.cells #[.int .u64 0, .int .i64 0] 169))
 by_cases hl : least < 1
 ·go_enter Tryz.func105, Tryz.ntmps105
  go_wp2_with (go_at_call 101; refine (rfail_no 1 h1 hne).mono ?_; rintro e w' ⟨rfl, rfl⟩)
  go_returns
  exact ⟨rfl, h1, fin⟩
 by_cases hm : most < 0
 ·go_enter Tryz.func105, Tryz.ntmps105
  go_wp2_with (go_at_call 101; refine (rfail_no 1 h1 hne).mono ?_; rintro e w' ⟨rfl, rfl⟩)
  go_returns
  exact ⟨rfl, h1, fin⟩
 have hrne : r ≠ w.heap.size := by omega
 have hN : N <= 140737488355328 := by rw [h.len]; exact h.lim
 have hpN : (pos : Int) <= N := by have := h.pos; have := h.len; omega
 have hq0 : 0 <= ((N : Int) - pos) / least := Int.ediv_nonneg (by omega) (by omega)
 have hq1 : ((N : Int) - pos) / least <= 140737488355328 := Int.le_trans (Int.ediv_le_self _ (by omega)) (by omega)
 have hle : ¬ ((N : Int) - pos) / least < 0 := by omega
 go_enter Tryz.func105, Tryz.ntmps105
 go_wp2_with (go_at_call 130; refine (peek_none most h1 hne).mono ?_; rintro e2 w2 ⟨rfl, hR2, hO2⟩; have hB2 := hO2.own2 hrl; obtain ⟨q0, q1, q2, q3⟩ := cells2 hB2; have hz2 : w.heap.size < w2.heap.size := lt_of_block hB2)
 have hR3 := hR2.later (below_alloc w2 (.cells #[.int .u64 0, .int .i64 0] 169))
 go_quiet ((go_at_call 78; exact Calls.quiet_of (rleft_any (hR3.drewN _))))
 go_wp2
 go_quiet (fail)
 go_wp2
 refine bodyPost_ret (v := .agg #[.int .u64 0, .int .i64 0]) (by simp [results, Tryz.results105, go_sem, q0, q1, hz2]) rfl ?_
 exact ⟨rfl, h.patched (hR3.drewN _) (two_sets _ _ _ _), ((ROnly.ofBelow (below_alloc w _)).trans (hO2.trans (ROnly.ofBelow (below_drewN (below_alloc w2 _) _)))).patched (two_sets _ _ _ _)⟩
set_option maxRecDepth 100000 in
theorem count_none (least most : Int) (h : RInv w r ao N cap xs pos err) (hne : (err == 0) = false) (hm1 : most <= 9223372036854775807) (hl1 : least <= 9223372036854775807) :
  Calls Tryz.prog 77 #[.pointer (some ⟨r, 0, none⟩), .int .i64 least, .int .i64 most] w (REnds r ao N cap xs (.int .i64 0) pos err w) := by
 go_enter Tryz.func77, Tryz.ntmps77
 go_wp2_with (first
  | (go_at_call 105; refine (pcount_none least most h hne hm1 hl1).mono ?_; rintro e2 w2 ⟨rfl, hR2, hO2⟩)
  | (go_at_call 106; refine (rmove_none).mono ?_; rintro e w' ⟨rfl, rfl⟩))
 go_ret
 exact ⟨rfl, hR2.later (below_alloc _ _), hO2.trans (ROnly.ofBelow (below_alloc w2 _))⟩
set_option maxRecDepth 100000 in
theorem rtext_none (most : Int) (h : RInv w r ao N cap xs pos err) (hne : (err == 0) = false) (hm1 : most <= 9223372036854775807) :
  Calls Tryz.prog 75 #[.pointer (some ⟨r, 0, none⟩), .int .i64 most] w (REnds r ao N cap xs (.string .empty) pos err w) := by
 have hl1 : (1 : Int) <= 9223372036854775807 := by decide
 go_enter Tryz.func75, Tryz.ntmps75
 go_wp2_with (go_at_call 105; refine (pcount_none 1 most h hne hm1 hl1).mono ?_; rintro e w2 ⟨rfl, hR2, hO2⟩)
 go_ret
 exact ⟨rfl, hR2.later (below_alloc _ _), hO2.trans (ROnly.ofBelow (below_alloc w2 _))⟩
set_option maxRecDepth 100000 in
theorem rtext_err (most : Int) (h : RInv w r ao N cap xs pos 0) (hm0 : -9223372036854775808 <= most) (hm1 : most <= 9223372036854775807) (e : Int) (hc : countS xs pos 1 most = (0, 0, e)) :
  Calls Tryz.prog 75 #[.pointer (some ⟨r, 0, none⟩), .int .i64 most] w (REnds r ao N cap xs (.string .empty) pos e w) := by
 have hl1 : (1 : Int) <= 9223372036854775807 := by decide
 have HC : Hid _ := hc
 clear hc
 go_enter Tryz.func75, Tryz.ntmps75
 go_wp2_with (go_at_call 105; refine (pcount_eq 1 most h hm0 hm1 hl1 0 0 e HC.out).mono ?_; rintro x w2 ⟨rfl, hR2, hO2⟩)
 go_ret
 exact ⟨rfl, hR2.later (below_alloc _ _), hO2.trans (ROnly.ofBelow (below_alloc w2 _))⟩
end
end Go.Proofs.YtobhemaikomdaaaGreatDoor.C
namespace Go.Proofs.YtobhemaikomdaaaGreatDoor
set_option linter.unusedVariables false
open Go.RowKit
abbrev XE (wr : World) (r : Nat) (ao : Option Addr) (N cap : Nat) (zs : List Int) (p : Nat) (er : Int) (val : Value) (e : Ending) (w' : World) : Prop := e = .returned val /\ C.RInv w' r ao N cap zs p er /\ C.ROnly wr w' r
section
variable {wr : World} {r : Nat} {ao : Option Addr} {N cap : Nat} {zs : List Int} {pos : Nat} {err : Int}
end
end Go.Proofs.YtobhemaikomdaaaGreatDoor
namespace Go.Proofs.YtobhemaikomdaaaGreatDoor
set_option linter.unusedVariables false
open Go.RowKit
end Go.Proofs.YtobhemaikomdaaaGreatDoor
namespace Go.Proofs.YtobhemaikomdaaaGreatDoor
set_option linter.unusedVariables false
open Go.RowKit
end Go.Proofs.YtobhemaikomdaaaGreatDoor
namespace Go.Proofs.YtobhemaikomdaaaGreatDoor
set_option linter.unusedVariables false
open Go.RowKit
end Go.Proofs.YtobhemaikomdaaaGreatDoor
namespace Go.Proofs.YtobhemaikomdaaaGreatDoor
set_option linter.unusedVariables false
open Go.RowKit
end Go.Proofs.YtobhemaikomdaaaGreatDoor
namespace Go.Proofs.YtobhemaikomdaaaGreatDoor
set_option linter.unusedVariables false
open Go.RowKit
end Go.Proofs.YtobhemaikomdaaaGreatDoor
namespace Go.Proofs.YtobhemaikomdaaaGreatDoor
set_option linter.unusedVariables false
open Go.RowKit
end Go.Proofs.YtobhemaikomdaaaGreatDoor
namespace Go.Proofs.YtobhemaikomdaaaGreatDoor
set_option linter.unusedVariables false
open Go.RowKit
end Go.Proofs.YtobhemaikomdaaaGreatDoor
namespace Go.Proofs.YtobhemaikomdaaaGreatDoor
set_option linter.unusedVariables false
open Go.RowKit
end Go.Proofs.YtobhemaikomdaaaGreatDoor
namespace Go.Proofs.YtobhemaikomdaaaGreatDoor
set_option linter.unusedVariables false
open Go.RowKit
end Go.Proofs.YtobhemaikomdaaaGreatDoor
namespace Go.Proofs.YtobhemaikomdaaaGreatDoor
set_option linter.unusedVariables false
open Go.RowKit
end Go.Proofs.YtobhemaikomdaaaGreatDoor
namespace Go.Proofs.YtobhemaikomdaaaGreatDoor
set_option linter.unusedVariables false
open Go.RowKit
end Go.Proofs.YtobhemaikomdaaaGreatDoor
namespace Go.Proofs.YtobhemaikomdaaaGreatDoor
set_option linter.unusedVariables false
open Go.RowKit
end Go.Proofs.YtobhemaikomdaaaGreatDoor
namespace Go.Proofs.YtobhemaikomdaaaGreatDoor
set_option linter.unusedVariables false
open Go.RowKit
structure Small (g : GV) : Prop where
 ts : g.ts = [⟨#[120]⟩]
 ns : g.ns = [⟨#[83]⟩]
 st : g.start = 0
 ps : g.ps.map PV.core = [(0, [(1, 0)], -1)]
 ls : g.ls = []
def smallV : GV := ⟨none, 0, [⟨#[120]⟩], none, 0, [⟨#[83]⟩], 0, none, 0, [⟨0, none, 0, [(1, 0)], -1⟩], none, 0, []⟩
theorem Small.same {g : GV} (h : Small g) : SameG smallV g := ⟨h.ts, h.ns, h.st, h.ps, by rw [h.ls]; rfl⟩
theorem small_checkV : checkG smallV (checkF smallV.ts smallV.ns) = (0, 0) := by decide +kernel
theorem Small.check {g : GV} (h : Small g) : checkG g (checkF g.ts g.ns) = (0, 0) := (same_check h.same).trans small_checkV
theorem Small.one {g : GV} (h : Small g) : ∃ a c, g.ps = [⟨0, a, c, [(1, 0)], -1⟩] := by
 have hp := h.ps
 match hq : g.ps with
 | [] => rw [hq] at hp; simp at hp
 | ⟨l, a, c, r, q⟩ :: x :: y => rw [hq] at hp; simp at hp
 | [⟨l, a, c, r, q⟩] =>
  rw [hq] at hp
  simp [PV.core] at hp
  obtain ⟨rfl, rfl, rfl⟩ := hp
  exact ⟨a, c, rfl⟩
end Go.Proofs.YtobhemaikomdaaaGreatDoor
namespace Go.Proofs.YtobhemaikomdaaaGreatDoor
set_option linter.unusedVariables false
open Go.RowKit
theorem Small.frame {g : GV} (h : Small g) : (C.frame 1 (encG g)).length <= 140737488355328 := by
 obtain ⟨a, c, hp⟩ := h.one
 have e : encG g = encG smallV := by
  unfold encG
  rw [h.ts, h.ns, h.st, hp, h.ls]
  rfl
 rw [e]
 decide +kernel
theorem BoxG.of {g : GV} {b : Nat} {w : World} {t : TypeId} {fz : Nat × Nat} (h : w.heap[b]? = some (.cells #[.slice g.ta g.ts.length g.tc, .slice g.na g.ns.length g.nc, .int .i64 g.start, .slice g.pa g.ps.length g.pc, .slice g.la g.ls.length g.lc] t fz)) : BoxG g b w :=
 ⟨(cellq_any h).trans rfl, (cellq_any h).trans rfl, (cellq_any h).trans rfl, (cellq_any h).trans rfl, (cellq_any h).trans rfl, lt_of_block h⟩
end Go.Proofs.YtobhemaikomdaaaGreatDoor
namespace Go.Proofs.YtobhemaikomdaaaGreatDoor
set_option linter.unusedVariables false
open Go.RowKit
section
variable {α : Type} {zs : List Int} {R : Nat -> Int -> α × Nat × Int} {f : α -> List Int}
end
structure BdC (n : Nat) (c : GC) : Prop where
 tl : c.1.length <= n
 nl : c.2.1.length <= n
 pl : c.2.2.2.1.length <= n
 ll : c.2.2.2.2.length <= n
 tz : ∀ s ∈ c.1, s.size <= n
 nz : ∀ s ∈ c.2.1, s.size <= n
 rl : ∀ s ∈ c.2.2.2.1, s.2.1.length <= n
 vl : ∀ s ∈ c.2.2.2.2, s.2.length <= n
theorem DG.at2 {B n : Nat} {w : World} {g : GV} (h : DG B w g) (hb : BdC n g.core) (hn : n <= 140737488355328) : GAt 140737488355328 w g /\ g.ps.length <= g.pc := by
 obtain ⟨a1, c1, e1, r1, _⟩ := h.t.1.row
 obtain ⟨a2, c2, e2, r2, _⟩ := h.n_.1.row
 cases e1
 cases e2
 have o1 : g.ts.length <= n := hb.tl
 have o2 : g.ns.length <= n := hb.nl
 have o3 : (g.ps.map PV.core).length <= n := hb.pl
 have o4 : (g.ls.map LV.core).length <= n := hb.ll
 rw [List.length_map] at o3 o4
 refine ⟨⟨r1, r2, h.p.at, h.l.at, fun s m => Nat.le_trans (hb.tz s m) (by unfold maxLen; omega), fun s m => Nat.le_trans (hb.nz s m) (by unfold maxLen; omega), by omega, by omega, by omega, by omega, fun p hp => ?_, fun p hp => ?_⟩, h.p.cap⟩
 ·exact Nat.le_trans (hb.rl p.core (List.mem_map_of_mem hp)) hn
 ·exact Nat.le_trans (hb.vl p.core (List.mem_map_of_mem hp)) hn
end Go.Proofs.YtobhemaikomdaaaGreatDoor
namespace Go.Proofs.YtobhemaikomdaaaGreatDoor
set_option linter.unusedVariables false
open Go.RowKit
end Go.Proofs.YtobhemaikomdaaaGreatDoor
namespace Go.Proofs.YtobhemaikomdaaaGreatDoor
set_option linter.unusedVariables false
open Go.RowKit
theorem endS_bd {zs : List Int} {P : Nat} {E ee ea : Int} (hP : P <= zs.length) (h : C.endS zs P E = (ee, ea)) : 0 <= ea /\ ea <= zs.length /\ (ee = 0 -> E = 0 /\ P = zs.length /\ ea = 0) := by
 unfold C.endS at h
 by_cases h1 : E ≠ 0
 ·rw [if_pos h1] at h
  simp only [Prod.mk.injEq] at h
  obtain ⟨rfl, rfl⟩ := h
  exact ⟨by omega, by omega, fun e => absurd e h1⟩
 rw [if_neg h1] at h
 by_cases h2 : P < zs.length
 ·rw [if_pos h2] at h
  simp only [Prod.mk.injEq] at h
  obtain ⟨rfl, rfl⟩ := h
  exact ⟨by omega, by omega, fun e => by simp at e⟩
 rw [if_neg h2] at h
 simp only [Prod.mk.injEq] at h
 obtain ⟨rfl, rfl⟩ := h
 exact ⟨by omega, by omega, fun _ => ⟨by simpa using h1, by omega, rfl⟩⟩
end Go.Proofs.YtobhemaikomdaaaGreatDoor
