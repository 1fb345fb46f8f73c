import Derived.Test.YtfgfkchhkbkplaaGreatDoorPGE2ToGE4
import Derived.Test.YtfgfkchhkbkplaaGreatDoorPGDecToGE1
import Derived.Test.YtfgfkchhkbkplaaGreatDoorPGCheckPToGSame2
import Derived.Test.YtfgfkchhkbkplaaGreatDoorPBBaseToGRow
import Derived.Test.YtfgfkchhkbkplaaGreatDoorPGRulesToGBulk
import Derived.Test.YtfgfkchhkbkplaaGreatDoorPGT0ToGT6
namespace Go.Proofs.YtfgfkchhkbkplaaGreatDoor
set_option linter.unusedVariables false
open Go.RowKit
def prCells (l : List (Int × Int)) : List Value := l.flatMap fun q => [.int .i64 q.1, .int .i64 q.2]
def CL (w : World) (v : Value) (l : List (Int × Int)) : Prop := w.ownsRow 0 199 2 v l.length (prCells l)
theorem CL.nil (w : World) : CL w (.slice none 0 0) [] := World.ownsRow_nil w 0 199 2
theorem CL.kept {w w' : World} {v : Value} {l : List (Int × Int)} (h : CL w v l) (hb : ∀ k, v.ownBlock = some k -> w'.heap[k]? = w.heap[k]?) : CL w' v l := by
 refine ⟨h.1, ?_⟩
 rcases h.2 with q | ⟨g, cap, cur, rfl, h1, h2, h3⟩
 ·exact .inl q
 ·exact .inr ⟨g, cap, cur, rfl, h1, (hb g rfl).trans h2, h3⟩
theorem CL.lt {w : World} {v : Value} {l : List (Int × Int)} (h : CL w v l) : ∀ k, v.ownBlock = some k -> k < w.heap.size := fun k hk => (World.ownsRow.lt h k hk).2
theorem CL.later {w w' : World} {v : Value} {l : List (Int × Int)} (h : CL w v l) (hb : Below w.heap.size w w') : CL w' v l := h.kept fun k hk => hb.block k (h.lt k hk)
structure Small (g : GV) : Prop where
 ts : g.ts = [⟨#[120]⟩]
 ns : g.ns = [⟨#[83]⟩]
 st : g.start = 0
 ps : g.ps.map PV.core = [(0, [(1, 0)], -1)]
 ls : g.ls = []
def smallV : GV := ⟨none, 0, [⟨#[120]⟩], none, 0, [⟨#[83]⟩], 0, none, 0, [⟨0, none, 0, [(1, 0)], -1⟩], none, 0, []⟩
theorem Small.same {g : GV} (h : Small g) : SameG smallV g := ⟨h.ts, h.ns, h.st, h.ps, by rw [h.ls]; rfl⟩
theorem small_checkV : checkG smallV (checkF smallV.ts smallV.ns) = (0, 0) := by decide +kernel
theorem Small.check {g : GV} (h : Small g) : checkG g (checkF g.ts g.ns) = (0, 0) := (same_check h.same).trans small_checkV
theorem Small.one {g : GV} (h : Small g) : ∃ a c, g.ps = [⟨0, a, c, [(1, 0)], -1⟩] := by
 have hp := h.ps
 match hq : g.ps with
 | [] => rw [hq] at hp; simp at hp
 | ⟨l, a, c, r, q⟩ :: x :: y => rw [hq] at hp; simp at hp
 | [⟨l, a, c, r, q⟩] =>
  rw [hq] at hp
  simp [PV.core] at hp
  obtain ⟨rfl, rfl, rfl⟩ := hp
  exact ⟨a, c, rfl⟩
theorem Small.frame {g : GV} (h : Small g) : (C.frame 1 (encG g)).length <= 140737488355328 := by
 obtain ⟨a, c, hp⟩ := h.one
 have e : encG g = encG smallV := by
  unfold encG
  rw [h.ts, h.ns, h.st, hp, h.ls]
  rfl
 rw [e]
 decide +kernel
theorem BoxG.of {g : GV} {b : Nat} {w : World} {t : TypeId} {fz : Nat × Nat} (h : w.heap[b]? = some (.cells #[.slice g.ta g.ts.length g.tc, .slice g.na g.ns.length g.nc, .int .i64 g.start, .slice g.pa g.ps.length g.pc, .slice g.la g.ls.length g.lc] t fz)) : BoxG g b w :=
 ⟨(cellq_any h).trans rfl, (cellq_any h).trans rfl, (cellq_any h).trans rfl, (cellq_any h).trans rfl, (cellq_any h).trans rfl, lt_of_block h⟩
section
variable {α : Type} {zs : List Int} {R : Nat -> Int -> α × Nat × Int} {f : α -> List Int}
end
structure BdC (n : Nat) (c : GC) : Prop where
 tl : c.1.length <= n
 nl : c.2.1.length <= n
 pl : c.2.2.2.1.length <= n
 ll : c.2.2.2.2.length <= n
 tz : ∀ s ∈ c.1, s.size <= n
 nz : ∀ s ∈ c.2.1, s.size <= n
 rl : ∀ s ∈ c.2.2.2.1, s.2.1.length <= n
 vl : ∀ s ∈ c.2.2.2.2, s.2.length <= n
theorem DG.at2 {B n : Nat} {w : World} {g : GV} (h : DG B w g) (hb : BdC n g.core) (hn : n <= 140737488355328) : GAt 140737488355328 w g /\ g.ps.length <= g.pc := by
 obtain ⟨a1, c1, e1, r1, _⟩ := h.t.1.row
 obtain ⟨a2, c2, e2, r2, _⟩ := h.n_.1.row
 cases e1
 cases e2
 have o1 : g.ts.length <= n := hb.tl
 have o2 : g.ns.length <= n := hb.nl
 have o3 : (g.ps.map PV.core).length <= n := hb.pl
 have o4 : (g.ls.map LV.core).length <= n := hb.ll
 rw [List.length_map] at o3 o4
 refine ⟨⟨r1, r2, h.p.at, h.l.at, fun s m => Nat.le_trans (hb.tz s m) (by unfold maxLen; omega), fun s m => Nat.le_trans (hb.nz s m) (by unfold maxLen; omega), by omega, by omega, by omega, by omega, fun p hp => ?_, fun p hp => ?_⟩, h.p.cap⟩
 ·exact Nat.le_trans (hb.rl p.core (List.mem_map_of_mem hp)) hn
 ·exact Nat.le_trans (hb.vl p.core (List.mem_map_of_mem hp)) hn
theorem endS_bd {zs : List Int} {P : Nat} {E ee ea : Int} (hP : P <= zs.length) (h : C.endS zs P E = (ee, ea)) : 0 <= ea /\ ea <= zs.length /\ (ee = 0 -> E = 0 /\ P = zs.length /\ ea = 0) := by
 unfold C.endS at h
 by_cases h1 : E ≠ 0
 ·rw [if_pos h1] at h
  simp only [Prod.mk.injEq] at h
  obtain ⟨rfl, rfl⟩ := h
  exact ⟨by omega, by omega, fun e => absurd e h1⟩
 rw [if_neg h1] at h
 by_cases h2 : P < zs.length
 ·rw [if_pos h2] at h
  simp only [Prod.mk.injEq] at h
  obtain ⟨rfl, rfl⟩ := h
  exact ⟨by omega, by omega, fun e => by simp at e⟩
 rw [if_neg h2] at h
 simp only [Prod.mk.injEq] at h
 obtain ⟨rfl, rfl⟩ := h
 exact ⟨by omega, by omega, fun _ => ⟨by simpa using h1, by omega, rfl⟩⟩
theorem frame_ge (k : Int) (xs : List Int) : xs.length + 4 <= (C.frame k xs).length := by
 simp [C.frame, C.lead, C.headBytes, C.sumBytes]
 omega
end Go.Proofs.YtfgfkchhkbkplaaGreatDoor
