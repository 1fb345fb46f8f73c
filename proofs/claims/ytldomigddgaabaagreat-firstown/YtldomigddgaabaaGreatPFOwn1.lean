import Derived.Test.YtldomigddgaabaaGreatPFX3
import Derived.Test.YtldomigddgaabaaGreatPFW1
namespace Go.Proofs.YtldomigddgaabaaGreat
set_option linter.unusedVariables false
set_option maxRecDepth 100000
set_option maxHeartbeats 16000000
open Go.RowKit
structure BO (w : World) (lo : Nat) (a : Option Addr) (N : List Bool) (c : Nat) : Prop where
 row : BRow w a N
 own : w.ownsRow 0 4 1 (.slice a N.length c) N.length (N.map .bool)
 lo : ∀ j, (Value.slice a N.length c).ownBlock = some j -> lo <= j
 le : N.length <= 64
structure NO (w : World) (lo : Nat) (a : Option Addr) (l : List Int) (c : Nat) : Prop where
 own : IL w (.slice a l.length c) l
 lo : ∀ j, (Value.slice a l.length c).ownBlock = some j -> lo <= j
 le : l.length <= 128
structure LO2 (w : World) (lo : Nat) (a : Option Addr) (L : List (List Int)) (c : Nat) : Prop where
 own : L ≠ [] -> ∃ b, a = some ⟨b, 0, none⟩ /\ LLx w b L L.length /\ lo <= b
 le : L.length <= 64
 each : ∀ z ∈ L, z.length <= 128
theorem BB.own {w : World} {b : Nat} {L : List Bool} (h : BB w b L) (hl : L.length <= 64) : w.ownsRow 0 4 1 (.slice (some ⟨b, 0, none⟩) L.length L.length) L.length (L.map .bool) :=
 ⟨by simp, .inr ⟨b, L.length, _, rfl, Nat.zero_le _, h, Nat.le_refl _, by unfold maxLen; omega, by simp, by rw [Nat.mul_one]; exact List.take_of_length_le (by simp)⟩⟩
theorem KB.own {w : World} {b : Nat} {L : List Int} (h : KB w b L) (hl : L.length <= 64) : IL w (.slice (some ⟨b, 0, none⟩) L.length L.length) L :=
 ⟨by simp, .inr ⟨b, L.length, _, rfl, Nat.zero_le _, h, Nat.le_refl _, by unfold maxLen; omega, by simp, by rw [Nat.mul_one]; exact List.take_of_length_le (by simp)⟩⟩
theorem LO2.row {w : World} {lo : Nat} {a : Option Addr} {L : List (List Int)} {c : Nat} (h : LO2 w lo a L c) : LsRow w a L := by
 intro hL
 obtain ⟨b, rfl, hx, _⟩ := h.own hL
 exact hx.llk.row hL
theorem null_own (g : GV) (w : World) (h : GAt 140737488355328 w g) (hpc : g.ps.length <= g.pc) (er at_ : Int) (hE : checkG g (checkF g.ts g.ns) = (er, at_)) :
  Calls Tryz.prog 5 #[g.val] w fun e w' => ∃ a N c, e = .returned (.tuple #[.slice a N.length c, .int .i64 er]) /\ BO w' w.heap.size a N c /\ Below w.heap.size w w' := by
 by_cases h0 : er = 0
 ·subst h0
  have ok : OkC g := OkC.of (by rw [hE])
  have hl : (nullU g.ps g.ns.length).length = g.ns.length := nullU_len _ _
  refine (nullable_ok g w h hpc at_ hE).mono ?_
  rintro e w' ⟨nb, rfl, hB, hn, hb⟩
  have := ok.nl.2
  refine ⟨some ⟨nb, 0, none⟩, nullU g.ps g.ns.length, g.ns.length, by rw [hl], ⟨hB.row, ?_, fun j hj => ?_, by omega⟩, hb⟩
  ·have h1 := hB.own (by omega)
   rw [hl] at h1 ⊢
   exact h1
  ·simp [Value.ownBlock] at hj
   omega
 ·refine (nullable_no g w h hpc er at_ hE h0).mono ?_
  rintro e w' ⟨rfl, hb⟩
  exact ⟨none, [], 0, rfl, ⟨fun h => absurd rfl h, World.ownsRow_nil w' 0 4 1, fun j hj => by simp [Value.ownBlock] at hj, Nat.zero_le _⟩, hb⟩
theorem lists_own {w w' : World} {b : Nat} {F : List BS} {n : Nat} (hn : F.length = n) (hl : n <= 64) (hx : LLx w' b (listsU F) n) (hb : w.heap.size <= b) : LO2 w' w.heap.size (some ⟨b, 0, none⟩) (listsU F) n := by
 have e : (listsU F).length = n := by rw [<- hn]; simp [listsU]
 refine ⟨fun _ => ⟨b, rfl, by rw [e]; exact hx, hb⟩, by omega, fun z hz => ?_⟩
 obtain ⟨s, _, rfl⟩ := List.mem_map.1 hz
 exact listS_len _ _
theorem first_own (g : GV) (w : World) (h : GAt 140737488355328 w g) (hpc : g.ps.length <= g.pc) (er at_ : Int) (hE : checkG g (checkF g.ts g.ns) = (er, at_)) :
  Calls Tryz.prog 6 #[g.val] w fun e w' => ∃ a L c, e = .returned (.tuple #[.slice a L.length c, .int .i64 er]) /\ LO2 w' w.heap.size a L c /\ Below w.heap.size w w' := by
 by_cases h0 : er = 0
 ·subst h0
  have ok : OkC g := OkC.of (by rw [hE])
  refine (firstX_ok g w h hpc at_ hE).mono ?_
  rintro e w' ⟨b, F, ⟨_, _, _, _, hF⟩, rfl, hx, hb, hB⟩
  exact ⟨_, listsU F, g.ns.length, by rw [show (listsU F).length = g.ns.length by simp [listsU, hF]], lists_own hF ok.nl.2 hx hb, hB⟩
 ·refine (first_no g w h hpc er at_ hE h0).mono ?_
  rintro e w' ⟨rfl, hb⟩
  exact ⟨none, [], 0, rfl, ⟨fun h => absurd rfl h, Nat.zero_le _, fun z hz => by cases hz⟩, hb⟩
theorem follow_own (g : GV) (w : World) (h : GAt 140737488355328 w g) (hpc : g.ps.length <= g.pc) (er at_ : Int) (hE : checkG g (checkF g.ts g.ns) = (er, at_)) :
  Calls Tryz.prog 7 #[g.val] w fun e w' => ∃ a L c, e = .returned (.tuple #[.slice a L.length c, .int .i64 er]) /\ LO2 w' w.heap.size a L c /\ Below w.heap.size w w' := by
 by_cases h0 : er = 0
 ·subst h0
  have ok : OkC g := OkC.of (by rw [hE])
  refine (followX_ok g w h hpc at_ hE).mono ?_
  rintro e w' ⟨b, F, E, hF, hW, rfl, hx, hb, hB⟩
  exact ⟨_, listsU E, g.ns.length, by rw [show (listsU E).length = g.ns.length by simp [listsU, hW.len]], lists_own hW.len ok.nl.2 hx hb, hB⟩
 ·refine (follow_no g w h hpc er at_ hE h0).mono ?_
  rintro e w' ⟨rfl, hb⟩
  exact ⟨none, [], 0, rfl, ⟨fun h => absurd rfl h, Nat.zero_le _, fun z hz => by cases hz⟩, hb⟩
theorem heights_own (g : GV) (w : World) (h : GAt 140737488355328 w g) (hpc : g.ps.length <= g.pc) (er at_ : Int) (hE : checkG g (checkF g.ts g.ns) = (er, at_)) :
  Calls Tryz.prog 8 #[g.val] w fun e w' => ∃ a l c, e = .returned (.tuple #[.slice a l.length c, .int .i64 er]) /\ NO w' w.heap.size a l c /\ Below w.heap.size w w' := by
 by_cases h0 : er = 0
 ·subst h0
  have ok : OkC g := OkC.of (by rw [hE])
  have hl : (htU g.ps g.ns.length g.ns.length).length = g.ns.length := htU_len _ _ _
  refine (heights_ok g w h hpc at_ hE).mono ?_
  rintro e w' ⟨kb, rfl, hK, hn, hb⟩
  have := ok.nl.2
  refine ⟨some ⟨kb, 0, none⟩, htU g.ps g.ns.length g.ns.length, g.ns.length, by rw [hl], ⟨?_, fun j hj => ?_, by omega⟩, hb⟩
  ·have h1 := hK.own (by omega)
   rw [hl] at h1 ⊢
   exact h1
  ·simp [Value.ownBlock] at hj
   omega
 ·refine (heights_no g w h hpc er at_ hE h0).mono ?_
  rintro e w' ⟨rfl, hb⟩
  exact ⟨none, [], 0, rfl, ⟨IL.nil _, fun j hj => by simp [Value.ownBlock] at hj, Nat.zero_le _⟩, hb⟩
theorem of_own (g : GV) (w : World) (h : GAt 140737488355328 w g) (hpc : g.ps.length <= g.pc) (er at_ : Int) (hE : checkG g (checkF g.ts g.ns) = (er, at_)) (na fa la ka : Option Addr) (nc fc lc kc : Nat) (N : List Bool) (L : List (List Int)) (l : List (Int × Int)) (look : List Int) (hN : BRow w na N) (hL : LsRow w fa L) (hl : SymRow w la l) (hk : InRow w ka look) (hLl : L.length <= 64 /\ ∀ z ∈ L, z.length <= 128) (hll : l.length <= 140737488355328) (hkl : look.length <= 128) :
  Calls Tryz.prog 9 #[g.val, .slice na N.length nc, .slice fa L.length fc, .slice la l.length lc, .slice ka look.length kc] w fun e w' => ∃ a R c x, e = .returned (.tuple #[.slice a (List.length R) c, .int .i64 x]) /\ NO w' w.heap.size a R c /\ Below w.heap.size w w' := by
 refine (firstOfX_S g na nc N fa fc L la lc l ka kc look w h hpc er at_ hE hN hL hl hk ⟨by omega, fun z hz => Nat.le_trans (hLl.2 z hz) (by omega)⟩ hll (by omega)).mono ?_
 rintro e w' ⟨a, c, rfl, hI, hj, hb⟩
 refine ⟨a, _, c, _, rfl, ⟨hI, hj, ?_⟩, hb⟩
 unfold ofL
 split
 ·exact listS_len _ _
 ·exact Nat.zero_le _
end Go.Proofs.YtldomigddgaabaaGreat
