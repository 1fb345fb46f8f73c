import Derived.Test.YtmkakdfdfdcncaaGreatDoorPGU1ToGU4
import Derived.Test.YtmkakdfdfdcncaaGreatDoorPGV8ToGV9
import Derived.Test.YtmkakdfdfdcncaaGreatDoorPGT14ToGT18
import Derived.Test.YtmkakdfdfdcncaaGreatDoorPGT5ToGT10
import Derived.Test.YtmkakdfdfdcncaaGreatDoorPGSmallToGAlive2
namespace Go.Proofs.YtmkakdfdfdcncaaGreatDoor
set_option linter.unusedVariables false
set_option maxRecDepth 100000
set_option maxHeartbeats 16000000
open Go.RowKit
theorem SameG.symm {g x : GV} (h : SameG g x) : SameG x g := ⟨h.ts.symm, h.ns.symm, h.start.symm, h.ps.symm, h.ls.symm⟩
theorem SameG.trans {g x y : GV} (h : SameG g x) (k : SameG x y) : SameG g y := ⟨k.ts.trans h.ts, k.ns.trans h.ns, k.start.trans h.start, k.ps.trans h.ps, k.ls.trans h.ls⟩
theorem SameG.refl (g : GV) : SameG g g := ⟨rfl, rfl, rfl, rfl, rfl⟩
theorem map_core {α β : Type} {f : α -> α} {c : α -> β} {F : β -> β} (hF : ∀ a, c (f a) = F (c a)) {l m : List α} (h : l.map c = m.map c) : (l.map f).map c = (m.map f).map c := by
 have e : ∀ k : List α, (k.map f).map c = (k.map c).map F := fun k => by
  simp only [List.map_map]
  exact List.map_congr_left fun a _ => hF a
 rw [e, e, h]
theorem SameG.rev {g x : GV} (h : SameG g x) : SameG g.rev x.rev :=
 ⟨h.ts, h.ns, h.start, map_core (F := fun c => (c.1, c.2.1.reverse, c.2.2)) (fun _ => rfl) h.ps, h.ls⟩
theorem SameG.ren {g x : GV} (h : SameG g x) (ts ns : List Int) : SameG (g.ren ts ns) (x.ren ts ns) := by
 refine ⟨?_, ?_, ?_, map_core (F := fun c => (ns.getD c.1.toNat 0, c.2.1.map (renS ts ns), if c.2.2 = -1 then -1 else ts.getD c.2.2.toNat 0)) (fun _ => rfl) h.ps, map_core (F := fun c => (c.1, sortU (c.2.map fun x => ts.getD x.toNat 0))) (fun _ => rfl) h.ls⟩
 ·show moveU x.ts x.ts ts x.ts.length = moveU g.ts g.ts ts g.ts.length; rw [h.ts]
 ·show moveU x.ns x.ns ns x.ns.length = moveU g.ns g.ns ns g.ns.length; rw [h.ns]
 ·show ns.getD x.start.toNat 0 = ns.getD g.start.toNat 0; rw [h.start]
def KG (B : Nat) (w : World) (a : GV) : Prop := ∀ w2 : World, w.heap.size <= w2.heap.size -> (∀ k, B <= k -> k < w.heap.size -> w2.heap[k]? = w.heap[k]?) -> GAt 140737488355328 w2 a
theorem KG.next {B : Nat} {w w' : World} {a : GV} (h : KG B w a) (hs : w.heap.size <= w'.heap.size) (hk : ∀ k, B <= k -> k < w.heap.size -> w'.heap[k]? = w.heap[k]?) : KG B w' a := fun w2 h2 k2 => h w2 (Nat.le_trans hs h2) fun k k1 k3 => (k2 k k1 (Nat.lt_of_lt_of_le k3 hs)).trans (hk k k1 k3)
theorem KG.at {B : Nat} {w : World} {a : GV} (h : KG B w a) : GAt 140737488355328 w a := h w (Nat.le_refl _) fun _ _ _ => rfl
theorem KG.mono {B B' : Nat} {w : World} {a : GV} (h : KG B w a) (hB : B' <= B) : KG B' w a := fun w2 hs hk => h w2 hs fun k k1 k2 => hk k (Nat.le_trans hB k1) k2
theorem KG.later {B : Nat} {w w' : World} {a : GV} (h : KG B w a) (hb : Below w.heap.size w w') : KG B w' a := h.next hb.size fun k _ hk => hb.block k hk
def revT (g : GV) (er : Int) : GV := if er = 0 then g.rev else gVoid
def renE (g : GV) (er : Int) (ts ns : List Int) : Int := if er = 0 then renU g ts ns else er
def renT (g : GV) (er : Int) (ts ns : List Int) : GV := if er = 0 /\ renU g ts ns = 0 then g.ren ts ns else gVoid
theorem same_renU {g x : GV} (h : SameG g x) (ts ns : List Int) : renU x ts ns = renU g ts ns := by unfold renU; rw [h.ts, h.ns]
theorem okc_rev {g a : GV} {at_ : Int} (hE : checkG g (checkF g.ts g.ns) = (0, at_)) (hs : SameG g.rev a) : OkC a := by
 have h1 : checkG g.rev (checkF g.rev.ts g.rev.ns) = (0, at_) := (check_rev g _).trans hE
 exact OkC.of (by rw [same_check hs, h1])
theorem okc_ren {g a : GV} {at_ : Int} {ts ns : List Int} (hE : checkG g (checkF g.ts g.ns) = (0, at_)) (hu : renU g ts ns = 0) (hs : SameG (g.ren ts ns) a) : OkC a := by
 have ok : OkC g := OkC.of (by rw [hE])
 have hc : (checkF g.ts g.ns).1 = 0 := checkF_ok hE
 exact OkC.of (by rw [same_check hs, check_ren ok hc (renU_ok hu)])
theorem rev_any (g x : GV) (w : World) (hs : SameG g x) (h : GAt 140737488355328 w x) (hpc : x.ps.length <= x.pc) (er at_ : Int) (hE : checkG g (checkF g.ts g.ns) = (er, at_)) :
  Calls Tryz.prog 10 #[x.val] w fun e w' => ∃ a : GV, e = .returned (.tuple #[a.val, .int .i64 er]) /\ SameG (revT g er) a /\ KG w.heap.size w' a /\ Below w.heap.size w w' := by
 have hX := (same_check hs).trans hE
 unfold revT
 by_cases h0 : er = 0
 ·subst h0
  rw [if_pos rfl]
  refine (reverse_ok x w h hpc at_ hX).mono ?_
  rintro e w' ⟨a, A, H, E, pb, lb, tb, nb, rfl, sa, ma, hb⟩
  exact ⟨a, rfl, hs.rev.trans sa, fun w2 hs2 hk2 => ((ma.kept hs2 hk2).gat (okc_rev hX sa)).mono (by omega), hb⟩
 ·rw [if_neg h0]
  refine (reverse_no x w h hpc er at_ hX h0).mono ?_
  rintro e w' ⟨rfl, hb⟩
  exact ⟨gVoid, rfl, SameG.refl _, fun w2 _ _ => gVoid_at w2, hb⟩
theorem refrev_any (g : GV) (w : World) (h : GAt 140737488355328 w g) (er at_ : Int) (hE : checkG g (checkF g.ts g.ns) = (er, at_)) :
  Calls Tryz.prog 11 #[g.val] w fun e w' => ∃ a : GV, e = .returned (.tuple #[a.val, .int .i64 er]) /\ SameG (revT g er) a /\ KG w.heap.size w' a /\ Below w.heap.size w w' := by
 unfold revT
 by_cases h0 : er = 0
 ·subst h0
  rw [if_pos rfl]
  refine (refreverse_ok g w h at_ hE).mono ?_
  rintro e w' ⟨a, A, H, E, pb, lb, tb, nb, rfl, sa, ma, hb⟩
  exact ⟨a, rfl, sa, fun w2 hs2 hk2 => ((ma.kept hs2 hk2).gat (okc_rev hE sa)).mono (by omega), hb⟩
 ·rw [if_neg h0]
  refine (refreverse_no g w h er (by rw [hE]) h0).mono ?_
  rintro e w' ⟨rfl, hb⟩
  exact ⟨gVoid, rfl, SameG.refl _, fun w2 _ _ => gVoid_at w2, hb⟩
theorem ren_any (g x : GV) (a1 a2 : Option Addr) (c1 c2 : Nat) (ts ns : List Int) (w : World) (hs : SameG g x) (h : GAt 140737488355328 w x) (hpc : x.ps.length <= x.pc) (h1 : InRow w a1 ts) (h2 : InRow w a2 ns) (hl : ts.length <= 140737488355328 /\ ns.length <= 140737488355328) (er at_ : Int) (hE : checkG g (checkF g.ts g.ns) = (er, at_)) :
  Calls Tryz.prog 12 #[x.val, .slice a1 ts.length c1, .slice a2 ns.length c2] w fun e w' => ∃ a : GV, e = .returned (.tuple #[a.val, .int .i64 (renE g er ts ns)]) /\ SameG (renT g er ts ns) a /\ KG w.heap.size w' a /\ Below w.heap.size w w' := by
 have hX := (same_check hs).trans hE
 unfold renT renE
 by_cases h0 : er = 0
 ·subst h0
  rw [if_pos rfl]
  by_cases hu : renU g ts ns = 0
  ·rw [if_pos ⟨rfl, hu⟩, hu]
   have hu' := (same_renU hs ts ns).trans hu
   refine (renumber_ok x a1 a2 c1 c2 ts ns w h hpc at_ hX h1 h2 hl hu').mono ?_
   rintro e w' ⟨a, A, H, E, pb, lb, tb, nb, rfl, sa, ma, hb⟩
   exact ⟨a, rfl, (hs.ren ts ns).trans sa, fun w2 hs2 hk2 => ((ma.kept hs2 hk2).gat (okc_ren hX hu' sa)).mono (by omega), hb⟩
  ·rw [if_neg (fun e => hu e.2)]
   refine (renumber_err x a1 a2 c1 c2 ts ns w h hpc at_ hX h1 h2 hl _ (same_renU hs ts ns) hu).mono ?_
   rintro e w' ⟨rfl, hb⟩
   exact ⟨gVoid, rfl, SameG.refl _, fun w2 _ _ => gVoid_at w2, hb⟩
 ·rw [if_neg h0, if_neg (fun e => h0 e.1)]
  refine (renumber_no x a1 a2 ts.length ns.length c1 c2 w h hpc er at_ hX h0).mono ?_
  rintro e w' ⟨rfl, hb⟩
  exact ⟨gVoid, rfl, SameG.refl _, fun w2 _ _ => gVoid_at w2, hb⟩
theorem refren_any (g : GV) (a1 a2 : Option Addr) (c1 c2 : Nat) (ts ns : List Int) (w : World) (h : GAt 140737488355328 w g) (h1 : InRow w a1 ts) (h2 : InRow w a2 ns) (hl : ts.length <= 140737488355328 /\ ns.length <= 140737488355328) (er at_ : Int) (hE : checkG g (checkF g.ts g.ns) = (er, at_)) :
  Calls Tryz.prog 14 #[g.val, .slice a1 ts.length c1, .slice a2 ns.length c2] w fun e w' => ∃ a : GV, e = .returned (.tuple #[a.val, .int .i64 (renE g er ts ns)]) /\ SameG (renT g er ts ns) a /\ KG w.heap.size w' a /\ Below w.heap.size w w' := by
 unfold renT renE
 by_cases h0 : er = 0
 ·subst h0
  rw [if_pos rfl]
  by_cases hu : renU g ts ns = 0
  ·rw [if_pos ⟨rfl, hu⟩, hu]
   refine (refrenumber_ok g a1 a2 c1 c2 ts ns w h at_ hE h1 h2 hu).mono ?_
   rintro e w' ⟨a, A, H, E, pb, lb, tb, nb, rfl, sa, ma, hb⟩
   exact ⟨a, rfl, sa, fun w2 hs2 hk2 => ((ma.kept hs2 hk2).gat (okc_ren hE hu sa)).mono (by omega), hb⟩
  ·rw [if_neg (fun e => hu e.2)]
   refine (refrenumber_err g a1 a2 c1 c2 ts ns w h at_ hE h1 h2 hl _ rfl hu).mono ?_
   rintro e w' ⟨rfl, hb⟩
   exact ⟨gVoid, rfl, SameG.refl _, fun w2 _ _ => gVoid_at w2, hb⟩
 ·rw [if_neg h0, if_neg (fun e => h0 e.1)]
  refine (refrenumber_no g a1 a2 ts.length ns.length c1 c2 w h er (by rw [hE]) h0).mono ?_
  rintro e w' ⟨rfl, hb⟩
  exact ⟨gVoid, rfl, SameG.refl _, fun w2 _ _ => gVoid_at w2, hb⟩
end Go.Proofs.YtmkakdfdfdcncaaGreatDoor
