import Derived.WalkKit
import Derived.Laws.BitsAllLaws
import Derived.Test.YtlkkllehaabebabProg
import Derived.WalkSpells
import Derived.WalkLawsBesides
import Derived.Handy
/- Plain facts on lists of bytes: no program in sight. -/
namespace Go.Proofs.Ytlkkllehaabebab.C
set_option linter.unusedVariables false
set_option maxRecDepth 100000
set_option maxHeartbeats 16000000
open Go.RowKit
def lo (xs : List Int) : Int := xs.foldl (fun a c => (a + c) % 65521) 1
def hi (xs : List Int) : Int := (xs.foldl (fun (p : Int × Int) c => ((p.1 + c) % 65521, (p.2 + (p.1 + c) % 65521) % 65521)) (1, 0)).2
def adler (xs : List Int) : Int := hi xs * 65536 + lo xs
def isBytes (xs : List Int) : Prop := ∀ x ∈ xs, 0 <= x /\ x <= 255
theorem isBytes.at {xs : List Int} (h : isBytes xs) (i : Nat) : 0 <= xs.getD i 0 /\ xs.getD i 0 <= 255 := by
 by_cases hi : i < xs.length
 ·have := h (xs[i]) (List.getElem_mem hi); simpa [List.getD, hi] using this
 ·simp [List.getD, hi]
def RowAt (w : World) (ao : Option Addr) (xs : List Int) : Prop :=
 isBytes xs /\ (xs ≠ [] -> ∃ b off, ao = some ⟨b, off, none⟩ /\ ∀ i, i < xs.length -> w.cell? ⟨b, off + i, none⟩ = some (.int .u8 (xs.getD i 0)))
theorem RowAt.later {w w' : World} {ao : Option Addr} {xs : List Int} (h : RowAt w ao xs) (hb : Below w.heap.size w w') : RowAt w' ao xs := by
 refine ⟨h.1, fun hne => ?_⟩
 obtain ⟨b, off, rfl, hc⟩ := h.2 hne
 refine ⟨b, off, rfl, fun i hi => ?_⟩
 rw [hb.cell (p := ⟨b, off + i, none⟩) (World.block_lt_of_cell? w _ (hc i hi))]
 exact hc i hi
theorem isBytes_nil : isBytes [] := fun _ h => by cases h
theorem RowAt.nil (w : World) (ao : Option Addr) : RowAt w ao [] := ⟨isBytes_nil, fun h => absurd rfl h⟩
theorem isBytes_take {xs : List Int} (h : isBytes xs) (k : Nat) : isBytes (xs.take k) := fun x hx => h x (List.mem_of_mem_take hx)
theorem isBytes_drop {xs : List Int} (h : isBytes xs) (k : Nat) : isBytes (xs.drop k) := fun x hx => h x (List.mem_of_mem_drop hx)
abbrev vals (xs : List Int) : List Value := xs.map (Value.int .u8)
theorem rowAt_of_owns {w : World} {base : Nat} {e : TypeId} {v : Value} {xs : List Int} (hb : isBytes xs) (h : w.ownsRow base e 1 v xs.length (vals xs)) : ∃ ao cap, v = .slice ao xs.length cap /\ (ao = none -> xs = [] /\ cap = 0) /\ RowAt w ao xs := by
 obtain ⟨_, h2⟩ := h
 rcases h2 with ⟨rfl, hn⟩ | ⟨g, cap, cur, rfl, hg, hh, hl, hm, hs, ht⟩
 ·obtain rfl : xs = [] := List.eq_nil_of_length_eq_zero hn
  exact ⟨none, 0, rfl, fun _ => ⟨rfl, rfl⟩, RowAt.nil _ _⟩
 ·refine ⟨_, cap, rfl, (fun h => by cases h), hb, fun _ => ⟨g, 0, rfl, fun i hi => ?_⟩⟩
  have e1 : cur.toList[i]? = some (.int .u8 (xs.getD i 0)) := by
   have : (cur.toList.take (xs.length * 1))[i]? = (vals xs)[i]? := by rw [ht]
   rw [List.getElem?_take_of_lt (by omega)] at this
   rw [this]; simp [List.getD, hi]
  simp only [World.cell?, hh, Nat.zero_add]
  simpa using e1
theorem add_none (b off j : Nat) : (⟨b, off, none⟩ : Addr).add j = ⟨b, off + j, none⟩ := by
 unfold Addr.add
 by_cases h : j = 0 <;> simp [h]
theorem below_alloc (w : World) (o : Obj) : Below w.heap.size w (w.alloc o) := (Below.refl _ _).alloc (Nat.le_refl _) _
end Go.Proofs.Ytlkkllehaabebab.C
namespace Go.Proofs.Ytlkkllehaabebab.C
set_option linter.unusedVariables false
set_option maxRecDepth 100000
set_option maxHeartbeats 16000000
open Go.RowKit
def Magic (w : World) : Prop := w.cell? ⟨0, 0, none⟩ = some (.int .u8 103) /\ w.cell? ⟨0, 1, none⟩ = some (.int .u8 116) /\ w.cell? ⟨0, 2, none⟩ = some (.int .u8 114)
theorem Magic.lt {w : World} (h : Magic w) : 0 < w.heap.size := World.block_lt_of_cell? w _ h.1
theorem Magic.later {w w' : World} {B : Nat} (h : Magic w) (hb : Below B w w') (hB : 0 < B) : Magic w' := by
 obtain ⟨a, b, c⟩ := h
 exact ⟨(hb.cell (p := ⟨0, 0, none⟩) hB).trans a, (hb.cell (p := ⟨0, 1, none⟩) hB).trans b, (hb.cell (p := ⟨0, 2, none⟩) hB).trans c⟩
end Go.Proofs.Ytlkkllehaabebab.C
