import Derived.Test.YtfgfkchhkbkplaaGreatDoorPGRulesToGBulk
import Derived.Test.YtfgfkchhkbkplaaGreatDoorPPlainToWText
import Derived.OpenShut
namespace Go.Proofs.YtfgfkchhkbkplaaGreatDoor
set_option linter.unusedVariables false
open Go.ChangeShapes Go.WideShapes Go.ChangeAt Go.RowKit
theorem gcellsU8b : Tryz.prog.cellsOf 5 = 1 := by kernel_rfl
set_option maxRecDepth 100000 in
theorem open_bytesg {H : Type} {enc : TypeId × Value -> H} {W : World} {base : Nat} {v : Value} {d : DataW H} {p : List MemPlace} (hv : Value.okWide Tryz.prog W .any base 27 v)
  (h : DataW.Trod enc Tryz.prog W 0 (fun _ => true) true 27 v d p) :
  ∃ (a : Option Addr) (cap : Nat) (xs : List Int), v = .slice a xs.length cap /\ C.RowAt W a xs /\ (a = none -> cap = 0) /\ xs.length <= cap /\ cap <= maxLen /\ LD xs.length d := by
 obtain ⟨a0, len0, cap0, rfl⟩ := okWide_slice Tryz.underlying27 hv
 obtain ⟨fuel, hf⟩ := h
 rcases open_ints Tryz.underlying27 Tryz.underlying5 gcellsU8b hf with ⟨hcs, hx⟩ | ⟨x, l, c, zs, hcs, _, hl, hm, hz, hx, hcell, hwz⟩
 ·simp [Value.cells] at hcs
  obtain ⟨rfl, rfl, rfl⟩ := hcs
  simp only [Prod.mk.injEq] at hx
  exact ⟨none, 0, [], rfl, C.RowAt.nil _ _, fun _ => rfl, Nat.le_refl _, Nat.zero_le _, .inl ⟨hx.1, rfl⟩⟩
 ·simp [Value.cells] at hcs
  obtain ⟨rfl, rfl, rfl⟩ := hcs
  simp only [Prod.mk.injEq] at hx
  have hz' : zs.length = cap0 := by simpa using hz
  have hlen : (zs.take len0).length = len0 := by simp; omega
  refine ⟨some x, cap0, zs.take len0, by rw [hlen], ⟨fun n hn => ?_, fun hne => ?_⟩, (fun h => by cases h), by rw [hlen]; exact hl, hm, .inr ⟨_, _, hx.1, by simp [lits]⟩⟩
  ·exact bounds_u8 (hwz n (List.mem_of_mem_take hn))
  ·obtain ⟨b, off, spot⟩ := x
   have h0 : 0 < len0 := by
    rcases Nat.eq_zero_or_pos len0 with e | e
    ·subst e; simp at hne
    ·exact e
   have hc0 := hcell 0 (by omega)
   have hspot : spot = none := by simpa [Addr.add] using World.cell?_spot hc0
   subst hspot
   refine ⟨b, off, rfl, fun i hi => ?_⟩
   rw [hlen] at hi
   have := hcell i (by omega)
   rw [add_none] at this
   rw [this]; simp [List.getD, hi]
end Go.Proofs.YtfgfkchhkbkplaaGreatDoor
