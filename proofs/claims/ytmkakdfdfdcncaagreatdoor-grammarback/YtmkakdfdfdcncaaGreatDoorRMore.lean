import Derived.Test.YtmkakdfdfdcncaaGreatDoorCountToBack0
namespace Go.Proofs.YtmkakdfdfdcncaaGreatDoor.C
set_option linter.unusedVariables false
open Go.RowKit

section
variable {w : World} {r : Nat} {ao : Option Addr} {N cap : Nat} {xs : List Int} {pos : Nat} {err : Int}
/-- What a reading by the program's reader leaves. -/
def REnds (r : Nat) (ao : Option Addr) (N cap : Nat) (xs : List Int) (v : Value) (p : Nat) (e : Int) (w : World) (x : Ending) (w' : World) : Prop :=
  x = .returned v ∧ RInv w' r ao N cap xs p e ∧ ROnly w w' r
theorem rfail (h : RInv w r ao N cap xs pos err) (e : Int) (err' : Int) (hx : err' = if err = 0 then e else err) : Calls Tryz.prog 195 #[.pointer (some ⟨r, 0, none⟩), .int .i64 e] w (REnds r ao N cap xs (.tuple #[]) pos err' w) := by
  by_cases z : err = 0
  · subst z
    rw [if_pos rfl] at hx; subst hx
    refine (rfail_ok err' h).mono ?_
    rintro x w' ⟨rfl, rfl⟩
    exact ⟨rfl, h.setErr _, ROnly.set _ _ _ _⟩
  · rw [if_neg z] at hx; subst hx
    refine (rfail_no e h (by simpa using z)).mono ?_
    rintro x w' ⟨rfl, rfl⟩
    exact ⟨rfl, h, ROnly.refl _ _⟩
set_option maxRecDepth 100000 in
theorem rint_neg (most : Int) (h : RInv w r ao N cap xs pos err) (hm : most < 0) (err' : Int) (hx : err' = if err = 0 then 1 else err) :
    Calls Tryz.prog 156 #[.pointer (some ⟨r, 0, none⟩), .int .i64 most] w (REnds r ao N cap xs (.int .i64 0) pos err' w) := by
  have HX : Hid (err' = if err = 0 then 1 else err) := hx
  clear hx
  go_enter Tryz.func156, Tryz.ntmps156
  go_wp2_with (go_at_call 195; refine (rfail h 1 err' HX.out).mono ?_; rintro x w2 ⟨rfl, hq2, ho2⟩)
  go_ret
  exact ⟨rfl, hq2, ho2⟩
set_option maxRecDepth 100000 in
theorem rsigned_neg (most : Int) (h : RInv w r ao N cap xs pos err) (hm : most < 0) (err' : Int) (hx : err' = if err = 0 then 1 else err) :
    Calls Tryz.prog 199 #[.pointer (some ⟨r, 0, none⟩), .int .i64 most] w (REnds r ao N cap xs (.int .i64 0) pos err' w) := by
  have HX : Hid (err' = if err = 0 then 1 else err) := hx
  clear hx
  go_enter Tryz.func199, Tryz.ntmps199
  go_wp2_with (go_at_call 195; refine (rfail h 1 err' HX.out).mono ?_; rintro x w2 ⟨rfl, hq2, ho2⟩)
  go_ret
  exact ⟨rfl, hq2, ho2⟩
end
end Go.Proofs.YtmkakdfdfdcncaaGreatDoor.C
