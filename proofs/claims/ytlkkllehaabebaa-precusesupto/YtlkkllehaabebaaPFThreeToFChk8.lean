import Derived.Test.YtlkkllehaabebaaPFRoundToFChk6
namespace Go.Proofs.Ytlkkllehaabebaa
set_option linter.unusedVariables false
set_option maxRecDepth 100000
set_option maxHeartbeats 16000000
open Go.RowKit
section
variable {P : Program} {ops : Array Oper} {Q : Exit -> Act -> World -> Prop} {md : Region.Mode} {S : Array Bool -> World -> Prop}
end
end Go.Proofs.Ytlkkllehaabebaa
namespace Go.Proofs.Ytlkkllehaabebaa
set_option linter.unusedVariables false
set_option maxRecDepth 100000
set_option maxHeartbeats 16000000
open Go.RowKit
def LeastF (g : GV) (F : List BS) : Prop := ∃ k, F = iterS (nullU g.ps g.ns.length) g.ps (List.replicate g.ns.length (0, 0)) k /\ roundS (nullU g.ps g.ns.length) g.ps F = F /\ (∀ i, OkS (F.getD i (0, 0))) /\ F.length = g.ns.length
theorem takeF {P : Program} {ops : Array Oper} {Q : Exit -> Act -> World -> Prop} {md : Region.Mode} {i : Nat} {oi : Oper} {v : Value} {S0 : World -> Prop} {fuel : Nat} {listed : Array Bool} {a : Act} {w : World} (hi' : ops.toList[i]? = some oi)
  (hs : Region.noSelect ops = true) (hf : Region.free md ops listed i = true) (hr : (Region.ready md ops listed).contains i = true)
  (hQ : ∀ c a w, Q (.panic c) (a.put oi.dst v) w -> Q (.panic c) a w) (hy : YieldsIf P ops S0 oi v a) (hS : S0 w)
  (h : wpAnyX P md ops Q (fun _ => S0) fuel (listed.setIfInBounds i true) (a.put oi.dst v) w) : wpAnyX P md ops Q (fun _ => S0) (fuel + 1) listed a w :=
 have hi : ops[i]? = some oi := by rw [<- Array.getElem?_toList]; exact hi'
 wpAnyX_first (Cl := fun _ => True) (T := S0) hi (Region.noSelect_spec hs) hQ (fun _ _ _ _ => trivial) (fun _ _ _ _ h => h) (fun _ _ => Iff.rfl) fuel listed a w (Region.free_spec hi hf) (by simpa using hr) trivial hy hS h
def firstO (v : Nat -> Option (Int × Int)) : Nat -> Option (Int × Int)
 | 0 => none
 | n + 1 => match firstO v n with
  | some x => some x
  | none => v n
theorem firstO_none {v : Nat -> Option (Int × Int)} : ∀ {n : Nat}, (∀ j, j < n -> v j = none) -> firstO v n = none
 | 0, _ => rfl
 | n + 1, h => by rw [firstO, firstO_none (fun j hj => h j (by omega))]; exact h n (by omega)
def badL (L : List (List Int)) (nt : Nat) (i : Nat) : Option (Int × Int) := if allB (L.getD i []) nt = false then some (4, (i : Int)) else if riseF (L.getD i []) = false then some (7, (i : Int)) else none
def badP (N : List Bool) (F : List BS) (ps : List PV) (i : Nat) : Option (Int × Int) := if decide (withS (ofS N F (ps.getD i .none).right (0, 0)) (F.getD (ps.getD i .none).left.toNat (0, 0)) = F.getD (ps.getD i .none).left.toNat (0, 0)) = false then some (62, (i : Int)) else none
def chkF (N : List Bool) (L : List (List Int)) (ps : List PV) (nt : Nat) : Int × Int := match firstO (badL L nt) L.length with
 | some x => x
 | none => match firstO (badP N (L.map setS) ps) ps.length with
  | some x => x
  | none => (0, 0)
end Go.Proofs.Ytlkkllehaabebaa
