import Derived.Deep.RegionHeld3
import Derived.StillTail
import Derived.WalkKit
namespace Go.Proofs.Ytndbdliaidbocaa
set_option linter.unusedVariables false
open Go.RowKit
section
variable {P : Program} {ops : Array Oper} {Q : Exit -> Act -> World -> Prop} {md : Region.Mode} {S : Array Bool -> World -> Prop}
def wpAnyX (P : Program) (md : Region.Mode) (ops : Array Oper) (Q : Exit -> Act -> World -> Prop) (S : Array Bool -> World -> Prop) : Nat -> Array Bool -> Act -> World -> Prop
 | 0, listed, a, w => Region.ready md ops listed = [] /\ Q .normal a w
 | fuel + 1, listed, a, w =>
  (Region.ready md ops listed = [] -> Q .normal a w) /\
  ∀ i ∈ Region.ready md ops listed, wpOp P ops Q i (fun a' w' => S (listed.setIfInBounds i true) w' /\ wpAnyX P md ops Q S fuel (listed.setIfInBounds i true) a' w') a w
theorem wpAny_of_x : ∀ (fuel : Nat) (listed : Array Bool) (a : Act) (w : World), wpAnyX P md ops Q S fuel listed a w -> wpAny P md ops Q fuel listed a w
 | 0, _, _, _, h => h
 | fuel + 1, _, _, _, h => ⟨h.1, fun i hi => wpOp_mono (fun a' w' h' => wpAny_of_x fuel _ a' w' h'.2) (h.2 i hi)⟩
theorem wp_region_x {id : Nat} {a : Act} {w : World} (hm : P.follows .mixedOrders = true)
  (h : wpAnyX P .any ops Q S ops.size (Array.replicate ops.size false) a w.drew) : (Code.region id ops true).wp P Q a w :=
 wp_region_any hm (wpAny_of_x _ _ _ _ h)
theorem wpAnyX_first {i : Nat} {oi : Oper} {v : Value} {T : World -> Prop} {Cl : Array Bool -> Prop} (hi : ops[i]? = some oi) (hsel : ∀ (j : Nat) (o : Oper) cs b, ops[j]? = some o -> o.op ≠ .select cs b)
  (hQ : ∀ c a w, Q (.panic c) (a.put oi.dst v) w -> Q (.panic c) a w) (hCl : ∀ L j, Cl L -> j ∈ Region.ready md ops L -> Cl (L.setIfInBounds j true))
  (hST : ∀ L w, Cl L -> L.getD i true = false -> S L w -> T w) (hSi : ∀ L w, S (L.setIfInBounds i true) w ↔ S L w) :
  ∀ (fuel : Nat) (listed : Array Bool) (a : Act) (w : World),
   (∀ j oj, ops[j]? = some oj -> j ≠ i -> listed.getD j true = false -> (∀ e ∈ oj.after, Region.binds md e = true -> e.on ≠ i) -> oi.apart ops oj = true) ->
   i ∈ Region.ready md ops listed -> Cl listed -> YieldsIf P ops T oi v a -> S listed w ->
   wpAnyX P md ops Q S fuel (listed.setIfInBounds i true) (a.put oi.dst v) w -> wpAnyX P md ops Q S (fuel + 1) listed a w := by
 intro fuel
 induction fuel with
 | zero =>
  intro listed a w _ hr hc hy hS H
  refine ⟨fun h => (by rw [h] at hr; cases hr), fun j hj => ?_⟩
  by_cases hji : j = i
  ·subst hji; exact hy.wpOp hi (hST _ _ hc (mem_ready.1 hr).1 hS) ⟨(hSi _ _).2 hS, H⟩
  ·have := ready_mono hj hji
   rw [H.1] at this
   cases this
 | succ fuel ih =>
  intro listed a w hfree hr hc hy hS H
  refine ⟨fun h => (by rw [h] at hr; cases hr), fun j hj => ?_⟩
  by_cases hji : j = i
  ·subst hji; exact hy.wpOp hi (hST _ _ hc (mem_ready.1 hr).1 hS) ⟨(hSi _ _).2 hS, H⟩
  ·have h1 := H.2 j (ready_mono hj hji)
   obtain ⟨hjun, oj, hoj, hall⟩ := mem_ready.1 hj
   have hnot : ∀ e ∈ oj.after, Region.binds md e = true -> e.on ≠ i := fun e he hb heq => by
    have h1 := hall e he hb
    have h0 := (mem_ready.1 hr).1
    rw [heq] at h1
    rcases Nat.lt_or_ge i listed.size with h' | h'
    ·simp [h'] at h0 h1; rw [h0] at h1; cases h1
    ·simp [Array.getElem?_eq_none h'] at h1
   have h2 := wpOp_putIf hoj (hfree j oj hoj hji hjun hnot) (fun cs b => hsel i oi cs b hi) (fun cs b => hsel j oj cs b hoj) hQ hy h1
   have hfree' : ∀ k ok, ops[k]? = some ok -> k ≠ i -> (listed.setIfInBounds j true).getD k true = false ->
     (∀ e ∈ ok.after, Region.binds md e = true -> e.on ≠ i) -> oi.apart ops ok = true := fun k ok hk hki hun hno => by
    refine hfree k ok hk hki ?_ hno
    by_cases hjk : j = k
    ·subst hjk; exact hjun
    ·rw [getD_set_ne true hjk] at hun; exact hun
   refine wpOp_mono (fun a' w' h3 => ?_) h2
   have hs : S (listed.setIfInBounds j true) w' := by
    have := h3.2.1
    rw [Array.setIfInBounds_comm _ _ (Ne.symm hji)] at this
    exact (hSi _ _).1 this
   refine ⟨hs, ih (listed.setIfInBounds j true) a' w' hfree' (ready_mono hr (Ne.symm hji)) (hCl _ _ hc hj) h3.1 hs ?_⟩
   rw [Array.setIfInBounds_comm _ _ hji]
   exact h3.2.2
def SX (m : Nat) (S0 S1 : World -> Prop) (L : Array Bool) (w : World) : Prop := S0 w /\ (L.getD m false = false -> S1 w)
theorem SX.both {m : Nat} {S0 S1 : World -> Prop} {L : Array Bool} {w : World} (h0 : S0 w) (h1 : S1 w) : SX m S0 S1 L w := ⟨h0, fun _ => h1⟩
theorem SX.one {m : Nat} {S0 S1 : World -> Prop} {L : Array Bool} {w : World} (h0 : S0 w) (hm : L.getD m false = true) : SX m S0 S1 L w := ⟨h0, fun h => by rw [hm] at h; cases h⟩
def lastB (md : Region.Mode) (ops : Array Oper) (m : Nat) : Bool := (List.range m).all fun i => Region.waitsFor md ops m i
def ClX (m : Nat) (L : Array Bool) : Prop := L.getD m false = true -> ∀ i, i < m -> L.getD i false = true
theorem ClX.next {m : Nat} (hl : lastB md ops m = true) (L : Array Bool) (j : Nat) (h : ClX m L) (hj : j ∈ Region.ready md ops L) : ClX m (L.setIfInBounds j true) := by
 intro hm i hi
 by_cases hjm : j = m
 ·subst hjm
  obtain ⟨_, oj, hoj, hall⟩ := mem_ready.1 hj
  have h1 := List.all_eq_true.1 hl i (List.mem_range.2 hi)
  obtain ⟨o', ho', e, he, hb, hon⟩ := Region.waitsFor_spec h1
  obtain rfl : o' = oj := Option.some.inj (ho'.symm.trans hoj)
  have h2 := hall e he hb
  rw [hon] at h2
  exact getD_set_true h2
 ·rw [getD_set_ne false hjm] at hm
  exact getD_set_true (h hm i hi)
theorem wpAnyX_take {m i : Nat} {oi : Oper} {v : Value} {S0 S1 : World -> Prop} {fuel : Nat} {listed : Array Bool} {a : Act} {w : World} (hi' : ops.toList[i]? = some oi)
  (hs : Region.noSelect ops = true) (hl : lastB md ops m = true) (him : i < m) (hf : Region.free md ops listed i = true) (hr : (Region.ready md ops listed).contains i = true)
  (hQ : ∀ c a w, Q (.panic c) (a.put oi.dst v) w -> Q (.panic c) a w) (hc0 : listed.getD m false = false) (hy : YieldsIf P ops (fun w => S0 w /\ S1 w) oi v a) (hS : SX m S0 S1 listed w)
  (h : wpAnyX P md ops Q (SX m S0 S1) fuel (listed.setIfInBounds i true) (a.put oi.dst v) w) : wpAnyX P md ops Q (SX m S0 S1) (fuel + 1) listed a w :=
 have hi : ops[i]? = some oi := by rw [<- Array.getElem?_toList]; exact hi'
 wpAnyX_first (Cl := ClX m) hi (Region.noSelect_spec hs) hQ (ClX.next hl)
  (fun L w hc hun hS => ⟨hS.1, hS.2 (by
   cases e : L.getD m false with
   | false => rfl
   | true => have := hc e i him; rw [getD_both hun] at this; cases this)⟩)
  (fun L w => by
   have e : (L.setIfInBounds i true).getD m false = L.getD m false := getD_set_ne false (by omega)
   unfold SX
   rw [e]) fuel listed a w (Region.free_spec hi hf) (by simpa using hr) (fun e => by rw [hc0] at e; cases e) hy hS h
theorem wpAnyX_one {j : Nat} {o : Oper} {fuel : Nat} {listed : Array Bool} {a : Act} {w : World} (hr : Region.ready md ops listed = [j]) (ho' : ops.toList[j]? = some o)
  (h : ∀ K' : Act -> World -> Prop, Shut (∀ a' w', S (listed.setIfInBounds j true) w' -> wpAnyX P md ops Q S fuel (listed.setIfInBounds j true) a' w' -> K' a' w') -> if Region.wanted o (yielded ops a.tmps) = true then Oper.wp P o a w K' Q else K' (a.put o.dst undef) w) :
  wpAnyX P md ops Q S (fuel + 1) listed a w := by
 refine ⟨fun h0 => (by rw [hr] at h0; cases h0), fun i hi => ?_⟩
 rw [hr] at hi
 obtain rfl : i = j := by simpa using hi
 have ho : ops[i]? = some o := by rw [<- Array.getElem?_toList]; exact ho'
 exact wpOp_step ho (fun K' hK => h K' (fun a' w' hS hW => hK a' w' ⟨hS, hW⟩))
theorem step_callX {o : Oper} {a : Act} {w : World} {K : Act -> World -> Prop} {E : Prop} (hg : o.guard = none) (f : FuncId) (args : Array Value) (R : Ending -> World -> Prop)
  (hrun : (execOp a.eval o).run P w = .ok (.enter f args) w) (hC : Calls P f args w R) (hK : ∀ e w', R e w' -> ∃ v, e = .returned v /\ K (a.put o.dst v) w') :
  if Region.wanted o (yielded ops a.tmps) = true then Oper.wp P o a w K Q else E := by
 have hw : Region.wanted o (yielded ops a.tmps) = true := by simp [Region.wanted, hg]
 rw [if_pos hw]
 show o.upon P a K Q ((execOp a.eval o).run P w)
 rw [hrun, Oper.upon_enter]
 refine hC.mono fun e w' hR => ?_
 obtain ⟨v, rfl, hk⟩ := hK e w' hR
 exact hk
theorem wpAnyX_done {listed : Array Bool} {a : Act} {w : World} (hr : Region.ready md ops listed = []) (h : Q .normal a w) : wpAnyX P md ops Q S 0 listed a w := ⟨hr, h⟩
end
end Go.Proofs.Ytndbdliaidbocaa
