import Derived.Deep.RegionHeld3
import Derived.StillTail
import Derived.WalkKit
import Derived.Test.YtcjejnenklppiaaDoorBS1ToBS2
namespace Go.Proofs.YtcjejnenklppiaaDoor
set_option linter.unusedVariables false
open Go.RowKit

section
variable {P : Program} {ops : Array Oper} {Q : Exit → Act → World → Prop} {md : Region.Mode} {S : Array Bool → World → Prop}
/-- Whatever order is picked from here on, and behind every operation what S says of those that have come up. -/
def wpAnyX (P : Program) (md : Region.Mode) (ops : Array Oper) (Q : Exit → Act → World → Prop) (S : Array Bool → World → Prop) : Nat → Array Bool → Act → World → Prop
  | 0, listed, a, w => Region.ready md ops listed = [] ∧ Q .normal a w
  | fuel + 1, listed, a, w =>
    (Region.ready md ops listed = [] → Q .normal a w) ∧
    ∀ i ∈ Region.ready md ops listed, wpOp P ops Q i (fun a' w' => S (listed.setIfInBounds i true) w' ∧ wpAnyX P md ops Q S fuel (listed.setIfInBounds i true) a' w') a w
theorem wpAny_of_x : ∀ (fuel : Nat) (listed : Array Bool) (a : Act) (w : World), wpAnyX P md ops Q S fuel listed a w → wpAny P md ops Q fuel listed a w
  | 0, _, _, _, h => h
  | fuel + 1, _, _, _, h => ⟨h.1, fun i hi => wpOp_mono (fun a' w' h' => wpAny_of_x fuel _ a' w' h'.2) (h.2 i hi)⟩
theorem wp_region_x {id : Nat} {a : Act} {w : World} (hm : P.follows .mixedOrders = true)
    (h : wpAnyX P .any ops Q S ops.size (Array.replicate ops.size false) a w.drew) : (Code.region id ops true).wp P Q a w :=
  wp_region_any hm (wpAny_of_x _ _ _ _ h)
theorem wpAnyX_first {i : Nat} {oi : Oper} {v : Value} {T : World → Prop} {Cl : Array Bool → Prop} (hi : ops[i]? = some oi) (hsel : ∀ (j : Nat) (o : Oper) cs b, ops[j]? = some o → o.op ≠ .select cs b)
    (hQ : ∀ c a w, Q (.panic c) (a.put oi.dst v) w → Q (.panic c) a w) (hCl : ∀ L j, Cl L → j ∈ Region.ready md ops L → Cl (L.setIfInBounds j true))
    (hST : ∀ L w, Cl L → L.getD i true = false → S L w → T w) (hSi : ∀ L w, S (L.setIfInBounds i true) w ↔ S L w) :
    ∀ (fuel : Nat) (listed : Array Bool) (a : Act) (w : World),
      (∀ j oj, ops[j]? = some oj → j ≠ i → listed.getD j true = false → (∀ e ∈ oj.after, Region.binds md e = true → e.on ≠ i) → oi.apart ops oj = true) →
      i ∈ Region.ready md ops listed → Cl listed → YieldsIf P ops T oi v a → S listed w →
      wpAnyX P md ops Q S fuel (listed.setIfInBounds i true) (a.put oi.dst v) w → wpAnyX P md ops Q S (fuel + 1) listed a w := by
  intro fuel
  induction fuel with
  | zero =>
    intro listed a w _ hr hc hy hS H
    refine ⟨fun h => (by rw [h] at hr; cases hr), fun j hj => ?_⟩
    by_cases hji : j = i
    · subst hji; exact hy.wpOp hi (hST _ _ hc (mem_ready.1 hr).1 hS) ⟨(hSi _ _).2 hS, H⟩
    · have := ready_mono hj hji
      rw [H.1] at this
      cases this
  | succ fuel ih =>
    intro listed a w hfree hr hc hy hS H
    refine ⟨fun h => (by rw [h] at hr; cases hr), fun j hj => ?_⟩
    by_cases hji : j = i
    · subst hji; exact hy.wpOp hi (hST _ _ hc (mem_ready.1 hr).1 hS) ⟨(hSi _ _).2 hS, H⟩
    · have h1 := H.2 j (ready_mono hj hji)
      obtain ⟨hjun, oj, hoj, hall⟩ := mem_ready.1 hj
      have hnot : ∀ e ∈ oj.after, Region.binds md e = true → e.on ≠ i := fun e he hb heq => by
        have h1 := hall e he hb
        have h0 := (mem_ready.1 hr).1
        rw [heq] at h1
        rcases Nat.lt_or_ge i listed.size with h' | h'
        · simp [h'] at h0 h1; rw [h0] at h1; cases h1
        · simp [Array.getElem?_eq_none h'] at h1
      have h2 := wpOp_putIf hoj (hfree j oj hoj hji hjun hnot) (fun cs b => hsel i oi cs b hi) (fun cs b => hsel j oj cs b hoj) hQ hy h1
      have hfree' : ∀ k ok, ops[k]? = some ok → k ≠ i → (listed.setIfInBounds j true).getD k true = false →
          (∀ e ∈ ok.after, Region.binds md e = true → e.on ≠ i) → oi.apart ops ok = true := fun k ok hk hki hun hno => by
        refine hfree k ok hk hki ?_ hno
        by_cases hjk : j = k
        · subst hjk; exact hjun
        · rw [getD_set_ne true hjk] at hun; exact hun
      refine wpOp_mono (fun a' w' h3 => ?_) h2
      have hs : S (listed.setIfInBounds j true) w' := by
        have := h3.2.1
        rw [Array.setIfInBounds_comm _ _ (Ne.symm hji)] at this
        exact (hSi _ _).1 this
      refine ⟨hs, ih (listed.setIfInBounds j true) a' w' hfree' (ready_mono hr (Ne.symm hji)) (hCl _ _ hc hj) h3.1 hs ?_⟩
      rw [Array.setIfInBounds_comm _ _ hji]
      exact h3.2.2
/-- S0 always; S1 till operation m has come up. -/
def SX (m : Nat) (S0 S1 : World → Prop) (L : Array Bool) (w : World) : Prop := S0 w ∧ (L.getD m false = false → S1 w)
theorem SX.both {m : Nat} {S0 S1 : World → Prop} {L : Array Bool} {w : World} (h0 : S0 w) (h1 : S1 w) : SX m S0 S1 L w := ⟨h0, fun _ => h1⟩
theorem SX.one {m : Nat} {S0 S1 : World → Prop} {L : Array Bool} {w : World} (h0 : S0 w) (hm : L.getD m false = true) : SX m S0 S1 L w := ⟨h0, fun h => by rw [hm] at h; cases h⟩
/-- m waits for all ahead of it. -/
def lastB (md : Region.Mode) (ops : Array Oper) (m : Nat) : Bool := (List.range m).all fun i => Region.waitsFor md ops m i
def ClX (m : Nat) (L : Array Bool) : Prop := L.getD m false = true → ∀ i, i < m → L.getD i false = true
theorem ClX.next {m : Nat} (hl : lastB md ops m = true) (L : Array Bool) (j : Nat) (h : ClX m L) (hj : j ∈ Region.ready md ops L) : ClX m (L.setIfInBounds j true) := by
  intro hm i hi
  by_cases hjm : j = m
  · subst hjm
    obtain ⟨_, oj, hoj, hall⟩ := mem_ready.1 hj
    have h1 := List.all_eq_true.1 hl i (List.mem_range.2 hi)
    obtain ⟨o', ho', e, he, hb, hon⟩ := Region.waitsFor_spec h1
    obtain rfl : o' = oj := Option.some.inj (ho'.symm.trans hoj)
    have h2 := hall e he hb
    rw [hon] at h2
    exact getD_set_true h2
  · rw [getD_set_ne false hjm] at hm
    exact getD_set_true (h hm i hi)
theorem wpAnyX_take {m i : Nat} {oi : Oper} {v : Value} {S0 S1 : World → Prop} {fuel : Nat} {listed : Array Bool} {a : Act} {w : World} (hi' : ops.toList[i]? = some oi)
    (hs : Region.noSelect ops = true) (hl : lastB md ops m = true) (him : i < m) (hf : Region.free md ops listed i = true) (hr : (Region.ready md ops listed).contains i = true)
    (hQ : ∀ c a w, Q (.panic c) (a.put oi.dst v) w → Q (.panic c) a w) (hc0 : listed.getD m false = false) (hy : YieldsIf P ops (fun w => S0 w ∧ S1 w) oi v a) (hS : SX m S0 S1 listed w)
    (h : wpAnyX P md ops Q (SX m S0 S1) fuel (listed.setIfInBounds i true) (a.put oi.dst v) w) : wpAnyX P md ops Q (SX m S0 S1) (fuel + 1) listed a w :=
  have hi : ops[i]? = some oi := by rw [← Array.getElem?_toList]; exact hi'
  wpAnyX_first (Cl := ClX m) hi (Region.noSelect_spec hs) hQ (ClX.next hl)
    (fun L w hc hun hS => ⟨hS.1, hS.2 (by
      cases e : L.getD m false with
      | false => rfl
      | true => have := hc e i him; rw [getD_both hun] at this; cases this)⟩)
    (fun L w => by
      have e : (L.setIfInBounds i true).getD m false = L.getD m false := getD_set_ne false (by omega)
      unfold SX
      rw [e]) fuel listed a w (Region.free_spec hi hf) (by simpa using hr) (fun e => by rw [hc0] at e; cases e) hy hS h
/-- One alone may come up. -/
theorem wpAnyX_one {j : Nat} {o : Oper} {fuel : Nat} {listed : Array Bool} {a : Act} {w : World} (hr : Region.ready md ops listed = [j]) (ho' : ops.toList[j]? = some o)
    (h : ∀ K' : Act → World → Prop, Shut (∀ a' w', S (listed.setIfInBounds j true) w' → wpAnyX P md ops Q S fuel (listed.setIfInBounds j true) a' w' → K' a' w') → if Region.wanted o (yielded ops a.tmps) = true then Oper.wp P o a w K' Q else K' (a.put o.dst undef) w) :
    wpAnyX P md ops Q S (fuel + 1) listed a w := by
  refine ⟨fun h0 => (by rw [hr] at h0; cases h0), fun i hi => ?_⟩
  rw [hr] at hi
  obtain rfl : i = j := by simpa using hi
  have ho : ops[i]? = some o := by rw [← Array.getElem?_toList]; exact ho'
  exact wpOp_step ho (fun K' hK => h K' (fun a' w' hS hW => hK a' w' ⟨hS, hW⟩))
/-- A call that comes back. -/
theorem step_callX {o : Oper} {a : Act} {w : World} {K : Act → World → Prop} {E : Prop} (hg : o.guard = none) (f : FuncId) (args : Array Value) (R : Ending → World → Prop)
    (hrun : (execOp a.eval o).run P w = .ok (.enter f args) w) (hC : Calls P f args w R) (hK : ∀ e w', R e w' → ∃ v, e = .returned v ∧ K (a.put o.dst v) w') :
    if Region.wanted o (yielded ops a.tmps) = true then Oper.wp P o a w K Q else E := by
  have hw : Region.wanted o (yielded ops a.tmps) = true := by simp [Region.wanted, hg]
  rw [if_pos hw]
  show o.upon P a K Q ((execOp a.eval o).run P w)
  rw [hrun, Oper.upon_enter]
  refine hC.mono fun e w' hR => ?_
  obtain ⟨v, rfl, hk⟩ := hK e w' hR
  exact hk
theorem wpAnyX_done {listed : Array Bool} {a : Act} {w : World} (hr : Region.ready md ops listed = []) (h : Q .normal a w) : wpAnyX P md ops Q S 0 listed a w := ⟨hr, h⟩
end
end Go.Proofs.YtcjejnenklppiaaDoor
namespace Go.Proofs.YtcjejnenklppiaaDoor
set_option linter.unusedVariables false
open Go.RowKit Go.Shelf

set_option maxHeartbeats 1000000 in
theorem sameints_B (ao bo : Option Addr) (ca cb : Nat) (ss : List Int) (w : World) (hl : ss.length ≤ 140737488355328) (hr : InRow w ao ss) (hs : InRow w bo ss) :
    Calls Tryd.prog 39 #[.slice ao ss.length ca, .slice bo ss.length cb] w fun e w' => e = .returned (.bool true) ∧ ∃ d, w' = w.drewN d := by
  have hb : ((ss.length : Int) != ss.length) = false := by simp
  go_enter Tryd.func39, Tryd.ntmps39
  go_wp2
  go_loopw [5] (fun i wr => ∃ k d : Nat, k ≤ ss.length ∧ i = .int .i64 k ∧ wr = w.drewN d) (fun i _ => ss.length - (intOf i).toNat)
  case atStart => exact ⟨0, 0, Nat.zero_le _, rfl, rfl⟩
  case round =>
    obtain ⟨k, d, hk, rfl, rfl⟩ := hrel
    by_cases hlt : k < ss.length
    · obtain ⟨b, off, rfl, _, hc⟩ := hr (by intro h; subst h; simp at hlt)
      obtain ⟨b2, off2, rfl, _, hc2⟩ := hs (by intro h; subst h; simp at hlt)
      have h1 := hc k hlt
      have h2 := hc2 k hlt
      clear hc hc2 hr hs
      generalize ss.getD k 0 = x at *
      have het : (x != x) = false := by simp
      go_wp2
      go_quiet (fail)
      go_wp2
      go_roundw
      case rel => exact ⟨k + 1, _, by omega, by go_num, rfl⟩
      case measure => simp [intOf]; omega
    · go_wp2
      go_ret
      exact ⟨rfl, _, rfl⟩
theorem takeB {P : Program} {ops : Array Oper} {Q : Exit → Act → World → Prop} {md : Region.Mode} {i : Nat} {oi : Oper} {v : Value} {S0 : World → Prop} {fuel : Nat} {listed : Array Bool} {a : Act} {w : World} (hi' : ops.toList[i]? = some oi)
    (hs : Region.noSelect ops = true) (hf : Region.free md ops listed i = true) (hr : (Region.ready md ops listed).contains i = true)
    (hQ : ∀ c a w, Q (.panic c) (a.put oi.dst v) w → Q (.panic c) a w) (hy : YieldsIf P ops S0 oi v a) (hS : S0 w)
    (h : wpAnyX P md ops Q (fun _ => S0) fuel (listed.setIfInBounds i true) (a.put oi.dst v) w) : wpAnyX P md ops Q (fun _ => S0) (fuel + 1) listed a w :=
  have hi : ops[i]? = some oi := by rw [← Array.getElem?_toList]; exact hi'
  wpAnyX_first (Cl := fun _ => True) (T := S0) hi (Region.noSelect_spec hs) hQ (fun _ _ _ _ => trivial) (fun _ _ _ _ h => h) (fun _ _ => Iff.rfl) fuel listed a w (Region.free_spec hi hf) (by simpa using hr) trivial hy hS h
theorem step_callXB {P : Program} {ops : Array Oper} {Q : Exit → Act → World → Prop} {o : Oper} {a : Act} {w : World} {K : Act → World → Prop} {E : Prop} (hw : Region.wanted o (yielded ops a.tmps) = true) (f : FuncId) (args : Array Value) (R : Ending → World → Prop)
    (hrun : (execOp a.eval o).run P w = .ok (.enter f args) w) (hC : Calls P f args w R) (hK : ∀ e w', R e w' → ∃ v, e = .returned v ∧ K (a.put o.dst v) w') :
    if Region.wanted o (yielded ops a.tmps) = true then Oper.wp P o a w K Q else E := by
  rw [if_pos hw]
  show o.upon P a K Q ((execOp a.eval o).run P w)
  rw [hrun, Oper.upon_enter]
  refine hC.mono fun e w' hR => ?_
  obtain ⟨v, rfl, hk⟩ := hK e w' hR
  exact hk
theorem LBs.shape {w wr : World} {N m : Nat} {v : Value} (h : LBs w (bitsL N m) v wr) : ∃ a c, v = .slice a (popB N m) c ∧ InRow wr a (bitsL N m) := by
  obtain ⟨a, c, e, -, hr⟩ := il_shpB (l := bitsU N m) h.il
  exact ⟨a, c, by rw [e, bitsU_len], hr⟩
set_option maxRecDepth 100000 in
set_option maxHeartbeats 4000000 in
theorem same_M {w : World} {k m N kb kh : Nat} (h : SB w k m N) (h2 : MB w kb kh m N) (hT : TabB w) : Calls Tryd.prog 21 #[.pointer (some ⟨k + 1, 0, none⟩), .pointer (some ⟨kh, 0, none⟩)] w fun e w' => e = .returned (.bool true) ∧ Below w.heap.size w w' := by
  have hml := h.ml
  have hpm := popB_le N m
  have HS : Hid (SB w k m N) := h
  have HM : Hid (MB w kb kh m N) := h2
  have HT : Hid (TabB w) := hT
  have LM : Hid (Calls Tryd.prog 20 #[.pointer (some ⟨kh, 0, none⟩)] w fun e w' => ∃ v, e = .returned v ∧ LBs w (bitsL N m) v w') := list_M h2
  have SI : Hid (∀ (wq : World) (ao bo : Option Addr) (ca cb : Nat), InRow wq ao (bitsL N m) → InRow wq bo (bitsL N m) → Calls Tryd.prog 39 #[.slice ao (popB N m) ca, .slice bo (popB N m) cb] wq fun e w' => e = .returned (.bool true) ∧ ∃ d, w' = wq.drewN d) := fun wq ao bo ca cb hr hs => by
    have := sameints_B ao bo ca cb (bitsL N m) wq (by rw [bitsL_len]; omega) hr hs
    rwa [bitsL_len] at this
  clear h h2 hT
  go_enter Tryd.func21, Tryd.ntmps21
  go_wp2_with (go_at_call 20; refine LM.out.mono ?_; rintro e w1 ⟨v, rfl, l1⟩; obtain ⟨la, lc, rfl, r1⟩ := l1.shape; have L1 : Hid (LBs w (bitsL N m) (.slice la (popB N m) lc) w1 ∧ InRow w1 la (bitsL N m)) := ⟨l1, r1⟩; clear l1 r1)
  obtain ⟨wd, hwd⟩ : ∃ wd : World, wd = w1.drew := ⟨_, rfl⟩
  have BD : Hid (Below w1.heap.size w1 wd) := by show Below _ _ _; rw [hwd]; exact (Below.refl _ _).drew
  have B1 : Hid (Below w.heap.size w wd) := L1.out.1.bel.trans (BD.out.mono L1.out.1.bel.size)
  have SZ : Hid (Calls Tryd.prog 28 #[.pointer (some ⟨k + 1, 0, none⟩)] wd fun e w' => e = .returned (.int .i64 (m : Int)) ∧ w' = wd) := size_SB (HS.out.later B1.out)
  have CT : Hid (Calls Tryd.prog 38 #[.pointer (some ⟨k + 1, 0, none⟩)] wd fun e w' => e = .returned (.int .i64 (popB N m : Int)) ∧ w' = wd) := count_SB (HS.out.later B1.out)
  have LI : Hid (Calls Tryd.prog 40 #[.pointer (some ⟨k + 1, 0, none⟩)] wd fun e w' => ∃ v, e = .returned v ∧ LBs wd (bitsL N m) v w') := list_SB (HS.out.later B1.out) (HT.out.later B1.out)
  have c0 := (HM.out.later B1.out).head
  obtain ⟨n2, hn2⟩ : ∃ n2, popB N m = n2 := ⟨_, rfl⟩
  have HLB : Hid (∀ v w', LBs wd (bitsL N m) v w' → ∃ a c, v = .slice a n2 c ∧ InRow w' a (bitsL N m)) := fun v w' q => by rw [← hn2]; exact q.shape
  have em : ((m : Int) == (m : Int)) = true := by simp
  have en : ((n2 : Int) == (n2 : Int)) = true := by simp
  rw [hn2] at L1 CT SI hpm ⊢
  clear hn2 LM
  have HC3 : Hid (∀ w', Below wd.heap.size wd w' → (fun w' : World => w'.cell? ⟨kh, 0, none⟩ = some (.slice (some ⟨kb, 0, none⟩) m m)) w') := fun w' q => ((HM.out.later B1.out).later q).head
  have hs : Hid ((fun w' : World => w'.cell? ⟨kh, 0, none⟩ = some (.slice (some ⟨kb, 0, none⟩) m m)) wd) := c0
  refine wp_region_x (S := fun _ => (fun w' : World => w'.cell? ⟨kh, 0, none⟩ = some (.slice (some ⟨kb, 0, none⟩) m m))) (by kernel_rfl) ?_
  rw [← hwd]
  clear hwd c0
  refine takeB (i := 0) (v := ?_) rfl (by kernel_rfl) (by decide +kernel) (by decide +kernel) (fun _ _ _ h => h) (Or.inl ⟨by rfl, ?_⟩) hs.out ?_
  rotate_left
  · (intro w hSw; (try dsimp only at hSw); go_simp; try (with_reducible rfl))
  (try simp only [Act.put, List.setIfInBounds_toArray, List.set_cons_zero, List.set_cons_succ])
  refine takeB (i := 2) (v := ?_) rfl (by kernel_rfl) (by decide +kernel) (by decide +kernel) (fun _ _ _ h => h) (Or.inl ⟨by rfl, ?_⟩) hs.out ?_
  rotate_left
  · (intro w hSw; (try dsimp only at hSw); go_simp; try (with_reducible rfl))
  (try simp only [Act.put, List.setIfInBounds_toArray, List.set_cons_zero, List.set_cons_succ])
  refine takeB (i := 3) (v := ?_) rfl (by kernel_rfl) (by decide +kernel) (by decide +kernel) (fun _ _ _ h => h) (Or.inl ⟨by rfl, ?_⟩) hs.out ?_
  rotate_left
  · (intro w hSw; (try dsimp only at hSw); go_simp; try (with_reducible rfl))
  (try simp only [Act.put, List.setIfInBounds_toArray, List.set_cons_zero, List.set_cons_succ])
  refine takeB (i := 4) (v := ?_) rfl (by kernel_rfl) (by decide +kernel) (by decide +kernel) (fun _ _ _ h => h) (Or.inl ⟨by rfl, ?_⟩) hs.out ?_
  rotate_left
  · (intro w hSw; (try dsimp only at hSw); go_simp; try (with_reducible rfl))
  (try simp only [Act.put, List.setIfInBounds_toArray, List.set_cons_zero, List.set_cons_succ])
  refine takeB (i := 5) (v := ?_) rfl (by kernel_rfl) (by decide +kernel) (by decide +kernel) (fun _ _ _ h => h) (Or.inl ⟨by rfl, ?_⟩) hs.out ?_
  rotate_left
  · (intro w hSw; (try dsimp only at hSw); go_simp; try (with_reducible rfl))
  (try simp only [Act.put, List.setIfInBounds_toArray, List.set_cons_zero, List.set_cons_succ])
  refine takeB (i := 6) (v := ?_) rfl (by kernel_rfl) (by decide +kernel) (by decide +kernel) (fun _ _ _ h => h) (Or.inl ⟨by rfl, ?_⟩) hs.out ?_
  rotate_left
  · (intro w hSw; (try dsimp only at hSw); go_simp; try (with_reducible rfl))
  (try simp only [Act.put, List.setIfInBounds_toArray, List.set_cons_zero, List.set_cons_succ])
  refine wpAnyX_one (j := 1) (by decide +kernel) rfl (fun K' hK => ?_)
  refine step_callXB (by rfl) 28 #[.pointer (some ⟨k + 1, 0, none⟩)] _ (by go_simp) SZ.out ?_
  rintro e wz ⟨rfl, hz⟩
  rw [hz]
  clear hz wz
  refine ⟨_, rfl, hK.out _ _ hs.out ?_⟩
  clear hK K'
  (try simp only [Act.put, List.setIfInBounds_toArray, List.set_cons_zero, List.set_cons_succ])
  refine takeB (i := 7) (v := ?_) rfl (by kernel_rfl) (by decide +kernel) (by decide +kernel) (fun _ _ _ h => h) (Or.inl ⟨by rfl, ?_⟩) hs.out ?_
  rotate_left
  · (intro w hSw; (try dsimp only at hSw); go_simp; try (with_reducible rfl))
  (try simp only [Act.put, List.setIfInBounds_toArray, List.set_cons_zero, List.set_cons_succ])
  refine takeB (i := 8) (v := ?_) rfl (by kernel_rfl) (by decide +kernel) (by decide +kernel) (fun _ _ _ h => h) (Or.inl ⟨by rfl, ?_⟩) hs.out ?_
  rotate_left
  · (intro w hSw; (try dsimp only at hSw); go_simp; try (with_reducible rfl))
  (try simp only [Act.put, List.setIfInBounds_toArray, List.set_cons_zero, List.set_cons_succ])
  refine takeB (i := 9) (v := ?_) rfl (by kernel_rfl) (by decide +kernel) (by decide +kernel) (fun _ _ _ h => h) (Or.inl ⟨by rfl, ?_⟩) hs.out ?_
  rotate_left
  · (intro w hSw; (try dsimp only at hSw); go_simp; try (with_reducible rfl))
  (try simp only [Act.put, List.setIfInBounds_toArray, List.set_cons_zero, List.set_cons_succ])
  refine takeB (i := 11) (v := ?_) rfl (by kernel_rfl) (by decide +kernel) (by decide +kernel) (fun _ _ _ h => h) (Or.inl ⟨by rfl, ?_⟩) hs.out ?_
  rotate_left
  · (intro w hSw; (try dsimp only at hSw); go_simp; try (with_reducible rfl))
  (try simp only [Act.put, List.setIfInBounds_toArray, List.set_cons_zero, List.set_cons_succ])
  refine takeB (i := 12) (v := ?_) rfl (by kernel_rfl) (by decide +kernel) (by decide +kernel) (fun _ _ _ h => h) (Or.inl ⟨by rfl, ?_⟩) hs.out ?_
  rotate_left
  · (intro w hSw; (try dsimp only at hSw); go_simp; try (with_reducible rfl))
  (try simp only [Act.put, List.setIfInBounds_toArray, List.set_cons_zero, List.set_cons_succ])
  refine wpAnyX_one (j := 10) (by decide +kernel) rfl (fun K' hK => ?_)
  refine step_callXB (by rfl) 38 #[.pointer (some ⟨k + 1, 0, none⟩)] _ (by go_simp) CT.out ?_
  rintro e wz ⟨rfl, hz⟩
  rw [hz]
  clear hz wz
  refine ⟨_, rfl, hK.out _ _ hs.out ?_⟩
  clear hK K'
  (try simp only [Act.put, List.setIfInBounds_toArray, List.set_cons_zero, List.set_cons_succ])
  refine takeB (i := 13) (v := ?_) rfl (by kernel_rfl) (by decide +kernel) (by decide +kernel) (fun _ _ _ h => h) (Or.inl ⟨by rfl, ?_⟩) hs.out ?_
  rotate_left
  · (intro w hSw; (try dsimp only at hSw); go_simp; try (with_reducible rfl))
  (try simp only [Act.put, List.setIfInBounds_toArray, List.set_cons_zero, List.set_cons_succ])
  refine takeB (i := 14) (v := ?_) rfl (by kernel_rfl) (by decide +kernel) (by decide +kernel) (fun _ _ _ h => h) (Or.inl ⟨by rfl, ?_⟩) hs.out ?_
  rotate_left
  · (intro w hSw; (try dsimp only at hSw); go_simp; try (with_reducible rfl))
  (try simp only [Act.put, List.setIfInBounds_toArray, List.set_cons_zero, List.set_cons_succ])
  refine takeB (i := 15) (v := ?_) rfl (by kernel_rfl) (by decide +kernel) (by decide +kernel) (fun _ _ _ h => h) (Or.inl ⟨by rfl, ?_⟩) hs.out ?_
  rotate_left
  · (intro w hSw; (try dsimp only at hSw); go_simp; try (with_reducible rfl))
  (try simp only [Act.put, List.setIfInBounds_toArray, List.set_cons_zero, List.set_cons_succ])
  refine takeB (i := 16) (v := ?_) rfl (by kernel_rfl) (by decide +kernel) (by decide +kernel) (fun _ _ _ h => h) (Or.inl ⟨by rfl, ?_⟩) hs.out ?_
  rotate_left
  · (intro w hSw; (try dsimp only at hSw); go_simp; try (with_reducible rfl))
  (try simp only [Act.put, List.setIfInBounds_toArray, List.set_cons_zero, List.set_cons_succ])
  refine takeB (i := 18) (v := ?_) rfl (by kernel_rfl) (by decide +kernel) (by decide +kernel) (fun _ _ _ h => h) (Or.inl ⟨by rfl, ?_⟩) hs.out ?_
  rotate_left
  · (intro w hSw; (try dsimp only at hSw); go_simp; try (with_reducible rfl))
  (try simp only [Act.put, List.setIfInBounds_toArray, List.set_cons_zero, List.set_cons_succ])
  refine wpAnyX_one (j := 17) (by decide +kernel) rfl (fun K' hK => ?_)
  refine step_callXB (by rfl) 40 #[.pointer (some ⟨k + 1, 0, none⟩)] _ (by go_simp) LI.out ?_
  rintro e w3 ⟨v, rfl, l3⟩
  obtain ⟨lb, ld, rfl, r3⟩ := HLB.out _ _ l3
  have L3 : Hid (Below wd.heap.size wd w3 ∧ InRow w3 lb (bitsL N m)) := ⟨l3.bel, r3⟩
  clear l3 r3
  clear hs
  have hs : Hid ((fun w' : World => w'.cell? ⟨kh, 0, none⟩ = some (.slice (some ⟨kb, 0, none⟩) m m)) w3) := HC3.out _ L3.out.1
  refine ⟨_, rfl, hK.out _ _ hs.out ?_⟩
  clear hK K'
  (try simp only [Act.put, List.setIfInBounds_toArray, List.set_cons_zero, List.set_cons_succ])
  refine wpAnyX_one (j := 19) (by decide +kernel) rfl (fun K' hK => ?_)
  refine step_callXB (by rfl) 39 #[.slice lb n2 ld, .slice la n2 lc] _ (by go_simp) (SI.out _ _ _ _ _ L3.out.2 ((L1.out.2.later BD.out).later L3.out.1)) ?_
  rintro e w4 ⟨rfl, d, hd⟩
  have W4 : Hid (Below w3.heap.size w3 w4) := by {show Below _ _ _; rw [hd]; exact below_drewN (Below.refl _ w3) d}
  clear hd
  clear hs
  have hs : Hid ((fun w' : World => w'.cell? ⟨kh, 0, none⟩ = some (.slice (some ⟨kb, 0, none⟩) m m)) w4) := HC3.out _ (L3.out.1.trans (W4.out.mono L3.out.1.size))
  refine ⟨_, rfl, hK.out _ _ hs.out ?_⟩
  clear hK K'
  (try simp only [Act.put, List.setIfInBounds_toArray, List.set_cons_zero, List.set_cons_succ])
  refine takeB (i := 20) (v := ?_) rfl (by kernel_rfl) (by decide +kernel) (by decide +kernel) (fun _ _ _ h => h) (Or.inl ⟨by rfl, ?_⟩) hs.out ?_
  rotate_left
  · (intro w hSw; (try dsimp only at hSw); go_simp; try (with_reducible rfl))
  (try simp only [Act.put, List.setIfInBounds_toArray, List.set_cons_zero, List.set_cons_succ])
  refine takeB (i := 21) (v := ?_) rfl (by kernel_rfl) (by decide +kernel) (by decide +kernel) (fun _ _ _ h => h) (Or.inl ⟨by rfl, ?_⟩) hs.out ?_
  rotate_left
  · (intro w hSw; (try dsimp only at hSw); go_simp; try (with_reducible rfl))
  (try simp only [Act.put, List.setIfInBounds_toArray, List.set_cons_zero, List.set_cons_succ])
  refine wpAnyX_done (by decide +kernel) ?_
  clear hs
  go_wp2
  go_ret
  exact ⟨rfl, (B1.out.trans (L3.out.1.mono B1.out.size)).trans (W4.out.mono (Nat.le_trans B1.out.size L3.out.1.size))⟩
end Go.Proofs.YtcjejnenklppiaaDoor
