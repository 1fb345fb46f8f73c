import Derived.Test.YtflcnlefcnclkaaFPart
import Derived.Test.YtflcnlefcnclkaaGCheckPToGSame2
namespace Go.Proofs.Ytflcnlefcnclkaa
set_option linter.unusedVariables false
open Go.RowKit

set_option maxHeartbeats 1000000 in
theorem samebools_S (ao bo : Option Addr) (ca cb : Nat) (ss : List Bool) (w : World) (hl : ss.length ≤ 140737488355328) (hr : BRow w ao ss) (hs : BRow w bo ss) :
    Calls Try.prog 12 #[.slice ao ss.length ca, .slice bo ss.length cb] w fun e w' => e = .returned (.bool true) ∧ ∃ d, w' = w.drewN d := by
  have hb : ((ss.length : Int) != ss.length) = false := by simp
  go_enter Try.func12, Try.ntmps12
  go_wp2
  go_loopw [5] (fun i wr => ∃ k d : Nat, k ≤ ss.length ∧ i = .int .i64 k ∧ wr = w.drewN d) (fun i _ => ss.length - (intOf i).toNat)
  case atStart => exact ⟨0, 0, Nat.zero_le _, rfl, rfl⟩
  case round =>
    obtain ⟨k, d, hk, rfl, rfl⟩ := hrel
    by_cases hlt : k < ss.length
    · obtain ⟨b, off, rfl, _, hc⟩ := hr (by intro h; subst h; simp at hlt)
      obtain ⟨b2, off2, rfl, _, hc2⟩ := hs (by intro h; subst h; simp at hlt)
      have h1 := hc k hlt
      have h2 := hc2 k hlt
      clear hc hc2 hr hs
      generalize ss.getD k false = x at *
      have het : (x != x) = false := by simp
      go_wp2
      go_quiet (fail)
      go_wp2
      go_roundw
      case rel => exact ⟨k + 1, _, by omega, by go_num, rfl⟩
      case measure => simp [intOf]; omega
    · go_wp2
      go_ret
      exact ⟨rfl, _, rfl⟩
theorem run_si2 {o : Oper} {a : Act} {t0 t1 : TypeId} {v0 v1 : Value} {x0 x1 : Operand} (hop : o.op = Op.call { callee := Callee.value (Operand.func 27), args := #[x0, x1], argTypes := #[t0, t1] }) (h0 : a.eval x0 = v0) (h1 : a.eval x1 = v1) (w : World) : (execOp a.eval o).run Try.prog w = .ok (.enter 27 #[v0, v1]) w := by
  have hf : a.eval (Operand.func 27) = .func (.func 27) #[] #[] := rfl
  simp [execOp, hop, resolve, invoke, h0, h1, hf, Deferred.ofValue]
theorem drewN_below (w : World) : ∀ d, Below w.heap.size w (w.drewN d)
  | 0 => Below.refl _ _
  | d + 1 => (drewN_below w d).drew
set_option maxRecDepth 100000 in
set_option maxHeartbeats 2000000 in
theorem samelists_S (aa ba : Option Addr) (ca cb : Nat) (L : List (List Int)) (w : World) (hl : L.length ≤ 1048576) (hll : ∀ l ∈ L, l.length ≤ 140737488355328) (hr : LsRow w aa L) (hs : LsRow w ba L) :
    Calls Try.prog 13 #[.slice aa L.length ca, .slice ba L.length cb] w fun e w' => e = .returned (.bool true) ∧ Below w.heap.size w w' := by
  have hb : ((L.length : Int) != L.length) = false := by simp
  have HR : Hid (∀ w', Below w.heap.size w w' → LsRow w' aa L ∧ LsRow w' ba L) := fun w' hb => ⟨hr.later hb, hs.later hb⟩
  have HLL : Hid (∀ l ∈ L, l.length ≤ 140737488355328) := hll
  clear hr hs hll
  go_enter Try.func13, Try.ntmps13
  go_wp2
  go_loopw [5] (fun i wr => ∃ k : Nat, k ≤ L.length ∧ i = .int .i64 k ∧ Below w.heap.size w wr) (fun i _ => L.length - (intOf i).toNat)
  case atStart => exact ⟨0, Nat.zero_le _, rfl, Below.refl _ _⟩
  case round =>
    obtain ⟨k, hk, rfl, hbw⟩ := hrel
    have HB : Hid (Below w.heap.size w wr) := hbw
    by_cases hlt : k < L.length
    · have klt : (k : Int) < (L.length : Int) := by omega
      have hne : L ≠ [] := by intro e; rw [e] at hlt; simp at hlt
      obtain ⟨ab, ao, rfl, hab, hac⟩ := (HR.out wr hbw).1 hne
      obtain ⟨bb, bo, rfl, hbb, hbc⟩ := (HR.out wr hbw).2 hne
      obtain ⟨la, lc, c0, hrow⟩ := hac k hlt
      obtain ⟨ma, mc, c1, hrow2⟩ := hbc k hlt
      have hrl := HLL.out (L.getD k []) (by simp [List.getD, hlt])
      generalize L.getD k [] = l at *
      have KS0 : Hid (∀ w', Below wr.heap.size wr w' → (fun w' : World => w'.cell? ⟨ab, ao + k, none⟩ = some (.slice la l.length lc) ∧ w'.cell? ⟨bb, bo + k, none⟩ = some (.slice ma l.length mc)) w') := fun w' hw => ⟨(hw.cell (p := ⟨ab, ao + k, none⟩) hab).trans c0, (hw.cell (p := ⟨bb, bo + k, none⟩) hbb).trans c1⟩
      have SC : Hid (∀ w', Below wr.heap.size wr w' → Calls Try.prog 27 #[.slice la l.length lc, .slice ma l.length mc] w' fun e w'' => e = .returned (.bool true) ∧ Below w'.heap.size w' w'') := fun w' hw => (sameints_g la ma _ _ lc mc l w' rfl rfl hrl (hrow.later hw) (hrow2.later hw)).mono (by rintro e w'' ⟨q, d, rfl⟩; exact ⟨q, drewN_below w' d⟩)
      have BD : Hid (Below wr.heap.size wr wr.drew) := (Below.refl _ _).drew
      have hs : Hid ((fun w' : World => w'.cell? ⟨ab, ao + k, none⟩ = some (.slice la l.length lc) ∧ w'.cell? ⟨bb, bo + k, none⟩ = some (.slice ma l.length mc)) wr.drew) := KS0.out _ BD.out
      clear hbw hac hbc hrow hrow2 c0 c1 hne
      go_wp2
      refine wp_region_x (S := fun _ => (fun w' : World => w'.cell? ⟨ab, ao + k, none⟩ = some (.slice la l.length lc) ∧ w'.cell? ⟨bb, bo + k, none⟩ = some (.slice ma l.length mc))) (by kernel_rfl) ?_
      refine takeF (i := 0) (v := ?_) rfl (by kernel_rfl) (by decide +kernel) (by decide +kernel) (fun _ _ _ h => h) (Or.inl ⟨by rfl, ?_⟩) hs.out ?_
      rotate_left
      · (intro w hSw; (try dsimp only at hSw); go_simp; try (with_reducible rfl))
      (try simp only [Act.put, List.setIfInBounds_toArray, List.set_cons_zero, List.set_cons_succ])
      refine takeF (i := 1) (v := ?_) rfl (by kernel_rfl) (by decide +kernel) (by decide +kernel) (fun _ _ _ h => h) (Or.inl ⟨by rfl, ?_⟩) hs.out ?_
      rotate_left
      · (intro w hSw; (try dsimp only at hSw); go_simp; try (with_reducible rfl))
      (try simp only [Act.put, List.setIfInBounds_toArray, List.set_cons_zero, List.set_cons_succ])
      refine takeF (i := 2) (v := ?_) rfl (by kernel_rfl) (by decide +kernel) (by decide +kernel) (fun _ _ _ h => h) (Or.inl ⟨by rfl, ?_⟩) hs.out ?_
      rotate_left
      · (intro w hSw; (try dsimp only at hSw); go_simp; try (with_reducible rfl))
      (try simp only [Act.put, List.setIfInBounds_toArray, List.set_cons_zero, List.set_cons_succ])
      refine takeF (i := 3) (v := ?_) rfl (by kernel_rfl) (by decide +kernel) (by decide +kernel) (fun _ _ _ h => h) (Or.inl ⟨by rfl, ?_⟩) hs.out ?_
      rotate_left
      · (intro w hSw; (try dsimp only at hSw); go_simp; try (with_reducible rfl))
      (try simp only [Act.put, List.setIfInBounds_toArray, List.set_cons_zero, List.set_cons_succ])
      refine takeF (i := 4) (v := ?_) rfl (by kernel_rfl) (by decide +kernel) (by decide +kernel) (fun _ _ _ h => h) (Or.inl ⟨by rfl, ?_⟩) hs.out ?_
      rotate_left
      · (intro w hSw; (try dsimp only at hSw); go_simp; try (with_reducible rfl))
      (try simp only [Act.put, List.setIfInBounds_toArray, List.set_cons_zero, List.set_cons_succ])
      refine takeF (i := 5) (v := ?_) rfl (by kernel_rfl) (by decide +kernel) (by decide +kernel) (fun _ _ _ h => h) (Or.inl ⟨by rfl, ?_⟩) hs.out ?_
      rotate_left
      · (intro w hSw; (try dsimp only at hSw); go_simp; try (with_reducible rfl))
      (try simp only [Act.put, List.setIfInBounds_toArray, List.set_cons_zero, List.set_cons_succ])
      refine takeF (i := 6) (v := ?_) rfl (by kernel_rfl) (by decide +kernel) (by decide +kernel) (fun _ _ _ h => h) (Or.inl ⟨by rfl, ?_⟩) hs.out ?_
      rotate_left
      · (intro w hSw; (try dsimp only at hSw); go_simp; try (with_reducible rfl))
      (try simp only [Act.put, List.setIfInBounds_toArray, List.set_cons_zero, List.set_cons_succ])
      refine takeF (i := 7) (v := ?_) rfl (by kernel_rfl) (by decide +kernel) (by decide +kernel) (fun _ _ _ h => h) (Or.inl ⟨by rfl, ?_⟩) hs.out ?_
      rotate_left
      · (intro w hSw; (try dsimp only at hSw); go_simp; try (with_reducible rfl))
      (try simp only [Act.put, List.setIfInBounds_toArray, List.set_cons_zero, List.set_cons_succ])
      refine wpAnyX_one (j := 8) (by decide +kernel) rfl (fun K' hK => ?_)
      refine step_callX rfl 27 #[.slice la l.length lc, .slice ma l.length mc] _ (run_si2 (v0 := .slice la l.length lc) (v1 := .slice ma l.length mc) (by rfl) (by rfl) (by rfl) _) (SC.out _ BD.out) ?_
      rintro e w3 ⟨rfl, b3⟩
      have B3 : Hid (Below wr.heap.size wr w3) := BD.out.trans b3
      clear b3 hs
      have hs : Hid ((fun w' : World => w'.cell? ⟨ab, ao + k, none⟩ = some (.slice la l.length lc) ∧ w'.cell? ⟨bb, bo + k, none⟩ = some (.slice ma l.length mc)) w3) := KS0.out _ B3.out
      refine ⟨_, rfl, hK.out _ _ hs.out ?_⟩
      clear hK K'
      (try simp only [Act.put, List.setIfInBounds_toArray, List.set_cons_zero, List.set_cons_succ])
      refine takeF (i := 9) (v := ?_) rfl (by kernel_rfl) (by decide +kernel) (by decide +kernel) (fun _ _ _ h => h) (Or.inl ⟨by rfl, ?_⟩) hs.out ?_
      rotate_left
      · (intro w hSw; (try dsimp only at hSw); go_simp; try (with_reducible rfl))
      (try simp only [Act.put, List.setIfInBounds_toArray, List.set_cons_zero, List.set_cons_succ])
      refine wpAnyX_done (by decide +kernel) ?_
      clear hs
      have W3 : Hid (Below w.heap.size w w3) := HB.out.trans (B3.out.mono HB.out.size)
      go_wp2
      go_roundw
      case rel => exact ⟨k + 1, by omega, by go_num, W3.out⟩
      case measure => simp [intOf]; omega
    · obtain rfl : k = L.length := by omega
      clear hbw
      go_wp2
      go_ret
      exact ⟨rfl, HB.out⟩
end Go.Proofs.Ytflcnlefcnclkaa
