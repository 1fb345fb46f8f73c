import Derived.Test.YtnhfnihdikammabSDoes
namespace Go.Proofs.Ytnhfnihdikammab
set_option linter.unusedVariables false
open Go.RowKit Go.Maps

theorem nameF_no {ts ns : List ByteArray} {k n : Int} {x : ByteArray} (h : nameF ts ns k n = (x, false)) : x = ⟨#[]⟩ := by
  unfold nameF at h
  repeat' split at h
  all_goals simp at h
  all_goals exact h.symm
set_option maxRecDepth 100000 in
set_option maxHeartbeats 2000000 in
theorem does_name {B : Nat} {w : World} {p g b q : Nat} {T N T2 N2 : Value} {D : DataW Unit} {ts ns : List ByteArray} (h : Two B w p g b q T N D T2 N2 ts ns) (s : ByteArray) (k n x y : Int) :
    Calls Try.prog 10 #[.pointer (some ⟨p, 0, none⟩), .pointer (some ⟨q, 0, none⟩), opV 3 s k n x y] w (Done B w p g b q) := by
  have hA := h.later (below_alloc w (opC 3 s k n x y))
  have oA := opAt_new w 3 s k n x y
  obtain ⟨nm, ok, HN⟩ : ∃ nm ok, Hid (nameF ts ns k n = (nm, ok)) := ⟨_, _, rfl⟩
  have hok : ok = true ∨ ok = false ∧ nm = ⟨#[]⟩ := by
    cases ok
    · exact .inr ⟨rfl, nameF_no HN.out⟩
    · exact .inl rfl
  have HOK : Hid (ok = true ∨ ok = false ∧ nm = ⟨#[]⟩) := hok
  have tl := h.rf.tl
  have nl := h.rf.nl
  have cN : ∀ w', Below (w.alloc (opC 3 s k n x y)).heap.size (w.alloc (opC 3 s k n x y)) w' → Calls Try.prog 38 #[T2, N2, .agg #[.int .i64 k, .int .i64 n]] w' fun e w'' => e = .returned (.tuple #[.string nm, .bool ok]) ∧ Below w'.heap.size w' w'' := fun w' hb => by
    have h' := hA.rf.later hb
    obtain ⟨ta, tc, rfl, hr, _, _⟩ := h'.tn.row
    obtain ⟨na, nc, rfl, hr', _, _⟩ := h'.nn.row
    have := refname_any ta na ts.length ns.length tc nc ts ns k n w' rfl rfl hr hr' (by omega) (by omega)
    rw [HN.out] at this
    exact this
  have HL : Hid (B ≤ w.heap.size) := h.lo.2.2.2.2
  have er1 : (nm.toList == nm.toList) = true := by simp
  have cP := name_core hA.bk k n nm ok HN.out HOK.out
  have oc := oA.cells
  obtain ⟨o0, o1, o2, o3, o4, o5, ol⟩ := oc
  clear h tl nl
  rcases hok with rfl | ⟨rfl, _⟩
  all_goals
    go_enter Try.func10, Try.ntmps10
    go_wp2_with (first | (go_at_call 37; refine cP.mono ?_; rintro e w1 ⟨rfl, hb1⟩))
    refine wp_world (fun w5 => Below (w.alloc (opC 3 s k n x y)).heap.size (w.alloc (opC 3 s k n x y)) w5) hb1 ?_
    clear hb1
    intro w5 hb5
    have h5 := hA.rf.later hb5
    have q0 : w5.cell? ⟨q, 0, none⟩ = some T2 := by rw [cellq_any h5.hq]; rfl
    have q1 : w5.cell? ⟨q, 1, none⟩ = some N2 := by rw [cellq_any h5.hq]; rfl
    have lq := lt_of_block h5.hq
    obtain ⟨_, _, p2, p3, _, _, pl⟩ := (oA.later hb5).cells
    have x0 := fun z : Ext w5 => (z.cell (a := ⟨q, 0, none⟩) lq).trans q0
    have x1 := fun z : Ext w5 => (z.cell (a := ⟨q, 1, none⟩) lq).trans q1
    have x2 := fun z : Ext w5 => (z.cell (a := ⟨w.heap.size, 2, none⟩) pl).trans p2
    have x3 := fun z : Ext w5 => (z.cell (a := ⟨w.heap.size, 3, none⟩) pl).trans p3
    have cE : ∀ z : Ext w5, Calls Try.prog 38 #[T2, N2, .agg #[.int .i64 k, .int .i64 n]] z.w fun e w'' => e = .returned (.tuple #[.string nm, .bool _]) ∧ Below z.w.heap.size z.w w'' := fun z => cN z.w (hb5.trans (z.h.mono hb5.size))
    refine wp_region_ext (by kernel_rfl) (by kernel_rfl) ?_
    repeat (quiet_step (first | (go_at_call 38; exact Calls.ext_of (cE _))))
    refine wpQuiet_nil ?_
    rintro _ ⟨x6, rfl⟩
    go_wp2_with (first | (go_at_call 33; refine (num_any _ _).mono ?_; rintro e w' ⟨rfl, rfl⟩))
    go_ret
    have b6 := hb5.trans (x6.h.mono hb5.size)
    exact ⟨rfl, _, _, _, _, _, _, _, hA.later b6, ((below_alloc w _).mono HL.out).trans (b6.mono (by have := HL.out; simp; omega))⟩
set_option maxRecDepth 100000 in
set_option maxHeartbeats 2000000 in
theorem does_undo_no {B : Nat} {w : World} {p g b q : Nat} {T N T2 N2 : Value} {D : DataW Unit} {ts ns : List ByteArray} (h : Two B w p g b q T N D T2 N2 ts ns) (kd : Int) (s : ByteArray) (k n x y : Int) (hk : kd ≠ 0 ∧ kd ≠ 1 ∧ kd ≠ 2 ∧ kd ≠ 3) (hbad : ¬ (0 ≤ x ∧ x ≤ ts.length ∧ 0 ≤ y ∧ y ≤ ns.length)) :
    Calls Try.prog 10 #[.pointer (some ⟨p, 0, none⟩), .pointer (some ⟨q, 0, none⟩), opV kd s k n x y] w (Done B w p g b q) := by
  have hA := h.later (below_alloc w (opC kd s k n x y))
  have oA := opAt_new w kd s k n x y
  have HL : Hid (B ≤ w.heap.size) := h.lo.2.2.2.2
  have k0 : (kd == 0) = false := by simp [hk.1]
  have k1 : (kd == 1) = false := by simp [hk.2.1]
  have k2 : (kd == 2) = false := by simp [hk.2.2.1]
  have k3 : (kd == 3) = false := by simp [hk.2.2.2]
  have cU : ∀ z : Ext (w.alloc (opC kd s k n x y)), Calls Try.prog 24 #[.pointer (some ⟨p, 0, none⟩), .agg #[.int .i64 x, .int .i64 y]] z.w fun e w' => e = .returned (.int .i64 4) ∧ Below z.w.heap.size z.w w' := fun z => undo_no (hA.bk.later z.h) x y hbad
  have cR : ∀ z : Ext (w.alloc (opC kd s k n x y)), Calls Try.prog 39 #[.pointer (some ⟨q, 0, none⟩), .agg #[.int .i64 x, .int .i64 y]] z.w fun e w' => e = .returned (.int .i64 4) ∧ Below z.w.heap.size z.w w' := fun z => refUndo_no (hA.rf.later z.h) x y hbad
  obtain ⟨o0, o1, o2, o3, o4, o5, ol⟩ := oA.cells
  have x4 := fun z : Ext (w.alloc (opC kd s k n x y)) => (z.cell (a := ⟨w.heap.size, 4, none⟩) ol).trans o4
  have x5 := fun z : Ext (w.alloc (opC kd s k n x y)) => (z.cell (a := ⟨w.heap.size, 5, none⟩) ol).trans o5
  clear hk hbad h
  go_enter Try.func10, Try.ntmps10
  go_wp2
  refine wp_region_ext (by kernel_rfl) (by kernel_rfl) ?_
  repeat (quiet_step (first
    | (go_at_call 24; exact Calls.ext_of (cU _))
    | (go_at_call 39; exact Calls.ext_of (cR _))
    | (go_at_call 33; exact Calls.ext_of_same (num_any _ _))))
  refine wpQuiet_nil ?_
  rintro _ ⟨x6, rfl⟩
  go_wp2
  go_ret
  exact ⟨rfl, _, _, _, _, _, _, _, hA.later x6.h, ((below_alloc w _).mono HL.out).trans (x6.h.mono (by have := HL.out; simp; omega))⟩
end Go.Proofs.Ytnhfnihdikammab
