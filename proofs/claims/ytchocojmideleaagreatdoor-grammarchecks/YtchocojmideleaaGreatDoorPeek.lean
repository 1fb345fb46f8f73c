import Derived.Test.YtchocojmideleaaGreatDoorReaderToCanon
namespace Go.Proofs.YtchocojmideleaaGreatDoor.C
set_option linter.unusedVariables false
open Go.RowKit

/-- 'data[at:]': what it makes, whatever the address. -/
theorem slice_from {w0 : World} {r : Nat} {ao : Option Addr} {N cap : Nat} {xs : List Int} {pos : Nat} {err : Int} (h : RInv w0 r ao N cap xs pos err) :
    ∃ ao' c', (∀ w, (Instr.slice 68 (.slice ao N cap) (some (.int .i64 pos)) none none).run Tryz.prog w = .ok (.slice ao' (N - pos) c') w) ∧ ∀ w, RowAt w ao xs → RowAt w ao' (xs.drop pos) := by
  have hN := h.len
  have hp := h.pos
  have hc := h.cap
  obtain ⟨i0, hi, _, hz1, _⟩ := info_parts info5
  have hu : Tryz.prog.underlying 68 = some (.slice (Tryz.prog.elem 68)) := by kernel_rfl
  have he : Tryz.prog.elem 68 = 5 := by kernel_rfl
  have hrun : ∀ w : World, (Instr.slice 68 (.slice ao N cap) (some (.int .i64 pos)) none none).run Tryz.prog w = .ok (sliced ao pos N cap 1) w := by
    intro w
    have := run_slice_l (P := Tryz.prog) (w := w) 68 ao N cap hu .i64 pos (by omega) (by omega)
    rw [this, he]
    simp [sizeOf, typeInfo, hi, hz1]
  refine ⟨_, _, fun w => by rw [hrun w]; rfl, fun w hr => ?_⟩
  by_cases hcp : cap = pos
  · rw [if_pos hcp, List.drop_eq_nil_of_le (by omega)]
    exact RowAt.nil _ _
  · rw [if_neg hcp]
    rcases h.shape with rfl | ⟨g, rfl⟩
    · have hx : xs = [] := by
        by_cases hx : xs = []
        · exact hx
        · obtain ⟨b, off, he, _⟩ := hr.2 hx; cases he
      subst hx
      simpa using RowAt.nil w none
    · simp only [Option.map_some, Nat.mul_one]
      rw [add_none]
      exact hr.drop pos

theorem parsenum_q (ao : Option Addr) (N cap : Nat) (xs : List Int) (w : World) (n s e : Int) (hp : parse xs = (n, s, e)) (hN : N = xs.length) (hl : xs.length ≤ 140737488355328) (hr : RowAt w ao xs) :
    Calls Tryz.prog 143 #[.slice ao N cap] w fun r w' => r = .returned (.tuple #[.int .u64 n, .int .i64 s, .int .i64 e]) ∧ w' = w :=
  (parsenum_eq ao N cap xs w n s e hp hN hl hr).mono fun _ _ h => ⟨h.1, h.2.symm⟩
theorem RInv.patched {w wA wB : World} {r : Nat} {ao : Option Addr} {N cap : Nat} {xs : List Int} {p0 pos : Nat} {e0 err : Int} (h0 : RInv w r ao N cap xs p0 e0) (hA : RInv wA r ao N cap xs pos err) (hb : Below w.heap.size wA wB) : RInv wB r ao N cap xs pos err := by
  refine ⟨(hb.block r h0.lt).trans hA.hr, hA.len, ⟨hA.row.1, fun hne => ?_⟩, hA.nil, hA.cap, hA.pos, hA.lim, hA.shape⟩
  obtain ⟨b, off, he, hc⟩ := hA.row.2 hne
  obtain ⟨b', off', he', hc'⟩ := h0.row.2 hne
  rw [he] at he'
  simp only [Option.some.injEq, Addr.mk.injEq, and_true] at he'
  obtain ⟨rfl, rfl⟩ := he'
  exact ⟨b, off, he, fun i hi => (hb.cell (p := ⟨b, off + i, none⟩) (World.block_lt_of_cell? w _ (hc' i hi))).trans (hc i hi)⟩
theorem ROnly.patched {w wA wB : World} {r : Nat} (h : ROnly w wA r) (hb : Below w.heap.size wA wB) : ROnly w wB r :=
  ⟨hb.os.trans h.os, hb.tape.trans h.tape, hb.output.trans h.output, Nat.le_trans h.size hb.size, fun k hk hr => (hb.block k hk).trans (h.block k hk hr)⟩
theorem two_sets {w wA : World} (o : Nat) (u v : Value) (o' : Nat) : Below w.heap.size wA ((wA.setCell ⟨w.heap.size, o, none⟩ u).setCell ⟨w.heap.size, o', none⟩ v) :=
  ((Below.refl _ _).setCell (p := ⟨w.heap.size, o, none⟩) (Nat.le_refl _) u).setCell (p := ⟨w.heap.size, o', none⟩) (Nat.le_refl _) v
/-- What peek sees: number, size, error. -/
def peekS (xs : List Int) (pos : Nat) (most : Int) : Int × Int × Int :=
  if (parse (xs.drop pos)).2.2 ≠ 0 then (0, 0, (parse (xs.drop pos)).2.2)
  else if most < (parse (xs.drop pos)).1 then (0, 0, 4)
  else ((parse (xs.drop pos)).1, (parse (xs.drop pos)).2.1, 0)
def PeekEnds (r : Nat) (ao : Option Addr) (N cap : Nat) (xs : List Int) (pos : Nat) (n s err : Int) (w : World) (e : Ending) (w' : World) : Prop :=
  e = .returned (.agg #[.int .u64 n, .int .i64 s]) ∧ RInv w' r ao N cap xs pos err ∧ ROnly w w' r

set_option maxRecDepth 100000 in
set_option maxHeartbeats 800000 in
theorem peek_none {w : World} {r : Nat} {ao : Option Addr} {N cap : Nat} {xs : List Int} {pos : Nat} {err : Int} (most : Int) (h : RInv w r ao N cap xs pos err) (hne : (err == 0) = false) :
    Calls Tryz.prog 204 #[.pointer (some ⟨r, 0, none⟩), .int .u64 most] w (PeekEnds r ao N cap xs pos 0 0 err w) := by
  have h1 := h.later (below_alloc w (.cells #[.int .u64 0, .int .i64 0] 256))
  go_enter Tryz.func204, Tryz.ntmps204
  go_wp2_with (go_at_call 203; refine (rready_any h1).mono ?_; rintro e w' ⟨rfl, rfl⟩)
  go_returns
  exact ⟨rfl, h1, ROnly.ofBelow (below_alloc _ _)⟩

set_option maxRecDepth 100000 in
set_option maxHeartbeats 800000 in
theorem peek_err {w : World} {r : Nat} {ao : Option Addr} {N cap : Nat} {xs : List Int} {pos : Nat} (most : Int) (h : RInv w r ao N cap xs pos 0) (n s ep : Int) (hp : parse (xs.drop pos) = (n, s, ep)) (hne : ep ≠ 0) :
    Calls Tryz.prog 204 #[.pointer (some ⟨r, 0, none⟩), .int .u64 most] w (PeekEnds r ao N cap xs pos 0 0 ep w) := by
  have h1 := h.later (below_alloc w (.cells #[.int .u64 0, .int .i64 0] 256))
  have c1 := h1.c1
  have c2 := h1.c2
  have hrw := h1.lt
  obtain ⟨ao', c', hsl, hrow⟩ := slice_from h
  have HR : Hid _ := hrow
  have HP : Hid _ := hp
  have HN : Hid (N - pos = (xs.drop pos).length) := by show _ = _; rw [h.len]; simp
  have HL : Hid ((xs.drop pos).length ≤ 140737488355328) := by show _ ≤ _; have := h.lim; simp; omega
  have hb : (ep == 0) = false := by simpa using hne
  have hb' : (ep != 0) = true := by simpa using hne
  clear hrow hp hne
  go_enter Tryz.func204, Tryz.ntmps204
  go_wp2_with (go_at_call 203; refine (rready_any h1).mono ?_; rintro e w' ⟨rfl, rfl⟩)
  go_quiet ((go_at_call 143; exact Calls.quiet_of_same (parsenum_q _ _ _ (xs.drop pos) _ n s ep HP.out HN.out HL.out (HR.out _ (h1.drewN _).row))))
  go_wp2_with (go_at_call 183; refine (rfail_ok ep (h1.drewN _)).mono ?_; rintro e w' ⟨rfl, rfl⟩)
  go_returns
  exact ⟨rfl, h.patched ((h1.drewN _).setErr ep) (two_sets _ _ _ _), ((ROnly.ofBelow (below_drewN (below_alloc _ _) _)).trans (ROnly.set _ _ _ _)).patched (two_sets _ _ _ _)⟩

set_option maxRecDepth 100000 in
set_option maxHeartbeats 800000 in
theorem peek_big {w : World} {r : Nat} {ao : Option Addr} {N cap : Nat} {xs : List Int} {pos : Nat} (most : Int) (h : RInv w r ao N cap xs pos 0) (n s : Int) (hp : parse (xs.drop pos) = (n, s, 0)) (hn : most < n) :
    Calls Tryz.prog 204 #[.pointer (some ⟨r, 0, none⟩), .int .u64 most] w (PeekEnds r ao N cap xs pos 0 0 4 w) := by
  have h1 := h.later (below_alloc w (.cells #[.int .u64 0, .int .i64 0] 256))
  have c1 := h1.c1
  have c2 := h1.c2
  have hrw := h1.lt
  obtain ⟨ao', c', hsl, hrow⟩ := slice_from h
  have HR : Hid _ := hrow
  have HP : Hid _ := hp
  have HN : Hid (N - pos = (xs.drop pos).length) := by show _ = _; rw [h.len]; simp
  have HL : Hid ((xs.drop pos).length ≤ 140737488355328) := by show _ ≤ _; have := h.lim; simp; omega
  clear hrow hp
  go_enter Tryz.func204, Tryz.ntmps204
  go_wp2_with (go_at_call 203; refine (rready_any h1).mono ?_; rintro e w' ⟨rfl, rfl⟩)
  go_quiet ((go_at_call 143; exact Calls.quiet_of_same (parsenum_q _ _ _ (xs.drop pos) _ n s 0 HP.out HN.out HL.out (HR.out _ (h1.drewN _).row))))
  go_wp2_with (go_at_call 183; refine (rfail_ok 4 (h1.drewN _)).mono ?_; rintro e w' ⟨rfl, rfl⟩)
  go_returns
  exact ⟨rfl, h.patched ((h1.drewN _).setErr 4) (two_sets _ _ _ _), ((ROnly.ofBelow (below_drewN (below_alloc _ _) _)).trans (ROnly.set _ _ _ _)).patched (two_sets _ _ _ _)⟩

set_option maxRecDepth 100000 in
set_option maxHeartbeats 800000 in
theorem peek_ok {w : World} {r : Nat} {ao : Option Addr} {N cap : Nat} {xs : List Int} {pos : Nat} (most : Int) (h : RInv w r ao N cap xs pos 0) (n s : Int) (hp : parse (xs.drop pos) = (n, s, 0)) (hn : ¬ most < n) :
    Calls Tryz.prog 204 #[.pointer (some ⟨r, 0, none⟩), .int .u64 most] w (PeekEnds r ao N cap xs pos n s 0 w) := by
  have h1 := h.later (below_alloc w (.cells #[.int .u64 0, .int .i64 0] 256))
  have c1 := h1.c1
  have c2 := h1.c2
  have hrw := h1.lt
  obtain ⟨ao', c', hsl, hrow⟩ := slice_from h
  have HR : Hid _ := hrow
  have HP : Hid _ := hp
  have HN : Hid (N - pos = (xs.drop pos).length) := by show _ = _; rw [h.len]; simp
  have HL : Hid ((xs.drop pos).length ≤ 140737488355328) := by show _ ≤ _; have := h.lim; simp; omega
  clear hrow hp
  go_enter Tryz.func204, Tryz.ntmps204
  go_wp2_with (go_at_call 203; refine (rready_any h1).mono ?_; rintro e w' ⟨rfl, rfl⟩)
  go_quiet ((go_at_call 143; exact Calls.quiet_of_same (parsenum_q _ _ _ (xs.drop pos) _ n s 0 HP.out HN.out HL.out (HR.out _ (h1.drewN _).row))))
  go_wp2
  go_returns
  exact ⟨rfl, h.patched (h1.drewN _) (two_sets _ _ _ _), (ROnly.ofBelow (below_drewN (below_alloc _ _) _)).patched (two_sets _ _ _ _)⟩

/-- peek of a reader without an error. -/
theorem peek_any {w : World} {r : Nat} {ao : Option Addr} {N cap : Nat} {xs : List Int} {pos : Nat} (most : Int) (h : RInv w r ao N cap xs pos 0) :
    Calls Tryz.prog 204 #[.pointer (some ⟨r, 0, none⟩), .int .u64 most] w (PeekEnds r ao N cap xs pos (peekS xs pos most).1 (peekS xs pos most).2.1 (peekS xs pos most).2.2 w) := by
  obtain ⟨n, s, ep, hp⟩ : ∃ n s e, parse (xs.drop pos) = (n, s, e) := ⟨_, _, _, rfl⟩
  rw [peekS, hp]
  by_cases h1 : ep = 0
  · subst h1
    rw [if_neg (by simp)]
    by_cases h2 : most < n
    · rw [if_pos h2]; exact peek_big most h n s hp h2
    · rw [if_neg h2]; exact peek_ok most h n s hp h2
  · rw [if_pos h1]; exact peek_err most h n s ep hp h1
end Go.Proofs.YtchocojmideleaaGreatDoor.C
