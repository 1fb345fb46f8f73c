import Derived.Test.YtfckmbdcfeljiaaDoorLive
namespace Go.Proofs.YtfckmbdcfeljiaaDoor
set_option linter.unusedVariables false
open Go.RowKit

/-- A reader that NewReader made: block r; it goes over xs; pos bytes are read; the first error. -/
structure RInv (w : World) (r : Nat) (ao : Option Addr) (N cap : Nat) (xs : List Int) (pos : Nat) (err : Int) : Prop where
  hr : w.heap[r]? = some (.cells #[.bool true, .slice ao N cap, .int .i64 pos, .int .i64 err] 67 (0, 0))
  len : N = xs.length
  row : RowAt w ao xs
  nil : ao = none → cap = 0
  cap : xs.length ≤ cap
  pos : pos ≤ xs.length
  lim : xs.length ≤ 140737488355328
  shape : ao = none ∨ ∃ g, ao = some ⟨g, 0, none⟩
/-- Of the old blocks r alone may have turned. -/
structure ROnly (w w' : World) (r : Nat) : Prop where
  os : w'.os = w.os
  tape : w'.tape = w.tape
  output : w'.output = w.output
  size : w.heap.size ≤ w'.heap.size
  block : ∀ k, k < w.heap.size → k ≠ r → w'.heap[k]? = w.heap[k]?
theorem ROnly.refl (w : World) (r : Nat) : ROnly w w r := ⟨rfl, rfl, rfl, Nat.le_refl _, fun _ _ _ => rfl⟩
theorem ROnly.trans {a b c : World} {r : Nat} (h : ROnly a b r) (k : ROnly b c r) : ROnly a c r :=
  ⟨k.os.trans h.os, k.tape.trans h.tape, k.output.trans h.output, Nat.le_trans h.size k.size, fun i hi hr => (k.block i (Nat.lt_of_lt_of_le hi h.size) hr).trans (h.block i hi hr)⟩
theorem ROnly.ofBelow {w w' : World} {r : Nat} (h : Below w.heap.size w w') : ROnly w w' r := ⟨h.os, h.tape, h.output, h.size, fun k hk _ => h.block k hk⟩
theorem ROnly.below {w w' : World} {r B : Nat} (h : ROnly w w' r) (hB : B ≤ r) (hw : B ≤ w.heap.size) : Below B w w' := ⟨h.os, h.tape, h.output, h.size, fun k hk => h.block k (by omega) (by omega)⟩
theorem ROnly.set (w : World) (r o : Nat) (u : Value) : ROnly w (w.setCell ⟨r, o, none⟩ u) r := ⟨rfl, rfl, rfl, by simp [World.setCell], fun k _ hk => Below.heap_setCell _ _ _ _ hk⟩
section
variable {w : World} {r : Nat} {ao : Option Addr} {N cap : Nat} {xs : List Int} {pos : Nat} {err : Int}
theorem RInv.c0 (h : RInv w r ao N cap xs pos err) : w.cell? ⟨r, 0, none⟩ = some (.bool true) := by simp [World.cell?, h.hr]
theorem RInv.c1 (h : RInv w r ao N cap xs pos err) : w.cell? ⟨r, 1, none⟩ = some (.slice ao N cap) := by simp [World.cell?, h.hr]
theorem RInv.c2 (h : RInv w r ao N cap xs pos err) : w.cell? ⟨r, 2, none⟩ = some (.int .i64 pos) := by simp [World.cell?, h.hr]
theorem RInv.c3 (h : RInv w r ao N cap xs pos err) : w.cell? ⟨r, 3, none⟩ = some (.int .i64 err) := by simp [World.cell?, h.hr]
theorem RInv.f2 (h : RInv w r ao N cap xs pos err) : w.frozen? ⟨r, 2, none⟩ = false := by simp [World.frozen?, h.hr]
theorem RInv.f3 (h : RInv w r ao N cap xs pos err) : w.frozen? ⟨r, 3, none⟩ = false := by simp [World.frozen?, h.hr]
theorem RInv.lt (h : RInv w r ao N cap xs pos err) : r < w.heap.size := lt_of_block h.hr
/-- The bytes do not lie in the reader's own block. -/
theorem RInv.apart (h : RInv w r ao N cap xs pos err) {b off : Nat} (e : ao = some ⟨b, off, none⟩) (hne : xs ≠ []) : b ≠ r := by
  intro hb
  subst hb
  obtain ⟨b', off', he, hc⟩ := h.row.2 hne
  rw [e] at he
  simp only [Option.some.injEq, Addr.mk.injEq, and_true] at he
  obtain ⟨rfl, rfl⟩ := he
  have h0 := hc 0 (List.length_pos_iff.2 hne)
  simp only [World.cell?, h.hr, Nat.add_zero] at h0
  match off, h0 with
  | 0, h0 => simp at h0
  | 1, h0 => simp at h0
  | 2, h0 => simp at h0
  | 3, h0 => simp at h0
  | n + 4, h0 => simp at h0
theorem RInv.rowOnly (h : RInv w r ao N cap xs pos err) {w' : World} (hb : ∀ k, k < w.heap.size → k ≠ r → w'.heap[k]? = w.heap[k]?) : RowAt w' ao xs := by
  refine ⟨h.row.1, fun hne => ?_⟩
  obtain ⟨b, off, he, hc⟩ := h.row.2 hne
  refine ⟨b, off, he, fun i hi => ?_⟩
  have hlt := World.block_lt_of_cell? w _ (hc i hi)
  exact (World.cell?_of_block (a := ⟨b, off + i, none⟩) (hb b hlt (h.apart he hne))).trans (hc i hi)
/-- It stays while other blocks turn. -/
theorem RInv.kept (h : RInv w r ao N cap xs pos err) {w' : World} (hr : w'.heap[r]? = w.heap[r]?) (hb : ∀ k, k < w.heap.size → k ≠ r → w'.heap[k]? = w.heap[k]?) : RInv w' r ao N cap xs pos err :=
  ⟨hr.trans h.hr, h.len, h.rowOnly hb, h.nil, h.cap, h.pos, h.lim, h.shape⟩
theorem RInv.later (h : RInv w r ao N cap xs pos err) {w' : World} (hb : Below w.heap.size w w') : RInv w' r ao N cap xs pos err := h.kept (hb.block r h.lt) (fun k hk _ => hb.block k hk)
theorem RInv.drewN (h : RInv w r ao N cap xs pos err) (n : Nat) : RInv (w.drewN n) r ao N cap xs pos err := h.later (below_drewN (Below.refl _ _) n)
theorem RInv.setErr (h : RInv w r ao N cap xs pos err) (e : Int) : RInv (w.setCell ⟨r, 3, none⟩ (.int .i64 e)) r ao N cap xs pos e :=
  ⟨by rw [heap_set h.hr]; rfl, h.len, h.rowOnly (fun k _ hk => Below.heap_setCell _ _ _ _ hk), h.nil, h.cap, h.pos, h.lim, h.shape⟩
theorem RInv.setPos (h : RInv w r ao N cap xs pos err) (q : Nat) (hq : q ≤ xs.length) : RInv (w.setCell ⟨r, 2, none⟩ (.int .i64 q)) r ao N cap xs q err :=
  ⟨by rw [heap_set h.hr]; rfl, h.len, h.rowOnly (fun k _ hk => Below.heap_setCell _ _ _ _ hk), h.nil, h.cap, hq, h.lim, h.shape⟩

theorem rready_any (h : RInv w r ao N cap xs pos err) : Calls Tryd.prog 80 #[.pointer (some ⟨r, 0, none⟩)] w fun e w' => e = .returned (.bool (err == 0)) ∧ w = w' := by
  have h0 := h.c0
  have h3 := h.c3
  go_enter Tryd.func80, Tryd.ntmps80
  go_wp2
  go_ret
  exact ⟨rfl, rfl⟩
theorem rat_any (h : RInv w r ao N cap xs pos err) : Calls Tryd.prog 17 #[.pointer (some ⟨r, 0, none⟩)] w fun e w' => e = .returned (.int .i64 pos) ∧ w = w' := by
  have h2 := h.c2
  go_enter Tryd.func17, Tryd.ntmps17
  go_wp2
  go_ret
  exact ⟨rfl, rfl⟩
theorem rleft_any (h : RInv w r ao N cap xs pos err) : Calls Tryd.prog 63 #[.pointer (some ⟨r, 0, none⟩)] w fun e w' => e = .returned (.int .i64 ((N : Int) - pos)) ∧ ∃ n, w' = w.drewN n := by
  have h1 := h.c1
  have h2 := h.c2
  have hp := h.pos
  have hl := h.lim
  have hlen := h.len
  have hpN : pos ≤ N := by omega
  have hN : N ≤ 140737488355328 := by omega
  clear hlen hp hl
  go_enter Tryd.func63, Tryd.ntmps63
  go_wp2
  go_quiet (fail)
  go_wp2
  go_ret
  exact ⟨rfl, _, rfl⟩
end
theorem rfail_ok {w : World} {r : Nat} {ao : Option Addr} {N cap : Nat} {xs : List Int} {pos : Nat} (e : Int) (h : RInv w r ao N cap xs pos 0) : Calls Tryd.prog 56 #[.pointer (some ⟨r, 0, none⟩), .int .i64 e] w fun x w' => x = .returned (.tuple #[]) ∧ w' = w.setCell ⟨r, 3, none⟩ (.int .i64 e) := by
  have h3 := h.c3
  have hf := h.f3
  go_enter Tryd.func56, Tryd.ntmps56
  go_wp2_with (go_at_call 80; refine (rready_any h).mono ?_; rintro e w' ⟨rfl, rfl⟩)
  go_end0
  exact ⟨rfl, rfl⟩
theorem rfail_no {w : World} {r : Nat} {ao : Option Addr} {N cap : Nat} {xs : List Int} {pos : Nat} {err : Int} (e : Int) (h : RInv w r ao N cap xs pos err) (hne : (err == 0) = false) : Calls Tryd.prog 56 #[.pointer (some ⟨r, 0, none⟩), .int .i64 e] w fun x w' => x = .returned (.tuple #[]) ∧ w = w' := by
  go_enter Tryd.func56, Tryd.ntmps56
  go_wp2_with (go_at_call 80; refine (rready_any h).mono ?_; rintro e w' ⟨rfl, rfl⟩)
  go_end0
  exact ⟨rfl, rfl⟩
theorem rmove_none {w : World} {r : Nat} : Calls Tryd.prog 75 #[.pointer (some ⟨r, 0, none⟩), .int .i64 0] w fun x w' => x = .returned (.tuple #[]) ∧ w = w' := by
  go_enter Tryd.func75, Tryd.ntmps75
  go_wp2
  go_end0
  exact ⟨rfl, rfl⟩
theorem rmove_some {w : World} {r : Nat} {ao : Option Addr} {N cap : Nat} {xs : List Int} {pos : Nat} {err : Int} (s : Nat) (h : RInv w r ao N cap xs pos err) (h0 : 0 < s) (h1 : s ≤ 140737488355328) : Calls Tryd.prog 75 #[.pointer (some ⟨r, 0, none⟩), .int .i64 s] w fun x w' => x = .returned (.tuple #[]) ∧ w' = w.setCell ⟨r, 2, none⟩ (.int .i64 ((pos + s : Nat) : Int)) := by
  have h2 := h.c2
  have hf := h.f2
  have hp : pos ≤ 140737488355328 := Nat.le_trans h.pos h.lim
  go_enter Tryd.func75, Tryd.ntmps75
  go_wp2
  go_end0
  exact ⟨rfl, by simp⟩

theorem newreader_none (w : World) : Calls Tryd.prog 13 #[.slice none 0 0] w fun e w' => e = .returned (.pointer (some ⟨w.heap.size, 0, none⟩)) ∧ RInv w' w.heap.size none 0 0 [] 0 0 ∧ Below w.heap.size w w' := by
  go_enter Tryd.func13, Tryd.ntmps13
  go_wp2_with (go_at_call 27; refine (clone_nil w).mono ?_; rintro e w' ⟨rfl, rfl⟩)
  go_ret
  exact ⟨rfl, ⟨heap_alloc_new _ _, rfl, RowAt.nil _ _, fun _ => rfl, Nat.le_refl _, Nat.le_refl _, by simp, .inl rfl⟩, below_alloc _ _⟩
theorem newreader_some (ad : Addr) (cap : Nat) (xs : List Int) (w : World) (hl : xs.length ≤ 140737488355328) (hr : RowAt w (some ad) xs) : Calls Tryd.prog 13 #[.slice (some ad) xs.length cap] w fun e w' => ∃ r ao N c, e = .returned (.pointer (some ⟨r, 0, none⟩)) ∧ RInv w' r ao N c xs 0 0 ∧ w.heap.size ≤ r ∧ Below w.heap.size w w' := by
  go_enter Tryd.func13, Tryd.ntmps13
  go_wp2_with (go_at_call 27; refine (clone_at ad xs.length cap xs w rfl hl hr).mono ?_; rintro e w1 ⟨g, N1, c1, rfl, ho, hg, hb⟩)
  go_ret
  have hz := hb.size
  exact ⟨w1.heap.size, some ⟨g, 0, none⟩, N1, c1, rfl, ⟨heap_alloc_new _ _, (own_len ho).1, (own_len ho).2.1.later (below_alloc _ _), no_nil, own_cap ho, Nat.zero_le _, hl, .inr ⟨g, rfl⟩⟩, hz, hb.trans ((below_alloc w1 _).mono hz)⟩
theorem newreader_any (ao : Option Addr) (n cap : Nat) (xs : List Int) (w : World) (hn : n = xs.length) (hl : xs.length ≤ 140737488355328) (hr : RowAt w ao xs) (hc : ao = none → cap = 0) : Calls Tryd.prog 13 #[.slice ao n cap] w fun e w' => ∃ r ao N c, e = .returned (.pointer (some ⟨r, 0, none⟩)) ∧ RInv w' r ao N c xs 0 0 ∧ w.heap.size ≤ r ∧ Below w.heap.size w w' := by
  subst hn
  match ao with
  | none =>
    obtain rfl := hc rfl
    have hn : xs = [] := by
      by_cases hn : xs = []
      · exact hn
      · obtain ⟨b, off, he, _⟩ := hr.2 hn; cases he
    subst hn
    exact (newreader_none w).mono fun e w' ⟨h1, h2, h3⟩ => ⟨_, _, _, _, h1, h2, Nat.le_refl _, h3⟩
  | some ad => exact newreader_some ad cap xs w hl hr
end Go.Proofs.YtfckmbdcfeljiaaDoor
