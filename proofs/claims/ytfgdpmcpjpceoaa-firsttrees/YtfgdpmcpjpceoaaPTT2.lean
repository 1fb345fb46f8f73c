import Derived.Test.YtfgdpmcpjpceoaaPTT1
namespace Go.Proofs.Ytfgdpmcpjpceoaa
set_option linter.unusedVariables false
set_option maxRecDepth 100000
set_option maxHeartbeats 16000000
open Go.RowKit
theorem two_tbox (w : World) (g : GV) (t : TV) : Below w.heap.size w ((w.alloc (gBox g)).alloc (tBox t)) := (below_alloc w _).alloc (below_alloc w _).size _
theorem ps_cells {n : Nat} {w : World} {g : GV} (h : GAt n w g) {j : Nat} (hj : j < g.ps.length) : ∃ b off, g.pa = some ⟨b, off, none⟩ /\ b < w.heap.size /\ w.cell? ⟨b, off + j * 3, none⟩ = some (.int .i64 (g.ps.getD j .none).left) /\ w.cell? ⟨b, off + j * 3 + 1, none⟩ = some (.slice (g.ps.getD j .none).ra (g.ps.getD j .none).right.length (g.ps.getD j .none).rc) /\ SymRow w (g.ps.getD j .none).ra (g.ps.getD j .none).right := by
 obtain ⟨b, o, hpa, hbl, hc⟩ := h.p.cells (by intro e; rw [e] at hj; simp at hj)
 obtain ⟨c0, c1, c2⟩ := hc j hj
 exact ⟨b, o, hpa, hbl, c0, c1, h.p.rows _ (psD hj)⟩
theorem root_S (g : GV) (t : TV) (w : World) (h : GAt 140737488355328 w g) : Calls Try.prog 25 #[g.val, t.val] w fun e w' => e = .returned (.agg #[.int .i64 (rootU g t).1, .int .i64 (rootU g t).2]) /\ Below w.heap.size w w' := by
 have htl := h.tl
 have hpl := h.pl
 by_cases hp : t.prod = -1
 ·have e0 : (t.prod == -1) = true := by simpa using hp
  by_cases h1 : 0 <= t.kind
  ·by_cases h2 : t.kind < (g.ts.length : Int)
   ·have E : Hid (rootU g t = (1, t.kind)) := root_leaf hp h1 h2
    go_enter Try.func25, Try.ntmps25
    go_wp2
    refine bodyPost_ret (v := .agg #[.int .i64 1, .int .i64 t.kind]) (by simp [results, Try.results25, go_sem]) rfl ?_
    rw [E.out]
    exact ⟨rfl, (three_box w _ _ _).1⟩
   ·have E : Hid (rootU g t = (0, 0)) := by
     show _ = _
     unfold rootU
     rw [if_neg (by omega), if_neg (by omega)]
    have e1 : ¬ 0 <= t.prod := by omega
    go_enter Try.func25, Try.ntmps25
    go_wp2
    refine bodyPost_ret (v := .agg #[.int .i64 0, .int .i64 0]) (by simp [results, Try.results25, go_sem]) rfl ?_
    rw [E.out]
    exact ⟨rfl, (three_box w _ _ _).1⟩
  ·have E : Hid (rootU g t = (0, 0)) := by
    show _ = _
    unfold rootU
    rw [if_neg (by omega), if_neg (by omega)]
   have e1 : ¬ 0 <= t.prod := by omega
   go_enter Try.func25, Try.ntmps25
   go_wp2
   refine bodyPost_ret (v := .agg #[.int .i64 0, .int .i64 0]) (by simp [results, Try.results25, go_sem]) rfl ?_
   rw [E.out]
   exact ⟨rfl, (three_box w _ _ _).1⟩
 ·have e0 : (t.prod == -1) = false := by simpa using hp
  by_cases h1 : 0 <= t.prod
  ·by_cases h2 : t.prod < (g.ps.length : Int)
   ·have E : Hid (rootU g t = (2, (g.ps.getD t.prod.toNat .none).left)) := root_node h1 h2
    obtain ⟨j, hj⟩ : ∃ j : Nat, t.prod = (j : Int) := ⟨t.prod.toNat, by omega⟩
    have hjl : j < g.ps.length := by omega
    rw [hj] at e0 h1 h2
    rw [hj, Int.toNat_natCast] at E
    obtain ⟨pb, po, hpa, hbl, c0, c1, -⟩ := ps_cells h hjl
    have c0' : (((w.alloc (gBox g)).alloc (tBox t)).alloc (syBox 0 0)).cell? ⟨pb, po + j * 3, none⟩ = some (.int .i64 (g.ps.getD j .none).left) := ((three_box w _ _ _).1.cell (p := ⟨pb, po + j * 3, none⟩) hbl).trans c0
    unfold gBox tBox at c0'
    unfold GV.val TV.val
    rw [hpa, hj] at c0' ⊢
    clear hj hp c0 c1
    generalize (g.ps.getD j .none).left = lf at *
    go_enter Try.func25, Try.ntmps25
    go_wp2
    refine bodyPost_ret (v := .agg #[.int .i64 2, .int .i64 lf]) (by simp [results, Try.results25, go_sem]) rfl ?_
    rw [E.out]
    exact ⟨rfl, (three_box w _ _ _).1⟩
   ·have E : Hid (rootU g t = (0, 0)) := by
     show _ = _
     unfold rootU
     rw [if_neg (by omega), if_neg (by omega)]
    go_enter Try.func25, Try.ntmps25
    go_wp2
    refine bodyPost_ret (v := .agg #[.int .i64 0, .int .i64 0]) (by simp [results, Try.results25, go_sem]) rfl ?_
    rw [E.out]
    exact ⟨rfl, (three_box w _ _ _).1⟩
  ·have E : Hid (rootU g t = (0, 0)) := by
    show _ = _
    unfold rootU
    rw [if_neg (by omega), if_neg (by omega)]
   go_enter Try.func25, Try.ntmps25
   go_wp2
   refine bodyPost_ret (v := .agg #[.int .i64 0, .int .i64 0]) (by simp [results, Try.results25, go_sem]) rfl ?_
   rw [E.out]
   exact ⟨rfl, (three_box w _ _ _).1⟩
def alV (g : GV) (p k : Int) (x : ByteArray) (n : Nat) : Int :=
 if p = -1 then (if k < 0 ∨ (g.ts.length : Int) <= k ∨ 0 < n then 82 else 0)
 else if p < 0 ∨ (g.ps.length : Int) <= p ∨ k ≠ 0 ∨ x.toList ≠ [] ∨ n ≠ (g.ps.getD p.toNat .none).right.length then 81 else 0
theorem alU_V (g : GV) (t : TV) : alU g t = alV g t.prod t.kind t.tx t.kids.length := rfl
theorem alone_leaf (g : GV) (k : Int) (x : ByteArray) (ka : Option Addr) (n kc : Nat) (w : World) (h : GAt 140737488355328 w g) (hk : n <= 140737488355328) : Calls Try.prog 24 #[g.val, .agg #[.int .i64 (-1), .int .i64 k, .string x, .slice ka n kc]] w fun e w' => e = .returned (.int .i64 (alV g (-1) k x n)) /\ Below w.heap.size w w' := by
 have htl := h.tl
 have B0 : Hid (Below w.heap.size w ((w.alloc (gBox g)).alloc (.cells #[.int .i64 (-1), .int .i64 k, .string x, .slice ka n kc] 31))) := (below_alloc w _).alloc (below_alloc w _).size _
 by_cases h0 : k < 0
 ·have E : Hid (alV g (-1) k x n = 82) := by show _ = _; unfold alV; rw [if_pos rfl, if_pos (.inl h0)]
  go_enter Try.func24, Try.ntmps24
  go_wp2
  go_ret
  exact ⟨by rw [E.out]; rfl, B0.out⟩
 by_cases h1 : (g.ts.length : Int) <= k
 ·have E : Hid (alV g (-1) k x n = 82) := by show _ = _; unfold alV; rw [if_pos rfl, if_pos (.inr (.inl h1))]
  go_enter Try.func24, Try.ntmps24
  go_wp2
  go_ret
  exact ⟨by rw [E.out]; rfl, B0.out⟩
 by_cases h2 : 0 < n
 ·have E : Hid (alV g (-1) k x n = 82) := by show _ = _; unfold alV; rw [if_pos rfl, if_pos (.inr (.inr h2))]
  have h3' : (0 : Int) < (n : Int) := by omega
  go_enter Try.func24, Try.ntmps24
  go_wp2
  go_ret
  exact ⟨by rw [E.out]; rfl, B0.out⟩
 have E : Hid (alV g (-1) k x n = 0) := by show _ = _; unfold alV; rw [if_pos rfl, if_neg (by omega)]
 have h3' : ¬ (0 : Int) < (n : Int) := by omega
 go_enter Try.func24, Try.ntmps24
 go_wp2
 go_ret
 exact ⟨by rw [E.out]; rfl, B0.out⟩
set_option linter.unusedSimpArgs false in
theorem alone_neg (g : GV) (p k : Int) (x : ByteArray) (ka : Option Addr) (n kc : Nat) (w : World) (h : GAt 140737488355328 w g) (hk : n <= 140737488355328) (hp : p ≠ -1) (h1 : p < 0) : Calls Try.prog 24 #[g.val, .agg #[.int .i64 p, .int .i64 k, .string x, .slice ka n kc]] w fun e w' => e = .returned (.int .i64 (alV g p k x n)) /\ Below w.heap.size w w' := by
 have hpl := h.pl
 have e0 : (p == -1) = false := by simpa using hp
 have B0 : Hid (Below w.heap.size w ((w.alloc (gBox g)).alloc (.cells #[.int .i64 p, .int .i64 k, .string x, .slice ka n kc] 31)).drew) := ((below_alloc w _).alloc (below_alloc w _).size _).drew
 have X0 : ((w.alloc (gBox g)).alloc (.cells #[.int .i64 p, .int .i64 k, .string x, .slice ka n kc] 31)).drew.heap[w.heap.size]? = some (gBox g) := by
  show ((w.alloc (gBox g)).alloc (.cells #[.int .i64 p, .int .i64 k, .string x, .slice ka n kc] 31)).heap[w.heap.size]? = some (gBox g)
  rw [(below_alloc (w.alloc (gBox g)) _).block _ (by simp)]
  exact heap_alloc_new _ _
 have X1 : ((w.alloc (gBox g)).alloc (.cells #[.int .i64 p, .int .i64 k, .string x, .slice ka n kc] 31)).drew.heap[w.heap.size + 1]? = some (.cells #[.int .i64 p, .int .i64 k, .string x, .slice ka n kc] 31) := by
  have := heap_alloc_new (w.alloc (gBox g)) (.cells #[.int .i64 p, .int .i64 k, .string x, .slice ka n kc] 31)
  rwa [show (w.alloc (gBox g)).heap.size = w.heap.size + 1 by simp] at this
 obtain ⟨-, -, -, y3, -⟩ := gb_cells X0
 have z0 := (cellq_any (i := 0) X1).trans rfl
 have z1 := (cellq_any (i := 1) X1).trans rfl
 have z2 := (cellq_any (i := 2) X1).trans rfl
 have z3 := (cellq_any (i := 3) X1).trans rfl
 have E : Hid (alV g p k x n = 81) := by show _ = _; unfold alV; rw [if_neg hp, if_pos (.inl h1)]
 clear hp
 have hs : Hid ((fun w' : World => (w'.cell? ⟨w.heap.size, 3, none⟩ = some (.slice g.pa g.ps.length g.pc)) /\ w'.cell? ⟨w.heap.size + 1, 0, none⟩ = some (.int .i64 p) /\ w'.cell? ⟨w.heap.size + 1, 1, none⟩ = some (.int .i64 k) /\ w'.cell? ⟨w.heap.size + 1, 2, none⟩ = some (.string x) /\ w'.cell? ⟨w.heap.size + 1, 3, none⟩ = some (.slice ka n kc)) ((w.alloc (gBox g)).alloc (.cells #[.int .i64 p, .int .i64 k, .string x, .slice ka n kc] 31)).drew) := ⟨y3, z0, z1, z2, z3⟩
 clear y3 z0 z1 z2 z3 X0 X1
 go_enter Try.func24, Try.ntmps24
 go_wp2
 refine wp_region_x (S := fun _ => (fun w' : World => (w'.cell? ⟨w.heap.size, 3, none⟩ = some (.slice g.pa g.ps.length g.pc)) /\ w'.cell? ⟨w.heap.size + 1, 0, none⟩ = some (.int .i64 p) /\ w'.cell? ⟨w.heap.size + 1, 1, none⟩ = some (.int .i64 k) /\ w'.cell? ⟨w.heap.size + 1, 2, none⟩ = some (.string x) /\ w'.cell? ⟨w.heap.size + 1, 3, none⟩ = some (.slice ka n kc))) (by kernel_rfl) ?_
 refine takeF (i := 0) (v := ?_) rfl (by kernel_rfl) (by decide +kernel) (by decide +kernel) (fun _ _ _ h => h) (Or.inl ⟨by rfl, ?_⟩) hs.out ?_
 rotate_left
 ·(intro w hSw; (try dsimp only at hSw); go_simp; try (with_reducible rfl))
 (try simp only [Act.put, lsA, lsZ, lsN])
 refine takeF (i := 1) (v := ?_) rfl (by kernel_rfl) (by decide +kernel) (by decide +kernel) (fun _ _ _ h => h) (Or.inl ⟨by rfl, ?_⟩) hs.out ?_
 rotate_left
 ·(intro w hSw; (try dsimp only at hSw); go_simp; try (with_reducible rfl))
 (try simp only [Act.put, lsA, lsZ, lsN])
 refine takeF (i := 2) (v := ?_) rfl (by kernel_rfl) (by decide +kernel) (by decide +kernel) (fun _ _ _ h => h) (Or.inl ⟨by rfl, ?_⟩) hs.out ?_
 rotate_left
 ·(intro w hSw; (try dsimp only at hSw); go_simp; try (with_reducible rfl))
 (try simp only [Act.put, lsA, lsZ, lsN])
 refine takeF (i := 3) (v := ?_) rfl (by kernel_rfl) (by decide +kernel) (by decide +kernel) (fun _ _ _ h => h) (Or.inl ⟨by rfl, ?_⟩) hs.out ?_
 rotate_left
 ·(intro w hSw; (try dsimp only at hSw); go_simp; try (with_reducible rfl))
 (try simp only [Act.put, lsA, lsZ, lsN])
 refine takeF (i := 4) (v := undef) rfl (by kernel_rfl) (by decide +kernel) (by decide +kernel) (fun _ _ _ h => h) (Or.inr ⟨by rfl, rfl⟩) hs.out ?_
 (try simp only [Act.put, lsA, lsZ, lsN])
 refine takeF (i := 5) (v := undef) rfl (by kernel_rfl) (by decide +kernel) (by decide +kernel) (fun _ _ _ h => h) (Or.inr ⟨by rfl, rfl⟩) hs.out ?_
 (try simp only [Act.put, lsA, lsZ, lsN])
 refine takeF (i := 6) (v := undef) rfl (by kernel_rfl) (by decide +kernel) (by decide +kernel) (fun _ _ _ h => h) (Or.inr ⟨by rfl, rfl⟩) hs.out ?_
 (try simp only [Act.put, lsA, lsZ, lsN])
 refine takeF (i := 7) (v := undef) rfl (by kernel_rfl) (by decide +kernel) (by decide +kernel) (fun _ _ _ h => h) (Or.inr ⟨by rfl, rfl⟩) hs.out ?_
 (try simp only [Act.put, lsA, lsZ, lsN])
 refine takeF (i := 8) (v := undef) rfl (by kernel_rfl) (by decide +kernel) (by decide +kernel) (fun _ _ _ h => h) (Or.inr ⟨by rfl, rfl⟩) hs.out ?_
 (try simp only [Act.put, lsA, lsZ, lsN])
 refine takeF (i := 9) (v := undef) rfl (by kernel_rfl) (by decide +kernel) (by decide +kernel) (fun _ _ _ h => h) (Or.inr ⟨by rfl, rfl⟩) hs.out ?_
 (try simp only [Act.put, lsA, lsZ, lsN])
 refine takeF (i := 10) (v := ?_) rfl (by kernel_rfl) (by decide +kernel) (by decide +kernel) (fun _ _ _ h => h) (Or.inl ⟨by rfl, ?_⟩) hs.out ?_
 rotate_left
 ·(intro w hSw; (try dsimp only at hSw); go_simp; try (with_reducible rfl))
 (try simp only [Act.put, lsA, lsZ, lsN])
 refine takeF (i := 11) (v := ?_) rfl (by kernel_rfl) (by decide +kernel) (by decide +kernel) (fun _ _ _ h => h) (Or.inl ⟨by rfl, ?_⟩) hs.out ?_
 rotate_left
 ·(intro w hSw; (try dsimp only at hSw); go_simp; try (with_reducible rfl))
 (try simp only [Act.put, lsA, lsZ, lsN])
 refine takeF (i := 12) (v := undef) rfl (by kernel_rfl) (by decide +kernel) (by decide +kernel) (fun _ _ _ h => h) (Or.inr ⟨by rfl, rfl⟩) hs.out ?_
 (try simp only [Act.put, lsA, lsZ, lsN])
 refine takeF (i := 13) (v := undef) rfl (by kernel_rfl) (by decide +kernel) (by decide +kernel) (fun _ _ _ h => h) (Or.inr ⟨by rfl, rfl⟩) hs.out ?_
 (try simp only [Act.put, lsA, lsZ, lsN])
 refine takeF (i := 14) (v := undef) rfl (by kernel_rfl) (by decide +kernel) (by decide +kernel) (fun _ _ _ h => h) (Or.inr ⟨by rfl, rfl⟩) hs.out ?_
 (try simp only [Act.put, lsA, lsZ, lsN])
 refine takeF (i := 15) (v := undef) rfl (by kernel_rfl) (by decide +kernel) (by decide +kernel) (fun _ _ _ h => h) (Or.inr ⟨by rfl, rfl⟩) hs.out ?_
 (try simp only [Act.put, lsA, lsZ, lsN])
 refine takeF (i := 16) (v := ?_) rfl (by kernel_rfl) (by decide +kernel) (by decide +kernel) (fun _ _ _ h => h) (Or.inl ⟨by rfl, ?_⟩) hs.out ?_
 rotate_left
 ·(intro w hSw; (try dsimp only at hSw); go_simp; try (with_reducible rfl))
 (try simp only [Act.put, lsA, lsZ, lsN])
 refine takeF (i := 17) (v := ?_) rfl (by kernel_rfl) (by decide +kernel) (by decide +kernel) (fun _ _ _ h => h) (Or.inl ⟨by rfl, ?_⟩) hs.out ?_
 rotate_left
 ·(intro w hSw; (try dsimp only at hSw); go_simp; try (with_reducible rfl))
 (try simp only [Act.put, lsA, lsZ, lsN])
 refine takeF (i := 18) (v := undef) rfl (by kernel_rfl) (by decide +kernel) (by decide +kernel) (fun _ _ _ h => h) (Or.inr ⟨by rfl, rfl⟩) hs.out ?_
 (try simp only [Act.put, lsA, lsZ, lsN])
 refine takeF (i := 19) (v := undef) rfl (by kernel_rfl) (by decide +kernel) (by decide +kernel) (fun _ _ _ h => h) (Or.inr ⟨by rfl, rfl⟩) hs.out ?_
 (try simp only [Act.put, lsA, lsZ, lsN])
 refine takeF (i := 20) (v := undef) rfl (by kernel_rfl) (by decide +kernel) (by decide +kernel) (fun _ _ _ h => h) (Or.inr ⟨by rfl, rfl⟩) hs.out ?_
 (try simp only [Act.put, lsA, lsZ, lsN])
 refine takeF (i := 21) (v := undef) rfl (by kernel_rfl) (by decide +kernel) (by decide +kernel) (fun _ _ _ h => h) (Or.inr ⟨by rfl, rfl⟩) hs.out ?_
 (try simp only [Act.put, lsA, lsZ, lsN])
 refine takeF (i := 22) (v := undef) rfl (by kernel_rfl) (by decide +kernel) (by decide +kernel) (fun _ _ _ h => h) (Or.inr ⟨by rfl, rfl⟩) hs.out ?_
 (try simp only [Act.put, lsA, lsZ, lsN])
 refine takeF (i := 23) (v := undef) rfl (by kernel_rfl) (by decide +kernel) (by decide +kernel) (fun _ _ _ h => h) (Or.inr ⟨by rfl, rfl⟩) hs.out ?_
 (try simp only [Act.put, lsA, lsZ, lsN])
 refine takeF (i := 24) (v := undef) rfl (by kernel_rfl) (by decide +kernel) (by decide +kernel) (fun _ _ _ h => h) (Or.inr ⟨by rfl, rfl⟩) hs.out ?_
 (try simp only [Act.put, lsA, lsZ, lsN])
 refine takeF (i := 25) (v := undef) rfl (by kernel_rfl) (by decide +kernel) (by decide +kernel) (fun _ _ _ h => h) (Or.inr ⟨by rfl, rfl⟩) hs.out ?_
 (try simp only [Act.put, lsA, lsZ, lsN])
 refine takeF (i := 26) (v := undef) rfl (by kernel_rfl) (by decide +kernel) (by decide +kernel) (fun _ _ _ h => h) (Or.inr ⟨by rfl, rfl⟩) hs.out ?_
 (try simp only [Act.put, lsA, lsZ, lsN])
 refine takeF (i := 27) (v := undef) rfl (by kernel_rfl) (by decide +kernel) (by decide +kernel) (fun _ _ _ h => h) (Or.inr ⟨by rfl, rfl⟩) hs.out ?_
 (try simp only [Act.put, lsA, lsZ, lsN])
 refine takeF (i := 28) (v := undef) rfl (by kernel_rfl) (by decide +kernel) (by decide +kernel) (fun _ _ _ h => h) (Or.inr ⟨by rfl, rfl⟩) hs.out ?_
 (try simp only [Act.put, lsA, lsZ, lsN])
 refine takeF (i := 29) (v := undef) rfl (by kernel_rfl) (by decide +kernel) (by decide +kernel) (fun _ _ _ h => h) (Or.inr ⟨by rfl, rfl⟩) hs.out ?_
 (try simp only [Act.put, lsA, lsZ, lsN])
 refine takeF (i := 30) (v := ?_) rfl (by kernel_rfl) (by decide +kernel) (by decide +kernel) (fun _ _ _ h => h) (Or.inl ⟨by rfl, ?_⟩) hs.out ?_
 rotate_left
 ·(intro w hSw; (try dsimp only at hSw); go_simp; try (with_reducible rfl))
 (try simp only [Act.put, lsA, lsZ, lsN])
 refine wpAnyX_done (by decide +kernel) ?_
 go_wp2
 go_ret
 exact ⟨by rw [E.out]; rfl, B0.out⟩
set_option linter.unusedSimpArgs false in
theorem alone_far (g : GV) (p k : Int) (x : ByteArray) (ka : Option Addr) (n kc : Nat) (w : World) (h : GAt 140737488355328 w g) (hk : n <= 140737488355328) (hp : p ≠ -1) (h1 : ¬ p < 0) (h2 : (g.ps.length : Int) <= p) : Calls Try.prog 24 #[g.val, .agg #[.int .i64 p, .int .i64 k, .string x, .slice ka n kc]] w fun e w' => e = .returned (.int .i64 (alV g p k x n)) /\ Below w.heap.size w w' := by
 have hpl := h.pl
 have e0 : (p == -1) = false := by simpa using hp
 have B0 : Hid (Below w.heap.size w ((w.alloc (gBox g)).alloc (.cells #[.int .i64 p, .int .i64 k, .string x, .slice ka n kc] 31)).drew) := ((below_alloc w _).alloc (below_alloc w _).size _).drew
 have X0 : ((w.alloc (gBox g)).alloc (.cells #[.int .i64 p, .int .i64 k, .string x, .slice ka n kc] 31)).drew.heap[w.heap.size]? = some (gBox g) := by
  show ((w.alloc (gBox g)).alloc (.cells #[.int .i64 p, .int .i64 k, .string x, .slice ka n kc] 31)).heap[w.heap.size]? = some (gBox g)
  rw [(below_alloc (w.alloc (gBox g)) _).block _ (by simp)]
  exact heap_alloc_new _ _
 have X1 : ((w.alloc (gBox g)).alloc (.cells #[.int .i64 p, .int .i64 k, .string x, .slice ka n kc] 31)).drew.heap[w.heap.size + 1]? = some (.cells #[.int .i64 p, .int .i64 k, .string x, .slice ka n kc] 31) := by
  have := heap_alloc_new (w.alloc (gBox g)) (.cells #[.int .i64 p, .int .i64 k, .string x, .slice ka n kc] 31)
  rwa [show (w.alloc (gBox g)).heap.size = w.heap.size + 1 by simp] at this
 obtain ⟨-, -, -, y3, -⟩ := gb_cells X0
 have z0 := (cellq_any (i := 0) X1).trans rfl
 have z1 := (cellq_any (i := 1) X1).trans rfl
 have z2 := (cellq_any (i := 2) X1).trans rfl
 have z3 := (cellq_any (i := 3) X1).trans rfl
 have E : Hid (alV g p k x n = 81) := by show _ = _; unfold alV; rw [if_neg hp, if_pos (.inr (.inl h2))]
 clear hp
 have d1 : decide (p < 0) = false := decide_eq_false h1
 have hs : Hid ((fun w' : World => (w'.cell? ⟨w.heap.size, 3, none⟩ = some (.slice g.pa g.ps.length g.pc)) /\ w'.cell? ⟨w.heap.size + 1, 0, none⟩ = some (.int .i64 p) /\ w'.cell? ⟨w.heap.size + 1, 1, none⟩ = some (.int .i64 k) /\ w'.cell? ⟨w.heap.size + 1, 2, none⟩ = some (.string x) /\ w'.cell? ⟨w.heap.size + 1, 3, none⟩ = some (.slice ka n kc)) ((w.alloc (gBox g)).alloc (.cells #[.int .i64 p, .int .i64 k, .string x, .slice ka n kc] 31)).drew) := ⟨y3, z0, z1, z2, z3⟩
 clear y3 z0 z1 z2 z3 X0 X1
 go_enter Try.func24, Try.ntmps24
 go_wp2
 refine wp_region_x (S := fun _ => (fun w' : World => (w'.cell? ⟨w.heap.size, 3, none⟩ = some (.slice g.pa g.ps.length g.pc)) /\ w'.cell? ⟨w.heap.size + 1, 0, none⟩ = some (.int .i64 p) /\ w'.cell? ⟨w.heap.size + 1, 1, none⟩ = some (.int .i64 k) /\ w'.cell? ⟨w.heap.size + 1, 2, none⟩ = some (.string x) /\ w'.cell? ⟨w.heap.size + 1, 3, none⟩ = some (.slice ka n kc))) (by kernel_rfl) ?_
 refine takeF (i := 0) (v := ?_) rfl (by kernel_rfl) (by decide +kernel) (by decide +kernel) (fun _ _ _ h => h) (Or.inl ⟨by rfl, ?_⟩) hs.out ?_
 rotate_left
 ·(intro w hSw; (try dsimp only at hSw); go_simp; try (with_reducible rfl))
 (try simp only [Act.put, lsA, lsZ, lsN])
 refine takeF (i := 1) (v := ?_) rfl (by kernel_rfl) (by decide +kernel) (by decide +kernel) (fun _ _ _ h => h) (Or.inl ⟨by rfl, ?_⟩) hs.out ?_
 rotate_left
 ·(intro w hSw; (try dsimp only at hSw); go_simp; try (with_reducible rfl))
 (try simp only [Act.put, lsA, lsZ, lsN])
 refine takeF (i := 2) (v := ?_) rfl (by kernel_rfl) (by decide +kernel) (by decide +kernel) (fun _ _ _ h => h) (Or.inl ⟨by rfl, ?_⟩) hs.out ?_
 rotate_left
 ·(intro w hSw; (try dsimp only at hSw); go_simp; try (with_reducible rfl))
 (try simp only [Act.put, lsA, lsZ, lsN])
 refine takeF (i := 3) (v := ?_) rfl (by kernel_rfl) (by decide +kernel) (by decide +kernel) (fun _ _ _ h => h) (Or.inl ⟨by rfl, ?_⟩) hs.out ?_
 rotate_left
 ·(intro w hSw; (try dsimp only at hSw); go_simp; try (with_reducible rfl))
 (try simp only [Act.put, lsA, lsZ, lsN])
 refine takeF (i := 4) (v := ?_) rfl (by kernel_rfl) (by decide +kernel) (by decide +kernel) (fun _ _ _ h => h) (Or.inl ⟨by rfl, ?_⟩) hs.out ?_
 rotate_left
 ·(intro w hSw; (try dsimp only at hSw); go_simp; try (with_reducible rfl))
 (try simp only [Act.put, lsA, lsZ, lsN])
 refine takeF (i := 5) (v := ?_) rfl (by kernel_rfl) (by decide +kernel) (by decide +kernel) (fun _ _ _ h => h) (Or.inl ⟨by rfl, ?_⟩) hs.out ?_
 rotate_left
 ·(intro w hSw; (try dsimp only at hSw); go_simp; try (with_reducible rfl))
 (try simp only [Act.put, lsA, lsZ, lsN])
 refine takeF (i := 6) (v := ?_) rfl (by kernel_rfl) (by decide +kernel) (by decide +kernel) (fun _ _ _ h => h) (Or.inl ⟨by rfl, ?_⟩) hs.out ?_
 rotate_left
 ·(intro w hSw; (try dsimp only at hSw); go_simp; try (with_reducible rfl))
 (try simp only [Act.put, lsA, lsZ, lsN])
 refine takeF (i := 7) (v := ?_) rfl (by kernel_rfl) (by decide +kernel) (by decide +kernel) (fun _ _ _ h => h) (Or.inl ⟨by rfl, ?_⟩) hs.out ?_
 rotate_left
 ·(intro w hSw; (try dsimp only at hSw); go_simp; try (with_reducible rfl))
 (try simp only [Act.put, lsA, lsZ, lsN])
 refine takeF (i := 8) (v := ?_) rfl (by kernel_rfl) (by decide +kernel) (by decide +kernel) (fun _ _ _ h => h) (Or.inl ⟨by rfl, ?_⟩) hs.out ?_
 rotate_left
 ·(intro w hSw; (try dsimp only at hSw); go_simp; try (with_reducible rfl))
 (try simp only [Act.put, lsA, lsZ, lsN])
 refine takeF (i := 9) (v := ?_) rfl (by kernel_rfl) (by decide +kernel) (by decide +kernel) (fun _ _ _ h => h) (Or.inl ⟨by rfl, ?_⟩) hs.out ?_
 rotate_left
 ·(intro w hSw; (try dsimp only at hSw); go_simp; try (with_reducible rfl))
 (try simp only [Act.put, lsA, lsZ, lsN])
 refine takeF (i := 10) (v := ?_) rfl (by kernel_rfl) (by decide +kernel) (by decide +kernel) (fun _ _ _ h => h) (Or.inl ⟨by rfl, ?_⟩) hs.out ?_
 rotate_left
 ·(intro w hSw; (try dsimp only at hSw); go_simp; try (with_reducible rfl))
 (try simp only [Act.put, lsA, lsZ, lsN])
 refine takeF (i := 11) (v := ?_) rfl (by kernel_rfl) (by decide +kernel) (by decide +kernel) (fun _ _ _ h => h) (Or.inl ⟨by rfl, ?_⟩) hs.out ?_
 rotate_left
 ·(intro w hSw; (try dsimp only at hSw); go_simp; try (with_reducible rfl))
 (try simp only [Act.put, lsA, lsZ, lsN])
 refine takeF (i := 12) (v := undef) rfl (by kernel_rfl) (by decide +kernel) (by decide +kernel) (fun _ _ _ h => h) (Or.inr ⟨by rfl, rfl⟩) hs.out ?_
 (try simp only [Act.put, lsA, lsZ, lsN])
 refine takeF (i := 13) (v := undef) rfl (by kernel_rfl) (by decide +kernel) (by decide +kernel) (fun _ _ _ h => h) (Or.inr ⟨by rfl, rfl⟩) hs.out ?_
 (try simp only [Act.put, lsA, lsZ, lsN])
 refine takeF (i := 14) (v := undef) rfl (by kernel_rfl) (by decide +kernel) (by decide +kernel) (fun _ _ _ h => h) (Or.inr ⟨by rfl, rfl⟩) hs.out ?_
 (try simp only [Act.put, lsA, lsZ, lsN])
 refine takeF (i := 15) (v := undef) rfl (by kernel_rfl) (by decide +kernel) (by decide +kernel) (fun _ _ _ h => h) (Or.inr ⟨by rfl, rfl⟩) hs.out ?_
 (try simp only [Act.put, lsA, lsZ, lsN])
 refine takeF (i := 16) (v := ?_) rfl (by kernel_rfl) (by decide +kernel) (by decide +kernel) (fun _ _ _ h => h) (Or.inl ⟨by rfl, ?_⟩) hs.out ?_
 rotate_left
 ·(intro w hSw; (try dsimp only at hSw); go_simp; try (with_reducible rfl))
 (try simp only [Act.put, lsA, lsZ, lsN])
 refine takeF (i := 17) (v := ?_) rfl (by kernel_rfl) (by decide +kernel) (by decide +kernel) (fun _ _ _ h => h) (Or.inl ⟨by rfl, ?_⟩) hs.out ?_
 rotate_left
 ·(intro w hSw; (try dsimp only at hSw); go_simp; try (with_reducible rfl))
 (try simp only [Act.put, lsA, lsZ, lsN])
 refine takeF (i := 18) (v := undef) rfl (by kernel_rfl) (by decide +kernel) (by decide +kernel) (fun _ _ _ h => h) (Or.inr ⟨by rfl, rfl⟩) hs.out ?_
 (try simp only [Act.put, lsA, lsZ, lsN])
 refine takeF (i := 19) (v := undef) rfl (by kernel_rfl) (by decide +kernel) (by decide +kernel) (fun _ _ _ h => h) (Or.inr ⟨by rfl, rfl⟩) hs.out ?_
 (try simp only [Act.put, lsA, lsZ, lsN])
 refine takeF (i := 20) (v := undef) rfl (by kernel_rfl) (by decide +kernel) (by decide +kernel) (fun _ _ _ h => h) (Or.inr ⟨by rfl, rfl⟩) hs.out ?_
 (try simp only [Act.put, lsA, lsZ, lsN])
 refine takeF (i := 21) (v := undef) rfl (by kernel_rfl) (by decide +kernel) (by decide +kernel) (fun _ _ _ h => h) (Or.inr ⟨by rfl, rfl⟩) hs.out ?_
 (try simp only [Act.put, lsA, lsZ, lsN])
 refine takeF (i := 22) (v := undef) rfl (by kernel_rfl) (by decide +kernel) (by decide +kernel) (fun _ _ _ h => h) (Or.inr ⟨by rfl, rfl⟩) hs.out ?_
 (try simp only [Act.put, lsA, lsZ, lsN])
 refine takeF (i := 23) (v := undef) rfl (by kernel_rfl) (by decide +kernel) (by decide +kernel) (fun _ _ _ h => h) (Or.inr ⟨by rfl, rfl⟩) hs.out ?_
 (try simp only [Act.put, lsA, lsZ, lsN])
 refine takeF (i := 24) (v := undef) rfl (by kernel_rfl) (by decide +kernel) (by decide +kernel) (fun _ _ _ h => h) (Or.inr ⟨by rfl, rfl⟩) hs.out ?_
 (try simp only [Act.put, lsA, lsZ, lsN])
 refine takeF (i := 25) (v := undef) rfl (by kernel_rfl) (by decide +kernel) (by decide +kernel) (fun _ _ _ h => h) (Or.inr ⟨by rfl, rfl⟩) hs.out ?_
 (try simp only [Act.put, lsA, lsZ, lsN])
 refine takeF (i := 26) (v := undef) rfl (by kernel_rfl) (by decide +kernel) (by decide +kernel) (fun _ _ _ h => h) (Or.inr ⟨by rfl, rfl⟩) hs.out ?_
 (try simp only [Act.put, lsA, lsZ, lsN])
 refine takeF (i := 27) (v := undef) rfl (by kernel_rfl) (by decide +kernel) (by decide +kernel) (fun _ _ _ h => h) (Or.inr ⟨by rfl, rfl⟩) hs.out ?_
 (try simp only [Act.put, lsA, lsZ, lsN])
 refine takeF (i := 28) (v := undef) rfl (by kernel_rfl) (by decide +kernel) (by decide +kernel) (fun _ _ _ h => h) (Or.inr ⟨by rfl, rfl⟩) hs.out ?_
 (try simp only [Act.put, lsA, lsZ, lsN])
 refine takeF (i := 29) (v := undef) rfl (by kernel_rfl) (by decide +kernel) (by decide +kernel) (fun _ _ _ h => h) (Or.inr ⟨by rfl, rfl⟩) hs.out ?_
 (try simp only [Act.put, lsA, lsZ, lsN])
 refine takeF (i := 30) (v := ?_) rfl (by kernel_rfl) (by decide +kernel) (by decide +kernel) (fun _ _ _ h => h) (Or.inl ⟨by rfl, ?_⟩) hs.out ?_
 rotate_left
 ·(intro w hSw; (try dsimp only at hSw); go_simp; try (with_reducible rfl))
 (try simp only [Act.put, lsA, lsZ, lsN])
 refine wpAnyX_done (by decide +kernel) ?_
 go_wp2
 go_ret
 exact ⟨by rw [E.out]; rfl, B0.out⟩
set_option linter.unusedSimpArgs false in
theorem alone_kind (g : GV) (p k : Int) (x : ByteArray) (ka : Option Addr) (n kc : Nat) (w : World) (h : GAt 140737488355328 w g) (hk : n <= 140737488355328) (hp : p ≠ -1) (h1 : ¬ p < 0) (h2 : ¬ (g.ps.length : Int) <= p) (h3 : k ≠ 0) : Calls Try.prog 24 #[g.val, .agg #[.int .i64 p, .int .i64 k, .string x, .slice ka n kc]] w fun e w' => e = .returned (.int .i64 (alV g p k x n)) /\ Below w.heap.size w w' := by
 have hpl := h.pl
 have e0 : (p == -1) = false := by simpa using hp
 have B0 : Hid (Below w.heap.size w ((w.alloc (gBox g)).alloc (.cells #[.int .i64 p, .int .i64 k, .string x, .slice ka n kc] 31)).drew) := ((below_alloc w _).alloc (below_alloc w _).size _).drew
 have X0 : ((w.alloc (gBox g)).alloc (.cells #[.int .i64 p, .int .i64 k, .string x, .slice ka n kc] 31)).drew.heap[w.heap.size]? = some (gBox g) := by
  show ((w.alloc (gBox g)).alloc (.cells #[.int .i64 p, .int .i64 k, .string x, .slice ka n kc] 31)).heap[w.heap.size]? = some (gBox g)
  rw [(below_alloc (w.alloc (gBox g)) _).block _ (by simp)]
  exact heap_alloc_new _ _
 have X1 : ((w.alloc (gBox g)).alloc (.cells #[.int .i64 p, .int .i64 k, .string x, .slice ka n kc] 31)).drew.heap[w.heap.size + 1]? = some (.cells #[.int .i64 p, .int .i64 k, .string x, .slice ka n kc] 31) := by
  have := heap_alloc_new (w.alloc (gBox g)) (.cells #[.int .i64 p, .int .i64 k, .string x, .slice ka n kc] 31)
  rwa [show (w.alloc (gBox g)).heap.size = w.heap.size + 1 by simp] at this
 obtain ⟨-, -, -, y3, -⟩ := gb_cells X0
 have z0 := (cellq_any (i := 0) X1).trans rfl
 have z1 := (cellq_any (i := 1) X1).trans rfl
 have z2 := (cellq_any (i := 2) X1).trans rfl
 have z3 := (cellq_any (i := 3) X1).trans rfl
 have E : Hid (alV g p k x n = 81) := by show _ = _; unfold alV; rw [if_neg hp, if_pos (.inr (.inr (.inl h3)))]
 clear hp
 have d1 : decide (p < 0) = false := decide_eq_false h1
 have d2 : decide ((g.ps.length : Int) <= p) = false := decide_eq_false h2
 have hs : Hid ((fun w' : World => (w'.cell? ⟨w.heap.size, 3, none⟩ = some (.slice g.pa g.ps.length g.pc)) /\ w'.cell? ⟨w.heap.size + 1, 0, none⟩ = some (.int .i64 p) /\ w'.cell? ⟨w.heap.size + 1, 1, none⟩ = some (.int .i64 k) /\ w'.cell? ⟨w.heap.size + 1, 2, none⟩ = some (.string x) /\ w'.cell? ⟨w.heap.size + 1, 3, none⟩ = some (.slice ka n kc)) ((w.alloc (gBox g)).alloc (.cells #[.int .i64 p, .int .i64 k, .string x, .slice ka n kc] 31)).drew) := ⟨y3, z0, z1, z2, z3⟩
 clear y3 z0 z1 z2 z3 X0 X1
 go_enter Try.func24, Try.ntmps24
 go_wp2
 refine wp_region_x (S := fun _ => (fun w' : World => (w'.cell? ⟨w.heap.size, 3, none⟩ = some (.slice g.pa g.ps.length g.pc)) /\ w'.cell? ⟨w.heap.size + 1, 0, none⟩ = some (.int .i64 p) /\ w'.cell? ⟨w.heap.size + 1, 1, none⟩ = some (.int .i64 k) /\ w'.cell? ⟨w.heap.size + 1, 2, none⟩ = some (.string x) /\ w'.cell? ⟨w.heap.size + 1, 3, none⟩ = some (.slice ka n kc))) (by kernel_rfl) ?_
 refine takeF (i := 0) (v := ?_) rfl (by kernel_rfl) (by decide +kernel) (by decide +kernel) (fun _ _ _ h => h) (Or.inl ⟨by rfl, ?_⟩) hs.out ?_
 rotate_left
 ·(intro w hSw; (try dsimp only at hSw); go_simp; try (with_reducible rfl))
 (try simp only [Act.put, lsA, lsZ, lsN])
 refine takeF (i := 1) (v := ?_) rfl (by kernel_rfl) (by decide +kernel) (by decide +kernel) (fun _ _ _ h => h) (Or.inl ⟨by rfl, ?_⟩) hs.out ?_
 rotate_left
 ·(intro w hSw; (try dsimp only at hSw); go_simp; try (with_reducible rfl))
 (try simp only [Act.put, lsA, lsZ, lsN])
 refine takeF (i := 2) (v := ?_) rfl (by kernel_rfl) (by decide +kernel) (by decide +kernel) (fun _ _ _ h => h) (Or.inl ⟨by rfl, ?_⟩) hs.out ?_
 rotate_left
 ·(intro w hSw; (try dsimp only at hSw); go_simp; try (with_reducible rfl))
 (try simp only [Act.put, lsA, lsZ, lsN])
 refine takeF (i := 3) (v := ?_) rfl (by kernel_rfl) (by decide +kernel) (by decide +kernel) (fun _ _ _ h => h) (Or.inl ⟨by rfl, ?_⟩) hs.out ?_
 rotate_left
 ·(intro w hSw; (try dsimp only at hSw); go_simp; try (with_reducible rfl))
 (try simp only [Act.put, lsA, lsZ, lsN])
 refine takeF (i := 4) (v := ?_) rfl (by kernel_rfl) (by decide +kernel) (by decide +kernel) (fun _ _ _ h => h) (Or.inl ⟨by rfl, ?_⟩) hs.out ?_
 rotate_left
 ·(intro w hSw; (try dsimp only at hSw); go_simp; try (with_reducible rfl))
 (try simp only [Act.put, lsA, lsZ, lsN])
 refine takeF (i := 5) (v := ?_) rfl (by kernel_rfl) (by decide +kernel) (by decide +kernel) (fun _ _ _ h => h) (Or.inl ⟨by rfl, ?_⟩) hs.out ?_
 rotate_left
 ·(intro w hSw; (try dsimp only at hSw); go_simp; try (with_reducible rfl))
 (try simp only [Act.put, lsA, lsZ, lsN])
 refine takeF (i := 6) (v := ?_) rfl (by kernel_rfl) (by decide +kernel) (by decide +kernel) (fun _ _ _ h => h) (Or.inl ⟨by rfl, ?_⟩) hs.out ?_
 rotate_left
 ·(intro w hSw; (try dsimp only at hSw); go_simp; try (with_reducible rfl))
 (try simp only [Act.put, lsA, lsZ, lsN])
 refine takeF (i := 7) (v := ?_) rfl (by kernel_rfl) (by decide +kernel) (by decide +kernel) (fun _ _ _ h => h) (Or.inl ⟨by rfl, ?_⟩) hs.out ?_
 rotate_left
 ·(intro w hSw; (try dsimp only at hSw); go_simp; try (with_reducible rfl))
 (try simp only [Act.put, lsA, lsZ, lsN])
 refine takeF (i := 8) (v := ?_) rfl (by kernel_rfl) (by decide +kernel) (by decide +kernel) (fun _ _ _ h => h) (Or.inl ⟨by rfl, ?_⟩) hs.out ?_
 rotate_left
 ·(intro w hSw; (try dsimp only at hSw); go_simp; try (with_reducible rfl))
 (try simp only [Act.put, lsA, lsZ, lsN])
 refine takeF (i := 9) (v := ?_) rfl (by kernel_rfl) (by decide +kernel) (by decide +kernel) (fun _ _ _ h => h) (Or.inl ⟨by rfl, ?_⟩) hs.out ?_
 rotate_left
 ·(intro w hSw; (try dsimp only at hSw); go_simp; try (with_reducible rfl))
 (try simp only [Act.put, lsA, lsZ, lsN])
 refine takeF (i := 10) (v := ?_) rfl (by kernel_rfl) (by decide +kernel) (by decide +kernel) (fun _ _ _ h => h) (Or.inl ⟨by rfl, ?_⟩) hs.out ?_
 rotate_left
 ·(intro w hSw; (try dsimp only at hSw); go_simp; try (with_reducible rfl))
 (try simp only [Act.put, lsA, lsZ, lsN])
 refine takeF (i := 11) (v := ?_) rfl (by kernel_rfl) (by decide +kernel) (by decide +kernel) (fun _ _ _ h => h) (Or.inl ⟨by rfl, ?_⟩) hs.out ?_
 rotate_left
 ·(intro w hSw; (try dsimp only at hSw); go_simp; try (with_reducible rfl))
 (try simp only [Act.put, lsA, lsZ, lsN])
 refine takeF (i := 12) (v := ?_) rfl (by kernel_rfl) (by decide +kernel) (by decide +kernel) (fun _ _ _ h => h) (Or.inl ⟨by rfl, ?_⟩) hs.out ?_
 rotate_left
 ·(intro w hSw; (try dsimp only at hSw); go_simp; try (with_reducible rfl))
 (try simp only [Act.put, lsA, lsZ, lsN])
 refine takeF (i := 13) (v := ?_) rfl (by kernel_rfl) (by decide +kernel) (by decide +kernel) (fun _ _ _ h => h) (Or.inl ⟨by rfl, ?_⟩) hs.out ?_
 rotate_left
 ·(intro w hSw; (try dsimp only at hSw); go_simp; try (with_reducible rfl))
 (try simp only [Act.put, lsA, lsZ, lsN])
 refine takeF (i := 14) (v := ?_) rfl (by kernel_rfl) (by decide +kernel) (by decide +kernel) (fun _ _ _ h => h) (Or.inl ⟨by rfl, ?_⟩) hs.out ?_
 rotate_left
 ·(intro w hSw; (try dsimp only at hSw); go_simp; try (with_reducible rfl))
 (try simp only [Act.put, lsA, lsZ, lsN])
 refine takeF (i := 15) (v := ?_) rfl (by kernel_rfl) (by decide +kernel) (by decide +kernel) (fun _ _ _ h => h) (Or.inl ⟨by rfl, ?_⟩) hs.out ?_
 rotate_left
 ·(intro w hSw; (try dsimp only at hSw); go_simp; try (with_reducible rfl))
 (try simp only [Act.put, lsA, lsZ, lsN])
 refine takeF (i := 16) (v := ?_) rfl (by kernel_rfl) (by decide +kernel) (by decide +kernel) (fun _ _ _ h => h) (Or.inl ⟨by rfl, ?_⟩) hs.out ?_
 rotate_left
 ·(intro w hSw; (try dsimp only at hSw); go_simp; try (with_reducible rfl))
 (try simp only [Act.put, lsA, lsZ, lsN])
 refine takeF (i := 17) (v := ?_) rfl (by kernel_rfl) (by decide +kernel) (by decide +kernel) (fun _ _ _ h => h) (Or.inl ⟨by rfl, ?_⟩) hs.out ?_
 rotate_left
 ·(intro w hSw; (try dsimp only at hSw); go_simp; try (with_reducible rfl))
 (try simp only [Act.put, lsA, lsZ, lsN])
 refine takeF (i := 18) (v := undef) rfl (by kernel_rfl) (by decide +kernel) (by decide +kernel) (fun _ _ _ h => h) (Or.inr ⟨by rfl, rfl⟩) hs.out ?_
 (try simp only [Act.put, lsA, lsZ, lsN])
 refine takeF (i := 19) (v := undef) rfl (by kernel_rfl) (by decide +kernel) (by decide +kernel) (fun _ _ _ h => h) (Or.inr ⟨by rfl, rfl⟩) hs.out ?_
 (try simp only [Act.put, lsA, lsZ, lsN])
 refine takeF (i := 20) (v := undef) rfl (by kernel_rfl) (by decide +kernel) (by decide +kernel) (fun _ _ _ h => h) (Or.inr ⟨by rfl, rfl⟩) hs.out ?_
 (try simp only [Act.put, lsA, lsZ, lsN])
 refine takeF (i := 21) (v := undef) rfl (by kernel_rfl) (by decide +kernel) (by decide +kernel) (fun _ _ _ h => h) (Or.inr ⟨by rfl, rfl⟩) hs.out ?_
 (try simp only [Act.put, lsA, lsZ, lsN])
 refine takeF (i := 22) (v := undef) rfl (by kernel_rfl) (by decide +kernel) (by decide +kernel) (fun _ _ _ h => h) (Or.inr ⟨by rfl, rfl⟩) hs.out ?_
 (try simp only [Act.put, lsA, lsZ, lsN])
 refine takeF (i := 23) (v := undef) rfl (by kernel_rfl) (by decide +kernel) (by decide +kernel) (fun _ _ _ h => h) (Or.inr ⟨by rfl, rfl⟩) hs.out ?_
 (try simp only [Act.put, lsA, lsZ, lsN])
 refine takeF (i := 24) (v := undef) rfl (by kernel_rfl) (by decide +kernel) (by decide +kernel) (fun _ _ _ h => h) (Or.inr ⟨by rfl, rfl⟩) hs.out ?_
 (try simp only [Act.put, lsA, lsZ, lsN])
 refine takeF (i := 25) (v := undef) rfl (by kernel_rfl) (by decide +kernel) (by decide +kernel) (fun _ _ _ h => h) (Or.inr ⟨by rfl, rfl⟩) hs.out ?_
 (try simp only [Act.put, lsA, lsZ, lsN])
 refine takeF (i := 26) (v := undef) rfl (by kernel_rfl) (by decide +kernel) (by decide +kernel) (fun _ _ _ h => h) (Or.inr ⟨by rfl, rfl⟩) hs.out ?_
 (try simp only [Act.put, lsA, lsZ, lsN])
 refine takeF (i := 27) (v := undef) rfl (by kernel_rfl) (by decide +kernel) (by decide +kernel) (fun _ _ _ h => h) (Or.inr ⟨by rfl, rfl⟩) hs.out ?_
 (try simp only [Act.put, lsA, lsZ, lsN])
 refine takeF (i := 28) (v := undef) rfl (by kernel_rfl) (by decide +kernel) (by decide +kernel) (fun _ _ _ h => h) (Or.inr ⟨by rfl, rfl⟩) hs.out ?_
 (try simp only [Act.put, lsA, lsZ, lsN])
 refine takeF (i := 29) (v := undef) rfl (by kernel_rfl) (by decide +kernel) (by decide +kernel) (fun _ _ _ h => h) (Or.inr ⟨by rfl, rfl⟩) hs.out ?_
 (try simp only [Act.put, lsA, lsZ, lsN])
 refine takeF (i := 30) (v := ?_) rfl (by kernel_rfl) (by decide +kernel) (by decide +kernel) (fun _ _ _ h => h) (Or.inl ⟨by rfl, ?_⟩) hs.out ?_
 rotate_left
 ·(intro w hSw; (try dsimp only at hSw); go_simp; try (with_reducible rfl))
 (try simp only [Act.put, lsA, lsZ, lsN])
 refine wpAnyX_done (by decide +kernel) ?_
 go_wp2
 go_ret
 exact ⟨by rw [E.out]; rfl, B0.out⟩
set_option linter.unusedSimpArgs false in
theorem alone_text (g : GV) (p : Int) (x : ByteArray) (ka : Option Addr) (n kc : Nat) (w : World) (h : GAt 140737488355328 w g) (hk : n <= 140737488355328) (hp : p ≠ -1) (h1 : ¬ p < 0) (h2 : ¬ (g.ps.length : Int) <= p) (h3 : x.toList ≠ []) : Calls Try.prog 24 #[g.val, .agg #[.int .i64 p, .int .i64 0, .string x, .slice ka n kc]] w fun e w' => e = .returned (.int .i64 (alV g p 0 x n)) /\ Below w.heap.size w w' := by
 have hpl := h.pl
 have e0 : (p == -1) = false := by simpa using hp
 have B0 : Hid (Below w.heap.size w ((w.alloc (gBox g)).alloc (.cells #[.int .i64 p, .int .i64 0, .string x, .slice ka n kc] 31)).drew) := ((below_alloc w _).alloc (below_alloc w _).size _).drew
 have X0 : ((w.alloc (gBox g)).alloc (.cells #[.int .i64 p, .int .i64 0, .string x, .slice ka n kc] 31)).drew.heap[w.heap.size]? = some (gBox g) := by
  show ((w.alloc (gBox g)).alloc (.cells #[.int .i64 p, .int .i64 0, .string x, .slice ka n kc] 31)).heap[w.heap.size]? = some (gBox g)
  rw [(below_alloc (w.alloc (gBox g)) _).block _ (by simp)]
  exact heap_alloc_new _ _
 have X1 : ((w.alloc (gBox g)).alloc (.cells #[.int .i64 p, .int .i64 0, .string x, .slice ka n kc] 31)).drew.heap[w.heap.size + 1]? = some (.cells #[.int .i64 p, .int .i64 0, .string x, .slice ka n kc] 31) := by
  have := heap_alloc_new (w.alloc (gBox g)) (.cells #[.int .i64 p, .int .i64 0, .string x, .slice ka n kc] 31)
  rwa [show (w.alloc (gBox g)).heap.size = w.heap.size + 1 by simp] at this
 obtain ⟨-, -, -, y3, -⟩ := gb_cells X0
 have z0 := (cellq_any (i := 0) X1).trans rfl
 have z1 := (cellq_any (i := 1) X1).trans rfl
 have z2 := (cellq_any (i := 2) X1).trans rfl
 have z3 := (cellq_any (i := 3) X1).trans rfl
 have E : Hid (alV g p 0 x n = 81) := by show _ = _; unfold alV; rw [if_neg hp, if_pos (.inr (.inr (.inr (.inl h3))))]
 clear hp
 have d1 : decide (p < 0) = false := decide_eq_false h1
 have d2 : decide ((g.ps.length : Int) <= p) = false := decide_eq_false h2
 have h4 : ¬ x.toList = [] := h3
 have hs : Hid ((fun w' : World => (w'.cell? ⟨w.heap.size, 3, none⟩ = some (.slice g.pa g.ps.length g.pc)) /\ w'.cell? ⟨w.heap.size + 1, 0, none⟩ = some (.int .i64 p) /\ w'.cell? ⟨w.heap.size + 1, 1, none⟩ = some (.int .i64 0) /\ w'.cell? ⟨w.heap.size + 1, 2, none⟩ = some (.string x) /\ w'.cell? ⟨w.heap.size + 1, 3, none⟩ = some (.slice ka n kc)) ((w.alloc (gBox g)).alloc (.cells #[.int .i64 p, .int .i64 0, .string x, .slice ka n kc] 31)).drew) := ⟨y3, z0, z1, z2, z3⟩
 clear y3 z0 z1 z2 z3 X0 X1
 go_enter Try.func24, Try.ntmps24
 go_wp2
 refine wp_region_x (S := fun _ => (fun w' : World => (w'.cell? ⟨w.heap.size, 3, none⟩ = some (.slice g.pa g.ps.length g.pc)) /\ w'.cell? ⟨w.heap.size + 1, 0, none⟩ = some (.int .i64 p) /\ w'.cell? ⟨w.heap.size + 1, 1, none⟩ = some (.int .i64 0) /\ w'.cell? ⟨w.heap.size + 1, 2, none⟩ = some (.string x) /\ w'.cell? ⟨w.heap.size + 1, 3, none⟩ = some (.slice ka n kc))) (by kernel_rfl) ?_
 refine takeF (i := 0) (v := ?_) rfl (by kernel_rfl) (by decide +kernel) (by decide +kernel) (fun _ _ _ h => h) (Or.inl ⟨by rfl, ?_⟩) hs.out ?_
 rotate_left
 ·(intro w hSw; (try dsimp only at hSw); go_simp; try (with_reducible rfl))
 (try simp only [Act.put, lsA, lsZ, lsN])
 refine takeF (i := 1) (v := ?_) rfl (by kernel_rfl) (by decide +kernel) (by decide +kernel) (fun _ _ _ h => h) (Or.inl ⟨by rfl, ?_⟩) hs.out ?_
 rotate_left
 ·(intro w hSw; (try dsimp only at hSw); go_simp; try (with_reducible rfl))
 (try simp only [Act.put, lsA, lsZ, lsN])
 refine takeF (i := 2) (v := ?_) rfl (by kernel_rfl) (by decide +kernel) (by decide +kernel) (fun _ _ _ h => h) (Or.inl ⟨by rfl, ?_⟩) hs.out ?_
 rotate_left
 ·(intro w hSw; (try dsimp only at hSw); go_simp; try (with_reducible rfl))
 (try simp only [Act.put, lsA, lsZ, lsN])
 refine takeF (i := 3) (v := ?_) rfl (by kernel_rfl) (by decide +kernel) (by decide +kernel) (fun _ _ _ h => h) (Or.inl ⟨by rfl, ?_⟩) hs.out ?_
 rotate_left
 ·(intro w hSw; (try dsimp only at hSw); go_simp; try (with_reducible rfl))
 (try simp only [Act.put, lsA, lsZ, lsN])
 refine takeF (i := 4) (v := ?_) rfl (by kernel_rfl) (by decide +kernel) (by decide +kernel) (fun _ _ _ h => h) (Or.inl ⟨by rfl, ?_⟩) hs.out ?_
 rotate_left
 ·(intro w hSw; (try dsimp only at hSw); go_simp; try (with_reducible rfl))
 (try simp only [Act.put, lsA, lsZ, lsN])
 refine takeF (i := 5) (v := ?_) rfl (by kernel_rfl) (by decide +kernel) (by decide +kernel) (fun _ _ _ h => h) (Or.inl ⟨by rfl, ?_⟩) hs.out ?_
 rotate_left
 ·(intro w hSw; (try dsimp only at hSw); go_simp; try (with_reducible rfl))
 (try simp only [Act.put, lsA, lsZ, lsN])
 refine takeF (i := 6) (v := ?_) rfl (by kernel_rfl) (by decide +kernel) (by decide +kernel) (fun _ _ _ h => h) (Or.inl ⟨by rfl, ?_⟩) hs.out ?_
 rotate_left
 ·(intro w hSw; (try dsimp only at hSw); go_simp; try (with_reducible rfl))
 (try simp only [Act.put, lsA, lsZ, lsN])
 refine takeF (i := 7) (v := ?_) rfl (by kernel_rfl) (by decide +kernel) (by decide +kernel) (fun _ _ _ h => h) (Or.inl ⟨by rfl, ?_⟩) hs.out ?_
 rotate_left
 ·(intro w hSw; (try dsimp only at hSw); go_simp; try (with_reducible rfl))
 (try simp only [Act.put, lsA, lsZ, lsN])
 refine takeF (i := 8) (v := ?_) rfl (by kernel_rfl) (by decide +kernel) (by decide +kernel) (fun _ _ _ h => h) (Or.inl ⟨by rfl, ?_⟩) hs.out ?_
 rotate_left
 ·(intro w hSw; (try dsimp only at hSw); go_simp; try (with_reducible rfl))
 (try simp only [Act.put, lsA, lsZ, lsN])
 refine takeF (i := 9) (v := ?_) rfl (by kernel_rfl) (by decide +kernel) (by decide +kernel) (fun _ _ _ h => h) (Or.inl ⟨by rfl, ?_⟩) hs.out ?_
 rotate_left
 ·(intro w hSw; (try dsimp only at hSw); go_simp; try (with_reducible rfl))
 (try simp only [Act.put, lsA, lsZ, lsN])
 refine takeF (i := 10) (v := ?_) rfl (by kernel_rfl) (by decide +kernel) (by decide +kernel) (fun _ _ _ h => h) (Or.inl ⟨by rfl, ?_⟩) hs.out ?_
 rotate_left
 ·(intro w hSw; (try dsimp only at hSw); go_simp; try (with_reducible rfl))
 (try simp only [Act.put, lsA, lsZ, lsN])
 refine takeF (i := 11) (v := ?_) rfl (by kernel_rfl) (by decide +kernel) (by decide +kernel) (fun _ _ _ h => h) (Or.inl ⟨by rfl, ?_⟩) hs.out ?_
 rotate_left
 ·(intro w hSw; (try dsimp only at hSw); go_simp; try (with_reducible rfl))
 (try simp only [Act.put, lsA, lsZ, lsN])
 refine takeF (i := 12) (v := ?_) rfl (by kernel_rfl) (by decide +kernel) (by decide +kernel) (fun _ _ _ h => h) (Or.inl ⟨by rfl, ?_⟩) hs.out ?_
 rotate_left
 ·(intro w hSw; (try dsimp only at hSw); go_simp; try (with_reducible rfl))
 (try simp only [Act.put, lsA, lsZ, lsN])
 refine takeF (i := 13) (v := ?_) rfl (by kernel_rfl) (by decide +kernel) (by decide +kernel) (fun _ _ _ h => h) (Or.inl ⟨by rfl, ?_⟩) hs.out ?_
 rotate_left
 ·(intro w hSw; (try dsimp only at hSw); go_simp; try (with_reducible rfl))
 (try simp only [Act.put, lsA, lsZ, lsN])
 refine takeF (i := 14) (v := ?_) rfl (by kernel_rfl) (by decide +kernel) (by decide +kernel) (fun _ _ _ h => h) (Or.inl ⟨by rfl, ?_⟩) hs.out ?_
 rotate_left
 ·(intro w hSw; (try dsimp only at hSw); go_simp; try (with_reducible rfl))
 (try simp only [Act.put, lsA, lsZ, lsN])
 refine takeF (i := 15) (v := ?_) rfl (by kernel_rfl) (by decide +kernel) (by decide +kernel) (fun _ _ _ h => h) (Or.inl ⟨by rfl, ?_⟩) hs.out ?_
 rotate_left
 ·(intro w hSw; (try dsimp only at hSw); go_simp; try (with_reducible rfl))
 (try simp only [Act.put, lsA, lsZ, lsN])
 refine takeF (i := 16) (v := ?_) rfl (by kernel_rfl) (by decide +kernel) (by decide +kernel) (fun _ _ _ h => h) (Or.inl ⟨by rfl, ?_⟩) hs.out ?_
 rotate_left
 ·(intro w hSw; (try dsimp only at hSw); go_simp; try (with_reducible rfl))
 (try simp only [Act.put, lsA, lsZ, lsN])
 refine takeF (i := 17) (v := ?_) rfl (by kernel_rfl) (by decide +kernel) (by decide +kernel) (fun _ _ _ h => h) (Or.inl ⟨by rfl, ?_⟩) hs.out ?_
 rotate_left
 ·(intro w hSw; (try dsimp only at hSw); go_simp; try (with_reducible rfl))
 (try simp only [Act.put, lsA, lsZ, lsN])
 refine takeF (i := 18) (v := undef) rfl (by kernel_rfl) (by decide +kernel) (by decide +kernel) (fun _ _ _ h => h) (Or.inr ⟨by rfl, rfl⟩) hs.out ?_
 (try simp only [Act.put, lsA, lsZ, lsN])
 refine takeF (i := 19) (v := undef) rfl (by kernel_rfl) (by decide +kernel) (by decide +kernel) (fun _ _ _ h => h) (Or.inr ⟨by rfl, rfl⟩) hs.out ?_
 (try simp only [Act.put, lsA, lsZ, lsN])
 refine takeF (i := 20) (v := undef) rfl (by kernel_rfl) (by decide +kernel) (by decide +kernel) (fun _ _ _ h => h) (Or.inr ⟨by rfl, rfl⟩) hs.out ?_
 (try simp only [Act.put, lsA, lsZ, lsN])
 refine takeF (i := 21) (v := undef) rfl (by kernel_rfl) (by decide +kernel) (by decide +kernel) (fun _ _ _ h => h) (Or.inr ⟨by rfl, rfl⟩) hs.out ?_
 (try simp only [Act.put, lsA, lsZ, lsN])
 refine takeF (i := 22) (v := undef) rfl (by kernel_rfl) (by decide +kernel) (by decide +kernel) (fun _ _ _ h => h) (Or.inr ⟨by rfl, rfl⟩) hs.out ?_
 (try simp only [Act.put, lsA, lsZ, lsN])
 refine takeF (i := 23) (v := undef) rfl (by kernel_rfl) (by decide +kernel) (by decide +kernel) (fun _ _ _ h => h) (Or.inr ⟨by rfl, rfl⟩) hs.out ?_
 (try simp only [Act.put, lsA, lsZ, lsN])
 refine takeF (i := 24) (v := undef) rfl (by kernel_rfl) (by decide +kernel) (by decide +kernel) (fun _ _ _ h => h) (Or.inr ⟨by rfl, rfl⟩) hs.out ?_
 (try simp only [Act.put, lsA, lsZ, lsN])
 refine takeF (i := 25) (v := undef) rfl (by kernel_rfl) (by decide +kernel) (by decide +kernel) (fun _ _ _ h => h) (Or.inr ⟨by rfl, rfl⟩) hs.out ?_
 (try simp only [Act.put, lsA, lsZ, lsN])
 refine takeF (i := 26) (v := undef) rfl (by kernel_rfl) (by decide +kernel) (by decide +kernel) (fun _ _ _ h => h) (Or.inr ⟨by rfl, rfl⟩) hs.out ?_
 (try simp only [Act.put, lsA, lsZ, lsN])
 refine takeF (i := 27) (v := undef) rfl (by kernel_rfl) (by decide +kernel) (by decide +kernel) (fun _ _ _ h => h) (Or.inr ⟨by rfl, rfl⟩) hs.out ?_
 (try simp only [Act.put, lsA, lsZ, lsN])
 refine takeF (i := 28) (v := undef) rfl (by kernel_rfl) (by decide +kernel) (by decide +kernel) (fun _ _ _ h => h) (Or.inr ⟨by rfl, rfl⟩) hs.out ?_
 (try simp only [Act.put, lsA, lsZ, lsN])
 refine takeF (i := 29) (v := undef) rfl (by kernel_rfl) (by decide +kernel) (by decide +kernel) (fun _ _ _ h => h) (Or.inr ⟨by rfl, rfl⟩) hs.out ?_
 (try simp only [Act.put, lsA, lsZ, lsN])
 refine takeF (i := 30) (v := ?_) rfl (by kernel_rfl) (by decide +kernel) (by decide +kernel) (fun _ _ _ h => h) (Or.inl ⟨by rfl, ?_⟩) hs.out ?_
 rotate_left
 ·(intro w hSw; (try dsimp only at hSw); go_simp; try (with_reducible rfl))
 (try simp only [Act.put, lsA, lsZ, lsN])
 refine wpAnyX_done (by decide +kernel) ?_
 go_wp2
 go_ret
 exact ⟨by rw [E.out]; rfl, B0.out⟩
set_option linter.unusedSimpArgs false in
theorem alone_len (g : GV) (j : Nat) (x : ByteArray) (ka : Option Addr) (n kc : Nat) (w : World) (h : GAt 140737488355328 w g) (hk : n <= 140737488355328) (hj : j < g.ps.length) (hx : x.toList = []) : Calls Try.prog 24 #[g.val, .agg #[.int .i64 (j : Int), .int .i64 0, .string x, .slice ka n kc]] w fun e w' => e = .returned (.int .i64 (alV g (j : Int) 0 x n)) /\ Below w.heap.size w w' := by
 have hpl := h.pl
 have hrl := h.rl _ (psD hj)
 obtain ⟨pb, po, hpa, hbl, c0, c1, -⟩ := ps_cells h hj
 have E : Hid (alV g (j : Int) 0 x n = if ((n : Int) != ((g.ps.getD j .none).right.length : Int)) = true then 81 else 0) := by
  show _ = _
  unfold alV
  rw [if_neg (by omega), Int.toNat_natCast]
  by_cases q : n = (g.ps.getD j .none).right.length
  ·rw [if_neg (by rintro (q1 | q1 | q1 | q1 | q1) <;> first | omega | exact q1 rfl | exact q1 hx), if_neg (by rw [q]; simp)]
  ·rw [if_pos (.inr (.inr (.inr (.inr q)))), if_pos (bne_iff_ne.2 (fun e => q (Int.ofNat_inj.1 e)))]
 generalize (g.ps.getD j .none).right.length = rl at *
 generalize (g.ps.getD j .none).ra = ra at *
 generalize (g.ps.getD j .none).rc = rc at *
 have e0 : ((j : Int) == -1) = false := by simp
 have d1 : decide ((j : Int) < 0) = false := decide_eq_false (by omega)
 have d2 : decide ((g.ps.length : Int) <= (j : Int)) = false := decide_eq_false (by omega)
 have d3 : decide (g.ps.length <= j) = false := decide_eq_false (by omega)
 have jlt : (j : Int) < (g.ps.length : Int) := by omega
 have B0 : Hid (Below w.heap.size w ((w.alloc (gBox g)).alloc (.cells #[.int .i64 (j : Int), .int .i64 0, .string x, .slice ka n kc] 31)).drew) := ((below_alloc w _).alloc (below_alloc w _).size _).drew
 have X0 : ((w.alloc (gBox g)).alloc (.cells #[.int .i64 (j : Int), .int .i64 0, .string x, .slice ka n kc] 31)).drew.heap[w.heap.size]? = some (gBox g) := by
  show ((w.alloc (gBox g)).alloc (.cells #[.int .i64 (j : Int), .int .i64 0, .string x, .slice ka n kc] 31)).heap[w.heap.size]? = some (gBox g)
  rw [(below_alloc (w.alloc (gBox g)) _).block _ (by simp)]
  exact heap_alloc_new _ _
 have X1 : ((w.alloc (gBox g)).alloc (.cells #[.int .i64 (j : Int), .int .i64 0, .string x, .slice ka n kc] 31)).drew.heap[w.heap.size + 1]? = some (.cells #[.int .i64 (j : Int), .int .i64 0, .string x, .slice ka n kc] 31) := by
  have := heap_alloc_new (w.alloc (gBox g)) (.cells #[.int .i64 (j : Int), .int .i64 0, .string x, .slice ka n kc] 31)
  rwa [show (w.alloc (gBox g)).heap.size = w.heap.size + 1 by simp] at this
 obtain ⟨-, -, -, y3, -⟩ := gb_cells X0
 rw [hpa] at y3
 have hs : Hid ((fun w' : World => (w'.cell? ⟨w.heap.size, 3, none⟩ = some (.slice (some ⟨pb, po, none⟩) g.ps.length g.pc)) /\ w'.cell? ⟨w.heap.size + 1, 0, none⟩ = some (.int .i64 (j : Int)) /\ w'.cell? ⟨w.heap.size + 1, 1, none⟩ = some (.int .i64 0) /\ w'.cell? ⟨w.heap.size + 1, 2, none⟩ = some (.string x) /\ w'.cell? ⟨w.heap.size + 1, 3, none⟩ = some (.slice ka n kc) /\ w'.cell? ⟨pb, po + j * 3 + 1, none⟩ = some (.slice ra rl rc)) ((w.alloc (gBox g)).alloc (.cells #[.int .i64 (j : Int), .int .i64 0, .string x, .slice ka n kc] 31)).drew) := ⟨y3, (cellq_any (i := 0) X1).trans rfl, (cellq_any (i := 1) X1).trans rfl, (cellq_any (i := 2) X1).trans rfl, (cellq_any (i := 3) X1).trans rfl, (B0.out.cell (p := ⟨pb, po + j * 3 + 1, none⟩) hbl).trans c1⟩
 clear y3 X0 X1 c0 c1 hj hpa
 go_enter Try.func24, Try.ntmps24
 go_wp2
 refine wp_region_x (S := fun _ => (fun w' : World => (w'.cell? ⟨w.heap.size, 3, none⟩ = some (.slice (some ⟨pb, po, none⟩) g.ps.length g.pc)) /\ w'.cell? ⟨w.heap.size + 1, 0, none⟩ = some (.int .i64 (j : Int)) /\ w'.cell? ⟨w.heap.size + 1, 1, none⟩ = some (.int .i64 0) /\ w'.cell? ⟨w.heap.size + 1, 2, none⟩ = some (.string x) /\ w'.cell? ⟨w.heap.size + 1, 3, none⟩ = some (.slice ka n kc) /\ w'.cell? ⟨pb, po + j * 3 + 1, none⟩ = some (.slice ra rl rc))) (by kernel_rfl) ?_
 refine takeF (i := 0) (v := ?_) rfl (by kernel_rfl) (by decide +kernel) (by decide +kernel) (fun _ _ _ h => h) (Or.inl ⟨by rfl, ?_⟩) hs.out ?_
 rotate_left
 ·(intro w hSw; (try dsimp only at hSw); go_simp; try (with_reducible rfl))
 (try simp only [Act.put, lsA, lsZ, lsN])
 refine takeF (i := 1) (v := ?_) rfl (by kernel_rfl) (by decide +kernel) (by decide +kernel) (fun _ _ _ h => h) (Or.inl ⟨by rfl, ?_⟩) hs.out ?_
 rotate_left
 ·(intro w hSw; (try dsimp only at hSw); go_simp; try (with_reducible rfl))
 (try simp only [Act.put, lsA, lsZ, lsN])
 refine takeF (i := 2) (v := ?_) rfl (by kernel_rfl) (by decide +kernel) (by decide +kernel) (fun _ _ _ h => h) (Or.inl ⟨by rfl, ?_⟩) hs.out ?_
 rotate_left
 ·(intro w hSw; (try dsimp only at hSw); go_simp; try (with_reducible rfl))
 (try simp only [Act.put, lsA, lsZ, lsN])
 refine takeF (i := 3) (v := ?_) rfl (by kernel_rfl) (by decide +kernel) (by decide +kernel) (fun _ _ _ h => h) (Or.inl ⟨by rfl, ?_⟩) hs.out ?_
 rotate_left
 ·(intro w hSw; (try dsimp only at hSw); go_simp; try (with_reducible rfl))
 (try simp only [Act.put, lsA, lsZ, lsN])
 refine takeF (i := 4) (v := ?_) rfl (by kernel_rfl) (by decide +kernel) (by decide +kernel) (fun _ _ _ h => h) (Or.inl ⟨by rfl, ?_⟩) hs.out ?_
 rotate_left
 ·(intro w hSw; (try dsimp only at hSw); go_simp; try (with_reducible rfl))
 (try simp only [Act.put, lsA, lsZ, lsN])
 refine takeF (i := 5) (v := ?_) rfl (by kernel_rfl) (by decide +kernel) (by decide +kernel) (fun _ _ _ h => h) (Or.inl ⟨by rfl, ?_⟩) hs.out ?_
 rotate_left
 ·(intro w hSw; (try dsimp only at hSw); go_simp; try (with_reducible rfl))
 (try simp only [Act.put, lsA, lsZ, lsN])
 refine takeF (i := 6) (v := ?_) rfl (by kernel_rfl) (by decide +kernel) (by decide +kernel) (fun _ _ _ h => h) (Or.inl ⟨by rfl, ?_⟩) hs.out ?_
 rotate_left
 ·(intro w hSw; (try dsimp only at hSw); go_simp; try (with_reducible rfl))
 (try simp only [Act.put, lsA, lsZ, lsN])
 refine takeF (i := 7) (v := ?_) rfl (by kernel_rfl) (by decide +kernel) (by decide +kernel) (fun _ _ _ h => h) (Or.inl ⟨by rfl, ?_⟩) hs.out ?_
 rotate_left
 ·(intro w hSw; (try dsimp only at hSw); go_simp; try (with_reducible rfl))
 (try simp only [Act.put, lsA, lsZ, lsN])
 refine takeF (i := 8) (v := ?_) rfl (by kernel_rfl) (by decide +kernel) (by decide +kernel) (fun _ _ _ h => h) (Or.inl ⟨by rfl, ?_⟩) hs.out ?_
 rotate_left
 ·(intro w hSw; (try dsimp only at hSw); go_simp; try (with_reducible rfl))
 (try simp only [Act.put, lsA, lsZ, lsN])
 refine takeF (i := 9) (v := ?_) rfl (by kernel_rfl) (by decide +kernel) (by decide +kernel) (fun _ _ _ h => h) (Or.inl ⟨by rfl, ?_⟩) hs.out ?_
 rotate_left
 ·(intro w hSw; (try dsimp only at hSw); go_simp; try (with_reducible rfl))
 (try simp only [Act.put, lsA, lsZ, lsN])
 refine takeF (i := 10) (v := ?_) rfl (by kernel_rfl) (by decide +kernel) (by decide +kernel) (fun _ _ _ h => h) (Or.inl ⟨by rfl, ?_⟩) hs.out ?_
 rotate_left
 ·(intro w hSw; (try dsimp only at hSw); go_simp; try (with_reducible rfl))
 (try simp only [Act.put, lsA, lsZ, lsN])
 refine takeF (i := 11) (v := ?_) rfl (by kernel_rfl) (by decide +kernel) (by decide +kernel) (fun _ _ _ h => h) (Or.inl ⟨by rfl, ?_⟩) hs.out ?_
 rotate_left
 ·(intro w hSw; (try dsimp only at hSw); go_simp; try (with_reducible rfl))
 (try simp only [Act.put, lsA, lsZ, lsN])
 refine takeF (i := 12) (v := ?_) rfl (by kernel_rfl) (by decide +kernel) (by decide +kernel) (fun _ _ _ h => h) (Or.inl ⟨by rfl, ?_⟩) hs.out ?_
 rotate_left
 ·(intro w hSw; (try dsimp only at hSw); go_simp; try (with_reducible rfl))
 (try simp only [Act.put, lsA, lsZ, lsN])
 refine takeF (i := 13) (v := ?_) rfl (by kernel_rfl) (by decide +kernel) (by decide +kernel) (fun _ _ _ h => h) (Or.inl ⟨by rfl, ?_⟩) hs.out ?_
 rotate_left
 ·(intro w hSw; (try dsimp only at hSw); go_simp; try (with_reducible rfl))
 (try simp only [Act.put, lsA, lsZ, lsN])
 refine takeF (i := 14) (v := ?_) rfl (by kernel_rfl) (by decide +kernel) (by decide +kernel) (fun _ _ _ h => h) (Or.inl ⟨by rfl, ?_⟩) hs.out ?_
 rotate_left
 ·(intro w hSw; (try dsimp only at hSw); go_simp; try (with_reducible rfl))
 (try simp only [Act.put, lsA, lsZ, lsN])
 refine takeF (i := 15) (v := ?_) rfl (by kernel_rfl) (by decide +kernel) (by decide +kernel) (fun _ _ _ h => h) (Or.inl ⟨by rfl, ?_⟩) hs.out ?_
 rotate_left
 ·(intro w hSw; (try dsimp only at hSw); go_simp; try (with_reducible rfl))
 (try simp only [Act.put, lsA, lsZ, lsN])
 refine takeF (i := 16) (v := ?_) rfl (by kernel_rfl) (by decide +kernel) (by decide +kernel) (fun _ _ _ h => h) (Or.inl ⟨by rfl, ?_⟩) hs.out ?_
 rotate_left
 ·(intro w hSw; (try dsimp only at hSw); go_simp; try (with_reducible rfl))
 (try simp only [Act.put, lsA, lsZ, lsN])
 refine takeF (i := 17) (v := ?_) rfl (by kernel_rfl) (by decide +kernel) (by decide +kernel) (fun _ _ _ h => h) (Or.inl ⟨by rfl, ?_⟩) hs.out ?_
 rotate_left
 ·(intro w hSw; (try dsimp only at hSw); go_simp; try (with_reducible rfl))
 (try simp only [Act.put, lsA, lsZ, lsN])
 refine takeF (i := 18) (v := ?_) rfl (by kernel_rfl) (by decide +kernel) (by decide +kernel) (fun _ _ _ h => h) (Or.inl ⟨by rfl, ?_⟩) hs.out ?_
 rotate_left
 ·(intro w hSw; (try dsimp only at hSw); go_simp; try (with_reducible rfl))
 (try simp only [Act.put, lsA, lsZ, lsN])
 refine takeF (i := 19) (v := ?_) rfl (by kernel_rfl) (by decide +kernel) (by decide +kernel) (fun _ _ _ h => h) (Or.inl ⟨by rfl, ?_⟩) hs.out ?_
 rotate_left
 ·(intro w hSw; (try dsimp only at hSw); go_simp; try (with_reducible rfl))
 (try simp only [Act.put, lsA, lsZ, lsN])
 refine takeF (i := 20) (v := ?_) rfl (by kernel_rfl) (by decide +kernel) (by decide +kernel) (fun _ _ _ h => h) (Or.inl ⟨by rfl, ?_⟩) hs.out ?_
 rotate_left
 ·(intro w hSw; (try dsimp only at hSw); go_simp; try (with_reducible rfl))
 (try simp only [Act.put, lsA, lsZ, lsN])
 refine takeF (i := 21) (v := ?_) rfl (by kernel_rfl) (by decide +kernel) (by decide +kernel) (fun _ _ _ h => h) (Or.inl ⟨by rfl, ?_⟩) hs.out ?_
 rotate_left
 ·(intro w hSw; (try dsimp only at hSw); go_simp; try (with_reducible rfl))
 (try simp only [Act.put, lsA, lsZ, lsN])
 refine takeF (i := 22) (v := ?_) rfl (by kernel_rfl) (by decide +kernel) (by decide +kernel) (fun _ _ _ h => h) (Or.inl ⟨by rfl, ?_⟩) hs.out ?_
 rotate_left
 ·(intro w hSw; (try dsimp only at hSw); go_simp; try (with_reducible rfl))
 (try simp only [Act.put, lsA, lsZ, lsN])
 refine takeF (i := 23) (v := ?_) rfl (by kernel_rfl) (by decide +kernel) (by decide +kernel) (fun _ _ _ h => h) (Or.inl ⟨by rfl, ?_⟩) hs.out ?_
 rotate_left
 ·(intro w hSw; (try dsimp only at hSw); go_simp; try (with_reducible rfl))
 (try simp only [Act.put, lsA, lsZ, lsN])
 refine takeF (i := 24) (v := ?_) rfl (by kernel_rfl) (by decide +kernel) (by decide +kernel) (fun _ _ _ h => h) (Or.inl ⟨by rfl, ?_⟩) hs.out ?_
 rotate_left
 ·(intro w hSw; (try dsimp only at hSw); go_simp; try (with_reducible rfl))
 (try simp only [Act.put, lsA, lsZ, lsN])
 refine takeF (i := 25) (v := ?_) rfl (by kernel_rfl) (by decide +kernel) (by decide +kernel) (fun _ _ _ h => h) (Or.inl ⟨by rfl, ?_⟩) hs.out ?_
 rotate_left
 ·(intro w hSw; (try dsimp only at hSw); go_simp; try (with_reducible rfl))
 (try simp only [Act.put, lsA, lsZ, lsN])
 refine takeF (i := 26) (v := ?_) rfl (by kernel_rfl) (by decide +kernel) (by decide +kernel) (fun _ _ _ h => h) (Or.inl ⟨by rfl, ?_⟩) hs.out ?_
 rotate_left
 ·(intro w hSw; (try dsimp only at hSw); go_simp; try (with_reducible rfl))
 (try simp only [Act.put, lsA, lsZ, lsN])
 refine takeF (i := 27) (v := ?_) rfl (by kernel_rfl) (by decide +kernel) (by decide +kernel) (fun _ _ _ h => h) (Or.inl ⟨by rfl, ?_⟩) hs.out ?_
 rotate_left
 ·(intro w hSw; (try dsimp only at hSw); go_simp; try (with_reducible rfl))
 (try simp only [Act.put, lsA, lsZ, lsN])
 refine takeF (i := 28) (v := ?_) rfl (by kernel_rfl) (by decide +kernel) (by decide +kernel) (fun _ _ _ h => h) (Or.inl ⟨by rfl, ?_⟩) hs.out ?_
 rotate_left
 ·(intro w hSw; (try dsimp only at hSw); go_simp; try (with_reducible rfl))
 (try simp only [Act.put, lsA, lsZ, lsN])
 refine takeF (i := 29) (v := ?_) rfl (by kernel_rfl) (by decide +kernel) (by decide +kernel) (fun _ _ _ h => h) (Or.inl ⟨by rfl, ?_⟩) hs.out ?_
 rotate_left
 ·(intro w hSw; (try dsimp only at hSw); go_simp; try (with_reducible rfl))
 (try simp only [Act.put, lsA, lsZ, lsN])
 refine takeF (i := 30) (v := ?_) rfl (by kernel_rfl) (by decide +kernel) (by decide +kernel) (fun _ _ _ h => h) (Or.inl ⟨by rfl, ?_⟩) hs.out ?_
 rotate_left
 ·(intro w hSw; (try dsimp only at hSw); go_simp; try (with_reducible rfl))
 (try simp only [Act.put, lsA, lsZ, lsN])
 refine wpAnyX_done (by decide +kernel) ?_
 by_cases q : n = rl
 ·have q1 : ((n : Int) != (rl : Int)) = false := by rw [q]; simp
  have q2 : decide (n = rl) = true := decide_eq_true q
  have q3 : (n != rl) = false := by rw [q]; simp
  have E2 : Hid (alV g (j : Int) 0 x n = 0) := by rw [q1] at E; exact E.out
  clear q E
  go_wp2
  go_ret
  exact ⟨by rw [E2.out]; rfl, B0.out⟩
 ·have q1 : ((n : Int) != (rl : Int)) = true := bne_iff_ne.2 (fun e => q (Int.ofNat_inj.1 e))
  have q2 : decide (n = rl) = false := decide_eq_false q
  have q3 : (n != rl) = true := bne_iff_ne.2 q
  have E2 : Hid (alV g (j : Int) 0 x n = 81) := by rw [q1] at E; exact E.out
  clear E
  go_wp2
  go_ret
  exact ⟨by rw [E2.out]; rfl, B0.out⟩
theorem alone_S (g : GV) (t : TV) (w : World) (h : GAt 140737488355328 w g) (hk : t.kids.length <= 140737488355328) : Calls Try.prog 24 #[g.val, t.val] w fun e w' => e = .returned (.int .i64 (alU g t)) /\ Below w.heap.size w w' := by
 rw [alU_V]
 unfold TV.val
 generalize t.kids.length = n at *
 generalize t.prod = p
 generalize t.kind = k
 generalize t.tx = x
 by_cases hp : p = -1
 ·rw [hp]
  exact alone_leaf g k x t.ka n t.kc w h hk
 by_cases h1 : p < 0
 ·exact alone_neg g p k x t.ka n t.kc w h hk hp h1
 by_cases h2 : (g.ps.length : Int) <= p
 ·exact alone_far g p k x t.ka n t.kc w h hk hp h1 h2
 by_cases h3 : k = 0
 ·by_cases h4 : x.toList = []
  ·obtain ⟨j, rfl⟩ : ∃ j : Nat, p = (j : Int) := ⟨p.toNat, by omega⟩
   rw [h3]
   exact alone_len g j x t.ka n t.kc w h hk (by omega) h4
  ·rw [h3]
   exact alone_text g p x t.ka n t.kc w h hk hp h1 h2 h4
 ·exact alone_kind g p k x t.ka n t.kc w h hk hp h1 h2 h3
end Go.Proofs.Ytfgdpmcpjpceoaa
