import Derived.Test.YtndbdliaidbocaaGreatPTTP
import Derived.Test.YtndbdliaidbocaaGreatPRRowToRegS
import Derived.Laws.OwnMore
import Derived.Deep.LoopGhost
import Derived.Test.YtndbdliaidbocaaGreatPRegXToFChk7
namespace Go.Proofs.YtndbdliaidbocaaGreat
set_option linter.unusedVariables false
open Go.RowKit
def KRow (w : World) (ao : Option Addr) (l : List TV) : Prop := l ≠ [] -> ∃ b off, ao = some ⟨b, off, none⟩ /\ b < w.heap.size /\ ∀ i, i < l.length ->
 w.cell? ⟨b, off + i * 4, none⟩ = some (.int .i64 (l.getD i .none).prod) /\ w.cell? ⟨b, off + i * 4 + 1, none⟩ = some (.int .i64 (l.getD i .none).kind) /\ w.cell? ⟨b, off + i * 4 + 2, none⟩ = some (.string (l.getD i .none).tx) /\ w.cell? ⟨b, off + i * 4 + 3, none⟩ = some (.slice (l.getD i .none).ka (l.getD i .none).kids.length (l.getD i .none).kc)
theorem KRow.later {w w' : World} {ao : Option Addr} {l : List TV} (h : KRow w ao l) (hb : Below w.heap.size w w') : KRow w' ao l := by
 intro hne
 obtain ⟨b, off, rfl, hl, hc⟩ := h hne
 have e : ∀ j, w'.cell? ⟨b, j, none⟩ = w.cell? ⟨b, j, none⟩ := fun j => hb.cell (p := ⟨b, j, none⟩) hl
 refine ⟨b, off, rfl, Nat.lt_of_lt_of_le hl hb.size, fun i hi => ?_⟩
 rw [e, e, e, e]
 exact hc i hi
def TAt (w : World) (t : TV) : Prop := AllP (fun t => KRow w (TV.ka t) (TV.kids t)) t
theorem TAt.mk {w : World} (t : TV) (h : KRow w (TV.ka t) (TV.kids t)) (hk : ∀ k ∈ TV.kids t, TAt w k) : TAt w t := AllP.mk h hk
theorem TAt.row {w : World} {t : TV} (h : TAt w t) : KRow w (TV.ka t) (TV.kids t) := AllP.here h
theorem TAt.kid {w : World} {t : TV} (h : TAt w t) : ∀ k ∈ TV.kids t, TAt w k := AllP.kid h
theorem TAt.later {w w' : World} {t : TV} (h : TAt w t) (hb : Below w.heap.size w w') : TAt w' t := fun d y hy => (h d y hy).later hb
abbrev TV.val (t : TV) : Value := .agg #[.int .i64 t.prod, .int .i64 t.kind, .string t.tx, .slice t.ka t.kids.length t.kc]
abbrev tBox (t : TV) : Obj := .cells #[.int .i64 t.prod, .int .i64 t.kind, .string t.tx, .slice t.ka t.kids.length t.kc] 31
theorem tb_cells {t : TV} {b : Nat} {w' : World} (h : w'.heap[b]? = some (tBox t)) : w'.cell? ⟨b, 0, none⟩ = some (.int .i64 t.prod) /\ w'.cell? ⟨b, 1, none⟩ = some (.int .i64 t.kind) /\ w'.cell? ⟨b, 2, none⟩ = some (.string t.tx) /\ w'.cell? ⟨b, 3, none⟩ = some (.slice t.ka t.kids.length t.kc) :=
 ⟨(cellq_any h).trans rfl, (cellq_any h).trans rfl, (cellq_any h).trans rfl, (cellq_any h).trans rfl⟩
def spCells (x : SP) : List Value := [.int .i64 x.t.prod, .int .i64 x.t.kind, .string x.t.tx, .slice x.t.ka x.t.kids.length x.t.kc, .int .i64 x.d, .int .i64 x.s.1, .int .i64 x.s.2, .bool x.u]
theorem rkSpot : RK 76 77 8 spCells := by
 refine ⟨Tryz.underlying77, ?_, by decide, fun _ => rfl, fun x u hu => ?_⟩
 ·have h : (Tryz.prog.info? 76).map (fun i => (i.zero, i.size, i.bytes)) = some (some (.agg #[.int .i64 0, .int .i64 0, .string ByteArray.empty, .slice none 0 0, .int .i64 0, .int .i64 0, .int .i64 0, .bool false]), 8, 88) := by kernel_rfl
  cases e : Tryz.prog.info? 76 with
  | none => rw [e] at h; cases h
  | some i =>
   rw [e] at h
   simp at h
   exact ⟨i, _, rfl, h.1, h.2.1, by rw [h.2.2]; decide, rfl⟩
 ·simp [spCells] at hu
  rcases hu with rfl | rfl | rfl | rfl | rfl | rfl | rfl | rfl <;> rfl
abbrev SPo := RO 76 8 spCells
theorem ps_cells {n : Nat} {w : World} {g : GV} (h : GAt n w g) {j : Nat} (hj : j < g.ps.length) : ∃ b off, g.pa = some ⟨b, off, none⟩ /\ b < w.heap.size /\ w.cell? ⟨b, off + j * 3, none⟩ = some (.int .i64 (g.ps.getD j .none).left) /\ w.cell? ⟨b, off + j * 3 + 1, none⟩ = some (.slice (g.ps.getD j .none).ra (g.ps.getD j .none).right.length (g.ps.getD j .none).rc) /\ SymRow w (g.ps.getD j .none).ra (g.ps.getD j .none).right := by
 obtain ⟨b, o, hpa, hbl, hc⟩ := h.p.cells (by intro e; rw [e] at hj; simp at hj)
 obtain ⟨c0, c1, c2⟩ := hc j hj
 exact ⟨b, o, hpa, hbl, c0, c1, h.p.rows _ (by simp [List.getD, hj])⟩
set_option maxRecDepth 100000 in
set_option maxHeartbeats 4000000 in
theorem root_S (g : GV) (t : TV) (w : World) (h : GAt 140737488355328 w g) : Calls Tryz.prog 21 #[g.val, t.val] w fun e w' => e = .returned (.agg #[.int .i64 (rootU g t).1, .int .i64 (rootU g t).2]) /\ Below w.heap.size w w' := by
 have htl := h.tl
 have hpl := h.pl
 by_cases hp : t.prod = -1
 ·have e0 : (t.prod == -1) = true := by simpa using hp
  by_cases h1 : 0 <= t.kind
  ·by_cases h2 : t.kind < (g.ts.length : Int)
   ·have E : Hid (rootU g t = (1, t.kind)) := root_leaf hp h1 h2
    go_enter Tryz.func21, Tryz.ntmps21
    go_wp2
    refine bodyPost_ret (v := .agg #[.int .i64 1, .int .i64 t.kind]) (by simp [results, Tryz.results21, go_sem]) rfl ?_
    rw [E.out]
    exact ⟨rfl, (three_box w _ _ _).1⟩
   ·have E : Hid (rootU g t = (0, 0)) := by
     show _ = _
     unfold rootU
     rw [if_neg (by omega), if_neg (by omega)]
    have e1 : ¬ 0 <= t.prod := by omega
    go_enter Tryz.func21, Tryz.ntmps21
    go_wp2
    refine bodyPost_ret (v := .agg #[.int .i64 0, .int .i64 0]) (by simp [results, Tryz.results21, go_sem]) rfl ?_
    rw [E.out]
    exact ⟨rfl, (three_box w _ _ _).1⟩
  ·have E : Hid (rootU g t = (0, 0)) := by
    show _ = _
    unfold rootU
    rw [if_neg (by omega), if_neg (by omega)]
   have e1 : ¬ 0 <= t.prod := by omega
   go_enter Tryz.func21, Tryz.ntmps21
   go_wp2
   refine bodyPost_ret (v := .agg #[.int .i64 0, .int .i64 0]) (by simp [results, Tryz.results21, go_sem]) rfl ?_
   rw [E.out]
   exact ⟨rfl, (three_box w _ _ _).1⟩
 ·have e0 : (t.prod == -1) = false := by simpa using hp
  by_cases h1 : 0 <= t.prod
  ·by_cases h2 : t.prod < (g.ps.length : Int)
   ·have E : Hid (rootU g t = (2, (g.ps.getD t.prod.toNat .none).left)) := root_node h1 h2
    obtain ⟨j, hj⟩ : ∃ j : Nat, t.prod = (j : Int) := ⟨t.prod.toNat, by omega⟩
    have hjl : j < g.ps.length := by omega
    rw [hj] at e0 h1 h2
    rw [hj, Int.toNat_natCast] at E
    obtain ⟨pb, po, hpa, hbl, c0, c1, -⟩ := ps_cells h hjl
    have c0' : (((w.alloc (gBox g)).alloc (tBox t)).alloc (syBox 0 0)).cell? ⟨pb, po + j * 3, none⟩ = some (.int .i64 (g.ps.getD j .none).left) := ((three_box w _ _ _).1.cell (p := ⟨pb, po + j * 3, none⟩) hbl).trans c0
    unfold gBox tBox at c0'
    unfold GV.val TV.val
    rw [hpa, hj] at c0' ⊢
    clear hj hp c0 c1
    generalize (g.ps.getD j .none).left = lf at *
    go_enter Tryz.func21, Tryz.ntmps21
    go_wp2
    refine bodyPost_ret (v := .agg #[.int .i64 2, .int .i64 lf]) (by simp [results, Tryz.results21, go_sem]) rfl ?_
    rw [E.out]
    exact ⟨rfl, (three_box w _ _ _).1⟩
   ·have E : Hid (rootU g t = (0, 0)) := by
     show _ = _
     unfold rootU
     rw [if_neg (by omega), if_neg (by omega)]
    go_enter Tryz.func21, Tryz.ntmps21
    go_wp2
    refine bodyPost_ret (v := .agg #[.int .i64 0, .int .i64 0]) (by simp [results, Tryz.results21, go_sem]) rfl ?_
    rw [E.out]
    exact ⟨rfl, (three_box w _ _ _).1⟩
  ·have E : Hid (rootU g t = (0, 0)) := by
    show _ = _
    unfold rootU
    rw [if_neg (by omega), if_neg (by omega)]
   go_enter Tryz.func21, Tryz.ntmps21
   go_wp2
   refine bodyPost_ret (v := .agg #[.int .i64 0, .int .i64 0]) (by simp [results, Tryz.results21, go_sem]) rfl ?_
   rw [E.out]
   exact ⟨rfl, (three_box w _ _ _).1⟩
def alV (g : GV) (p k : Int) (x : ByteArray) (n : Nat) : Int :=
 if p = -1 then (if k < 0 ∨ (g.ts.length : Int) <= k ∨ 0 < n then 82 else 0)
 else if p < 0 ∨ (g.ps.length : Int) <= p ∨ k ≠ 0 ∨ x.toList ≠ [] ∨ n ≠ (g.ps.getD p.toNat .none).right.length then 81 else 0
theorem alU_V (g : GV) (t : TV) : alTU g t = alV g t.prod t.kind t.tx t.kids.length := rfl
set_option maxRecDepth 100000 in
set_option maxHeartbeats 4000000 in
theorem alone_leaf (g : GV) (k : Int) (x : ByteArray) (ka : Option Addr) (n kc : Nat) (w : World) (h : GAt 140737488355328 w g) (hk : n <= 140737488355328) : Calls Tryz.prog 20 #[g.val, .agg #[.int .i64 (-1), .int .i64 k, .string x, .slice ka n kc]] w fun e w' => e = .returned (.int .i64 (alV g (-1) k x n)) /\ Below w.heap.size w w' := by
 have htl := h.tl
 have B0 : Hid (Below w.heap.size w ((w.alloc (gBox g)).alloc (.cells #[.int .i64 (-1), .int .i64 k, .string x, .slice ka n kc] 31))) := (below_alloc w _).alloc (below_alloc w _).size _
 by_cases h0 : k < 0
 ·have E : Hid (alV g (-1) k x n = 82) := by show _ = _; unfold alV; rw [if_pos rfl, if_pos (.inl h0)]
  go_enter Tryz.func20, Tryz.ntmps20
  go_wp2
  go_ret
  exact ⟨by rw [E.out]; rfl, B0.out⟩
 by_cases h1 : (g.ts.length : Int) <= k
 ·have E : Hid (alV g (-1) k x n = 82) := by show _ = _; unfold alV; rw [if_pos rfl, if_pos (.inr (.inl h1))]
  go_enter Tryz.func20, Tryz.ntmps20
  go_wp2
  go_ret
  exact ⟨by rw [E.out]; rfl, B0.out⟩
 by_cases h2 : 0 < n
 ·have E : Hid (alV g (-1) k x n = 82) := by show _ = _; unfold alV; rw [if_pos rfl, if_pos (.inr (.inr h2))]
  have h3' : (0 : Int) < (n : Int) := by omega
  go_enter Tryz.func20, Tryz.ntmps20
  go_wp2
  go_ret
  exact ⟨by rw [E.out]; rfl, B0.out⟩
 have E : Hid (alV g (-1) k x n = 0) := by show _ = _; unfold alV; rw [if_pos rfl, if_neg (by omega)]
 have h3' : ¬ (0 : Int) < (n : Int) := by omega
 go_enter Tryz.func20, Tryz.ntmps20
 go_wp2
 go_ret
 exact ⟨by rw [E.out]; rfl, B0.out⟩
set_option linter.unusedSimpArgs false in
set_option maxRecDepth 100000 in
set_option maxHeartbeats 8000000 in
theorem alone_neg (g : GV) (p k : Int) (x : ByteArray) (ka : Option Addr) (n kc : Nat) (w : World) (h : GAt 140737488355328 w g) (hk : n <= 140737488355328) (hp : p ≠ -1) (h1 : p < 0) : Calls Tryz.prog 20 #[g.val, .agg #[.int .i64 p, .int .i64 k, .string x, .slice ka n kc]] w fun e w' => e = .returned (.int .i64 (alV g p k x n)) /\ Below w.heap.size w w' := by
 have hpl := h.pl
 have e0 : (p == -1) = false := by simpa using hp
 have B0 : Hid (Below w.heap.size w ((w.alloc (gBox g)).alloc (.cells #[.int .i64 p, .int .i64 k, .string x, .slice ka n kc] 31)).drew) := ((below_alloc w _).alloc (below_alloc w _).size _).drew
 have X0 : ((w.alloc (gBox g)).alloc (.cells #[.int .i64 p, .int .i64 k, .string x, .slice ka n kc] 31)).drew.heap[w.heap.size]? = some (gBox g) := by
  show ((w.alloc (gBox g)).alloc (.cells #[.int .i64 p, .int .i64 k, .string x, .slice ka n kc] 31)).heap[w.heap.size]? = some (gBox g)
  rw [(below_alloc (w.alloc (gBox g)) _).block _ (by simp)]
  exact heap_alloc_new _ _
 have X1 : ((w.alloc (gBox g)).alloc (.cells #[.int .i64 p, .int .i64 k, .string x, .slice ka n kc] 31)).drew.heap[w.heap.size + 1]? = some (.cells #[.int .i64 p, .int .i64 k, .string x, .slice ka n kc] 31) := by
  have := heap_alloc_new (w.alloc (gBox g)) (.cells #[.int .i64 p, .int .i64 k, .string x, .slice ka n kc] 31)
  rwa [show (w.alloc (gBox g)).heap.size = w.heap.size + 1 by simp] at this
 obtain ⟨-, -, -, y3, -⟩ := gb_cells X0
 have z0 := (cellq_any (i := 0) X1).trans rfl
 have z1 := (cellq_any (i := 1) X1).trans rfl
 have z2 := (cellq_any (i := 2) X1).trans rfl
 have z3 := (cellq_any (i := 3) X1).trans rfl
 have E : Hid (alV g p k x n = 81) := by show _ = _; unfold alV; rw [if_neg hp, if_pos (.inl h1)]
 clear hp
 have hs : Hid ((fun w' : World => (w'.cell? ⟨w.heap.size, 3, none⟩ = some (.slice g.pa g.ps.length g.pc)) /\ w'.cell? ⟨w.heap.size + 1, 0, none⟩ = some (.int .i64 p) /\ w'.cell? ⟨w.heap.size + 1, 1, none⟩ = some (.int .i64 k) /\ w'.cell? ⟨w.heap.size + 1, 2, none⟩ = some (.string x) /\ w'.cell? ⟨w.heap.size + 1, 3, none⟩ = some (.slice ka n kc)) ((w.alloc (gBox g)).alloc (.cells #[.int .i64 p, .int .i64 k, .string x, .slice ka n kc] 31)).drew) := ⟨y3, z0, z1, z2, z3⟩
 clear y3 z0 z1 z2 z3 X0 X1
 go_enter Tryz.func20, Tryz.ntmps20
 go_wp2
 refine wp_region_x (S := fun _ => (fun w' : World => (w'.cell? ⟨w.heap.size, 3, none⟩ = some (.slice g.pa g.ps.length g.pc)) /\ w'.cell? ⟨w.heap.size + 1, 0, none⟩ = some (.int .i64 p) /\ w'.cell? ⟨w.heap.size + 1, 1, none⟩ = some (.int .i64 k) /\ w'.cell? ⟨w.heap.size + 1, 2, none⟩ = some (.string x) /\ w'.cell? ⟨w.heap.size + 1, 3, none⟩ = some (.slice ka n kc))) (by kernel_rfl) ?_
 refine takeF (i := 0) (v := ?_) rfl (by kernel_rfl) (by decide +kernel) (by decide +kernel) (fun _ _ _ h => h) (Or.inl ⟨by rfl, ?_⟩) hs.out ?_
 rotate_left
 ·(intro w hSw; (try dsimp only at hSw); go_simp; try (with_reducible rfl))
 (try simp only [Act.put, List.setIfInBounds_toArray, List.set_cons_zero, List.set_cons_succ])
 refine takeF (i := 1) (v := ?_) rfl (by kernel_rfl) (by decide +kernel) (by decide +kernel) (fun _ _ _ h => h) (Or.inl ⟨by rfl, ?_⟩) hs.out ?_
 rotate_left
 ·(intro w hSw; (try dsimp only at hSw); go_simp; try (with_reducible rfl))
 (try simp only [Act.put, List.setIfInBounds_toArray, List.set_cons_zero, List.set_cons_succ])
 refine takeF (i := 2) (v := ?_) rfl (by kernel_rfl) (by decide +kernel) (by decide +kernel) (fun _ _ _ h => h) (Or.inl ⟨by rfl, ?_⟩) hs.out ?_
 rotate_left
 ·(intro w hSw; (try dsimp only at hSw); go_simp; try (with_reducible rfl))
 (try simp only [Act.put, List.setIfInBounds_toArray, List.set_cons_zero, List.set_cons_succ])
 refine takeF (i := 3) (v := ?_) rfl (by kernel_rfl) (by decide +kernel) (by decide +kernel) (fun _ _ _ h => h) (Or.inl ⟨by rfl, ?_⟩) hs.out ?_
 rotate_left
 ·(intro w hSw; (try dsimp only at hSw); go_simp; try (with_reducible rfl))
 (try simp only [Act.put, List.setIfInBounds_toArray, List.set_cons_zero, List.set_cons_succ])
 refine takeF (i := 4) (v := undef) rfl (by kernel_rfl) (by decide +kernel) (by decide +kernel) (fun _ _ _ h => h) (Or.inr ⟨by rfl, rfl⟩) hs.out ?_
 (try simp only [Act.put, List.setIfInBounds_toArray, List.set_cons_zero, List.set_cons_succ])
 refine takeF (i := 5) (v := undef) rfl (by kernel_rfl) (by decide +kernel) (by decide +kernel) (fun _ _ _ h => h) (Or.inr ⟨by rfl, rfl⟩) hs.out ?_
 (try simp only [Act.put, List.setIfInBounds_toArray, List.set_cons_zero, List.set_cons_succ])
 refine takeF (i := 6) (v := undef) rfl (by kernel_rfl) (by decide +kernel) (by decide +kernel) (fun _ _ _ h => h) (Or.inr ⟨by rfl, rfl⟩) hs.out ?_
 (try simp only [Act.put, List.setIfInBounds_toArray, List.set_cons_zero, List.set_cons_succ])
 refine takeF (i := 7) (v := undef) rfl (by kernel_rfl) (by decide +kernel) (by decide +kernel) (fun _ _ _ h => h) (Or.inr ⟨by rfl, rfl⟩) hs.out ?_
 (try simp only [Act.put, List.setIfInBounds_toArray, List.set_cons_zero, List.set_cons_succ])
 refine takeF (i := 8) (v := undef) rfl (by kernel_rfl) (by decide +kernel) (by decide +kernel) (fun _ _ _ h => h) (Or.inr ⟨by rfl, rfl⟩) hs.out ?_
 (try simp only [Act.put, List.setIfInBounds_toArray, List.set_cons_zero, List.set_cons_succ])
 refine takeF (i := 9) (v := undef) rfl (by kernel_rfl) (by decide +kernel) (by decide +kernel) (fun _ _ _ h => h) (Or.inr ⟨by rfl, rfl⟩) hs.out ?_
 (try simp only [Act.put, List.setIfInBounds_toArray, List.set_cons_zero, List.set_cons_succ])
 refine takeF (i := 10) (v := ?_) rfl (by kernel_rfl) (by decide +kernel) (by decide +kernel) (fun _ _ _ h => h) (Or.inl ⟨by rfl, ?_⟩) hs.out ?_
 rotate_left
 ·(intro w hSw; (try dsimp only at hSw); go_simp; try (with_reducible rfl))
 (try simp only [Act.put, List.setIfInBounds_toArray, List.set_cons_zero, List.set_cons_succ])
 refine takeF (i := 11) (v := ?_) rfl (by kernel_rfl) (by decide +kernel) (by decide +kernel) (fun _ _ _ h => h) (Or.inl ⟨by rfl, ?_⟩) hs.out ?_
 rotate_left
 ·(intro w hSw; (try dsimp only at hSw); go_simp; try (with_reducible rfl))
 (try simp only [Act.put, List.setIfInBounds_toArray, List.set_cons_zero, List.set_cons_succ])
 refine takeF (i := 12) (v := undef) rfl (by kernel_rfl) (by decide +kernel) (by decide +kernel) (fun _ _ _ h => h) (Or.inr ⟨by rfl, rfl⟩) hs.out ?_
 (try simp only [Act.put, List.setIfInBounds_toArray, List.set_cons_zero, List.set_cons_succ])
 refine takeF (i := 13) (v := undef) rfl (by kernel_rfl) (by decide +kernel) (by decide +kernel) (fun _ _ _ h => h) (Or.inr ⟨by rfl, rfl⟩) hs.out ?_
 (try simp only [Act.put, List.setIfInBounds_toArray, List.set_cons_zero, List.set_cons_succ])
 refine takeF (i := 14) (v := undef) rfl (by kernel_rfl) (by decide +kernel) (by decide +kernel) (fun _ _ _ h => h) (Or.inr ⟨by rfl, rfl⟩) hs.out ?_
 (try simp only [Act.put, List.setIfInBounds_toArray, List.set_cons_zero, List.set_cons_succ])
 refine takeF (i := 15) (v := undef) rfl (by kernel_rfl) (by decide +kernel) (by decide +kernel) (fun _ _ _ h => h) (Or.inr ⟨by rfl, rfl⟩) hs.out ?_
 (try simp only [Act.put, List.setIfInBounds_toArray, List.set_cons_zero, List.set_cons_succ])
 refine takeF (i := 16) (v := ?_) rfl (by kernel_rfl) (by decide +kernel) (by decide +kernel) (fun _ _ _ h => h) (Or.inl ⟨by rfl, ?_⟩) hs.out ?_
 rotate_left
 ·(intro w hSw; (try dsimp only at hSw); go_simp; try (with_reducible rfl))
 (try simp only [Act.put, List.setIfInBounds_toArray, List.set_cons_zero, List.set_cons_succ])
 refine takeF (i := 17) (v := ?_) rfl (by kernel_rfl) (by decide +kernel) (by decide +kernel) (fun _ _ _ h => h) (Or.inl ⟨by rfl, ?_⟩) hs.out ?_
 rotate_left
 ·(intro w hSw; (try dsimp only at hSw); go_simp; try (with_reducible rfl))
 (try simp only [Act.put, List.setIfInBounds_toArray, List.set_cons_zero, List.set_cons_succ])
 refine takeF (i := 18) (v := undef) rfl (by kernel_rfl) (by decide +kernel) (by decide +kernel) (fun _ _ _ h => h) (Or.inr ⟨by rfl, rfl⟩) hs.out ?_
 (try simp only [Act.put, List.setIfInBounds_toArray, List.set_cons_zero, List.set_cons_succ])
 refine takeF (i := 19) (v := undef) rfl (by kernel_rfl) (by decide +kernel) (by decide +kernel) (fun _ _ _ h => h) (Or.inr ⟨by rfl, rfl⟩) hs.out ?_
 (try simp only [Act.put, List.setIfInBounds_toArray, List.set_cons_zero, List.set_cons_succ])
 refine takeF (i := 20) (v := undef) rfl (by kernel_rfl) (by decide +kernel) (by decide +kernel) (fun _ _ _ h => h) (Or.inr ⟨by rfl, rfl⟩) hs.out ?_
 (try simp only [Act.put, List.setIfInBounds_toArray, List.set_cons_zero, List.set_cons_succ])
 refine takeF (i := 21) (v := undef) rfl (by kernel_rfl) (by decide +kernel) (by decide +kernel) (fun _ _ _ h => h) (Or.inr ⟨by rfl, rfl⟩) hs.out ?_
 (try simp only [Act.put, List.setIfInBounds_toArray, List.set_cons_zero, List.set_cons_succ])
 refine takeF (i := 22) (v := undef) rfl (by kernel_rfl) (by decide +kernel) (by decide +kernel) (fun _ _ _ h => h) (Or.inr ⟨by rfl, rfl⟩) hs.out ?_
 (try simp only [Act.put, List.setIfInBounds_toArray, List.set_cons_zero, List.set_cons_succ])
 refine takeF (i := 23) (v := undef) rfl (by kernel_rfl) (by decide +kernel) (by decide +kernel) (fun _ _ _ h => h) (Or.inr ⟨by rfl, rfl⟩) hs.out ?_
 (try simp only [Act.put, List.setIfInBounds_toArray, List.set_cons_zero, List.set_cons_succ])
 refine takeF (i := 24) (v := undef) rfl (by kernel_rfl) (by decide +kernel) (by decide +kernel) (fun _ _ _ h => h) (Or.inr ⟨by rfl, rfl⟩) hs.out ?_
 (try simp only [Act.put, List.setIfInBounds_toArray, List.set_cons_zero, List.set_cons_succ])
 refine takeF (i := 25) (v := undef) rfl (by kernel_rfl) (by decide +kernel) (by decide +kernel) (fun _ _ _ h => h) (Or.inr ⟨by rfl, rfl⟩) hs.out ?_
 (try simp only [Act.put, List.setIfInBounds_toArray, List.set_cons_zero, List.set_cons_succ])
 refine takeF (i := 26) (v := undef) rfl (by kernel_rfl) (by decide +kernel) (by decide +kernel) (fun _ _ _ h => h) (Or.inr ⟨by rfl, rfl⟩) hs.out ?_
 (try simp only [Act.put, List.setIfInBounds_toArray, List.set_cons_zero, List.set_cons_succ])
 refine takeF (i := 27) (v := undef) rfl (by kernel_rfl) (by decide +kernel) (by decide +kernel) (fun _ _ _ h => h) (Or.inr ⟨by rfl, rfl⟩) hs.out ?_
 (try simp only [Act.put, List.setIfInBounds_toArray, List.set_cons_zero, List.set_cons_succ])
 refine takeF (i := 28) (v := undef) rfl (by kernel_rfl) (by decide +kernel) (by decide +kernel) (fun _ _ _ h => h) (Or.inr ⟨by rfl, rfl⟩) hs.out ?_
 (try simp only [Act.put, List.setIfInBounds_toArray, List.set_cons_zero, List.set_cons_succ])
 refine takeF (i := 29) (v := undef) rfl (by kernel_rfl) (by decide +kernel) (by decide +kernel) (fun _ _ _ h => h) (Or.inr ⟨by rfl, rfl⟩) hs.out ?_
 (try simp only [Act.put, List.setIfInBounds_toArray, List.set_cons_zero, List.set_cons_succ])
 refine takeF (i := 30) (v := ?_) rfl (by kernel_rfl) (by decide +kernel) (by decide +kernel) (fun _ _ _ h => h) (Or.inl ⟨by rfl, ?_⟩) hs.out ?_
 rotate_left
 ·(intro w hSw; (try dsimp only at hSw); go_simp; try (with_reducible rfl))
 (try simp only [Act.put, List.setIfInBounds_toArray, List.set_cons_zero, List.set_cons_succ])
 refine wpAnyX_done (by decide +kernel) ?_
 go_wp2
 go_ret
 exact ⟨by rw [E.out]; rfl, B0.out⟩
set_option linter.unusedSimpArgs false in
set_option maxRecDepth 100000 in
set_option maxHeartbeats 8000000 in
theorem alone_far (g : GV) (p k : Int) (x : ByteArray) (ka : Option Addr) (n kc : Nat) (w : World) (h : GAt 140737488355328 w g) (hk : n <= 140737488355328) (hp : p ≠ -1) (h1 : ¬ p < 0) (h2 : (g.ps.length : Int) <= p) : Calls Tryz.prog 20 #[g.val, .agg #[.int .i64 p, .int .i64 k, .string x, .slice ka n kc]] w fun e w' => e = .returned (.int .i64 (alV g p k x n)) /\ Below w.heap.size w w' := by
 have hpl := h.pl
 have e0 : (p == -1) = false := by simpa using hp
 have B0 : Hid (Below w.heap.size w ((w.alloc (gBox g)).alloc (.cells #[.int .i64 p, .int .i64 k, .string x, .slice ka n kc] 31)).drew) := ((below_alloc w _).alloc (below_alloc w _).size _).drew
 have X0 : ((w.alloc (gBox g)).alloc (.cells #[.int .i64 p, .int .i64 k, .string x, .slice ka n kc] 31)).drew.heap[w.heap.size]? = some (gBox g) := by
  show ((w.alloc (gBox g)).alloc (.cells #[.int .i64 p, .int .i64 k, .string x, .slice ka n kc] 31)).heap[w.heap.size]? = some (gBox g)
  rw [(below_alloc (w.alloc (gBox g)) _).block _ (by simp)]
  exact heap_alloc_new _ _
 have X1 : ((w.alloc (gBox g)).alloc (.cells #[.int .i64 p, .int .i64 k, .string x, .slice ka n kc] 31)).drew.heap[w.heap.size + 1]? = some (.cells #[.int .i64 p, .int .i64 k, .string x, .slice ka n kc] 31) := by
  have := heap_alloc_new (w.alloc (gBox g)) (.cells #[.int .i64 p, .int .i64 k, .string x, .slice ka n kc] 31)
  rwa [show (w.alloc (gBox g)).heap.size = w.heap.size + 1 by simp] at this
 obtain ⟨-, -, -, y3, -⟩ := gb_cells X0
 have z0 := (cellq_any (i := 0) X1).trans rfl
 have z1 := (cellq_any (i := 1) X1).trans rfl
 have z2 := (cellq_any (i := 2) X1).trans rfl
 have z3 := (cellq_any (i := 3) X1).trans rfl
 have E : Hid (alV g p k x n = 81) := by show _ = _; unfold alV; rw [if_neg hp, if_pos (.inr (.inl h2))]
 clear hp
 have d1 : decide (p < 0) = false := decide_eq_false h1
 have hs : Hid ((fun w' : World => (w'.cell? ⟨w.heap.size, 3, none⟩ = some (.slice g.pa g.ps.length g.pc)) /\ w'.cell? ⟨w.heap.size + 1, 0, none⟩ = some (.int .i64 p) /\ w'.cell? ⟨w.heap.size + 1, 1, none⟩ = some (.int .i64 k) /\ w'.cell? ⟨w.heap.size + 1, 2, none⟩ = some (.string x) /\ w'.cell? ⟨w.heap.size + 1, 3, none⟩ = some (.slice ka n kc)) ((w.alloc (gBox g)).alloc (.cells #[.int .i64 p, .int .i64 k, .string x, .slice ka n kc] 31)).drew) := ⟨y3, z0, z1, z2, z3⟩
 clear y3 z0 z1 z2 z3 X0 X1
 go_enter Tryz.func20, Tryz.ntmps20
 go_wp2
 refine wp_region_x (S := fun _ => (fun w' : World => (w'.cell? ⟨w.heap.size, 3, none⟩ = some (.slice g.pa g.ps.length g.pc)) /\ w'.cell? ⟨w.heap.size + 1, 0, none⟩ = some (.int .i64 p) /\ w'.cell? ⟨w.heap.size + 1, 1, none⟩ = some (.int .i64 k) /\ w'.cell? ⟨w.heap.size + 1, 2, none⟩ = some (.string x) /\ w'.cell? ⟨w.heap.size + 1, 3, none⟩ = some (.slice ka n kc))) (by kernel_rfl) ?_
 refine takeF (i := 0) (v := ?_) rfl (by kernel_rfl) (by decide +kernel) (by decide +kernel) (fun _ _ _ h => h) (Or.inl ⟨by rfl, ?_⟩) hs.out ?_
 rotate_left
 ·(intro w hSw; (try dsimp only at hSw); go_simp; try (with_reducible rfl))
 (try simp only [Act.put, List.setIfInBounds_toArray, List.set_cons_zero, List.set_cons_succ])
 refine takeF (i := 1) (v := ?_) rfl (by kernel_rfl) (by decide +kernel) (by decide +kernel) (fun _ _ _ h => h) (Or.inl ⟨by rfl, ?_⟩) hs.out ?_
 rotate_left
 ·(intro w hSw; (try dsimp only at hSw); go_simp; try (with_reducible rfl))
 (try simp only [Act.put, List.setIfInBounds_toArray, List.set_cons_zero, List.set_cons_succ])
 refine takeF (i := 2) (v := ?_) rfl (by kernel_rfl) (by decide +kernel) (by decide +kernel) (fun _ _ _ h => h) (Or.inl ⟨by rfl, ?_⟩) hs.out ?_
 rotate_left
 ·(intro w hSw; (try dsimp only at hSw); go_simp; try (with_reducible rfl))
 (try simp only [Act.put, List.setIfInBounds_toArray, List.set_cons_zero, List.set_cons_succ])
 refine takeF (i := 3) (v := ?_) rfl (by kernel_rfl) (by decide +kernel) (by decide +kernel) (fun _ _ _ h => h) (Or.inl ⟨by rfl, ?_⟩) hs.out ?_
 rotate_left
 ·(intro w hSw; (try dsimp only at hSw); go_simp; try (with_reducible rfl))
 (try simp only [Act.put, List.setIfInBounds_toArray, List.set_cons_zero, List.set_cons_succ])
 refine takeF (i := 4) (v := ?_) rfl (by kernel_rfl) (by decide +kernel) (by decide +kernel) (fun _ _ _ h => h) (Or.inl ⟨by rfl, ?_⟩) hs.out ?_
 rotate_left
 ·(intro w hSw; (try dsimp only at hSw); go_simp; try (with_reducible rfl))
 (try simp only [Act.put, List.setIfInBounds_toArray, List.set_cons_zero, List.set_cons_succ])
 refine takeF (i := 5) (v := ?_) rfl (by kernel_rfl) (by decide +kernel) (by decide +kernel) (fun _ _ _ h => h) (Or.inl ⟨by rfl, ?_⟩) hs.out ?_
 rotate_left
 ·(intro w hSw; (try dsimp only at hSw); go_simp; try (with_reducible rfl))
 (try simp only [Act.put, List.setIfInBounds_toArray, List.set_cons_zero, List.set_cons_succ])
 refine takeF (i := 6) (v := ?_) rfl (by kernel_rfl) (by decide +kernel) (by decide +kernel) (fun _ _ _ h => h) (Or.inl ⟨by rfl, ?_⟩) hs.out ?_
 rotate_left
 ·(intro w hSw; (try dsimp only at hSw); go_simp; try (with_reducible rfl))
 (try simp only [Act.put, List.setIfInBounds_toArray, List.set_cons_zero, List.set_cons_succ])
 refine takeF (i := 7) (v := ?_) rfl (by kernel_rfl) (by decide +kernel) (by decide +kernel) (fun _ _ _ h => h) (Or.inl ⟨by rfl, ?_⟩) hs.out ?_
 rotate_left
 ·(intro w hSw; (try dsimp only at hSw); go_simp; try (with_reducible rfl))
 (try simp only [Act.put, List.setIfInBounds_toArray, List.set_cons_zero, List.set_cons_succ])
 refine takeF (i := 8) (v := ?_) rfl (by kernel_rfl) (by decide +kernel) (by decide +kernel) (fun _ _ _ h => h) (Or.inl ⟨by rfl, ?_⟩) hs.out ?_
 rotate_left
 ·(intro w hSw; (try dsimp only at hSw); go_simp; try (with_reducible rfl))
 (try simp only [Act.put, List.setIfInBounds_toArray, List.set_cons_zero, List.set_cons_succ])
 refine takeF (i := 9) (v := ?_) rfl (by kernel_rfl) (by decide +kernel) (by decide +kernel) (fun _ _ _ h => h) (Or.inl ⟨by rfl, ?_⟩) hs.out ?_
 rotate_left
 ·(intro w hSw; (try dsimp only at hSw); go_simp; try (with_reducible rfl))
 (try simp only [Act.put, List.setIfInBounds_toArray, List.set_cons_zero, List.set_cons_succ])
 refine takeF (i := 10) (v := ?_) rfl (by kernel_rfl) (by decide +kernel) (by decide +kernel) (fun _ _ _ h => h) (Or.inl ⟨by rfl, ?_⟩) hs.out ?_
 rotate_left
 ·(intro w hSw; (try dsimp only at hSw); go_simp; try (with_reducible rfl))
 (try simp only [Act.put, List.setIfInBounds_toArray, List.set_cons_zero, List.set_cons_succ])
 refine takeF (i := 11) (v := ?_) rfl (by kernel_rfl) (by decide +kernel) (by decide +kernel) (fun _ _ _ h => h) (Or.inl ⟨by rfl, ?_⟩) hs.out ?_
 rotate_left
 ·(intro w hSw; (try dsimp only at hSw); go_simp; try (with_reducible rfl))
 (try simp only [Act.put, List.setIfInBounds_toArray, List.set_cons_zero, List.set_cons_succ])
 refine takeF (i := 12) (v := undef) rfl (by kernel_rfl) (by decide +kernel) (by decide +kernel) (fun _ _ _ h => h) (Or.inr ⟨by rfl, rfl⟩) hs.out ?_
 (try simp only [Act.put, List.setIfInBounds_toArray, List.set_cons_zero, List.set_cons_succ])
 refine takeF (i := 13) (v := undef) rfl (by kernel_rfl) (by decide +kernel) (by decide +kernel) (fun _ _ _ h => h) (Or.inr ⟨by rfl, rfl⟩) hs.out ?_
 (try simp only [Act.put, List.setIfInBounds_toArray, List.set_cons_zero, List.set_cons_succ])
 refine takeF (i := 14) (v := undef) rfl (by kernel_rfl) (by decide +kernel) (by decide +kernel) (fun _ _ _ h => h) (Or.inr ⟨by rfl, rfl⟩) hs.out ?_
 (try simp only [Act.put, List.setIfInBounds_toArray, List.set_cons_zero, List.set_cons_succ])
 refine takeF (i := 15) (v := undef) rfl (by kernel_rfl) (by decide +kernel) (by decide +kernel) (fun _ _ _ h => h) (Or.inr ⟨by rfl, rfl⟩) hs.out ?_
 (try simp only [Act.put, List.setIfInBounds_toArray, List.set_cons_zero, List.set_cons_succ])
 refine takeF (i := 16) (v := ?_) rfl (by kernel_rfl) (by decide +kernel) (by decide +kernel) (fun _ _ _ h => h) (Or.inl ⟨by rfl, ?_⟩) hs.out ?_
 rotate_left
 ·(intro w hSw; (try dsimp only at hSw); go_simp; try (with_reducible rfl))
 (try simp only [Act.put, List.setIfInBounds_toArray, List.set_cons_zero, List.set_cons_succ])
 refine takeF (i := 17) (v := ?_) rfl (by kernel_rfl) (by decide +kernel) (by decide +kernel) (fun _ _ _ h => h) (Or.inl ⟨by rfl, ?_⟩) hs.out ?_
 rotate_left
 ·(intro w hSw; (try dsimp only at hSw); go_simp; try (with_reducible rfl))
 (try simp only [Act.put, List.setIfInBounds_toArray, List.set_cons_zero, List.set_cons_succ])
 refine takeF (i := 18) (v := undef) rfl (by kernel_rfl) (by decide +kernel) (by decide +kernel) (fun _ _ _ h => h) (Or.inr ⟨by rfl, rfl⟩) hs.out ?_
 (try simp only [Act.put, List.setIfInBounds_toArray, List.set_cons_zero, List.set_cons_succ])
 refine takeF (i := 19) (v := undef) rfl (by kernel_rfl) (by decide +kernel) (by decide +kernel) (fun _ _ _ h => h) (Or.inr ⟨by rfl, rfl⟩) hs.out ?_
 (try simp only [Act.put, List.setIfInBounds_toArray, List.set_cons_zero, List.set_cons_succ])
 refine takeF (i := 20) (v := undef) rfl (by kernel_rfl) (by decide +kernel) (by decide +kernel) (fun _ _ _ h => h) (Or.inr ⟨by rfl, rfl⟩) hs.out ?_
 (try simp only [Act.put, List.setIfInBounds_toArray, List.set_cons_zero, List.set_cons_succ])
 refine takeF (i := 21) (v := undef) rfl (by kernel_rfl) (by decide +kernel) (by decide +kernel) (fun _ _ _ h => h) (Or.inr ⟨by rfl, rfl⟩) hs.out ?_
 (try simp only [Act.put, List.setIfInBounds_toArray, List.set_cons_zero, List.set_cons_succ])
 refine takeF (i := 22) (v := undef) rfl (by kernel_rfl) (by decide +kernel) (by decide +kernel) (fun _ _ _ h => h) (Or.inr ⟨by rfl, rfl⟩) hs.out ?_
 (try simp only [Act.put, List.setIfInBounds_toArray, List.set_cons_zero, List.set_cons_succ])
 refine takeF (i := 23) (v := undef) rfl (by kernel_rfl) (by decide +kernel) (by decide +kernel) (fun _ _ _ h => h) (Or.inr ⟨by rfl, rfl⟩) hs.out ?_
 (try simp only [Act.put, List.setIfInBounds_toArray, List.set_cons_zero, List.set_cons_succ])
 refine takeF (i := 24) (v := undef) rfl (by kernel_rfl) (by decide +kernel) (by decide +kernel) (fun _ _ _ h => h) (Or.inr ⟨by rfl, rfl⟩) hs.out ?_
 (try simp only [Act.put, List.setIfInBounds_toArray, List.set_cons_zero, List.set_cons_succ])
 refine takeF (i := 25) (v := undef) rfl (by kernel_rfl) (by decide +kernel) (by decide +kernel) (fun _ _ _ h => h) (Or.inr ⟨by rfl, rfl⟩) hs.out ?_
 (try simp only [Act.put, List.setIfInBounds_toArray, List.set_cons_zero, List.set_cons_succ])
 refine takeF (i := 26) (v := undef) rfl (by kernel_rfl) (by decide +kernel) (by decide +kernel) (fun _ _ _ h => h) (Or.inr ⟨by rfl, rfl⟩) hs.out ?_
 (try simp only [Act.put, List.setIfInBounds_toArray, List.set_cons_zero, List.set_cons_succ])
 refine takeF (i := 27) (v := undef) rfl (by kernel_rfl) (by decide +kernel) (by decide +kernel) (fun _ _ _ h => h) (Or.inr ⟨by rfl, rfl⟩) hs.out ?_
 (try simp only [Act.put, List.setIfInBounds_toArray, List.set_cons_zero, List.set_cons_succ])
 refine takeF (i := 28) (v := undef) rfl (by kernel_rfl) (by decide +kernel) (by decide +kernel) (fun _ _ _ h => h) (Or.inr ⟨by rfl, rfl⟩) hs.out ?_
 (try simp only [Act.put, List.setIfInBounds_toArray, List.set_cons_zero, List.set_cons_succ])
 refine takeF (i := 29) (v := undef) rfl (by kernel_rfl) (by decide +kernel) (by decide +kernel) (fun _ _ _ h => h) (Or.inr ⟨by rfl, rfl⟩) hs.out ?_
 (try simp only [Act.put, List.setIfInBounds_toArray, List.set_cons_zero, List.set_cons_succ])
 refine takeF (i := 30) (v := ?_) rfl (by kernel_rfl) (by decide +kernel) (by decide +kernel) (fun _ _ _ h => h) (Or.inl ⟨by rfl, ?_⟩) hs.out ?_
 rotate_left
 ·(intro w hSw; (try dsimp only at hSw); go_simp; try (with_reducible rfl))
 (try simp only [Act.put, List.setIfInBounds_toArray, List.set_cons_zero, List.set_cons_succ])
 refine wpAnyX_done (by decide +kernel) ?_
 go_wp2
 go_ret
 exact ⟨by rw [E.out]; rfl, B0.out⟩
set_option linter.unusedSimpArgs false in
set_option maxRecDepth 100000 in
set_option maxHeartbeats 8000000 in
theorem alone_kind (g : GV) (p k : Int) (x : ByteArray) (ka : Option Addr) (n kc : Nat) (w : World) (h : GAt 140737488355328 w g) (hk : n <= 140737488355328) (hp : p ≠ -1) (h1 : ¬ p < 0) (h2 : ¬ (g.ps.length : Int) <= p) (h3 : k ≠ 0) : Calls Tryz.prog 20 #[g.val, .agg #[.int .i64 p, .int .i64 k, .string x, .slice ka n kc]] w fun e w' => e = .returned (.int .i64 (alV g p k x n)) /\ Below w.heap.size w w' := by
 have hpl := h.pl
 have e0 : (p == -1) = false := by simpa using hp
 have B0 : Hid (Below w.heap.size w ((w.alloc (gBox g)).alloc (.cells #[.int .i64 p, .int .i64 k, .string x, .slice ka n kc] 31)).drew) := ((below_alloc w _).alloc (below_alloc w _).size _).drew
 have X0 : ((w.alloc (gBox g)).alloc (.cells #[.int .i64 p, .int .i64 k, .string x, .slice ka n kc] 31)).drew.heap[w.heap.size]? = some (gBox g) := by
  show ((w.alloc (gBox g)).alloc (.cells #[.int .i64 p, .int .i64 k, .string x, .slice ka n kc] 31)).heap[w.heap.size]? = some (gBox g)
  rw [(below_alloc (w.alloc (gBox g)) _).block _ (by simp)]
  exact heap_alloc_new _ _
 have X1 : ((w.alloc (gBox g)).alloc (.cells #[.int .i64 p, .int .i64 k, .string x, .slice ka n kc] 31)).drew.heap[w.heap.size + 1]? = some (.cells #[.int .i64 p, .int .i64 k, .string x, .slice ka n kc] 31) := by
  have := heap_alloc_new (w.alloc (gBox g)) (.cells #[.int .i64 p, .int .i64 k, .string x, .slice ka n kc] 31)
  rwa [show (w.alloc (gBox g)).heap.size = w.heap.size + 1 by simp] at this
 obtain ⟨-, -, -, y3, -⟩ := gb_cells X0
 have z0 := (cellq_any (i := 0) X1).trans rfl
 have z1 := (cellq_any (i := 1) X1).trans rfl
 have z2 := (cellq_any (i := 2) X1).trans rfl
 have z3 := (cellq_any (i := 3) X1).trans rfl
 have E : Hid (alV g p k x n = 81) := by show _ = _; unfold alV; rw [if_neg hp, if_pos (.inr (.inr (.inl h3)))]
 clear hp
 have d1 : decide (p < 0) = false := decide_eq_false h1
 have d2 : decide ((g.ps.length : Int) <= p) = false := decide_eq_false h2
 have hs : Hid ((fun w' : World => (w'.cell? ⟨w.heap.size, 3, none⟩ = some (.slice g.pa g.ps.length g.pc)) /\ w'.cell? ⟨w.heap.size + 1, 0, none⟩ = some (.int .i64 p) /\ w'.cell? ⟨w.heap.size + 1, 1, none⟩ = some (.int .i64 k) /\ w'.cell? ⟨w.heap.size + 1, 2, none⟩ = some (.string x) /\ w'.cell? ⟨w.heap.size + 1, 3, none⟩ = some (.slice ka n kc)) ((w.alloc (gBox g)).alloc (.cells #[.int .i64 p, .int .i64 k, .string x, .slice ka n kc] 31)).drew) := ⟨y3, z0, z1, z2, z3⟩
 clear y3 z0 z1 z2 z3 X0 X1
 go_enter Tryz.func20, Tryz.ntmps20
 go_wp2
 refine wp_region_x (S := fun _ => (fun w' : World => (w'.cell? ⟨w.heap.size, 3, none⟩ = some (.slice g.pa g.ps.length g.pc)) /\ w'.cell? ⟨w.heap.size + 1, 0, none⟩ = some (.int .i64 p) /\ w'.cell? ⟨w.heap.size + 1, 1, none⟩ = some (.int .i64 k) /\ w'.cell? ⟨w.heap.size + 1, 2, none⟩ = some (.string x) /\ w'.cell? ⟨w.heap.size + 1, 3, none⟩ = some (.slice ka n kc))) (by kernel_rfl) ?_
 refine takeF (i := 0) (v := ?_) rfl (by kernel_rfl) (by decide +kernel) (by decide +kernel) (fun _ _ _ h => h) (Or.inl ⟨by rfl, ?_⟩) hs.out ?_
 rotate_left
 ·(intro w hSw; (try dsimp only at hSw); go_simp; try (with_reducible rfl))
 (try simp only [Act.put, List.setIfInBounds_toArray, List.set_cons_zero, List.set_cons_succ])
 refine takeF (i := 1) (v := ?_) rfl (by kernel_rfl) (by decide +kernel) (by decide +kernel) (fun _ _ _ h => h) (Or.inl ⟨by rfl, ?_⟩) hs.out ?_
 rotate_left
 ·(intro w hSw; (try dsimp only at hSw); go_simp; try (with_reducible rfl))
 (try simp only [Act.put, List.setIfInBounds_toArray, List.set_cons_zero, List.set_cons_succ])
 refine takeF (i := 2) (v := ?_) rfl (by kernel_rfl) (by decide +kernel) (by decide +kernel) (fun _ _ _ h => h) (Or.inl ⟨by rfl, ?_⟩) hs.out ?_
 rotate_left
 ·(intro w hSw; (try dsimp only at hSw); go_simp; try (with_reducible rfl))
 (try simp only [Act.put, List.setIfInBounds_toArray, List.set_cons_zero, List.set_cons_succ])
 refine takeF (i := 3) (v := ?_) rfl (by kernel_rfl) (by decide +kernel) (by decide +kernel) (fun _ _ _ h => h) (Or.inl ⟨by rfl, ?_⟩) hs.out ?_
 rotate_left
 ·(intro w hSw; (try dsimp only at hSw); go_simp; try (with_reducible rfl))
 (try simp only [Act.put, List.setIfInBounds_toArray, List.set_cons_zero, List.set_cons_succ])
 refine takeF (i := 4) (v := ?_) rfl (by kernel_rfl) (by decide +kernel) (by decide +kernel) (fun _ _ _ h => h) (Or.inl ⟨by rfl, ?_⟩) hs.out ?_
 rotate_left
 ·(intro w hSw; (try dsimp only at hSw); go_simp; try (with_reducible rfl))
 (try simp only [Act.put, List.setIfInBounds_toArray, List.set_cons_zero, List.set_cons_succ])
 refine takeF (i := 5) (v := ?_) rfl (by kernel_rfl) (by decide +kernel) (by decide +kernel) (fun _ _ _ h => h) (Or.inl ⟨by rfl, ?_⟩) hs.out ?_
 rotate_left
 ·(intro w hSw; (try dsimp only at hSw); go_simp; try (with_reducible rfl))
 (try simp only [Act.put, List.setIfInBounds_toArray, List.set_cons_zero, List.set_cons_succ])
 refine takeF (i := 6) (v := ?_) rfl (by kernel_rfl) (by decide +kernel) (by decide +kernel) (fun _ _ _ h => h) (Or.inl ⟨by rfl, ?_⟩) hs.out ?_
 rotate_left
 ·(intro w hSw; (try dsimp only at hSw); go_simp; try (with_reducible rfl))
 (try simp only [Act.put, List.setIfInBounds_toArray, List.set_cons_zero, List.set_cons_succ])
 refine takeF (i := 7) (v := ?_) rfl (by kernel_rfl) (by decide +kernel) (by decide +kernel) (fun _ _ _ h => h) (Or.inl ⟨by rfl, ?_⟩) hs.out ?_
 rotate_left
 ·(intro w hSw; (try dsimp only at hSw); go_simp; try (with_reducible rfl))
 (try simp only [Act.put, List.setIfInBounds_toArray, List.set_cons_zero, List.set_cons_succ])
 refine takeF (i := 8) (v := ?_) rfl (by kernel_rfl) (by decide +kernel) (by decide +kernel) (fun _ _ _ h => h) (Or.inl ⟨by rfl, ?_⟩) hs.out ?_
 rotate_left
 ·(intro w hSw; (try dsimp only at hSw); go_simp; try (with_reducible rfl))
 (try simp only [Act.put, List.setIfInBounds_toArray, List.set_cons_zero, List.set_cons_succ])
 refine takeF (i := 9) (v := ?_) rfl (by kernel_rfl) (by decide +kernel) (by decide +kernel) (fun _ _ _ h => h) (Or.inl ⟨by rfl, ?_⟩) hs.out ?_
 rotate_left
 ·(intro w hSw; (try dsimp only at hSw); go_simp; try (with_reducible rfl))
 (try simp only [Act.put, List.setIfInBounds_toArray, List.set_cons_zero, List.set_cons_succ])
 refine takeF (i := 10) (v := ?_) rfl (by kernel_rfl) (by decide +kernel) (by decide +kernel) (fun _ _ _ h => h) (Or.inl ⟨by rfl, ?_⟩) hs.out ?_
 rotate_left
 ·(intro w hSw; (try dsimp only at hSw); go_simp; try (with_reducible rfl))
 (try simp only [Act.put, List.setIfInBounds_toArray, List.set_cons_zero, List.set_cons_succ])
 refine takeF (i := 11) (v := ?_) rfl (by kernel_rfl) (by decide +kernel) (by decide +kernel) (fun _ _ _ h => h) (Or.inl ⟨by rfl, ?_⟩) hs.out ?_
 rotate_left
 ·(intro w hSw; (try dsimp only at hSw); go_simp; try (with_reducible rfl))
 (try simp only [Act.put, List.setIfInBounds_toArray, List.set_cons_zero, List.set_cons_succ])
 refine takeF (i := 12) (v := ?_) rfl (by kernel_rfl) (by decide +kernel) (by decide +kernel) (fun _ _ _ h => h) (Or.inl ⟨by rfl, ?_⟩) hs.out ?_
 rotate_left
 ·(intro w hSw; (try dsimp only at hSw); go_simp; try (with_reducible rfl))
 (try simp only [Act.put, List.setIfInBounds_toArray, List.set_cons_zero, List.set_cons_succ])
 refine takeF (i := 13) (v := ?_) rfl (by kernel_rfl) (by decide +kernel) (by decide +kernel) (fun _ _ _ h => h) (Or.inl ⟨by rfl, ?_⟩) hs.out ?_
 rotate_left
 ·(intro w hSw; (try dsimp only at hSw); go_simp; try (with_reducible rfl))
 (try simp only [Act.put, List.setIfInBounds_toArray, List.set_cons_zero, List.set_cons_succ])
 refine takeF (i := 14) (v := ?_) rfl (by kernel_rfl) (by decide +kernel) (by decide +kernel) (fun _ _ _ h => h) (Or.inl ⟨by rfl, ?_⟩) hs.out ?_
 rotate_left
 ·(intro w hSw; (try dsimp only at hSw); go_simp; try (with_reducible rfl))
 (try simp only [Act.put, List.setIfInBounds_toArray, List.set_cons_zero, List.set_cons_succ])
 refine takeF (i := 15) (v := ?_) rfl (by kernel_rfl) (by decide +kernel) (by decide +kernel) (fun _ _ _ h => h) (Or.inl ⟨by rfl, ?_⟩) hs.out ?_
 rotate_left
 ·(intro w hSw; (try dsimp only at hSw); go_simp; try (with_reducible rfl))
 (try simp only [Act.put, List.setIfInBounds_toArray, List.set_cons_zero, List.set_cons_succ])
 refine takeF (i := 16) (v := ?_) rfl (by kernel_rfl) (by decide +kernel) (by decide +kernel) (fun _ _ _ h => h) (Or.inl ⟨by rfl, ?_⟩) hs.out ?_
 rotate_left
 ·(intro w hSw; (try dsimp only at hSw); go_simp; try (with_reducible rfl))
 (try simp only [Act.put, List.setIfInBounds_toArray, List.set_cons_zero, List.set_cons_succ])
 refine takeF (i := 17) (v := ?_) rfl (by kernel_rfl) (by decide +kernel) (by decide +kernel) (fun _ _ _ h => h) (Or.inl ⟨by rfl, ?_⟩) hs.out ?_
 rotate_left
 ·(intro w hSw; (try dsimp only at hSw); go_simp; try (with_reducible rfl))
 (try simp only [Act.put, List.setIfInBounds_toArray, List.set_cons_zero, List.set_cons_succ])
 refine takeF (i := 18) (v := undef) rfl (by kernel_rfl) (by decide +kernel) (by decide +kernel) (fun _ _ _ h => h) (Or.inr ⟨by rfl, rfl⟩) hs.out ?_
 (try simp only [Act.put, List.setIfInBounds_toArray, List.set_cons_zero, List.set_cons_succ])
 refine takeF (i := 19) (v := undef) rfl (by kernel_rfl) (by decide +kernel) (by decide +kernel) (fun _ _ _ h => h) (Or.inr ⟨by rfl, rfl⟩) hs.out ?_
 (try simp only [Act.put, List.setIfInBounds_toArray, List.set_cons_zero, List.set_cons_succ])
 refine takeF (i := 20) (v := undef) rfl (by kernel_rfl) (by decide +kernel) (by decide +kernel) (fun _ _ _ h => h) (Or.inr ⟨by rfl, rfl⟩) hs.out ?_
 (try simp only [Act.put, List.setIfInBounds_toArray, List.set_cons_zero, List.set_cons_succ])
 refine takeF (i := 21) (v := undef) rfl (by kernel_rfl) (by decide +kernel) (by decide +kernel) (fun _ _ _ h => h) (Or.inr ⟨by rfl, rfl⟩) hs.out ?_
 (try simp only [Act.put, List.setIfInBounds_toArray, List.set_cons_zero, List.set_cons_succ])
 refine takeF (i := 22) (v := undef) rfl (by kernel_rfl) (by decide +kernel) (by decide +kernel) (fun _ _ _ h => h) (Or.inr ⟨by rfl, rfl⟩) hs.out ?_
 (try simp only [Act.put, List.setIfInBounds_toArray, List.set_cons_zero, List.set_cons_succ])
 refine takeF (i := 23) (v := undef) rfl (by kernel_rfl) (by decide +kernel) (by decide +kernel) (fun _ _ _ h => h) (Or.inr ⟨by rfl, rfl⟩) hs.out ?_
 (try simp only [Act.put, List.setIfInBounds_toArray, List.set_cons_zero, List.set_cons_succ])
 refine takeF (i := 24) (v := undef) rfl (by kernel_rfl) (by decide +kernel) (by decide +kernel) (fun _ _ _ h => h) (Or.inr ⟨by rfl, rfl⟩) hs.out ?_
 (try simp only [Act.put, List.setIfInBounds_toArray, List.set_cons_zero, List.set_cons_succ])
 refine takeF (i := 25) (v := undef) rfl (by kernel_rfl) (by decide +kernel) (by decide +kernel) (fun _ _ _ h => h) (Or.inr ⟨by rfl, rfl⟩) hs.out ?_
 (try simp only [Act.put, List.setIfInBounds_toArray, List.set_cons_zero, List.set_cons_succ])
 refine takeF (i := 26) (v := undef) rfl (by kernel_rfl) (by decide +kernel) (by decide +kernel) (fun _ _ _ h => h) (Or.inr ⟨by rfl, rfl⟩) hs.out ?_
 (try simp only [Act.put, List.setIfInBounds_toArray, List.set_cons_zero, List.set_cons_succ])
 refine takeF (i := 27) (v := undef) rfl (by kernel_rfl) (by decide +kernel) (by decide +kernel) (fun _ _ _ h => h) (Or.inr ⟨by rfl, rfl⟩) hs.out ?_
 (try simp only [Act.put, List.setIfInBounds_toArray, List.set_cons_zero, List.set_cons_succ])
 refine takeF (i := 28) (v := undef) rfl (by kernel_rfl) (by decide +kernel) (by decide +kernel) (fun _ _ _ h => h) (Or.inr ⟨by rfl, rfl⟩) hs.out ?_
 (try simp only [Act.put, List.setIfInBounds_toArray, List.set_cons_zero, List.set_cons_succ])
 refine takeF (i := 29) (v := undef) rfl (by kernel_rfl) (by decide +kernel) (by decide +kernel) (fun _ _ _ h => h) (Or.inr ⟨by rfl, rfl⟩) hs.out ?_
 (try simp only [Act.put, List.setIfInBounds_toArray, List.set_cons_zero, List.set_cons_succ])
 refine takeF (i := 30) (v := ?_) rfl (by kernel_rfl) (by decide +kernel) (by decide +kernel) (fun _ _ _ h => h) (Or.inl ⟨by rfl, ?_⟩) hs.out ?_
 rotate_left
 ·(intro w hSw; (try dsimp only at hSw); go_simp; try (with_reducible rfl))
 (try simp only [Act.put, List.setIfInBounds_toArray, List.set_cons_zero, List.set_cons_succ])
 refine wpAnyX_done (by decide +kernel) ?_
 go_wp2
 go_ret
 exact ⟨by rw [E.out]; rfl, B0.out⟩
set_option linter.unusedSimpArgs false in
set_option maxRecDepth 100000 in
set_option maxHeartbeats 8000000 in
theorem alone_text (g : GV) (p : Int) (x : ByteArray) (ka : Option Addr) (n kc : Nat) (w : World) (h : GAt 140737488355328 w g) (hk : n <= 140737488355328) (hp : p ≠ -1) (h1 : ¬ p < 0) (h2 : ¬ (g.ps.length : Int) <= p) (h3 : x.toList ≠ []) : Calls Tryz.prog 20 #[g.val, .agg #[.int .i64 p, .int .i64 0, .string x, .slice ka n kc]] w fun e w' => e = .returned (.int .i64 (alV g p 0 x n)) /\ Below w.heap.size w w' := by
 have hpl := h.pl
 have e0 : (p == -1) = false := by simpa using hp
 have B0 : Hid (Below w.heap.size w ((w.alloc (gBox g)).alloc (.cells #[.int .i64 p, .int .i64 0, .string x, .slice ka n kc] 31)).drew) := ((below_alloc w _).alloc (below_alloc w _).size _).drew
 have X0 : ((w.alloc (gBox g)).alloc (.cells #[.int .i64 p, .int .i64 0, .string x, .slice ka n kc] 31)).drew.heap[w.heap.size]? = some (gBox g) := by
  show ((w.alloc (gBox g)).alloc (.cells #[.int .i64 p, .int .i64 0, .string x, .slice ka n kc] 31)).heap[w.heap.size]? = some (gBox g)
  rw [(below_alloc (w.alloc (gBox g)) _).block _ (by simp)]
  exact heap_alloc_new _ _
 have X1 : ((w.alloc (gBox g)).alloc (.cells #[.int .i64 p, .int .i64 0, .string x, .slice ka n kc] 31)).drew.heap[w.heap.size + 1]? = some (.cells #[.int .i64 p, .int .i64 0, .string x, .slice ka n kc] 31) := by
  have := heap_alloc_new (w.alloc (gBox g)) (.cells #[.int .i64 p, .int .i64 0, .string x, .slice ka n kc] 31)
  rwa [show (w.alloc (gBox g)).heap.size = w.heap.size + 1 by simp] at this
 obtain ⟨-, -, -, y3, -⟩ := gb_cells X0
 have z0 := (cellq_any (i := 0) X1).trans rfl
 have z1 := (cellq_any (i := 1) X1).trans rfl
 have z2 := (cellq_any (i := 2) X1).trans rfl
 have z3 := (cellq_any (i := 3) X1).trans rfl
 have E : Hid (alV g p 0 x n = 81) := by show _ = _; unfold alV; rw [if_neg hp, if_pos (.inr (.inr (.inr (.inl h3))))]
 clear hp
 have d1 : decide (p < 0) = false := decide_eq_false h1
 have d2 : decide ((g.ps.length : Int) <= p) = false := decide_eq_false h2
 have h4 : ¬ x.toList = [] := h3
 have hs : Hid ((fun w' : World => (w'.cell? ⟨w.heap.size, 3, none⟩ = some (.slice g.pa g.ps.length g.pc)) /\ w'.cell? ⟨w.heap.size + 1, 0, none⟩ = some (.int .i64 p) /\ w'.cell? ⟨w.heap.size + 1, 1, none⟩ = some (.int .i64 0) /\ w'.cell? ⟨w.heap.size + 1, 2, none⟩ = some (.string x) /\ w'.cell? ⟨w.heap.size + 1, 3, none⟩ = some (.slice ka n kc)) ((w.alloc (gBox g)).alloc (.cells #[.int .i64 p, .int .i64 0, .string x, .slice ka n kc] 31)).drew) := ⟨y3, z0, z1, z2, z3⟩
 clear y3 z0 z1 z2 z3 X0 X1
 go_enter Tryz.func20, Tryz.ntmps20
 go_wp2
 refine wp_region_x (S := fun _ => (fun w' : World => (w'.cell? ⟨w.heap.size, 3, none⟩ = some (.slice g.pa g.ps.length g.pc)) /\ w'.cell? ⟨w.heap.size + 1, 0, none⟩ = some (.int .i64 p) /\ w'.cell? ⟨w.heap.size + 1, 1, none⟩ = some (.int .i64 0) /\ w'.cell? ⟨w.heap.size + 1, 2, none⟩ = some (.string x) /\ w'.cell? ⟨w.heap.size + 1, 3, none⟩ = some (.slice ka n kc))) (by kernel_rfl) ?_
 refine takeF (i := 0) (v := ?_) rfl (by kernel_rfl) (by decide +kernel) (by decide +kernel) (fun _ _ _ h => h) (Or.inl ⟨by rfl, ?_⟩) hs.out ?_
 rotate_left
 ·(intro w hSw; (try dsimp only at hSw); go_simp; try (with_reducible rfl))
 (try simp only [Act.put, List.setIfInBounds_toArray, List.set_cons_zero, List.set_cons_succ])
 refine takeF (i := 1) (v := ?_) rfl (by kernel_rfl) (by decide +kernel) (by decide +kernel) (fun _ _ _ h => h) (Or.inl ⟨by rfl, ?_⟩) hs.out ?_
 rotate_left
 ·(intro w hSw; (try dsimp only at hSw); go_simp; try (with_reducible rfl))
 (try simp only [Act.put, List.setIfInBounds_toArray, List.set_cons_zero, List.set_cons_succ])
 refine takeF (i := 2) (v := ?_) rfl (by kernel_rfl) (by decide +kernel) (by decide +kernel) (fun _ _ _ h => h) (Or.inl ⟨by rfl, ?_⟩) hs.out ?_
 rotate_left
 ·(intro w hSw; (try dsimp only at hSw); go_simp; try (with_reducible rfl))
 (try simp only [Act.put, List.setIfInBounds_toArray, List.set_cons_zero, List.set_cons_succ])
 refine takeF (i := 3) (v := ?_) rfl (by kernel_rfl) (by decide +kernel) (by decide +kernel) (fun _ _ _ h => h) (Or.inl ⟨by rfl, ?_⟩) hs.out ?_
 rotate_left
 ·(intro w hSw; (try dsimp only at hSw); go_simp; try (with_reducible rfl))
 (try simp only [Act.put, List.setIfInBounds_toArray, List.set_cons_zero, List.set_cons_succ])
 refine takeF (i := 4) (v := ?_) rfl (by kernel_rfl) (by decide +kernel) (by decide +kernel) (fun _ _ _ h => h) (Or.inl ⟨by rfl, ?_⟩) hs.out ?_
 rotate_left
 ·(intro w hSw; (try dsimp only at hSw); go_simp; try (with_reducible rfl))
 (try simp only [Act.put, List.setIfInBounds_toArray, List.set_cons_zero, List.set_cons_succ])
 refine takeF (i := 5) (v := ?_) rfl (by kernel_rfl) (by decide +kernel) (by decide +kernel) (fun _ _ _ h => h) (Or.inl ⟨by rfl, ?_⟩) hs.out ?_
 rotate_left
 ·(intro w hSw; (try dsimp only at hSw); go_simp; try (with_reducible rfl))
 (try simp only [Act.put, List.setIfInBounds_toArray, List.set_cons_zero, List.set_cons_succ])
 refine takeF (i := 6) (v := ?_) rfl (by kernel_rfl) (by decide +kernel) (by decide +kernel) (fun _ _ _ h => h) (Or.inl ⟨by rfl, ?_⟩) hs.out ?_
 rotate_left
 ·(intro w hSw; (try dsimp only at hSw); go_simp; try (with_reducible rfl))
 (try simp only [Act.put, List.setIfInBounds_toArray, List.set_cons_zero, List.set_cons_succ])
 refine takeF (i := 7) (v := ?_) rfl (by kernel_rfl) (by decide +kernel) (by decide +kernel) (fun _ _ _ h => h) (Or.inl ⟨by rfl, ?_⟩) hs.out ?_
 rotate_left
 ·(intro w hSw; (try dsimp only at hSw); go_simp; try (with_reducible rfl))
 (try simp only [Act.put, List.setIfInBounds_toArray, List.set_cons_zero, List.set_cons_succ])
 refine takeF (i := 8) (v := ?_) rfl (by kernel_rfl) (by decide +kernel) (by decide +kernel) (fun _ _ _ h => h) (Or.inl ⟨by rfl, ?_⟩) hs.out ?_
 rotate_left
 ·(intro w hSw; (try dsimp only at hSw); go_simp; try (with_reducible rfl))
 (try simp only [Act.put, List.setIfInBounds_toArray, List.set_cons_zero, List.set_cons_succ])
 refine takeF (i := 9) (v := ?_) rfl (by kernel_rfl) (by decide +kernel) (by decide +kernel) (fun _ _ _ h => h) (Or.inl ⟨by rfl, ?_⟩) hs.out ?_
 rotate_left
 ·(intro w hSw; (try dsimp only at hSw); go_simp; try (with_reducible rfl))
 (try simp only [Act.put, List.setIfInBounds_toArray, List.set_cons_zero, List.set_cons_succ])
 refine takeF (i := 10) (v := ?_) rfl (by kernel_rfl) (by decide +kernel) (by decide +kernel) (fun _ _ _ h => h) (Or.inl ⟨by rfl, ?_⟩) hs.out ?_
 rotate_left
 ·(intro w hSw; (try dsimp only at hSw); go_simp; try (with_reducible rfl))
 (try simp only [Act.put, List.setIfInBounds_toArray, List.set_cons_zero, List.set_cons_succ])
 refine takeF (i := 11) (v := ?_) rfl (by kernel_rfl) (by decide +kernel) (by decide +kernel) (fun _ _ _ h => h) (Or.inl ⟨by rfl, ?_⟩) hs.out ?_
 rotate_left
 ·(intro w hSw; (try dsimp only at hSw); go_simp; try (with_reducible rfl))
 (try simp only [Act.put, List.setIfInBounds_toArray, List.set_cons_zero, List.set_cons_succ])
 refine takeF (i := 12) (v := ?_) rfl (by kernel_rfl) (by decide +kernel) (by decide +kernel) (fun _ _ _ h => h) (Or.inl ⟨by rfl, ?_⟩) hs.out ?_
 rotate_left
 ·(intro w hSw; (try dsimp only at hSw); go_simp; try (with_reducible rfl))
 (try simp only [Act.put, List.setIfInBounds_toArray, List.set_cons_zero, List.set_cons_succ])
 refine takeF (i := 13) (v := ?_) rfl (by kernel_rfl) (by decide +kernel) (by decide +kernel) (fun _ _ _ h => h) (Or.inl ⟨by rfl, ?_⟩) hs.out ?_
 rotate_left
 ·(intro w hSw; (try dsimp only at hSw); go_simp; try (with_reducible rfl))
 (try simp only [Act.put, List.setIfInBounds_toArray, List.set_cons_zero, List.set_cons_succ])
 refine takeF (i := 14) (v := ?_) rfl (by kernel_rfl) (by decide +kernel) (by decide +kernel) (fun _ _ _ h => h) (Or.inl ⟨by rfl, ?_⟩) hs.out ?_
 rotate_left
 ·(intro w hSw; (try dsimp only at hSw); go_simp; try (with_reducible rfl))
 (try simp only [Act.put, List.setIfInBounds_toArray, List.set_cons_zero, List.set_cons_succ])
 refine takeF (i := 15) (v := ?_) rfl (by kernel_rfl) (by decide +kernel) (by decide +kernel) (fun _ _ _ h => h) (Or.inl ⟨by rfl, ?_⟩) hs.out ?_
 rotate_left
 ·(intro w hSw; (try dsimp only at hSw); go_simp; try (with_reducible rfl))
 (try simp only [Act.put, List.setIfInBounds_toArray, List.set_cons_zero, List.set_cons_succ])
 refine takeF (i := 16) (v := ?_) rfl (by kernel_rfl) (by decide +kernel) (by decide +kernel) (fun _ _ _ h => h) (Or.inl ⟨by rfl, ?_⟩) hs.out ?_
 rotate_left
 ·(intro w hSw; (try dsimp only at hSw); go_simp; try (with_reducible rfl))
 (try simp only [Act.put, List.setIfInBounds_toArray, List.set_cons_zero, List.set_cons_succ])
 refine takeF (i := 17) (v := ?_) rfl (by kernel_rfl) (by decide +kernel) (by decide +kernel) (fun _ _ _ h => h) (Or.inl ⟨by rfl, ?_⟩) hs.out ?_
 rotate_left
 ·(intro w hSw; (try dsimp only at hSw); go_simp; try (with_reducible rfl))
 (try simp only [Act.put, List.setIfInBounds_toArray, List.set_cons_zero, List.set_cons_succ])
 refine takeF (i := 18) (v := undef) rfl (by kernel_rfl) (by decide +kernel) (by decide +kernel) (fun _ _ _ h => h) (Or.inr ⟨by rfl, rfl⟩) hs.out ?_
 (try simp only [Act.put, List.setIfInBounds_toArray, List.set_cons_zero, List.set_cons_succ])
 refine takeF (i := 19) (v := undef) rfl (by kernel_rfl) (by decide +kernel) (by decide +kernel) (fun _ _ _ h => h) (Or.inr ⟨by rfl, rfl⟩) hs.out ?_
 (try simp only [Act.put, List.setIfInBounds_toArray, List.set_cons_zero, List.set_cons_succ])
 refine takeF (i := 20) (v := undef) rfl (by kernel_rfl) (by decide +kernel) (by decide +kernel) (fun _ _ _ h => h) (Or.inr ⟨by rfl, rfl⟩) hs.out ?_
 (try simp only [Act.put, List.setIfInBounds_toArray, List.set_cons_zero, List.set_cons_succ])
 refine takeF (i := 21) (v := undef) rfl (by kernel_rfl) (by decide +kernel) (by decide +kernel) (fun _ _ _ h => h) (Or.inr ⟨by rfl, rfl⟩) hs.out ?_
 (try simp only [Act.put, List.setIfInBounds_toArray, List.set_cons_zero, List.set_cons_succ])
 refine takeF (i := 22) (v := undef) rfl (by kernel_rfl) (by decide +kernel) (by decide +kernel) (fun _ _ _ h => h) (Or.inr ⟨by rfl, rfl⟩) hs.out ?_
 (try simp only [Act.put, List.setIfInBounds_toArray, List.set_cons_zero, List.set_cons_succ])
 refine takeF (i := 23) (v := undef) rfl (by kernel_rfl) (by decide +kernel) (by decide +kernel) (fun _ _ _ h => h) (Or.inr ⟨by rfl, rfl⟩) hs.out ?_
 (try simp only [Act.put, List.setIfInBounds_toArray, List.set_cons_zero, List.set_cons_succ])
 refine takeF (i := 24) (v := undef) rfl (by kernel_rfl) (by decide +kernel) (by decide +kernel) (fun _ _ _ h => h) (Or.inr ⟨by rfl, rfl⟩) hs.out ?_
 (try simp only [Act.put, List.setIfInBounds_toArray, List.set_cons_zero, List.set_cons_succ])
 refine takeF (i := 25) (v := undef) rfl (by kernel_rfl) (by decide +kernel) (by decide +kernel) (fun _ _ _ h => h) (Or.inr ⟨by rfl, rfl⟩) hs.out ?_
 (try simp only [Act.put, List.setIfInBounds_toArray, List.set_cons_zero, List.set_cons_succ])
 refine takeF (i := 26) (v := undef) rfl (by kernel_rfl) (by decide +kernel) (by decide +kernel) (fun _ _ _ h => h) (Or.inr ⟨by rfl, rfl⟩) hs.out ?_
 (try simp only [Act.put, List.setIfInBounds_toArray, List.set_cons_zero, List.set_cons_succ])
 refine takeF (i := 27) (v := undef) rfl (by kernel_rfl) (by decide +kernel) (by decide +kernel) (fun _ _ _ h => h) (Or.inr ⟨by rfl, rfl⟩) hs.out ?_
 (try simp only [Act.put, List.setIfInBounds_toArray, List.set_cons_zero, List.set_cons_succ])
 refine takeF (i := 28) (v := undef) rfl (by kernel_rfl) (by decide +kernel) (by decide +kernel) (fun _ _ _ h => h) (Or.inr ⟨by rfl, rfl⟩) hs.out ?_
 (try simp only [Act.put, List.setIfInBounds_toArray, List.set_cons_zero, List.set_cons_succ])
 refine takeF (i := 29) (v := undef) rfl (by kernel_rfl) (by decide +kernel) (by decide +kernel) (fun _ _ _ h => h) (Or.inr ⟨by rfl, rfl⟩) hs.out ?_
 (try simp only [Act.put, List.setIfInBounds_toArray, List.set_cons_zero, List.set_cons_succ])
 refine takeF (i := 30) (v := ?_) rfl (by kernel_rfl) (by decide +kernel) (by decide +kernel) (fun _ _ _ h => h) (Or.inl ⟨by rfl, ?_⟩) hs.out ?_
 rotate_left
 ·(intro w hSw; (try dsimp only at hSw); go_simp; try (with_reducible rfl))
 (try simp only [Act.put, List.setIfInBounds_toArray, List.set_cons_zero, List.set_cons_succ])
 refine wpAnyX_done (by decide +kernel) ?_
 go_wp2
 go_ret
 exact ⟨by rw [E.out]; rfl, B0.out⟩
set_option linter.unusedSimpArgs false in
set_option maxRecDepth 100000 in
set_option maxHeartbeats 8000000 in
theorem alone_len (g : GV) (j : Nat) (x : ByteArray) (ka : Option Addr) (n kc : Nat) (w : World) (h : GAt 140737488355328 w g) (hk : n <= 140737488355328) (hj : j < g.ps.length) (hx : x.toList = []) : Calls Tryz.prog 20 #[g.val, .agg #[.int .i64 (j : Int), .int .i64 0, .string x, .slice ka n kc]] w fun e w' => e = .returned (.int .i64 (alV g (j : Int) 0 x n)) /\ Below w.heap.size w w' := by
 have hpl := h.pl
 have hrl := h.rl _ (show g.ps.getD j .none ∈ g.ps by simp [List.getD, hj])
 obtain ⟨pb, po, hpa, hbl, c0, c1, -⟩ := ps_cells h hj
 have E : Hid (alV g (j : Int) 0 x n = if ((n : Int) != ((g.ps.getD j .none).right.length : Int)) = true then 81 else 0) := by
  show _ = _
  unfold alV
  rw [if_neg (by omega), Int.toNat_natCast]
  by_cases q : n = (g.ps.getD j .none).right.length
  ·rw [if_neg (by rintro (q1 | q1 | q1 | q1 | q1) <;> first | omega | exact q1 rfl | exact q1 hx), if_neg (by rw [q]; simp)]
  ·rw [if_pos (.inr (.inr (.inr (.inr q)))), if_pos (bne_iff_ne.2 (fun e => q (Int.ofNat_inj.1 e)))]
 generalize (g.ps.getD j .none).right.length = rl at *
 generalize (g.ps.getD j .none).ra = ra at *
 generalize (g.ps.getD j .none).rc = rc at *
 have e0 : ((j : Int) == -1) = false := by simp
 have d1 : decide ((j : Int) < 0) = false := decide_eq_false (by omega)
 have d2 : decide ((g.ps.length : Int) <= (j : Int)) = false := decide_eq_false (by omega)
 have d3 : decide (g.ps.length <= j) = false := decide_eq_false (by omega)
 have jlt : (j : Int) < (g.ps.length : Int) := by omega
 have B0 : Hid (Below w.heap.size w ((w.alloc (gBox g)).alloc (.cells #[.int .i64 (j : Int), .int .i64 0, .string x, .slice ka n kc] 31)).drew) := ((below_alloc w _).alloc (below_alloc w _).size _).drew
 have X0 : ((w.alloc (gBox g)).alloc (.cells #[.int .i64 (j : Int), .int .i64 0, .string x, .slice ka n kc] 31)).drew.heap[w.heap.size]? = some (gBox g) := by
  show ((w.alloc (gBox g)).alloc (.cells #[.int .i64 (j : Int), .int .i64 0, .string x, .slice ka n kc] 31)).heap[w.heap.size]? = some (gBox g)
  rw [(below_alloc (w.alloc (gBox g)) _).block _ (by simp)]
  exact heap_alloc_new _ _
 have X1 : ((w.alloc (gBox g)).alloc (.cells #[.int .i64 (j : Int), .int .i64 0, .string x, .slice ka n kc] 31)).drew.heap[w.heap.size + 1]? = some (.cells #[.int .i64 (j : Int), .int .i64 0, .string x, .slice ka n kc] 31) := by
  have := heap_alloc_new (w.alloc (gBox g)) (.cells #[.int .i64 (j : Int), .int .i64 0, .string x, .slice ka n kc] 31)
  rwa [show (w.alloc (gBox g)).heap.size = w.heap.size + 1 by simp] at this
 obtain ⟨-, -, -, y3, -⟩ := gb_cells X0
 rw [hpa] at y3
 have hs : Hid ((fun w' : World => (w'.cell? ⟨w.heap.size, 3, none⟩ = some (.slice (some ⟨pb, po, none⟩) g.ps.length g.pc)) /\ w'.cell? ⟨w.heap.size + 1, 0, none⟩ = some (.int .i64 (j : Int)) /\ w'.cell? ⟨w.heap.size + 1, 1, none⟩ = some (.int .i64 0) /\ w'.cell? ⟨w.heap.size + 1, 2, none⟩ = some (.string x) /\ w'.cell? ⟨w.heap.size + 1, 3, none⟩ = some (.slice ka n kc) /\ w'.cell? ⟨pb, po + j * 3 + 1, none⟩ = some (.slice ra rl rc)) ((w.alloc (gBox g)).alloc (.cells #[.int .i64 (j : Int), .int .i64 0, .string x, .slice ka n kc] 31)).drew) := ⟨y3, (cellq_any (i := 0) X1).trans rfl, (cellq_any (i := 1) X1).trans rfl, (cellq_any (i := 2) X1).trans rfl, (cellq_any (i := 3) X1).trans rfl, (B0.out.cell (p := ⟨pb, po + j * 3 + 1, none⟩) hbl).trans c1⟩
 clear y3 X0 X1 c0 c1 hj hpa
 go_enter Tryz.func20, Tryz.ntmps20
 go_wp2
 refine wp_region_x (S := fun _ => (fun w' : World => (w'.cell? ⟨w.heap.size, 3, none⟩ = some (.slice (some ⟨pb, po, none⟩) g.ps.length g.pc)) /\ w'.cell? ⟨w.heap.size + 1, 0, none⟩ = some (.int .i64 (j : Int)) /\ w'.cell? ⟨w.heap.size + 1, 1, none⟩ = some (.int .i64 0) /\ w'.cell? ⟨w.heap.size + 1, 2, none⟩ = some (.string x) /\ w'.cell? ⟨w.heap.size + 1, 3, none⟩ = some (.slice ka n kc) /\ w'.cell? ⟨pb, po + j * 3 + 1, none⟩ = some (.slice ra rl rc))) (by kernel_rfl) ?_
 refine takeF (i := 0) (v := ?_) rfl (by kernel_rfl) (by decide +kernel) (by decide +kernel) (fun _ _ _ h => h) (Or.inl ⟨by rfl, ?_⟩) hs.out ?_
 rotate_left
 ·(intro w hSw; (try dsimp only at hSw); go_simp; try (with_reducible rfl))
 (try simp only [Act.put, List.setIfInBounds_toArray, List.set_cons_zero, List.set_cons_succ])
 refine takeF (i := 1) (v := ?_) rfl (by kernel_rfl) (by decide +kernel) (by decide +kernel) (fun _ _ _ h => h) (Or.inl ⟨by rfl, ?_⟩) hs.out ?_
 rotate_left
 ·(intro w hSw; (try dsimp only at hSw); go_simp; try (with_reducible rfl))
 (try simp only [Act.put, List.setIfInBounds_toArray, List.set_cons_zero, List.set_cons_succ])
 refine takeF (i := 2) (v := ?_) rfl (by kernel_rfl) (by decide +kernel) (by decide +kernel) (fun _ _ _ h => h) (Or.inl ⟨by rfl, ?_⟩) hs.out ?_
 rotate_left
 ·(intro w hSw; (try dsimp only at hSw); go_simp; try (with_reducible rfl))
 (try simp only [Act.put, List.setIfInBounds_toArray, List.set_cons_zero, List.set_cons_succ])
 refine takeF (i := 3) (v := ?_) rfl (by kernel_rfl) (by decide +kernel) (by decide +kernel) (fun _ _ _ h => h) (Or.inl ⟨by rfl, ?_⟩) hs.out ?_
 rotate_left
 ·(intro w hSw; (try dsimp only at hSw); go_simp; try (with_reducible rfl))
 (try simp only [Act.put, List.setIfInBounds_toArray, List.set_cons_zero, List.set_cons_succ])
 refine takeF (i := 4) (v := ?_) rfl (by kernel_rfl) (by decide +kernel) (by decide +kernel) (fun _ _ _ h => h) (Or.inl ⟨by rfl, ?_⟩) hs.out ?_
 rotate_left
 ·(intro w hSw; (try dsimp only at hSw); go_simp; try (with_reducible rfl))
 (try simp only [Act.put, List.setIfInBounds_toArray, List.set_cons_zero, List.set_cons_succ])
 refine takeF (i := 5) (v := ?_) rfl (by kernel_rfl) (by decide +kernel) (by decide +kernel) (fun _ _ _ h => h) (Or.inl ⟨by rfl, ?_⟩) hs.out ?_
 rotate_left
 ·(intro w hSw; (try dsimp only at hSw); go_simp; try (with_reducible rfl))
 (try simp only [Act.put, List.setIfInBounds_toArray, List.set_cons_zero, List.set_cons_succ])
 refine takeF (i := 6) (v := ?_) rfl (by kernel_rfl) (by decide +kernel) (by decide +kernel) (fun _ _ _ h => h) (Or.inl ⟨by rfl, ?_⟩) hs.out ?_
 rotate_left
 ·(intro w hSw; (try dsimp only at hSw); go_simp; try (with_reducible rfl))
 (try simp only [Act.put, List.setIfInBounds_toArray, List.set_cons_zero, List.set_cons_succ])
 refine takeF (i := 7) (v := ?_) rfl (by kernel_rfl) (by decide +kernel) (by decide +kernel) (fun _ _ _ h => h) (Or.inl ⟨by rfl, ?_⟩) hs.out ?_
 rotate_left
 ·(intro w hSw; (try dsimp only at hSw); go_simp; try (with_reducible rfl))
 (try simp only [Act.put, List.setIfInBounds_toArray, List.set_cons_zero, List.set_cons_succ])
 refine takeF (i := 8) (v := ?_) rfl (by kernel_rfl) (by decide +kernel) (by decide +kernel) (fun _ _ _ h => h) (Or.inl ⟨by rfl, ?_⟩) hs.out ?_
 rotate_left
 ·(intro w hSw; (try dsimp only at hSw); go_simp; try (with_reducible rfl))
 (try simp only [Act.put, List.setIfInBounds_toArray, List.set_cons_zero, List.set_cons_succ])
 refine takeF (i := 9) (v := ?_) rfl (by kernel_rfl) (by decide +kernel) (by decide +kernel) (fun _ _ _ h => h) (Or.inl ⟨by rfl, ?_⟩) hs.out ?_
 rotate_left
 ·(intro w hSw; (try dsimp only at hSw); go_simp; try (with_reducible rfl))
 (try simp only [Act.put, List.setIfInBounds_toArray, List.set_cons_zero, List.set_cons_succ])
 refine takeF (i := 10) (v := ?_) rfl (by kernel_rfl) (by decide +kernel) (by decide +kernel) (fun _ _ _ h => h) (Or.inl ⟨by rfl, ?_⟩) hs.out ?_
 rotate_left
 ·(intro w hSw; (try dsimp only at hSw); go_simp; try (with_reducible rfl))
 (try simp only [Act.put, List.setIfInBounds_toArray, List.set_cons_zero, List.set_cons_succ])
 refine takeF (i := 11) (v := ?_) rfl (by kernel_rfl) (by decide +kernel) (by decide +kernel) (fun _ _ _ h => h) (Or.inl ⟨by rfl, ?_⟩) hs.out ?_
 rotate_left
 ·(intro w hSw; (try dsimp only at hSw); go_simp; try (with_reducible rfl))
 (try simp only [Act.put, List.setIfInBounds_toArray, List.set_cons_zero, List.set_cons_succ])
 refine takeF (i := 12) (v := ?_) rfl (by kernel_rfl) (by decide +kernel) (by decide +kernel) (fun _ _ _ h => h) (Or.inl ⟨by rfl, ?_⟩) hs.out ?_
 rotate_left
 ·(intro w hSw; (try dsimp only at hSw); go_simp; try (with_reducible rfl))
 (try simp only [Act.put, List.setIfInBounds_toArray, List.set_cons_zero, List.set_cons_succ])
 refine takeF (i := 13) (v := ?_) rfl (by kernel_rfl) (by decide +kernel) (by decide +kernel) (fun _ _ _ h => h) (Or.inl ⟨by rfl, ?_⟩) hs.out ?_
 rotate_left
 ·(intro w hSw; (try dsimp only at hSw); go_simp; try (with_reducible rfl))
 (try simp only [Act.put, List.setIfInBounds_toArray, List.set_cons_zero, List.set_cons_succ])
 refine takeF (i := 14) (v := ?_) rfl (by kernel_rfl) (by decide +kernel) (by decide +kernel) (fun _ _ _ h => h) (Or.inl ⟨by rfl, ?_⟩) hs.out ?_
 rotate_left
 ·(intro w hSw; (try dsimp only at hSw); go_simp; try (with_reducible rfl))
 (try simp only [Act.put, List.setIfInBounds_toArray, List.set_cons_zero, List.set_cons_succ])
 refine takeF (i := 15) (v := ?_) rfl (by kernel_rfl) (by decide +kernel) (by decide +kernel) (fun _ _ _ h => h) (Or.inl ⟨by rfl, ?_⟩) hs.out ?_
 rotate_left
 ·(intro w hSw; (try dsimp only at hSw); go_simp; try (with_reducible rfl))
 (try simp only [Act.put, List.setIfInBounds_toArray, List.set_cons_zero, List.set_cons_succ])
 refine takeF (i := 16) (v := ?_) rfl (by kernel_rfl) (by decide +kernel) (by decide +kernel) (fun _ _ _ h => h) (Or.inl ⟨by rfl, ?_⟩) hs.out ?_
 rotate_left
 ·(intro w hSw; (try dsimp only at hSw); go_simp; try (with_reducible rfl))
 (try simp only [Act.put, List.setIfInBounds_toArray, List.set_cons_zero, List.set_cons_succ])
 refine takeF (i := 17) (v := ?_) rfl (by kernel_rfl) (by decide +kernel) (by decide +kernel) (fun _ _ _ h => h) (Or.inl ⟨by rfl, ?_⟩) hs.out ?_
 rotate_left
 ·(intro w hSw; (try dsimp only at hSw); go_simp; try (with_reducible rfl))
 (try simp only [Act.put, List.setIfInBounds_toArray, List.set_cons_zero, List.set_cons_succ])
 refine takeF (i := 18) (v := ?_) rfl (by kernel_rfl) (by decide +kernel) (by decide +kernel) (fun _ _ _ h => h) (Or.inl ⟨by rfl, ?_⟩) hs.out ?_
 rotate_left
 ·(intro w hSw; (try dsimp only at hSw); go_simp; try (with_reducible rfl))
 (try simp only [Act.put, List.setIfInBounds_toArray, List.set_cons_zero, List.set_cons_succ])
 refine takeF (i := 19) (v := ?_) rfl (by kernel_rfl) (by decide +kernel) (by decide +kernel) (fun _ _ _ h => h) (Or.inl ⟨by rfl, ?_⟩) hs.out ?_
 rotate_left
 ·(intro w hSw; (try dsimp only at hSw); go_simp; try (with_reducible rfl))
 (try simp only [Act.put, List.setIfInBounds_toArray, List.set_cons_zero, List.set_cons_succ])
 refine takeF (i := 20) (v := ?_) rfl (by kernel_rfl) (by decide +kernel) (by decide +kernel) (fun _ _ _ h => h) (Or.inl ⟨by rfl, ?_⟩) hs.out ?_
 rotate_left
 ·(intro w hSw; (try dsimp only at hSw); go_simp; try (with_reducible rfl))
 (try simp only [Act.put, List.setIfInBounds_toArray, List.set_cons_zero, List.set_cons_succ])
 refine takeF (i := 21) (v := ?_) rfl (by kernel_rfl) (by decide +kernel) (by decide +kernel) (fun _ _ _ h => h) (Or.inl ⟨by rfl, ?_⟩) hs.out ?_
 rotate_left
 ·(intro w hSw; (try dsimp only at hSw); go_simp; try (with_reducible rfl))
 (try simp only [Act.put, List.setIfInBounds_toArray, List.set_cons_zero, List.set_cons_succ])
 refine takeF (i := 22) (v := ?_) rfl (by kernel_rfl) (by decide +kernel) (by decide +kernel) (fun _ _ _ h => h) (Or.inl ⟨by rfl, ?_⟩) hs.out ?_
 rotate_left
 ·(intro w hSw; (try dsimp only at hSw); go_simp; try (with_reducible rfl))
 (try simp only [Act.put, List.setIfInBounds_toArray, List.set_cons_zero, List.set_cons_succ])
 refine takeF (i := 23) (v := ?_) rfl (by kernel_rfl) (by decide +kernel) (by decide +kernel) (fun _ _ _ h => h) (Or.inl ⟨by rfl, ?_⟩) hs.out ?_
 rotate_left
 ·(intro w hSw; (try dsimp only at hSw); go_simp; try (with_reducible rfl))
 (try simp only [Act.put, List.setIfInBounds_toArray, List.set_cons_zero, List.set_cons_succ])
 refine takeF (i := 24) (v := ?_) rfl (by kernel_rfl) (by decide +kernel) (by decide +kernel) (fun _ _ _ h => h) (Or.inl ⟨by rfl, ?_⟩) hs.out ?_
 rotate_left
 ·(intro w hSw; (try dsimp only at hSw); go_simp; try (with_reducible rfl))
 (try simp only [Act.put, List.setIfInBounds_toArray, List.set_cons_zero, List.set_cons_succ])
 refine takeF (i := 25) (v := ?_) rfl (by kernel_rfl) (by decide +kernel) (by decide +kernel) (fun _ _ _ h => h) (Or.inl ⟨by rfl, ?_⟩) hs.out ?_
 rotate_left
 ·(intro w hSw; (try dsimp only at hSw); go_simp; try (with_reducible rfl))
 (try simp only [Act.put, List.setIfInBounds_toArray, List.set_cons_zero, List.set_cons_succ])
 refine takeF (i := 26) (v := ?_) rfl (by kernel_rfl) (by decide +kernel) (by decide +kernel) (fun _ _ _ h => h) (Or.inl ⟨by rfl, ?_⟩) hs.out ?_
 rotate_left
 ·(intro w hSw; (try dsimp only at hSw); go_simp; try (with_reducible rfl))
 (try simp only [Act.put, List.setIfInBounds_toArray, List.set_cons_zero, List.set_cons_succ])
 refine takeF (i := 27) (v := ?_) rfl (by kernel_rfl) (by decide +kernel) (by decide +kernel) (fun _ _ _ h => h) (Or.inl ⟨by rfl, ?_⟩) hs.out ?_
 rotate_left
 ·(intro w hSw; (try dsimp only at hSw); go_simp; try (with_reducible rfl))
 (try simp only [Act.put, List.setIfInBounds_toArray, List.set_cons_zero, List.set_cons_succ])
 refine takeF (i := 28) (v := ?_) rfl (by kernel_rfl) (by decide +kernel) (by decide +kernel) (fun _ _ _ h => h) (Or.inl ⟨by rfl, ?_⟩) hs.out ?_
 rotate_left
 ·(intro w hSw; (try dsimp only at hSw); go_simp; try (with_reducible rfl))
 (try simp only [Act.put, List.setIfInBounds_toArray, List.set_cons_zero, List.set_cons_succ])
 refine takeF (i := 29) (v := ?_) rfl (by kernel_rfl) (by decide +kernel) (by decide +kernel) (fun _ _ _ h => h) (Or.inl ⟨by rfl, ?_⟩) hs.out ?_
 rotate_left
 ·(intro w hSw; (try dsimp only at hSw); go_simp; try (with_reducible rfl))
 (try simp only [Act.put, List.setIfInBounds_toArray, List.set_cons_zero, List.set_cons_succ])
 refine takeF (i := 30) (v := ?_) rfl (by kernel_rfl) (by decide +kernel) (by decide +kernel) (fun _ _ _ h => h) (Or.inl ⟨by rfl, ?_⟩) hs.out ?_
 rotate_left
 ·(intro w hSw; (try dsimp only at hSw); go_simp; try (with_reducible rfl))
 (try simp only [Act.put, List.setIfInBounds_toArray, List.set_cons_zero, List.set_cons_succ])
 refine wpAnyX_done (by decide +kernel) ?_
 by_cases q : n = rl
 ·have q1 : ((n : Int) != (rl : Int)) = false := by rw [q]; simp
  have q2 : decide (n = rl) = true := decide_eq_true q
  have q3 : (n != rl) = false := by rw [q]; simp
  have E2 : Hid (alV g (j : Int) 0 x n = 0) := by rw [q1] at E; exact E.out
  clear q E
  go_wp2
  go_ret
  exact ⟨by rw [E2.out]; rfl, B0.out⟩
 ·have q1 : ((n : Int) != (rl : Int)) = true := bne_iff_ne.2 (fun e => q (Int.ofNat_inj.1 e))
  have q2 : decide (n = rl) = false := decide_eq_false q
  have q3 : (n != rl) = true := bne_iff_ne.2 q
  have E2 : Hid (alV g (j : Int) 0 x n = 81) := by rw [q1] at E; exact E.out
  clear E
  go_wp2
  go_ret
  exact ⟨by rw [E2.out]; rfl, B0.out⟩
theorem alone_S (g : GV) (t : TV) (w : World) (h : GAt 140737488355328 w g) (hk : t.kids.length <= 140737488355328) : Calls Tryz.prog 20 #[g.val, t.val] w fun e w' => e = .returned (.int .i64 (alTU g t)) /\ Below w.heap.size w w' := by
 rw [alU_V]
 unfold TV.val
 generalize t.kids.length = n at *
 generalize t.prod = p
 generalize t.kind = k
 generalize t.tx = x
 by_cases hp : p = -1
 ·rw [hp]
  exact alone_leaf g k x t.ka n t.kc w h hk
 by_cases h1 : p < 0
 ·exact alone_neg g p k x t.ka n t.kc w h hk hp h1
 by_cases h2 : (g.ps.length : Int) <= p
 ·exact alone_far g p k x t.ka n t.kc w h hk hp h1 h2
 by_cases h3 : k = 0
 ·by_cases h4 : x.toList = []
  ·obtain ⟨j, rfl⟩ : ∃ j : Nat, p = (j : Int) := ⟨p.toNat, by omega⟩
   rw [h3]
   exact alone_len g j x t.ka n t.kc w h hk (by omega) h4
  ·rw [h3]
   exact alone_text g p x t.ka n t.kc w h hk hp h1 h2 h4
 ·exact alone_kind g p k x t.ka n t.kc w h hk hp h1 h2 h3
def plS (l : List SP) : List SP := l.flatMap fun x => plT x.d x.t
theorem plS_app (l m : List SP) : plS (l ++ m) = plS l ++ plS m := by simp [plS]
theorem plS_len : ∀ l : List SP, l.length <= (plS l).length
 | [] => Nat.le_refl _
 | x :: l => by
  have := plS_len l
  have e : plS (x :: l) = plT x.d x.t ++ plS l := rfl
  rw [e, plT_eq]
  simp
  omega
def kidS (x : SP) : List SP := x.t.kids.map fun k => ⟨k, x.d + 1, (0, 0), false⟩
theorem plS_kids (d : Int) : ∀ l : List TV, plS (l.map fun k => ⟨k, d, (0, 0), false⟩) = plL d l
 | [] => by rw [plL_nil]; rfl
 | t :: l => by
  have := plS_kids d l
  rw [List.map_cons, plL_cons, <- this]
  rfl
theorem plS_one (x : SP) (h : x.s = (0, 0) /\ x.u = false) : plS [x] = x :: plS (kidS x) := by
 obtain ⟨t, d, s, u⟩ := x
 obtain ⟨rfl, rfl⟩ := h
 unfold kidS
 rw [plS_kids]
 show plT d t ++ [] = _
 rw [List.append_nil, plT_eq]
theorem kidS_drop (x : SP) (q : Nat) (h : q < x.t.kids.length) : (kidS x).drop q = ⟨x.t.kids.getD q .none, x.d + 1, (0, 0), false⟩ :: (kidS x).drop (q + 1) := by
 unfold kidS
 rw [List.drop_eq_getElem_cons (by simpa using h), List.getElem_map]
 simp [List.getD, h]
theorem tbox_on {w w' : World} {b : Nat} {o : Obj} (h : w.heap[b]? = some o) (hb : Below w.heap.size w w') : w'.heap[b]? = some o := (hb.block b (lt_of_block h)).trans h
theorem wrap_i64 {z : Int} (h0 : -9223372036854775808 <= z) (h1 : z <= 9223372036854775807) : IntKind.i64.wrap z = z := IntWalk.i64_in _ ⟨by omega, by omega⟩
structure PWs (w : World) (O S : List SP) (vo vs : Value) (wr : World) : Prop where
 o : SPo wr vo O
 s : SPo wr vs S
 oo : ∀ j, vo.ownBlock = some j -> w.heap.size < j
 so : ∀ j, vs.ownBlock = some j -> w.heap.size < j
 ne : ∀ j, vo.ownBlock = some j -> vs.ownBlock ≠ some j
 big : w.heap.size < wr.heap.size
 bel : Below w.heap.size w wr
theorem PWs.any {w wr w' : World} {O S : List SP} {vo vs : Value} (h : PWs w O S vo vs wr) (hb : Below wr.heap.size wr w') : PWs w O S vo vs w' :=
 ⟨h.o.later hb, h.s.later hb, h.oo, h.so, h.ne, Nat.lt_of_lt_of_le h.big hb.size, h.bel.trans (hb.mono (Nat.le_of_lt h.big))⟩
theorem PWs.push {w wr w1 w4 : World} {O S : List SP} {vo vs v' : Value} {y : SP} (h : PWs w O S vo vs wr) (hb : Below wr.heap.size wr w1) (hg : Grew w1 w4 vs v') (hi : SPo w4 v' (S ++ [y])) : PWs w O (S ++ [y]) vo v' w4 := by
 have h1 := h.any hb
 have hbig := h1.big
 refine ⟨h1.o.kept (fun j hj => hg.grown.block j (h1.o.lt j hj) (fun e => h.ne j hj e.symm)), hi, h.oo, fun j hj => hg.own (n := w.heap.size + 1) hbig h.so j hj, fun j hj e => ?_, Nat.lt_of_lt_of_le hbig hg.grown.size, hg.below h1.bel (Nat.le_refl _) (fun j hj => Nat.le_of_lt (h.so j hj))⟩
 rcases hg.moved with q | ⟨i, q, hq⟩
 ·exact h.ne j hj (by rw [<- q]; exact e)
 ·rw [q] at e
  have := h1.o.lt j hj
  simp at e
  omega
theorem PWs.out {w wr w1 w4 : World} {O S : List SP} {vo vs v' : Value} {y : SP} (h : PWs w O S vo vs wr) (hb : Below wr.heap.size wr w1) (hg : Grew w1 w4 vo v') (hi : SPo w4 v' (O ++ [y])) : PWs w (O ++ [y]) S v' vs w4 := by
 have h1 := h.any hb
 have hbig := h1.big
 refine ⟨hi, h1.s.kept (fun j hj => hg.grown.block j (h1.s.lt j hj) (fun e => h.ne j e.symm hj)), fun j hj => hg.own (n := w.heap.size + 1) hbig h.oo j hj, h.so, fun j hj e => ?_, Nat.lt_of_lt_of_le hbig hg.grown.size, hg.below h1.bel (Nat.le_refl _) (fun j hj => Nat.le_of_lt (h.oo j hj))⟩
 rcases hg.moved with q | ⟨i, q, hq⟩
 ·exact h.ne j (by rw [<- q]; exact hj) e
 ·rw [q] at hj
  have := h1.s.lt j e
  simp at hj
  omega
theorem PWs.pop {w wr : World} {O S : List SP} {x : SP} {vo vs : Value} (h : PWs w O (S ++ [x]) vo vs wr) : ∃ b c, vs = .slice (some ⟨b, 0, none⟩) (S.length + 1) c /\ S.length + 1 <= c /\ (∀ j, j < 8 -> wr.cell? ⟨b, S.length * 8 + j, none⟩ = (spCells x)[j]?) /\ PWs w O S vo (.slice (some ⟨b, 0, none⟩) S.length c) wr := by
 obtain ⟨b, c, rfl, h1, h2, h3⟩ := RO.pop (f := spCells) (fun _ => rfl) h.s
 exact ⟨b, c, rfl, h1, h2, h.o, h3, h.oo, h.so, h.ne, h.big, h.bel⟩
abbrev spBox (x : SP) : Obj := .cells #[.int .i64 x.t.prod, .int .i64 x.t.kind, .string x.t.tx, .slice x.t.ka x.t.kids.length x.t.kc, .int .i64 x.d, .int .i64 x.s.1, .int .i64 x.s.2, .bool x.u] 76
theorem slice_spot (b lc len i : Nat) (hi : i <= lc) (w : World) : (Instr.slice 77 (.slice (some ⟨b, 0, none⟩) len lc) none (some (.int .i64 (i : Int))) none).run Tryz.prog w = .ok (.slice (some ⟨b, 0, none⟩) i lc) w := by
 have hu : Tryz.prog.underlying 77 = some (.slice (Tryz.prog.elem 77)) := by kernel_rfl
 have he : Tryz.prog.elem 77 = 76 := by kernel_rfl
 obtain ⟨i0, z, hinf, _, hz1, _⟩ := rkSpot.info
 have := run_slice_h (P := Tryz.prog) (w := w) 77 (some ⟨b, 0, none⟩) len lc hu .i64 (i : Int) (by omega) (by omega)
 rw [this, he]
 simp [sizeOf, typeInfo, hinf, hz1]
 unfold sliced
 split <;> simp [add_none]
theorem sp_first (w : World) (x : SP) : SPo (w.alloc (spBox x)) (.slice (some ⟨w.heap.size, 0, none⟩) 1 1) [x] := by
 have := World.ownsRow_lit (e := 76) (size := 8) (base := 0) w #[.int .i64 x.t.prod, .int .i64 x.t.kind, .string x.t.tx, .slice x.t.ka x.t.kids.length x.t.kc, .int .i64 x.d, .int .i64 x.s.1, .int .i64 x.s.2, .bool x.u] 1 (Nat.zero_le _) (by unfold maxLen; omega) rfl
 exact this
theorem sp_new (w : World) (x : SP) : ∀ j u, (spCells x)[j]? = some u -> (w.alloc (spBox x)).cell? ⟨w.heap.size, j, none⟩ = some u := fun j u hu => by
 rw [cellq_any (heap_alloc_new w (spBox x)), <- hu]
 simp [spCells]
set_option linter.unusedSimpArgs false in
set_option maxRecDepth 100000 in
set_option maxHeartbeats 8000000 in
theorem places_S (t : TV) (w : World) (ht : TAt w t) (hsz : (plT 0 t).length <= 100000000) : Calls Tryz.prog 22 #[t.val] w fun e w' => ∃ a c, e = .returned (.slice a (plT 0 t).length c) /\ SPo w' (.slice a (plT 0 t).length c) (plT 0 t) /\ (∀ j, (Value.slice a (plT 0 t).length c).ownBlock = some j -> w.heap.size < j) /\ Below w.heap.size w w' := by
 have P0 : Hid (PWs w [] [⟨t, 0, (0, 0), false⟩] (.slice none 0 0) (.slice (some ⟨w.heap.size + 1, 0, none⟩) 1 1) ((w.alloc (tBox t)).alloc (spBox ⟨t, 0, (0, 0), false⟩))) := by
  have b1 := below_alloc w (tBox t)
  have b2 := below_alloc (w.alloc (tBox t)) (spBox ⟨t, 0, (0, 0), false⟩)
  have hz : (w.alloc (tBox t)).heap.size = w.heap.size + 1 := by simp
  have f := sp_first (w.alloc (tBox t)) ⟨t, 0, (0, 0), false⟩
  rw [hz] at f
  exact ⟨RO.nil _, f, fun j hj => by simp [Value.ownBlock] at hj, fun j hj => by simp [Value.ownBlock] at hj; omega, fun j hj => by simp [Value.ownBlock] at hj, by have := b2.size; omega, b1.trans (b2.mono b1.size)⟩
 have L0 : Hid ([] ++ plS [(⟨t, 0, (0, 0), false⟩ : SP)].reverse = plT 0 t) := by
  show _ = _
  simp [plS]
 have HSZ : Hid ((plT 0 t).length <= 100000000) := hsz
 have HT : Hid (∀ x ∈ [(⟨t, 0, (0, 0), false⟩ : SP)], TAt w x.t /\ x.s = (0, 0) /\ x.u = false /\ 0 <= x.d /\ x.d <= (0 : Int)) := fun x hx => by
  obtain rfl : x = _ := List.mem_singleton.1 hx
  exact ⟨ht, rfl, rfl, Int.le_refl _, Int.le_refl _⟩
 generalize plT 0 t = L at *
 clear hsz ht
 go_enter Tryz.func22, Tryz.ntmps22
 go_wp2
 go_loopg [3, 4] (L.length + 1) (fun gk vo vs wr => ∃ O S, PWs w O S vo vs wr /\ O ++ plS S.reverse = L /\ (plS S.reverse).length < gk /\ ∀ x ∈ S, TAt w x.t /\ x.s = (0, 0) /\ x.u = false /\ 0 <= x.d /\ x.d <= (O.length : Int))
 case atStart => exact ⟨[], _, P0.out, L0.out, by rw [<- L0.out]; simp, HT.out⟩
 case round =>
  clear P0 L0 HT
  obtain ⟨O, S, hP, hL, hg, hS⟩ := hrel
  by_cases hD : S = []
  ·subst hD
   obtain ⟨sa, sc, rfl, _⟩ := hP.s.len
   have R : Hid (O = L) := by show _ = _; rw [<- hL]; simp [plS]
   obtain ⟨oa, oc, rfl, _⟩ := hP.o.len
   have HP : Hid (SPo wr (.slice oa O.length oc) O /\ (∀ j, (Value.slice oa O.length oc).ownBlock = some j -> w.heap.size < j) /\ Below w.heap.size w wr) := ⟨hP.o, hP.oo, hP.bel⟩
   clear hP hL hg hS
   go_wp2
   go_ret
   rw [<- R.out]
   exact ⟨oa, oc, rfl, HP.out⟩
  ·obtain ⟨S', x, rfl⟩ : ∃ d x, S = d ++ [x] := ⟨S.dropLast, S.getLast hD, (List.dropLast_concat_getLast hD).symm⟩
   obtain ⟨b, c, rfl, hc, hcell, hP'⟩ := hP.pop
   have hx := hS x (by simp)
   have e1 : plS (S' ++ [x]).reverse = x :: (plS (kidS x) ++ plS S'.reverse) := by
    rw [List.reverse_append, List.reverse_singleton, plS_app, plS_one x ⟨hx.2.1, hx.2.2.1⟩]
    rfl
   rw [e1] at hL hg
   have hlen : O.length + 1 + ((plS (kidS x)).length + (plS S'.reverse).length) = L.length := by rw [<- hL]; simp; omega
   have c0 := hcell 0 (by omega)
   have c1 := hcell 1 (by omega)
   have c2 := hcell 2 (by omega)
   have c3 := hcell 3 (by omega)
   have c4 := hcell 4 (by omega)
   have c5 := hcell 5 (by omega)
   have c6 := hcell 6 (by omega)
   have c7 := hcell 7 (by omega)
   simp only [spCells, List.getElem?_cons_zero, List.getElem?_cons_succ, Nat.add_zero, Nat.reduceAdd] at c0 c1 c2 c3 c4 c5 c6 c7
   obtain ⟨oa, oc, rfl, _⟩ := hP.o.len
   have hs1 := slice_spot b c (S'.length + 1) S'.length (by omega)
   have HP : Hid (PWs w O S' (.slice oa O.length oc) (.slice (some ⟨b, 0, none⟩) S'.length c) wr) := hP'
   have HL : Hid (O ++ x :: (plS (kidS x) ++ plS S'.reverse) = L) := hL
   have HX : Hid (TAt w x.t /\ x.s = (0, 0) /\ x.u = false /\ 0 <= x.d /\ x.d <= (O.length : Int)) := hx
   have HS : Hid (∀ y ∈ S', TAt w y.t /\ y.s = (0, 0) /\ y.u = false /\ 0 <= y.d /\ y.d <= (O.length : Int)) := fun y hy => hS y (List.mem_append_left _ hy)
   have HG : Hid ((x :: (plS (kidS x) ++ plS S'.reverse)).length < gk) := hg
   have HLN : Hid (O.length + 1 + ((plS (kidS x)).length + (plS S'.reverse).length) = L.length) := hlen
   have hO : O.length <= 100000000 := by have := HSZ.out; omega
   have hnb : S'.length <= 100000000 := by have := HSZ.out; have := plS_len S'.reverse; simp at this; omega
   clear hP hP' hL hx hS hg hcell e1 hlen hD
   obtain ⟨n, hn⟩ : ∃ n, S'.length = n := ⟨_, rfl⟩
   rw [hn] at c0 c1 c2 c3 c4 c5 c6 c7 hs1 HP hc hnb ⊢
   have HN : Hid (S'.length = n) := hn
   clear hn
   have X0 : Hid ((wr.alloc (spBox x)).heap[wr.heap.size]? = some (spBox x)) := heap_alloc_new _ _
   have BA : Hid (Below wr.heap.size wr ((wr.alloc (spBox x)).alloc (spBox x))) := (below_alloc wr _).alloc (below_alloc wr _).size _
   have NC : Hid (∀ j u, (spCells x)[j]? = some u -> ((wr.alloc (spBox x)).alloc (spBox x)).cell? ⟨wr.heap.size + 1, j, none⟩ = some u) := by
    have := sp_new (wr.alloc (spBox x)) x
    rwa [show (wr.alloc (spBox x)).heap.size = wr.heap.size + 1 by simp] at this
   have HOB : Hid (∀ j, (Value.slice oa O.length oc).ownBlock = some j -> j < wr.heap.size) := HP.out.o.lt
   have HSB : Hid (∀ j, (Value.slice (some ⟨b, 0, none⟩) n c).ownBlock = some j -> j < wr.heap.size) := HP.out.s.lt
   have X5 : Hid (((wr.alloc (spBox x)).alloc (spBox x)).heap[wr.heap.size]? = some (spBox x)) := ((below_alloc (wr.alloc (spBox x)) (spBox x)).block _ (lt_of_block X0.out)).trans X0.out
   have hkl : x.t.kids.length <= 100000000 := by
    have h1 := HSZ.out
    have h2 := HLN.out
    have h3 := plS_len (kidS x)
    have h4 : (kidS x).length = x.t.kids.length := by simp [kidS]
    omega
   go_wp2_with (at_builtin; refine wpList_ro_append rkSpot rfl _ _ rfl (.slice oa O.length oc) O rfl (HP.out.any BA.out).o (wr.heap.size + 1) 1 x rfl NC.out (by omega) ?_; intro a4 n4 c4' w4 ho4 hg4; have W4 : Hid (PWs w (O ++ [x]) S' (.slice a4 n4 c4') (.slice (some ⟨b, 0, none⟩) n c) w4) := HP.out.out BA.out hg4 ho4; have X4 : w4.heap[wr.heap.size]? = some (spBox x) := (hg4.grown.block _ (lt_of_block X5.out) (fun e => by have := HOB.out _ e.symm; omega)).trans X5.out; have Y4 : Hid (w4.heap[wr.heap.size]? = some (spBox x)) := X4; clear ho4 hg4 c0 c1 c2 c3 c4 c5 c6 c7 hs1; have k3 := (cellq_any (i := 3) X4).trans rfl; clear X4)
   have NB : Hid (∀ j, (Value.slice (some ⟨b, 0, none⟩) n c).ownBlock = some j -> j ≠ wr.heap.size) := fun j hj => by have := HSB.out j hj; omega
   clear k3 X0 X5 BA NC HOB HSB HP
   obtain ⟨nb, hnb2⟩ : ∃ nb, wr.heap.size = nb := ⟨_, rfl⟩
   rw [hnb2] at Y4 NB ⊢
   clear hnb2
   obtain ⟨d, hd⟩ : ∃ d, x.d = d := ⟨_, rfl⟩
   have HXR : Hid (∀ w', Below w.heap.size w w' -> KRow w' x.t.ka x.t.kids) := fun w' hb => HX.out.1.row.later hb
   have HD : Hid (x.d = d /\ 0 <= d /\ d <= (O.length : Int)) := ⟨hd, by rw [<- hd]; exact HX.out.2.2.2.1, by rw [<- hd]; exact HX.out.2.2.2.2⟩
   clear hd
   obtain ⟨wz, rfl⟩ : ∃ wz : World, wz = wr := ⟨_, rfl⟩
   go_loopw [4, 6] (fun vs z wq => ∃ m : Nat, m <= x.t.kids.length /\ z = .int .i64 ((m : Int) - 1) /\ PWs w (O ++ [x]) (S' ++ ((kidS x).drop m).reverse) (.slice a4 n4 c4') vs wq /\ wq.heap[nb]? = some (spBox x) /\ ∀ j, vs.ownBlock = some j -> j ≠ nb) (fun _ z _ => (intOf z + 1).toNat)
   case atStart =>
    refine ⟨x.t.kids.length, Nat.le_refl _, by go_num, ?_, Y4.out, NB.out⟩
    rw [show (kidS x).drop x.t.kids.length = [] by simp [kidS], List.reverse_nil, List.append_nil]
    exact W4.out
   case round =>
    clear W4 Y4 NB
    obtain ⟨m, hm, rfl, hP, hB, hN⟩ := hrel
    obtain ⟨T, hT⟩ : ∃ T, S' ++ ((kidS x).drop m).reverse = T := ⟨_, rfl⟩
    rw [hT] at hP
    have HTT : Hid (S' ++ ((kidS x).drop m).reverse = T) := hT
    clear hT
    obtain ⟨va, vc, rfl, _⟩ := hP.s.len
    rcases Nat.eq_zero_or_pos m with rfl | hpos
    ·have R : Hid (∃ O2 S2, PWs w O2 S2 (.slice a4 n4 c4') (.slice va T.length vc) wr /\ O2 ++ plS S2.reverse = L /\ (plS S2.reverse).length < gk - 1 /\ ∀ y ∈ S2, TAt w y.t /\ y.s = (0, 0) /\ y.u = false /\ 0 <= y.d /\ y.d <= (O2.length : Int)) := by
      have e : plS T.reverse = plS (kidS x) ++ plS S'.reverse := by rw [<- HTT.out, List.drop_zero, List.reverse_append, List.reverse_reverse, plS_app]
      refine ⟨_, _, hP, ?_, ?_, fun y hy => ?_⟩
      ·rw [e, <- HL.out]; simp
      ·rw [e]
       have := HG.out
       simp only [List.length_cons] at this
       omega
      ·rw [<- HTT.out] at hy
       rcases List.mem_append.1 hy with q | q
       ·obtain ⟨q1, q2, q3, q4, q5⟩ := HS.out y q
        exact ⟨q1, q2, q3, q4, by rw [List.length_append]; simp; omega⟩
       ·rw [List.drop_zero] at q
        have q' := List.mem_reverse.1 q
        unfold kidS at q'
        obtain ⟨k, hk, rfl⟩ := List.mem_map.1 q'
        have := HD.out
        exact ⟨HX.out.1.kid k hk, rfl, rfl, by show 0 <= x.d + 1; omega, by show x.d + 1 <= _; rw [List.length_append]; simp; omega⟩
     clear hP hB hN
     go_wp2
     go_roundg (gk - 1)
     case measure => have := HG.out; simp at this; omega
     case rel => exact R.out
    ·obtain ⟨q, rfl⟩ : ∃ q, m = q + 1 := ⟨m - 1, by omega⟩
     obtain ⟨n2, hn2⟩ : ∃ n2, x.t.kids.length = n2 := ⟨_, rfl⟩
     obtain ⟨y, hy⟩ : ∃ y, x.t.kids.getD q .none = y := ⟨_, rfl⟩
     obtain ⟨kb, ko, hka, hbl, -⟩ := HXR.out _ hP.bel (by intro e; rw [e] at hm; simp at hm)
     have KS0 : Hid (∀ w', Below w.heap.size w w' -> w'.heap[nb]? = some (spBox x) -> (fun w' : World => (w'.cell? ⟨nb, 3, none⟩ = some (.slice (some ⟨kb, ko, none⟩) n2 x.t.kc) /\ w'.cell? ⟨nb, 4, none⟩ = some (.int .i64 d)) /\ w'.cell? ⟨kb, ko + q * 4, none⟩ = some (.int .i64 y.prod) /\ w'.cell? ⟨kb, ko + q * 4 + 1, none⟩ = some (.int .i64 y.kind) /\ w'.cell? ⟨kb, ko + q * 4 + 2, none⟩ = some (.string y.tx) /\ w'.cell? ⟨kb, ko + q * 4 + 3, none⟩ = some (.slice y.ka y.kids.length y.kc)) w') := fun w' hb hB => by
      obtain ⟨kb', ko', hka', hbl', hc'⟩ := HXR.out _ hb (by intro e; rw [e] at hm; simp at hm)
      rw [hka] at hka'
      simp only [Option.some.injEq, Addr.mk.injEq, and_true] at hka'
      obtain ⟨rfl, rfl⟩ := hka'
      have z3 := (cellq_any (i := 3) hB).trans rfl
      have z4 := (cellq_any (i := 4) hB).trans rfl
      rw [hka, hn2] at z3
      rw [HD.out.1] at z4
      have hc2 := hc' q (by omega)
      rw [hy] at hc2
      exact ⟨⟨z3, z4⟩, hc2⟩
     have HT2 : Hid (S' ++ ((kidS x).drop q).reverse = T ++ [⟨y, d + 1, (0, 0), false⟩]) := by
      show _ = _
      rw [<- HTT.out, kidS_drop x q (by omega), hy, HD.out.1]
      simp
     have HTL : Hid (T.length <= 1000000000) := by
      have h1 := HN.out
      have h2 := congrArg List.length HTT.out
      simp [kidS] at h2
      show _ <= _
      omega
     have HP : Hid (PWs w (O ++ [x]) T (.slice a4 n4 c4') (.slice va T.length vc) wr) := hP
     have HB : Hid (wr.heap[nb]? = some (spBox x)) := hB
     have HNN : Hid (∀ j, (Value.slice va T.length vc).ownBlock = some j -> j ≠ nb) := hN
     have hs : Hid ((fun w' : World => (w'.cell? ⟨nb, 3, none⟩ = some (.slice (some ⟨kb, ko, none⟩) n2 x.t.kc) /\ w'.cell? ⟨nb, 4, none⟩ = some (.int .i64 d)) /\ w'.cell? ⟨kb, ko + q * 4, none⟩ = some (.int .i64 y.prod) /\ w'.cell? ⟨kb, ko + q * 4 + 1, none⟩ = some (.int .i64 y.kind) /\ w'.cell? ⟨kb, ko + q * 4 + 2, none⟩ = some (.string y.tx) /\ w'.cell? ⟨kb, ko + q * 4 + 3, none⟩ = some (.slice y.ka y.kids.length y.kc)) wr.drew) := KS0.out _ hP.bel.drew hB
     have hq2 : q < n2 := by omega
     have hq3 : (q : Int) < (n2 : Int) := by omega
     have hdb : 0 <= d /\ d <= 100000000 := by have := HD.out; omega
     have hd0 := hdb.1
     have hd1 := hdb.2
     have HBD : Hid (Below wr.heap.size wr wr.drew) := (Below.refl _ _).drew
     have hwr : IntKind.i64.wrap (d + 1) = d + 1 := wrap_i64 (by omega) (by omega)
     have HKL : Hid (q < x.t.kids.length) := by rw [hn2]; exact hq2
     have e6 : ((q + 1 : Nat) : Int) - 1 = (q : Int) := by omega
     rw [e6]
     rw [hn2] at hkl hm
     clear hP hB hN hka hbl hdb hpos hm hn2 hy e6
     generalize hp1 : y.prod = p at *
     generalize hp2 : y.kind = kd at *
     generalize hp3 : y.tx = tx at *
     generalize hp4 : y.ka = ka at *
     generalize hp5 : y.kids.length = kn at *
     generalize hp6 : y.kc = kkc at *
     have HPY : Hid (spBox ⟨y, d + 1, (0, 0), false⟩ = .cells #[.int .i64 p, .int .i64 kd, .string tx, .slice ka kn kkc, .int .i64 (d + 1), .int .i64 0, .int .i64 0, .bool false] 76) := by
      show _ = _
      rw [<- hp1, <- hp2, <- hp3, <- hp4, <- hp5, <- hp6]
     clear hp1 hp2 hp3 hp4 hp5 hp6
     generalize x.t.kc = kc2 at *
     go_wp2
     refine wp_region_x (S := fun _ => (fun w' : World => (w'.cell? ⟨nb, 3, none⟩ = some (.slice (some ⟨kb, ko, none⟩) n2 kc2) /\ w'.cell? ⟨nb, 4, none⟩ = some (.int .i64 d)) /\ w'.cell? ⟨kb, ko + q * 4, none⟩ = some (.int .i64 p) /\ w'.cell? ⟨kb, ko + q * 4 + 1, none⟩ = some (.int .i64 kd) /\ w'.cell? ⟨kb, ko + q * 4 + 2, none⟩ = some (.string tx) /\ w'.cell? ⟨kb, ko + q * 4 + 3, none⟩ = some (.slice ka kn kkc))) (by kernel_rfl) ?_
     refine takeF (i := 0) (v := ?_) rfl (by kernel_rfl) (by decide +kernel) (by decide +kernel) (fun _ _ _ h => h) (Or.inl ⟨by rfl, ?_⟩) hs.out ?_
     rotate_left
     ·(intro w hSw; (try dsimp only at hSw); go_simp; try (with_reducible rfl))
     (try simp only [Act.put, List.setIfInBounds_toArray, List.set_cons_zero, List.set_cons_succ])
     refine takeF (i := 1) (v := ?_) rfl (by kernel_rfl) (by decide +kernel) (by decide +kernel) (fun _ _ _ h => h) (Or.inl ⟨by rfl, ?_⟩) hs.out ?_
     rotate_left
     ·(intro w hSw; (try dsimp only at hSw); go_simp; try (with_reducible rfl))
     (try simp only [Act.put, List.setIfInBounds_toArray, List.set_cons_zero, List.set_cons_succ])
     refine takeF (i := 2) (v := ?_) rfl (by kernel_rfl) (by decide +kernel) (by decide +kernel) (fun _ _ _ h => h) (Or.inl ⟨by rfl, ?_⟩) hs.out ?_
     rotate_left
     ·(intro w hSw; (try dsimp only at hSw); go_simp; try (with_reducible rfl))
     (try simp only [Act.put, List.setIfInBounds_toArray, List.set_cons_zero, List.set_cons_succ])
     refine takeF (i := 3) (v := ?_) rfl (by kernel_rfl) (by decide +kernel) (by decide +kernel) (fun _ _ _ h => h) (Or.inl ⟨by rfl, ?_⟩) hs.out ?_
     rotate_left
     ·(intro w hSw; (try dsimp only at hSw); go_simp; try (with_reducible rfl))
     (try simp only [Act.put, List.setIfInBounds_toArray, List.set_cons_zero, List.set_cons_succ])
     refine takeF (i := 4) (v := ?_) rfl (by kernel_rfl) (by decide +kernel) (by decide +kernel) (fun _ _ _ h => h) (Or.inl ⟨by rfl, ?_⟩) hs.out ?_
     rotate_left
     ·(intro w hSw; (try dsimp only at hSw); go_simp; try (with_reducible rfl))
     (try simp only [Act.put, List.setIfInBounds_toArray, List.set_cons_zero, List.set_cons_succ])
     refine takeF (i := 5) (v := ?_) rfl (by kernel_rfl) (by decide +kernel) (by decide +kernel) (fun _ _ _ h => h) (Or.inl ⟨by rfl, ?_⟩) hs.out ?_
     rotate_left
     ·(intro w hSw; (try dsimp only at hSw); go_simp; try (with_reducible rfl))
     (try simp only [Act.put, List.setIfInBounds_toArray, List.set_cons_zero, List.set_cons_succ])
     refine takeF (i := 6) (v := ?_) rfl (by kernel_rfl) (by decide +kernel) (by decide +kernel) (fun _ _ _ h => h) (Or.inl ⟨by rfl, ?_⟩) hs.out ?_
     rotate_left
     ·(intro w hSw; (try dsimp only at hSw); go_simp; try (with_reducible rfl))
     (try simp only [Act.put, List.setIfInBounds_toArray, List.set_cons_zero, List.set_cons_succ])
     refine takeF (i := 7) (v := ?_) rfl (by kernel_rfl) (by decide +kernel) (by decide +kernel) (fun _ _ _ h => h) (Or.inl ⟨by rfl, ?_⟩) hs.out ?_
     rotate_left
     ·(intro w hSw; (try dsimp only at hSw); go_simp; try (with_reducible rfl))
     (try simp only [Act.put, List.setIfInBounds_toArray, List.set_cons_zero, List.set_cons_succ])
     refine takeF (i := 8) (v := ?_) rfl (by kernel_rfl) (by decide +kernel) (by decide +kernel) (fun _ _ _ h => h) (Or.inl ⟨by rfl, ?_⟩) hs.out ?_
     rotate_left
     ·(intro w hSw; (try dsimp only at hSw); go_simp; try (with_reducible rfl))
     (try simp only [Act.put, List.setIfInBounds_toArray, List.set_cons_zero, List.set_cons_succ])
     refine takeF (i := 9) (v := ?_) rfl (by kernel_rfl) (by decide +kernel) (by decide +kernel) (fun _ _ _ h => h) (Or.inl ⟨by rfl, ?_⟩) hs.out ?_
     rotate_left
     ·(intro w hSw; (try dsimp only at hSw); go_simp; try (with_reducible rfl))
     (try simp only [Act.put, List.setIfInBounds_toArray, List.set_cons_zero, List.set_cons_succ])
     refine takeF (i := 10) (v := ?_) rfl (by kernel_rfl) (by decide +kernel) (by decide +kernel) (fun _ _ _ h => h) (Or.inl ⟨by rfl, ?_⟩) hs.out ?_
     rotate_left
     ·(intro w hSw; (try dsimp only at hSw); go_simp; try (with_reducible rfl))
     (try simp only [Act.put, List.setIfInBounds_toArray, List.set_cons_zero, List.set_cons_succ])
     refine wpAnyX_one (j := 11) (by decide +kernel) rfl (fun K' hK => ?_)
     go_simp
     refine hK.out _ _ (KS0.out _ (HP.out.bel.trans (((below_alloc _ _).drew).mono HP.out.bel.size)) (tbox_on HB.out (below_alloc _ _).drew)) ?_
     clear hK K'
     (try simp only [Act.put, List.setIfInBounds_toArray, List.set_cons_zero, List.set_cons_succ])
     refine wpAnyX_one (j := 12) (by decide +kernel) rfl (fun K' hK => ?_)
     refine step_ro_append rkSpot (by rfl) _ _ (by rfl) (.slice va T.length vc) T (by rfl) (HP.out.s.later (below_alloc _ _).drew) wr.heap.size 1 ⟨y, d + 1, (0, 0), false⟩ (by rfl) (fun j u hu => by have := sp_new wr ⟨y, d + 1, (0, 0), false⟩ j u hu; rw [HPY.out] at this; exact this) HTL.out ?_
     intro a5 n5 c5 w5 ho5 hg5
     have hbx : Below wr.heap.size wr (wr.alloc (.cells #[.int .i64 p, .int .i64 kd, .string tx, .slice ka kn kkc, .int .i64 (d + 1), .int .i64 0, .int .i64 0, .bool false] 76)).drew := (below_alloc _ _).drew
     have W5 : Hid (PWs w (O ++ [x]) (T ++ [⟨y, d + 1, (0, 0), false⟩]) (.slice a4 n4 c4') (.slice a5 n5 c5) w5) := HP.out.push hbx hg5 ho5
     have B5 : Hid (w5.heap[nb]? = some (spBox x)) := (hg5.grown.block nb (Nat.lt_of_lt_of_le (lt_of_block HB.out) hbx.size) (fun e => HNN.out nb e.symm rfl)).trans (tbox_on HB.out hbx)
     have N5 : Hid (∀ j, (Value.slice a5 n5 c5).ownBlock = some j -> j ≠ nb) := fun j hj => by
      have hz := lt_of_block HB.out
      have hz2 := hbx.size
      rcases hg5.moved with e | ⟨k, e, hk⟩
      ·exact HNN.out j (by rw [<- e]; exact hj)
      ·rw [e] at hj
       simp only [Option.some.injEq] at hj
       omega
     refine hK.out _ _ (KS0.out _ W5.out.bel B5.out) ?_
     clear hK K' ho5 hg5 hbx
     (try simp only [Act.put, List.setIfInBounds_toArray, List.set_cons_zero, List.set_cons_succ])
     refine wpAnyX_one (j := 13) (by decide +kernel) rfl (fun K' hK => ?_)
     go_simp
     refine hK.out _ _ (KS0.out _ W5.out.bel B5.out) ?_
     clear hK K'
     (try simp only [Act.put, List.setIfInBounds_toArray, List.set_cons_zero, List.set_cons_succ])
     refine wpAnyX_done (by decide +kernel) ?_
     clear hs KS0
     go_wp2
     go_roundw
     case rel => exact ⟨q, Nat.le_of_lt HKL.out, by go_num, by rw [HT2.out]; exact W5.out, B5.out, N5.out⟩
     case measure => simp [intOf]
end Go.Proofs.YtndbdliaidbocaaGreat
