import Derived.Test.YtaeggelfhinedaaPTTP
import Derived.Test.YtaeggelfhinedaaPRRowToRegS
import Derived.Laws.OwnMore
import Derived.Deep.LoopGhost
import Derived.Test.YtaeggelfhinedaaPRegXToFChk7
namespace Go.Proofs.Ytaeggelfhinedaa
set_option linter.unusedVariables false
open Go.RowKit
def KRow (w : World) (ao : Option Addr) (l : List TV) : Prop := l ≠ [] -> ∃ b off, ao = some ⟨b, off, none⟩ /\ b < w.heap.size /\ ∀ i, i < l.length ->
 w.cell? ⟨b, off + i * 4, none⟩ = some (.int .i64 (l.getD i .none).prod) /\ w.cell? ⟨b, off + i * 4 + 1, none⟩ = some (.int .i64 (l.getD i .none).kind) /\ w.cell? ⟨b, off + i * 4 + 2, none⟩ = some (.string (l.getD i .none).tx) /\ w.cell? ⟨b, off + i * 4 + 3, none⟩ = some (.slice (l.getD i .none).ka (l.getD i .none).kids.length (l.getD i .none).kc)
theorem KRow.later {w w' : World} {ao : Option Addr} {l : List TV} (h : KRow w ao l) (hb : Below w.heap.size w w') : KRow w' ao l := by
 intro hne
 obtain ⟨b, off, rfl, hl, hc⟩ := h hne
 have e : ∀ j, w'.cell? ⟨b, j, none⟩ = w.cell? ⟨b, j, none⟩ := fun j => hb.cell (p := ⟨b, j, none⟩) hl
 refine ⟨b, off, rfl, Nat.lt_of_lt_of_le hl hb.size, fun i hi => ?_⟩
 rw [e, e, e, e]
 exact hc i hi
def TAt (w : World) (t : TV) : Prop := AllP (fun t => KRow w (TV.ka t) (TV.kids t)) t
theorem TAt.mk {w : World} (t : TV) (h : KRow w (TV.ka t) (TV.kids t)) (hk : ∀ k ∈ TV.kids t, TAt w k) : TAt w t := AllP.mk h hk
theorem TAt.row {w : World} {t : TV} (h : TAt w t) : KRow w (TV.ka t) (TV.kids t) := AllP.here h
theorem TAt.kid {w : World} {t : TV} (h : TAt w t) : ∀ k ∈ TV.kids t, TAt w k := AllP.kid h
theorem TAt.later {w w' : World} {t : TV} (h : TAt w t) (hb : Below w.heap.size w w') : TAt w' t := fun d y hy => (h d y hy).later hb
abbrev TV.val (t : TV) : Value := .agg #[.int .i64 t.prod, .int .i64 t.kind, .string t.tx, .slice t.ka t.kids.length t.kc]
abbrev tBox (t : TV) : Obj := .cells #[.int .i64 t.prod, .int .i64 t.kind, .string t.tx, .slice t.ka t.kids.length t.kc] 31
theorem tb_cells {t : TV} {b : Nat} {w' : World} (h : w'.heap[b]? = some (tBox t)) : w'.cell? ⟨b, 0, none⟩ = some (.int .i64 t.prod) /\ w'.cell? ⟨b, 1, none⟩ = some (.int .i64 t.kind) /\ w'.cell? ⟨b, 2, none⟩ = some (.string t.tx) /\ w'.cell? ⟨b, 3, none⟩ = some (.slice t.ka t.kids.length t.kc) :=
 ⟨(cellq_any h).trans rfl, (cellq_any h).trans rfl, (cellq_any h).trans rfl, (cellq_any h).trans rfl⟩
def spCells (x : SP) : List Value := [.int .i64 x.t.prod, .int .i64 x.t.kind, .string x.t.tx, .slice x.t.ka x.t.kids.length x.t.kc, .int .i64 x.d, .int .i64 x.s.1, .int .i64 x.s.2, .bool x.u]
theorem rkSpot : RK 101 102 8 spCells := by
 refine ⟨Try.underlying102, ?_, by decide, fun _ => rfl, fun x u hu => ?_⟩
 ·have h : (Try.prog.info? 101).map (fun i => (i.zero, i.size, i.bytes)) = some (some (.agg #[.int .i64 0, .int .i64 0, .string ByteArray.empty, .slice none 0 0, .int .i64 0, .int .i64 0, .int .i64 0, .bool false]), 8, 88) := by kernel_rfl
  cases e : Try.prog.info? 101 with
  | none => rw [e] at h; cases h
  | some i =>
   rw [e] at h
   simp at h
   exact ⟨i, _, rfl, h.1, h.2.1, by rw [h.2.2]; decide, rfl⟩
 ·simp [spCells] at hu
  rcases hu with rfl | rfl | rfl | rfl | rfl | rfl | rfl | rfl <;> rfl
abbrev SPo := RO 101 8 spCells
theorem ps_cells {n : Nat} {w : World} {g : GV} (h : GAt n w g) {j : Nat} (hj : j < g.ps.length) : ∃ b off, g.pa = some ⟨b, off, none⟩ /\ b < w.heap.size /\ w.cell? ⟨b, off + j * 3, none⟩ = some (.int .i64 (g.ps.getD j .none).left) /\ w.cell? ⟨b, off + j * 3 + 1, none⟩ = some (.slice (g.ps.getD j .none).ra (g.ps.getD j .none).right.length (g.ps.getD j .none).rc) /\ SymRow w (g.ps.getD j .none).ra (g.ps.getD j .none).right := by
 obtain ⟨b, o, hpa, hbl, hc⟩ := h.p.cells (by intro e; rw [e] at hj; simp at hj)
 obtain ⟨c0, c1, c2⟩ := hc j hj
 exact ⟨b, o, hpa, hbl, c0, c1, h.p.rows _ (by simp [List.getD, hj])⟩
set_option maxRecDepth 100000 in
set_option maxHeartbeats 4000000 in
theorem root_S (g : GV) (t : TV) (w : World) (h : GAt 140737488355328 w g) : Calls Try.prog 37 #[g.val, t.val] w fun e w' => e = .returned (.agg #[.int .i64 (rootU g t).1, .int .i64 (rootU g t).2]) /\ Below w.heap.size w w' := by
 have htl := h.tl
 have hpl := h.pl
 by_cases hp : t.prod = -1
 ·have e0 : (t.prod == -1) = true := by simpa using hp
  by_cases h1 : 0 <= t.kind
  ·by_cases h2 : t.kind < (g.ts.length : Int)
   ·have E : Hid (rootU g t = (1, t.kind)) := root_leaf hp h1 h2
    go_enter Try.func37, Try.ntmps37
    go_wp2
    refine bodyPost_ret (v := .agg #[.int .i64 1, .int .i64 t.kind]) (by simp [results, Try.results37, go_sem]) rfl ?_
    rw [E.out]
    exact ⟨rfl, (three_box w _ _ _).1⟩
   ·have E : Hid (rootU g t = (0, 0)) := by
     show _ = _
     unfold rootU
     rw [if_neg (by omega), if_neg (by omega)]
    have e1 : ¬ 0 <= t.prod := by omega
    go_enter Try.func37, Try.ntmps37
    go_wp2
    refine bodyPost_ret (v := .agg #[.int .i64 0, .int .i64 0]) (by simp [results, Try.results37, go_sem]) rfl ?_
    rw [E.out]
    exact ⟨rfl, (three_box w _ _ _).1⟩
  ·have E : Hid (rootU g t = (0, 0)) := by
    show _ = _
    unfold rootU
    rw [if_neg (by omega), if_neg (by omega)]
   have e1 : ¬ 0 <= t.prod := by omega
   go_enter Try.func37, Try.ntmps37
   go_wp2
   refine bodyPost_ret (v := .agg #[.int .i64 0, .int .i64 0]) (by simp [results, Try.results37, go_sem]) rfl ?_
   rw [E.out]
   exact ⟨rfl, (three_box w _ _ _).1⟩
 ·have e0 : (t.prod == -1) = false := by simpa using hp
  by_cases h1 : 0 <= t.prod
  ·by_cases h2 : t.prod < (g.ps.length : Int)
   ·have E : Hid (rootU g t = (2, (g.ps.getD t.prod.toNat .none).left)) := root_node h1 h2
    obtain ⟨j, hj⟩ : ∃ j : Nat, t.prod = (j : Int) := ⟨t.prod.toNat, by omega⟩
    have hjl : j < g.ps.length := by omega
    rw [hj] at e0 h1 h2
    rw [hj, Int.toNat_natCast] at E
    obtain ⟨pb, po, hpa, hbl, c0, c1, -⟩ := ps_cells h hjl
    have c0' : (((w.alloc (gBox g)).alloc (tBox t)).alloc (syBox 0 0)).cell? ⟨pb, po + j * 3, none⟩ = some (.int .i64 (g.ps.getD j .none).left) := ((three_box w _ _ _).1.cell (p := ⟨pb, po + j * 3, none⟩) hbl).trans c0
    unfold gBox tBox at c0'
    unfold GV.val TV.val
    rw [hpa, hj] at c0' ⊢
    clear hj hp c0 c1
    generalize (g.ps.getD j .none).left = lf at *
    go_enter Try.func37, Try.ntmps37
    go_wp2
    refine bodyPost_ret (v := .agg #[.int .i64 2, .int .i64 lf]) (by simp [results, Try.results37, go_sem]) rfl ?_
    rw [E.out]
    exact ⟨rfl, (three_box w _ _ _).1⟩
   ·have E : Hid (rootU g t = (0, 0)) := by
     show _ = _
     unfold rootU
     rw [if_neg (by omega), if_neg (by omega)]
    go_enter Try.func37, Try.ntmps37
    go_wp2
    refine bodyPost_ret (v := .agg #[.int .i64 0, .int .i64 0]) (by simp [results, Try.results37, go_sem]) rfl ?_
    rw [E.out]
    exact ⟨rfl, (three_box w _ _ _).1⟩
  ·have E : Hid (rootU g t = (0, 0)) := by
    show _ = _
    unfold rootU
    rw [if_neg (by omega), if_neg (by omega)]
   go_enter Try.func37, Try.ntmps37
   go_wp2
   refine bodyPost_ret (v := .agg #[.int .i64 0, .int .i64 0]) (by simp [results, Try.results37, go_sem]) rfl ?_
   rw [E.out]
   exact ⟨rfl, (three_box w _ _ _).1⟩
def alV (g : GV) (p k : Int) (x : ByteArray) (n : Nat) : Int :=
 if p = -1 then (if k < 0 ∨ (g.ts.length : Int) <= k ∨ 0 < n then 82 else 0)
 else if p < 0 ∨ (g.ps.length : Int) <= p ∨ k ≠ 0 ∨ x.toList ≠ [] ∨ n ≠ (g.ps.getD p.toNat .none).right.length then 81 else 0
theorem alU_V (g : GV) (t : TV) : alTU g t = alV g t.prod t.kind t.tx t.kids.length := rfl
set_option maxRecDepth 100000 in
set_option maxHeartbeats 4000000 in
theorem alone_leaf (g : GV) (k : Int) (x : ByteArray) (ka : Option Addr) (n kc : Nat) (w : World) (h : GAt 140737488355328 w g) (hk : n <= 140737488355328) : Calls Try.prog 36 #[g.val, .agg #[.int .i64 (-1), .int .i64 k, .string x, .slice ka n kc]] w fun e w' => e = .returned (.int .i64 (alV g (-1) k x n)) /\ Below w.heap.size w w' := by
 have htl := h.tl
 have B0 : Hid (Below w.heap.size w ((w.alloc (gBox g)).alloc (.cells #[.int .i64 (-1), .int .i64 k, .string x, .slice ka n kc] 31))) := (below_alloc w _).alloc (below_alloc w _).size _
 by_cases h0 : k < 0
 ·have E : Hid (alV g (-1) k x n = 82) := by show _ = _; unfold alV; rw [if_pos rfl, if_pos (.inl h0)]
  go_enter Try.func36, Try.ntmps36
  go_wp2
  go_ret
  exact ⟨by rw [E.out]; rfl, B0.out⟩
 by_cases h1 : (g.ts.length : Int) <= k
 ·have E : Hid (alV g (-1) k x n = 82) := by show _ = _; unfold alV; rw [if_pos rfl, if_pos (.inr (.inl h1))]
  go_enter Try.func36, Try.ntmps36
  go_wp2
  go_ret
  exact ⟨by rw [E.out]; rfl, B0.out⟩
 by_cases h2 : 0 < n
 ·have E : Hid (alV g (-1) k x n = 82) := by show _ = _; unfold alV; rw [if_pos rfl, if_pos (.inr (.inr h2))]
  have h3' : (0 : Int) < (n : Int) := by omega
  go_enter Try.func36, Try.ntmps36
  go_wp2
  go_ret
  exact ⟨by rw [E.out]; rfl, B0.out⟩
 have E : Hid (alV g (-1) k x n = 0) := by show _ = _; unfold alV; rw [if_pos rfl, if_neg (by omega)]
 have h3' : ¬ (0 : Int) < (n : Int) := by omega
 go_enter Try.func36, Try.ntmps36
 go_wp2
 go_ret
 exact ⟨by rw [E.out]; rfl, B0.out⟩
set_option linter.unusedSimpArgs false in
set_option maxRecDepth 100000 in
set_option maxHeartbeats 8000000 in
theorem alone_neg (g : GV) (p k : Int) (x : ByteArray) (ka : Option Addr) (n kc : Nat) (w : World) (h : GAt 140737488355328 w g) (hk : n <= 140737488355328) (hp : p ≠ -1) (h1 : p < 0) : Calls Try.prog 36 #[g.val, .agg #[.int .i64 p, .int .i64 k, .string x, .slice ka n kc]] w fun e w' => e = .returned (.int .i64 (alV g p k x n)) /\ Below w.heap.size w w' := by
 have hpl := h.pl
 have e0 : (p == -1) = false := by simpa using hp
 have B0 : Hid (Below w.heap.size w ((w.alloc (gBox g)).alloc (.cells #[.int .i64 p, .int .i64 k, .string x, .slice ka n kc] 31)).drew) := ((below_alloc w _).alloc (below_alloc w _).size _).drew
 have X0 : ((w.alloc (gBox g)).alloc (.cells #[.int .i64 p, .int .i64 k, .string x, .slice ka n kc] 31)).drew.heap[w.heap.size]? = some (gBox g) := by
  show ((w.alloc (gBox g)).alloc (.cells #[.int .i64 p, .int .i64 k, .string x, .slice ka n kc] 31)).heap[w.heap.size]? = some (gBox g)
  rw [(below_alloc (w.alloc (gBox g)) _).block _ (by simp)]
  exact heap_alloc_new _ _
 have X1 : ((w.alloc (gBox g)).alloc (.cells #[.int .i64 p, .int .i64 k, .string x, .slice ka n kc] 31)).drew.heap[w.heap.size + 1]? = some (.cells #[.int .i64 p, .int .i64 k, .string x, .slice ka n kc] 31) := by
  have := heap_alloc_new (w.alloc (gBox g)) (.cells #[.int .i64 p, .int .i64 k, .string x, .slice ka n kc] 31)
  rwa [show (w.alloc (gBox g)).heap.size = w.heap.size + 1 by simp] at this
 obtain ⟨-, -, -, y3, -⟩ := gb_cells X0
 have z0 := (cellq_any (i := 0) X1).trans rfl
 have z1 := (cellq_any (i := 1) X1).trans rfl
 have z2 := (cellq_any (i := 2) X1).trans rfl
 have z3 := (cellq_any (i := 3) X1).trans rfl
 have E : Hid (alV g p k x n = 81) := by show _ = _; unfold alV; rw [if_neg hp, if_pos (.inl h1)]
 clear hp
 have hs : Hid ((fun w' : World => (w'.cell? ⟨w.heap.size, 3, none⟩ = some (.slice g.pa g.ps.length g.pc)) /\ w'.cell? ⟨w.heap.size + 1, 0, none⟩ = some (.int .i64 p) /\ w'.cell? ⟨w.heap.size + 1, 1, none⟩ = some (.int .i64 k) /\ w'.cell? ⟨w.heap.size + 1, 2, none⟩ = some (.string x) /\ w'.cell? ⟨w.heap.size + 1, 3, none⟩ = some (.slice ka n kc)) ((w.alloc (gBox g)).alloc (.cells #[.int .i64 p, .int .i64 k, .string x, .slice ka n kc] 31)).drew) := ⟨y3, z0, z1, z2, z3⟩
 clear y3 z0 z1 z2 z3 X0 X1
 go_enter Try.func36, Try.ntmps36
 go_wp2
 refine wp_region_x (S := fun _ => (fun w' : World => (w'.cell? ⟨w.heap.size, 3, none⟩ = some (.slice g.pa g.ps.length g.pc)) /\ w'.cell? ⟨w.heap.size + 1, 0, none⟩ = some (.int .i64 p) /\ w'.cell? ⟨w.heap.size + 1, 1, none⟩ = some (.int .i64 k) /\ w'.cell? ⟨w.heap.size + 1, 2, none⟩ = some (.string x) /\ w'.cell? ⟨w.heap.size + 1, 3, none⟩ = some (.slice ka n kc))) (by kernel_rfl) ?_
 refine takeF (i := 0) (v := ?_) rfl (by kernel_rfl) (by decide +kernel) (by decide +kernel) (fun _ _ _ h => h) (Or.inl ⟨by rfl, ?_⟩) hs.out ?_
 rotate_left
 ·(intro w hSw; (try dsimp only at hSw); go_simp; try (with_reducible rfl))
 (try simp only [Act.put, List.setIfInBounds_toArray, List.set_cons_zero, List.set_cons_succ])
 refine takeF (i := 1) (v := ?_) rfl (by kernel_rfl) (by decide +kernel) (by decide +kernel) (fun _ _ _ h => h) (Or.inl ⟨by rfl, ?_⟩) hs.out ?_
 rotate_left
 ·(intro w hSw; (try dsimp only at hSw); go_simp; try (with_reducible rfl))
 (try simp only [Act.put, List.setIfInBounds_toArray, List.set_cons_zero, List.set_cons_succ])
 refine takeF (i := 2) (v := ?_) rfl (by kernel_rfl) (by decide +kernel) (by decide +kernel) (fun _ _ _ h => h) (Or.inl ⟨by rfl, ?_⟩) hs.out ?_
 rotate_left
 ·(intro w hSw; (try dsimp only at hSw); go_simp; try (with_reducible rfl))
 (try simp only [Act.put, List.setIfInBounds_toArray, List.set_cons_zero, List.set_cons_succ])
 refine takeF (i := 3) (v := ?_) rfl (by kernel_rfl) (by decide +kernel) (by decide +kernel) (fun _ _ _ h => h) (Or.inl ⟨by rfl, ?_⟩) hs.out ?_
 rotate_left
 ·(intro w hSw; (try dsimp only at hSw); go_simp; try (with_reducible rfl))
 (try simp only [Act.put, List.setIfInBounds_toArray, List.set_cons_zero, List.set_cons_succ])
 refine takeF (i := 4) (v := undef) rfl (by kernel_rfl) (by decide +kernel) (by decide +kernel) (fun _ _ _ h => h) (Or.inr ⟨by rfl, rfl⟩) hs.out ?_
 (try simp only [Act.put, List.setIfInBounds_toArray, List.set_cons_zero, List.set_cons_succ])
 refine takeF (i := 5) (v := undef) rfl (by kernel_rfl) (by decide +kernel) (by decide +kernel) (fun _ _ _ h => h) (Or.inr ⟨by rfl, rfl⟩) hs.out ?_
 (try simp only [Act.put, List.setIfInBounds_toArray, List.set_cons_zero, List.set_cons_succ])
 refine takeF (i := 6) (v := undef) rfl (by kernel_rfl) (by decide +kernel) (by decide +kernel) (fun _ _ _ h => h) (Or.inr ⟨by rfl, rfl⟩) hs.out ?_
 (try simp only [Act.put, List.setIfInBounds_toArray, List.set_cons_zero, List.set_cons_succ])
 refine takeF (i := 7) (v := undef) rfl (by kernel_rfl) (by decide +kernel) (by decide +kernel) (fun _ _ _ h => h) (Or.inr ⟨by rfl, rfl⟩) hs.out ?_
 (try simp only [Act.put, List.setIfInBounds_toArray, List.set_cons_zero, List.set_cons_succ])
 refine takeF (i := 8) (v := undef) rfl (by kernel_rfl) (by decide +kernel) (by decide +kernel) (fun _ _ _ h => h) (Or.inr ⟨by rfl, rfl⟩) hs.out ?_
 (try simp only [Act.put, List.setIfInBounds_toArray, List.set_cons_zero, List.set_cons_succ])
 refine takeF (i := 9) (v := undef) rfl (by kernel_rfl) (by decide +kernel) (by decide +kernel) (fun _ _ _ h => h) (Or.inr ⟨by rfl, rfl⟩) hs.out ?_
 (try simp only [Act.put, List.setIfInBounds_toArray, List.set_cons_zero, List.set_cons_succ])
 refine takeF (i := 10) (v := ?_) rfl (by kernel_rfl) (by decide +kernel) (by decide +kernel) (fun _ _ _ h => h) (Or.inl ⟨by rfl, ?_⟩) hs.out ?_
 rotate_left
 ·(intro w hSw; (try dsimp only at hSw); go_simp; try (with_reducible rfl))
 (try simp only [Act.put, List.setIfInBounds_toArray, List.set_cons_zero, List.set_cons_succ])
 refine takeF (i := 11) (v := ?_) rfl (by kernel_rfl) (by decide +kernel) (by decide +kernel) (fun _ _ _ h => h) (Or.inl ⟨by rfl, ?_⟩) hs.out ?_
 rotate_left
 ·(intro w hSw; (try dsimp only at hSw); go_simp; try (with_reducible rfl))
 (try simp only [Act.put, List.setIfInBounds_toArray, List.set_cons_zero, List.set_cons_succ])
 refine takeF (i := 12) (v := undef) rfl (by kernel_rfl) (by decide +kernel) (by decide +kernel) (fun _ _ _ h => h) (Or.inr ⟨by rfl, rfl⟩) hs.out ?_
 (try simp only [Act.put, List.setIfInBounds_toArray, List.set_cons_zero, List.set_cons_succ])
 refine takeF (i := 13) (v := undef) rfl (by kernel_rfl) (by decide +kernel) (by decide +kernel) (fun _ _ _ h => h) (Or.inr ⟨by rfl, rfl⟩) hs.out ?_
 (try simp only [Act.put, List.setIfInBounds_toArray, List.set_cons_zero, List.set_cons_succ])
 refine takeF (i := 14) (v := undef) rfl (by kernel_rfl) (by decide +kernel) (by decide +kernel) (fun _ _ _ h => h) (Or.inr ⟨by rfl, rfl⟩) hs.out ?_
 (try simp only [Act.put, List.setIfInBounds_toArray, List.set_cons_zero, List.set_cons_succ])
 refine takeF (i := 15) (v := undef) rfl (by kernel_rfl) (by decide +kernel) (by decide +kernel) (fun _ _ _ h => h) (Or.inr ⟨by rfl, rfl⟩) hs.out ?_
 (try simp only [Act.put, List.setIfInBounds_toArray, List.set_cons_zero, List.set_cons_succ])
 refine takeF (i := 16) (v := ?_) rfl (by kernel_rfl) (by decide +kernel) (by decide +kernel) (fun _ _ _ h => h) (Or.inl ⟨by rfl, ?_⟩) hs.out ?_
 rotate_left
 ·(intro w hSw; (try dsimp only at hSw); go_simp; try (with_reducible rfl))
 (try simp only [Act.put, List.setIfInBounds_toArray, List.set_cons_zero, List.set_cons_succ])
 refine takeF (i := 17) (v := ?_) rfl (by kernel_rfl) (by decide +kernel) (by decide +kernel) (fun _ _ _ h => h) (Or.inl ⟨by rfl, ?_⟩) hs.out ?_
 rotate_left
 ·(intro w hSw; (try dsimp only at hSw); go_simp; try (with_reducible rfl))
 (try simp only [Act.put, List.setIfInBounds_toArray, List.set_cons_zero, List.set_cons_succ])
 refine takeF (i := 18) (v := undef) rfl (by kernel_rfl) (by decide +kernel) (by decide +kernel) (fun _ _ _ h => h) (Or.inr ⟨by rfl, rfl⟩) hs.out ?_
 (try simp only [Act.put, List.setIfInBounds_toArray, List.set_cons_zero, List.set_cons_succ])
 refine takeF (i := 19) (v := undef) rfl (by kernel_rfl) (by decide +kernel) (by decide +kernel) (fun _ _ _ h => h) (Or.inr ⟨by rfl, rfl⟩) hs.out ?_
 (try simp only [Act.put, List.setIfInBounds_toArray, List.set_cons_zero, List.set_cons_succ])
 refine takeF (i := 20) (v := undef) rfl (by kernel_rfl) (by decide +kernel) (by decide +kernel) (fun _ _ _ h => h) (Or.inr ⟨by rfl, rfl⟩) hs.out ?_
 (try simp only [Act.put, List.setIfInBounds_toArray, List.set_cons_zero, List.set_cons_succ])
 refine takeF (i := 21) (v := undef) rfl (by kernel_rfl) (by decide +kernel) (by decide +kernel) (fun _ _ _ h => h) (Or.inr ⟨by rfl, rfl⟩) hs.out ?_
 (try simp only [Act.put, List.setIfInBounds_toArray, List.set_cons_zero, List.set_cons_succ])
 refine takeF (i := 22) (v := undef) rfl (by kernel_rfl) (by decide +kernel) (by decide +kernel) (fun _ _ _ h => h) (Or.inr ⟨by rfl, rfl⟩) hs.out ?_
 (try simp only [Act.put, List.setIfInBounds_toArray, List.set_cons_zero, List.set_cons_succ])
 refine takeF (i := 23) (v := undef) rfl (by kernel_rfl) (by decide +kernel) (by decide +kernel) (fun _ _ _ h => h) (Or.inr ⟨by rfl, rfl⟩) hs.out ?_
 (try simp only [Act.put, List.setIfInBounds_toArray, List.set_cons_zero, List.set_cons_succ])
 refine takeF (i := 24) (v := undef) rfl (by kernel_rfl) (by decide +kernel) (by decide +kernel) (fun _ _ _ h => h) (Or.inr ⟨by rfl, rfl⟩) hs.out ?_
 (try simp only [Act.put, List.setIfInBounds_toArray, List.set_cons_zero, List.set_cons_succ])
 refine takeF (i := 25) (v := undef) rfl (by kernel_rfl) (by decide +kernel) (by decide +kernel) (fun _ _ _ h => h) (Or.inr ⟨by rfl, rfl⟩) hs.out ?_
 (try simp only [Act.put, List.setIfInBounds_toArray, List.set_cons_zero, List.set_cons_succ])
 refine takeF (i := 26) (v := undef) rfl (by kernel_rfl) (by decide +kernel) (by decide +kernel) (fun _ _ _ h => h) (Or.inr ⟨by rfl, rfl⟩) hs.out ?_
 (try simp only [Act.put, List.setIfInBounds_toArray, List.set_cons_zero, List.set_cons_succ])
 refine takeF (i := 27) (v := undef) rfl (by kernel_rfl) (by decide +kernel) (by decide +kernel) (fun _ _ _ h => h) (Or.inr ⟨by rfl, rfl⟩) hs.out ?_
 (try simp only [Act.put, List.setIfInBounds_toArray, List.set_cons_zero, List.set_cons_succ])
 refine takeF (i := 28) (v := undef) rfl (by kernel_rfl) (by decide +kernel) (by decide +kernel) (fun _ _ _ h => h) (Or.inr ⟨by rfl, rfl⟩) hs.out ?_
 (try simp only [Act.put, List.setIfInBounds_toArray, List.set_cons_zero, List.set_cons_succ])
 refine takeF (i := 29) (v := undef) rfl (by kernel_rfl) (by decide +kernel) (by decide +kernel) (fun _ _ _ h => h) (Or.inr ⟨by rfl, rfl⟩) hs.out ?_
 (try simp only [Act.put, List.setIfInBounds_toArray, List.set_cons_zero, List.set_cons_succ])
 refine takeF (i := 30) (v := ?_) rfl (by kernel_rfl) (by decide +kernel) (by decide +kernel) (fun _ _ _ h => h) (Or.inl ⟨by rfl, ?_⟩) hs.out ?_
 rotate_left
 ·(intro w hSw; (try dsimp only at hSw); go_simp; try (with_reducible rfl))
 (try simp only [Act.put, List.setIfInBounds_toArray, List.set_cons_zero, List.set_cons_succ])
 refine wpAnyX_done (by decide +kernel) ?_
 go_wp2
 go_ret
 exact ⟨by rw [E.out]; rfl, B0.out⟩
set_option linter.unusedSimpArgs false in
set_option maxRecDepth 100000 in
set_option maxHeartbeats 8000000 in
theorem alone_far (g : GV) (p k : Int) (x : ByteArray) (ka : Option Addr) (n kc : Nat) (w : World) (h : GAt 140737488355328 w g) (hk : n <= 140737488355328) (hp : p ≠ -1) (h1 : ¬ p < 0) (h2 : (g.ps.length : Int) <= p) : Calls Try.prog 36 #[g.val, .agg #[.int .i64 p, .int .i64 k, .string x, .slice ka n kc]] w fun e w' => e = .returned (.int .i64 (alV g p k x n)) /\ Below w.heap.size w w' := by
 have hpl := h.pl
 have e0 : (p == -1) = false := by simpa using hp
 have B0 : Hid (Below w.heap.size w ((w.alloc (gBox g)).alloc (.cells #[.int .i64 p, .int .i64 k, .string x, .slice ka n kc] 31)).drew) := ((below_alloc w _).alloc (below_alloc w _).size _).drew
 have X0 : ((w.alloc (gBox g)).alloc (.cells #[.int .i64 p, .int .i64 k, .string x, .slice ka n kc] 31)).drew.heap[w.heap.size]? = some (gBox g) := by
  show ((w.alloc (gBox g)).alloc (.cells #[.int .i64 p, .int .i64 k, .string x, .slice ka n kc] 31)).heap[w.heap.size]? = some (gBox g)
  rw [(below_alloc (w.alloc (gBox g)) _).block _ (by simp)]
  exact heap_alloc_new _ _
 have X1 : ((w.alloc (gBox g)).alloc (.cells #[.int .i64 p, .int .i64 k, .string x, .slice ka n kc] 31)).drew.heap[w.heap.size + 1]? = some (.cells #[.int .i64 p, .int .i64 k, .string x, .slice ka n kc] 31) := by
  have := heap_alloc_new (w.alloc (gBox g)) (.cells #[.int .i64 p, .int .i64 k, .string x, .slice ka n kc] 31)
  rwa [show (w.alloc (gBox g)).heap.size = w.heap.size + 1 by simp] at this
 obtain ⟨-, -, -, y3, -⟩ := gb_cells X0
 have z0 := (cellq_any (i := 0) X1).trans rfl
 have z1 := (cellq_any (i := 1) X1).trans rfl
 have z2 := (cellq_any (i := 2) X1).trans rfl
 have z3 := (cellq_any (i := 3) X1).trans rfl
 have E : Hid (alV g p k x n = 81) := by show _ = _; unfold alV; rw [if_neg hp, if_pos (.inr (.inl h2))]
 clear hp
 have d1 : decide (p < 0) = false := decide_eq_false h1
 have hs : Hid ((fun w' : World => (w'.cell? ⟨w.heap.size, 3, none⟩ = some (.slice g.pa g.ps.length g.pc)) /\ w'.cell? ⟨w.heap.size + 1, 0, none⟩ = some (.int .i64 p) /\ w'.cell? ⟨w.heap.size + 1, 1, none⟩ = some (.int .i64 k) /\ w'.cell? ⟨w.heap.size + 1, 2, none⟩ = some (.string x) /\ w'.cell? ⟨w.heap.size + 1, 3, none⟩ = some (.slice ka n kc)) ((w.alloc (gBox g)).alloc (.cells #[.int .i64 p, .int .i64 k, .string x, .slice ka n kc] 31)).drew) := ⟨y3, z0, z1, z2, z3⟩
 clear y3 z0 z1 z2 z3 X0 X1
 go_enter Try.func36, Try.ntmps36
 go_wp2
 refine wp_region_x (S := fun _ => (fun w' : World => (w'.cell? ⟨w.heap.size, 3, none⟩ = some (.slice g.pa g.ps.length g.pc)) /\ w'.cell? ⟨w.heap.size + 1, 0, none⟩ = some (.int .i64 p) /\ w'.cell? ⟨w.heap.size + 1, 1, none⟩ = some (.int .i64 k) /\ w'.cell? ⟨w.heap.size + 1, 2, none⟩ = some (.string x) /\ w'.cell? ⟨w.heap.size + 1, 3, none⟩ = some (.slice ka n kc))) (by kernel_rfl) ?_
 refine takeF (i := 0) (v := ?_) rfl (by kernel_rfl) (by decide +kernel) (by decide +kernel) (fun _ _ _ h => h) (Or.inl ⟨by rfl, ?_⟩) hs.out ?_
 rotate_left
 ·(intro w hSw; (try dsimp only at hSw); go_simp; try (with_reducible rfl))
 (try simp only [Act.put, List.setIfInBounds_toArray, List.set_cons_zero, List.set_cons_succ])
 refine takeF (i := 1) (v := ?_) rfl (by kernel_rfl) (by decide +kernel) (by decide +kernel) (fun _ _ _ h => h) (Or.inl ⟨by rfl, ?_⟩) hs.out ?_
 rotate_left
 ·(intro w hSw; (try dsimp only at hSw); go_simp; try (with_reducible rfl))
 (try simp only [Act.put, List.setIfInBounds_toArray, List.set_cons_zero, List.set_cons_succ])
 refine takeF (i := 2) (v := ?_) rfl (by kernel_rfl) (by decide +kernel) (by decide +kernel) (fun _ _ _ h => h) (Or.inl ⟨by rfl, ?_⟩) hs.out ?_
 rotate_left
 ·(intro w hSw; (try dsimp only at hSw); go_simp; try (with_reducible rfl))
 (try simp only [Act.put, List.setIfInBounds_toArray, List.set_cons_zero, List.set_cons_succ])
 refine takeF (i := 3) (v := ?_) rfl (by kernel_rfl) (by decide +kernel) (by decide +kernel) (fun _ _ _ h => h) (Or.inl ⟨by rfl, ?_⟩) hs.out ?_
 rotate_left
 ·(intro w hSw; (try dsimp only at hSw); go_simp; try (with_reducible rfl))
 (try simp only [Act.put, List.setIfInBounds_toArray, List.set_cons_zero, List.set_cons_succ])
 refine takeF (i := 4) (v := ?_) rfl (by kernel_rfl) (by decide +kernel) (by decide +kernel) (fun _ _ _ h => h) (Or.inl ⟨by rfl, ?_⟩) hs.out ?_
 rotate_left
 ·(intro w hSw; (try dsimp only at hSw); go_simp; try (with_reducible rfl))
 (try simp only [Act.put, List.setIfInBounds_toArray, List.set_cons_zero, List.set_cons_succ])
 refine takeF (i := 5) (v := ?_) rfl (by kernel_rfl) (by decide +kernel) (by decide +kernel) (fun _ _ _ h => h) (Or.inl ⟨by rfl, ?_⟩) hs.out ?_
 rotate_left
 ·(intro w hSw; (try dsimp only at hSw); go_simp; try (with_reducible rfl))
 (try simp only [Act.put, List.setIfInBounds_toArray, List.set_cons_zero, List.set_cons_succ])
 refine takeF (i := 6) (v := ?_) rfl (by kernel_rfl) (by decide +kernel) (by decide +kernel) (fun _ _ _ h => h) (Or.inl ⟨by rfl, ?_⟩) hs.out ?_
 rotate_left
 ·(intro w hSw; (try dsimp only at hSw); go_simp; try (with_reducible rfl))
 (try simp only [Act.put, List.setIfInBounds_toArray, List.set_cons_zero, List.set_cons_succ])
 refine takeF (i := 7) (v := ?_) rfl (by kernel_rfl) (by decide +kernel) (by decide +kernel) (fun _ _ _ h => h) (Or.inl ⟨by rfl, ?_⟩) hs.out ?_
 rotate_left
 ·(intro w hSw; (try dsimp only at hSw); go_simp; try (with_reducible rfl))
 (try simp only [Act.put, List.setIfInBounds_toArray, List.set_cons_zero, List.set_cons_succ])
 refine takeF (i := 8) (v := ?_) rfl (by kernel_rfl) (by decide +kernel) (by decide +kernel) (fun _ _ _ h => h) (Or.inl ⟨by rfl, ?_⟩) hs.out ?_
 rotate_left
 ·(intro w hSw; (try dsimp only at hSw); go_simp; try (with_reducible rfl))
 (try simp only [Act.put, List.setIfInBounds_toArray, List.set_cons_zero, List.set_cons_succ])
 refine takeF (i := 9) (v := ?_) rfl (by kernel_rfl) (by decide +kernel) (by decide +kernel) (fun _ _ _ h => h) (Or.inl ⟨by rfl, ?_⟩) hs.out ?_
 rotate_left
 ·(intro w hSw; (try dsimp only at hSw); go_simp; try (with_reducible rfl))
 (try simp only [Act.put, List.setIfInBounds_toArray, List.set_cons_zero, List.set_cons_succ])
 refine takeF (i := 10) (v := ?_) rfl (by kernel_rfl) (by decide +kernel) (by decide +kernel) (fun _ _ _ h => h) (Or.inl ⟨by rfl, ?_⟩) hs.out ?_
 rotate_left
 ·(intro w hSw; (try dsimp only at hSw); go_simp; try (with_reducible rfl))
 (try simp only [Act.put, List.setIfInBounds_toArray, List.set_cons_zero, List.set_cons_succ])
 refine takeF (i := 11) (v := ?_) rfl (by kernel_rfl) (by decide +kernel) (by decide +kernel) (fun _ _ _ h => h) (Or.inl ⟨by rfl, ?_⟩) hs.out ?_
 rotate_left
 ·(intro w hSw; (try dsimp only at hSw); go_simp; try (with_reducible rfl))
 (try simp only [Act.put, List.setIfInBounds_toArray, List.set_cons_zero, List.set_cons_succ])
 refine takeF (i := 12) (v := undef) rfl (by kernel_rfl) (by decide +kernel) (by decide +kernel) (fun _ _ _ h => h) (Or.inr ⟨by rfl, rfl⟩) hs.out ?_
 (try simp only [Act.put, List.setIfInBounds_toArray, List.set_cons_zero, List.set_cons_succ])
 refine takeF (i := 13) (v := undef) rfl (by kernel_rfl) (by decide +kernel) (by decide +kernel) (fun _ _ _ h => h) (Or.inr ⟨by rfl, rfl⟩) hs.out ?_
 (try simp only [Act.put, List.setIfInBounds_toArray, List.set_cons_zero, List.set_cons_succ])
 refine takeF (i := 14) (v := undef) rfl (by kernel_rfl) (by decide +kernel) (by decide +kernel) (fun _ _ _ h => h) (Or.inr ⟨by rfl, rfl⟩) hs.out ?_
 (try simp only [Act.put, List.setIfInBounds_toArray, List.set_cons_zero, List.set_cons_succ])
 refine takeF (i := 15) (v := undef) rfl (by kernel_rfl) (by decide +kernel) (by decide +kernel) (fun _ _ _ h => h) (Or.inr ⟨by rfl, rfl⟩) hs.out ?_
 (try simp only [Act.put, List.setIfInBounds_toArray, List.set_cons_zero, List.set_cons_succ])
 refine takeF (i := 16) (v := ?_) rfl (by kernel_rfl) (by decide +kernel) (by decide +kernel) (fun _ _ _ h => h) (Or.inl ⟨by rfl, ?_⟩) hs.out ?_
 rotate_left
 ·(intro w hSw; (try dsimp only at hSw); go_simp; try (with_reducible rfl))
 (try simp only [Act.put, List.setIfInBounds_toArray, List.set_cons_zero, List.set_cons_succ])
 refine takeF (i := 17) (v := ?_) rfl (by kernel_rfl) (by decide +kernel) (by decide +kernel) (fun _ _ _ h => h) (Or.inl ⟨by rfl, ?_⟩) hs.out ?_
 rotate_left
 ·(intro w hSw; (try dsimp only at hSw); go_simp; try (with_reducible rfl))
 (try simp only [Act.put, List.setIfInBounds_toArray, List.set_cons_zero, List.set_cons_succ])
 refine takeF (i := 18) (v := undef) rfl (by kernel_rfl) (by decide +kernel) (by decide +kernel) (fun _ _ _ h => h) (Or.inr ⟨by rfl, rfl⟩) hs.out ?_
 (try simp only [Act.put, List.setIfInBounds_toArray, List.set_cons_zero, List.set_cons_succ])
 refine takeF (i := 19) (v := undef) rfl (by kernel_rfl) (by decide +kernel) (by decide +kernel) (fun _ _ _ h => h) (Or.inr ⟨by rfl, rfl⟩) hs.out ?_
 (try simp only [Act.put, List.setIfInBounds_toArray, List.set_cons_zero, List.set_cons_succ])
 refine takeF (i := 20) (v := undef) rfl (by kernel_rfl) (by decide +kernel) (by decide +kernel) (fun _ _ _ h => h) (Or.inr ⟨by rfl, rfl⟩) hs.out ?_
 (try simp only [Act.put, List.setIfInBounds_toArray, List.set_cons_zero, List.set_cons_succ])
 refine takeF (i := 21) (v := undef) rfl (by kernel_rfl) (by decide +kernel) (by decide +kernel) (fun _ _ _ h => h) (Or.inr ⟨by rfl, rfl⟩) hs.out ?_
 (try simp only [Act.put, List.setIfInBounds_toArray, List.set_cons_zero, List.set_cons_succ])
 refine takeF (i := 22) (v := undef) rfl (by kernel_rfl) (by decide +kernel) (by decide +kernel) (fun _ _ _ h => h) (Or.inr ⟨by rfl, rfl⟩) hs.out ?_
 (try simp only [Act.put, List.setIfInBounds_toArray, List.set_cons_zero, List.set_cons_succ])
 refine takeF (i := 23) (v := undef) rfl (by kernel_rfl) (by decide +kernel) (by decide +kernel) (fun _ _ _ h => h) (Or.inr ⟨by rfl, rfl⟩) hs.out ?_
 (try simp only [Act.put, List.setIfInBounds_toArray, List.set_cons_zero, List.set_cons_succ])
 refine takeF (i := 24) (v := undef) rfl (by kernel_rfl) (by decide +kernel) (by decide +kernel) (fun _ _ _ h => h) (Or.inr ⟨by rfl, rfl⟩) hs.out ?_
 (try simp only [Act.put, List.setIfInBounds_toArray, List.set_cons_zero, List.set_cons_succ])
 refine takeF (i := 25) (v := undef) rfl (by kernel_rfl) (by decide +kernel) (by decide +kernel) (fun _ _ _ h => h) (Or.inr ⟨by rfl, rfl⟩) hs.out ?_
 (try simp only [Act.put, List.setIfInBounds_toArray, List.set_cons_zero, List.set_cons_succ])
 refine takeF (i := 26) (v := undef) rfl (by kernel_rfl) (by decide +kernel) (by decide +kernel) (fun _ _ _ h => h) (Or.inr ⟨by rfl, rfl⟩) hs.out ?_
 (try simp only [Act.put, List.setIfInBounds_toArray, List.set_cons_zero, List.set_cons_succ])
 refine takeF (i := 27) (v := undef) rfl (by kernel_rfl) (by decide +kernel) (by decide +kernel) (fun _ _ _ h => h) (Or.inr ⟨by rfl, rfl⟩) hs.out ?_
 (try simp only [Act.put, List.setIfInBounds_toArray, List.set_cons_zero, List.set_cons_succ])
 refine takeF (i := 28) (v := undef) rfl (by kernel_rfl) (by decide +kernel) (by decide +kernel) (fun _ _ _ h => h) (Or.inr ⟨by rfl, rfl⟩) hs.out ?_
 (try simp only [Act.put, List.setIfInBounds_toArray, List.set_cons_zero, List.set_cons_succ])
 refine takeF (i := 29) (v := undef) rfl (by kernel_rfl) (by decide +kernel) (by decide +kernel) (fun _ _ _ h => h) (Or.inr ⟨by rfl, rfl⟩) hs.out ?_
 (try simp only [Act.put, List.setIfInBounds_toArray, List.set_cons_zero, List.set_cons_succ])
 refine takeF (i := 30) (v := ?_) rfl (by kernel_rfl) (by decide +kernel) (by decide +kernel) (fun _ _ _ h => h) (Or.inl ⟨by rfl, ?_⟩) hs.out ?_
 rotate_left
 ·(intro w hSw; (try dsimp only at hSw); go_simp; try (with_reducible rfl))
 (try simp only [Act.put, List.setIfInBounds_toArray, List.set_cons_zero, List.set_cons_succ])
 refine wpAnyX_done (by decide +kernel) ?_
 go_wp2
 go_ret
 exact ⟨by rw [E.out]; rfl, B0.out⟩
set_option linter.unusedSimpArgs false in
set_option maxRecDepth 100000 in
set_option maxHeartbeats 8000000 in
theorem alone_kind (g : GV) (p k : Int) (x : ByteArray) (ka : Option Addr) (n kc : Nat) (w : World) (h : GAt 140737488355328 w g) (hk : n <= 140737488355328) (hp : p ≠ -1) (h1 : ¬ p < 0) (h2 : ¬ (g.ps.length : Int) <= p) (h3 : k ≠ 0) : Calls Try.prog 36 #[g.val, .agg #[.int .i64 p, .int .i64 k, .string x, .slice ka n kc]] w fun e w' => e = .returned (.int .i64 (alV g p k x n)) /\ Below w.heap.size w w' := by
 have hpl := h.pl
 have e0 : (p == -1) = false := by simpa using hp
 have B0 : Hid (Below w.heap.size w ((w.alloc (gBox g)).alloc (.cells #[.int .i64 p, .int .i64 k, .string x, .slice ka n kc] 31)).drew) := ((below_alloc w _).alloc (below_alloc w _).size _).drew
 have X0 : ((w.alloc (gBox g)).alloc (.cells #[.int .i64 p, .int .i64 k, .string x, .slice ka n kc] 31)).drew.heap[w.heap.size]? = some (gBox g) := by
  show ((w.alloc (gBox g)).alloc (.cells #[.int .i64 p, .int .i64 k, .string x, .slice ka n kc] 31)).heap[w.heap.size]? = some (gBox g)
  rw [(below_alloc (w.alloc (gBox g)) _).block _ (by simp)]
  exact heap_alloc_new _ _
 have X1 : ((w.alloc (gBox g)).alloc (.cells #[.int .i64 p, .int .i64 k, .string x, .slice ka n kc] 31)).drew.heap[w.heap.size + 1]? = some (.cells #[.int .i64 p, .int .i64 k, .string x, .slice ka n kc] 31) := by
  have := heap_alloc_new (w.alloc (gBox g)) (.cells #[.int .i64 p, .int .i64 k, .string x, .slice ka n kc] 31)
  rwa [show (w.alloc (gBox g)).heap.size = w.heap.size + 1 by simp] at this
 obtain ⟨-, -, -, y3, -⟩ := gb_cells X0
 have z0 := (cellq_any (i := 0) X1).trans rfl
 have z1 := (cellq_any (i := 1) X1).trans rfl
 have z2 := (cellq_any (i := 2) X1).trans rfl
 have z3 := (cellq_any (i := 3) X1).trans rfl
 have E : Hid (alV g p k x n = 81) := by show _ = _; unfold alV; rw [if_neg hp, if_pos (.inr (.inr (.inl h3)))]
 clear hp
 have d1 : decide (p < 0) = false := decide_eq_false h1
 have d2 : decide ((g.ps.length : Int) <= p) = false := decide_eq_false h2
 have hs : Hid ((fun w' : World => (w'.cell? ⟨w.heap.size, 3, none⟩ = some (.slice g.pa g.ps.length g.pc)) /\ w'.cell? ⟨w.heap.size + 1, 0, none⟩ = some (.int .i64 p) /\ w'.cell? ⟨w.heap.size + 1, 1, none⟩ = some (.int .i64 k) /\ w'.cell? ⟨w.heap.size + 1, 2, none⟩ = some (.string x) /\ w'.cell? ⟨w.heap.size + 1, 3, none⟩ = some (.slice ka n kc)) ((w.alloc (gBox g)).alloc (.cells #[.int .i64 p, .int .i64 k, .string x, .slice ka n kc] 31)).drew) := ⟨y3, z0, z1, z2, z3⟩
 clear y3 z0 z1 z2 z3 X0 X1
 go_enter Try.func36, Try.ntmps36
 go_wp2
 refine wp_region_x (S := fun _ => (fun w' : World => (w'.cell? ⟨w.heap.size, 3, none⟩ = some (.slice g.pa g.ps.length g.pc)) /\ w'.cell? ⟨w.heap.size + 1, 0, none⟩ = some (.int .i64 p) /\ w'.cell? ⟨w.heap.size + 1, 1, none⟩ = some (.int .i64 k) /\ w'.cell? ⟨w.heap.size + 1, 2, none⟩ = some (.string x) /\ w'.cell? ⟨w.heap.size + 1, 3, none⟩ = some (.slice ka n kc))) (by kernel_rfl) ?_
 refine takeF (i := 0) (v := ?_) rfl (by kernel_rfl) (by decide +kernel) (by decide +kernel) (fun _ _ _ h => h) (Or.inl ⟨by rfl, ?_⟩) hs.out ?_
 rotate_left
 ·(intro w hSw; (try dsimp only at hSw); go_simp; try (with_reducible rfl))
 (try simp only [Act.put, List.setIfInBounds_toArray, List.set_cons_zero, List.set_cons_succ])
 refine takeF (i := 1) (v := ?_) rfl (by kernel_rfl) (by decide +kernel) (by decide +kernel) (fun _ _ _ h => h) (Or.inl ⟨by rfl, ?_⟩) hs.out ?_
 rotate_left
 ·(intro w hSw; (try dsimp only at hSw); go_simp; try (with_reducible rfl))
 (try simp only [Act.put, List.setIfInBounds_toArray, List.set_cons_zero, List.set_cons_succ])
 refine takeF (i := 2) (v := ?_) rfl (by kernel_rfl) (by decide +kernel) (by decide +kernel) (fun _ _ _ h => h) (Or.inl ⟨by rfl, ?_⟩) hs.out ?_
 rotate_left
 ·(intro w hSw; (try dsimp only at hSw); go_simp; try (with_reducible rfl))
 (try simp only [Act.put, List.setIfInBounds_toArray, List.set_cons_zero, List.set_cons_succ])
 refine takeF (i := 3) (v := ?_) rfl (by kernel_rfl) (by decide +kernel) (by decide +kernel) (fun _ _ _ h => h) (Or.inl ⟨by rfl, ?_⟩) hs.out ?_
 rotate_left
 ·(intro w hSw; (try dsimp only at hSw); go_simp; try (with_reducible rfl))
 (try simp only [Act.put, List.setIfInBounds_toArray, List.set_cons_zero, List.set_cons_succ])
 refine takeF (i := 4) (v := ?_) rfl (by kernel_rfl) (by decide +kernel) (by decide +kernel) (fun _ _ _ h => h) (Or.inl ⟨by rfl, ?_⟩) hs.out ?_
 rotate_left
 ·(intro w hSw; (try dsimp only at hSw); go_simp; try (with_reducible rfl))
 (try simp only [Act.put, List.setIfInBounds_toArray, List.set_cons_zero, List.set_cons_succ])
 refine takeF (i := 5) (v := ?_) rfl (by kernel_rfl) (by decide +kernel) (by decide +kernel) (fun _ _ _ h => h) (Or.inl ⟨by rfl, ?_⟩) hs.out ?_
 rotate_left
 ·(intro w hSw; (try dsimp only at hSw); go_simp; try (with_reducible rfl))
 (try simp only [Act.put, List.setIfInBounds_toArray, List.set_cons_zero, List.set_cons_succ])
 refine takeF (i := 6) (v := ?_) rfl (by kernel_rfl) (by decide +kernel) (by decide +kernel) (fun _ _ _ h => h) (Or.inl ⟨by rfl, ?_⟩) hs.out ?_
 rotate_left
 ·(intro w hSw; (try dsimp only at hSw); go_simp; try (with_reducible rfl))
 (try simp only [Act.put, List.setIfInBounds_toArray, List.set_cons_zero, List.set_cons_succ])
 refine takeF (i := 7) (v := ?_) rfl (by kernel_rfl) (by decide +kernel) (by decide +kernel) (fun _ _ _ h => h) (Or.inl ⟨by rfl, ?_⟩) hs.out ?_
 rotate_left
 ·(intro w hSw; (try dsimp only at hSw); go_simp; try (with_reducible rfl))
 (try simp only [Act.put, List.setIfInBounds_toArray, List.set_cons_zero, List.set_cons_succ])
 refine takeF (i := 8) (v := ?_) rfl (by kernel_rfl) (by decide +kernel) (by decide +kernel) (fun _ _ _ h => h) (Or.inl ⟨by rfl, ?_⟩) hs.out ?_
 rotate_left
 ·(intro w hSw; (try dsimp only at hSw); go_simp; try (with_reducible rfl))
 (try simp only [Act.put, List.setIfInBounds_toArray, List.set_cons_zero, List.set_cons_succ])
 refine takeF (i := 9) (v := ?_) rfl (by kernel_rfl) (by decide +kernel) (by decide +kernel) (fun _ _ _ h => h) (Or.inl ⟨by rfl, ?_⟩) hs.out ?_
 rotate_left
 ·(intro w hSw; (try dsimp only at hSw); go_simp; try (with_reducible rfl))
 (try simp only [Act.put, List.setIfInBounds_toArray, List.set_cons_zero, List.set_cons_succ])
 refine takeF (i := 10) (v := ?_) rfl (by kernel_rfl) (by decide +kernel) (by decide +kernel) (fun _ _ _ h => h) (Or.inl ⟨by rfl, ?_⟩) hs.out ?_
 rotate_left
 ·(intro w hSw; (try dsimp only at hSw); go_simp; try (with_reducible rfl))
 (try simp only [Act.put, List.setIfInBounds_toArray, List.set_cons_zero, List.set_cons_succ])
 refine takeF (i := 11) (v := ?_) rfl (by kernel_rfl) (by decide +kernel) (by decide +kernel) (fun _ _ _ h => h) (Or.inl ⟨by rfl, ?_⟩) hs.out ?_
 rotate_left
 ·(intro w hSw; (try dsimp only at hSw); go_simp; try (with_reducible rfl))
 (try simp only [Act.put, List.setIfInBounds_toArray, List.set_cons_zero, List.set_cons_succ])
 refine takeF (i := 12) (v := ?_) rfl (by kernel_rfl) (by decide +kernel) (by decide +kernel) (fun _ _ _ h => h) (Or.inl ⟨by rfl, ?_⟩) hs.out ?_
 rotate_left
 ·(intro w hSw; (try dsimp only at hSw); go_simp; try (with_reducible rfl))
 (try simp only [Act.put, List.setIfInBounds_toArray, List.set_cons_zero, List.set_cons_succ])
 refine takeF (i := 13) (v := ?_) rfl (by kernel_rfl) (by decide +kernel) (by decide +kernel) (fun _ _ _ h => h) (Or.inl ⟨by rfl, ?_⟩) hs.out ?_
 rotate_left
 ·(intro w hSw; (try dsimp only at hSw); go_simp; try (with_reducible rfl))
 (try simp only [Act.put, List.setIfInBounds_toArray, List.set_cons_zero, List.set_cons_succ])
 refine takeF (i := 14) (v := ?_) rfl (by kernel_rfl) (by decide +kernel) (by decide +kernel) (fun _ _ _ h => h) (Or.inl ⟨by rfl, ?_⟩) hs.out ?_
 rotate_left
 ·(intro w hSw; (try dsimp only at hSw); go_simp; try (with_reducible rfl))
 (try simp only [Act.put, List.setIfInBounds_toArray, List.set_cons_zero, List.set_cons_succ])
 refine takeF (i := 15) (v := ?_) rfl (by kernel_rfl) (by decide +kernel) (by decide +kernel) (fun _ _ _ h => h) (Or.inl ⟨by rfl, ?_⟩) hs.out ?_
 rotate_left
 ·(intro w hSw; (try dsimp only at hSw); go_simp; try (with_reducible rfl))
 (try simp only [Act.put, List.setIfInBounds_toArray, List.set_cons_zero, List.set_cons_succ])
 refine takeF (i := 16) (v := ?_) rfl (by kernel_rfl) (by decide +kernel) (by decide +kernel) (fun _ _ _ h => h) (Or.inl ⟨by rfl, ?_⟩) hs.out ?_
 rotate_left
 ·(intro w hSw; (try dsimp only at hSw); go_simp; try (with_reducible rfl))
 (try simp only [Act.put, List.setIfInBounds_toArray, List.set_cons_zero, List.set_cons_succ])
 refine takeF (i := 17) (v := ?_) rfl (by kernel_rfl) (by decide +kernel) (by decide +kernel) (fun _ _ _ h => h) (Or.inl ⟨by rfl, ?_⟩) hs.out ?_
 rotate_left
 ·(intro w hSw; (try dsimp only at hSw); go_simp; try (with_reducible rfl))
 (try simp only [Act.put, List.setIfInBounds_toArray, List.set_cons_zero, List.set_cons_succ])
 refine takeF (i := 18) (v := undef) rfl (by kernel_rfl) (by decide +kernel) (by decide +kernel) (fun _ _ _ h => h) (Or.inr ⟨by rfl, rfl⟩) hs.out ?_
 (try simp only [Act.put, List.setIfInBounds_toArray, List.set_cons_zero, List.set_cons_succ])
 refine takeF (i := 19) (v := undef) rfl (by kernel_rfl) (by decide +kernel) (by decide +kernel) (fun _ _ _ h => h) (Or.inr ⟨by rfl, rfl⟩) hs.out ?_
 (try simp only [Act.put, List.setIfInBounds_toArray, List.set_cons_zero, List.set_cons_succ])
 refine takeF (i := 20) (v := undef) rfl (by kernel_rfl) (by decide +kernel) (by decide +kernel) (fun _ _ _ h => h) (Or.inr ⟨by rfl, rfl⟩) hs.out ?_
 (try simp only [Act.put, List.setIfInBounds_toArray, List.set_cons_zero, List.set_cons_succ])
 refine takeF (i := 21) (v := undef) rfl (by kernel_rfl) (by decide +kernel) (by decide +kernel) (fun _ _ _ h => h) (Or.inr ⟨by rfl, rfl⟩) hs.out ?_
 (try simp only [Act.put, List.setIfInBounds_toArray, List.set_cons_zero, List.set_cons_succ])
 refine takeF (i := 22) (v := undef) rfl (by kernel_rfl) (by decide +kernel) (by decide +kernel) (fun _ _ _ h => h) (Or.inr ⟨by rfl, rfl⟩) hs.out ?_
 (try simp only [Act.put, List.setIfInBounds_toArray, List.set_cons_zero, List.set_cons_succ])
 refine takeF (i := 23) (v := undef) rfl (by kernel_rfl) (by decide +kernel) (by decide +kernel) (fun _ _ _ h => h) (Or.inr ⟨by rfl, rfl⟩) hs.out ?_
 (try simp only [Act.put, List.setIfInBounds_toArray, List.set_cons_zero, List.set_cons_succ])
 refine takeF (i := 24) (v := undef) rfl (by kernel_rfl) (by decide +kernel) (by decide +kernel) (fun _ _ _ h => h) (Or.inr ⟨by rfl, rfl⟩) hs.out ?_
 (try simp only [Act.put, List.setIfInBounds_toArray, List.set_cons_zero, List.set_cons_succ])
 refine takeF (i := 25) (v := undef) rfl (by kernel_rfl) (by decide +kernel) (by decide +kernel) (fun _ _ _ h => h) (Or.inr ⟨by rfl, rfl⟩) hs.out ?_
 (try simp only [Act.put, List.setIfInBounds_toArray, List.set_cons_zero, List.set_cons_succ])
 refine takeF (i := 26) (v := undef) rfl (by kernel_rfl) (by decide +kernel) (by decide +kernel) (fun _ _ _ h => h) (Or.inr ⟨by rfl, rfl⟩) hs.out ?_
 (try simp only [Act.put, List.setIfInBounds_toArray, List.set_cons_zero, List.set_cons_succ])
 refine takeF (i := 27) (v := undef) rfl (by kernel_rfl) (by decide +kernel) (by decide +kernel) (fun _ _ _ h => h) (Or.inr ⟨by rfl, rfl⟩) hs.out ?_
 (try simp only [Act.put, List.setIfInBounds_toArray, List.set_cons_zero, List.set_cons_succ])
 refine takeF (i := 28) (v := undef) rfl (by kernel_rfl) (by decide +kernel) (by decide +kernel) (fun _ _ _ h => h) (Or.inr ⟨by rfl, rfl⟩) hs.out ?_
 (try simp only [Act.put, List.setIfInBounds_toArray, List.set_cons_zero, List.set_cons_succ])
 refine takeF (i := 29) (v := undef) rfl (by kernel_rfl) (by decide +kernel) (by decide +kernel) (fun _ _ _ h => h) (Or.inr ⟨by rfl, rfl⟩) hs.out ?_
 (try simp only [Act.put, List.setIfInBounds_toArray, List.set_cons_zero, List.set_cons_succ])
 refine takeF (i := 30) (v := ?_) rfl (by kernel_rfl) (by decide +kernel) (by decide +kernel) (fun _ _ _ h => h) (Or.inl ⟨by rfl, ?_⟩) hs.out ?_
 rotate_left
 ·(intro w hSw; (try dsimp only at hSw); go_simp; try (with_reducible rfl))
 (try simp only [Act.put, List.setIfInBounds_toArray, List.set_cons_zero, List.set_cons_succ])
 refine wpAnyX_done (by decide +kernel) ?_
 go_wp2
 go_ret
 exact ⟨by rw [E.out]; rfl, B0.out⟩
set_option linter.unusedSimpArgs false in
set_option maxRecDepth 100000 in
set_option maxHeartbeats 8000000 in
theorem alone_text (g : GV) (p : Int) (x : ByteArray) (ka : Option Addr) (n kc : Nat) (w : World) (h : GAt 140737488355328 w g) (hk : n <= 140737488355328) (hp : p ≠ -1) (h1 : ¬ p < 0) (h2 : ¬ (g.ps.length : Int) <= p) (h3 : x.toList ≠ []) : Calls Try.prog 36 #[g.val, .agg #[.int .i64 p, .int .i64 0, .string x, .slice ka n kc]] w fun e w' => e = .returned (.int .i64 (alV g p 0 x n)) /\ Below w.heap.size w w' := by
 have hpl := h.pl
 have e0 : (p == -1) = false := by simpa using hp
 have B0 : Hid (Below w.heap.size w ((w.alloc (gBox g)).alloc (.cells #[.int .i64 p, .int .i64 0, .string x, .slice ka n kc] 31)).drew) := ((below_alloc w _).alloc (below_alloc w _).size _).drew
 have X0 : ((w.alloc (gBox g)).alloc (.cells #[.int .i64 p, .int .i64 0, .string x, .slice ka n kc] 31)).drew.heap[w.heap.size]? = some (gBox g) := by
  show ((w.alloc (gBox g)).alloc (.cells #[.int .i64 p, .int .i64 0, .string x, .slice ka n kc] 31)).heap[w.heap.size]? = some (gBox g)
  rw [(below_alloc (w.alloc (gBox g)) _).block _ (by simp)]
  exact heap_alloc_new _ _
 have X1 : ((w.alloc (gBox g)).alloc (.cells #[.int .i64 p, .int .i64 0, .string x, .slice ka n kc] 31)).drew.heap[w.heap.size + 1]? = some (.cells #[.int .i64 p, .int .i64 0, .string x, .slice ka n kc] 31) := by
  have := heap_alloc_new (w.alloc (gBox g)) (.cells #[.int .i64 p, .int .i64 0, .string x, .slice ka n kc] 31)
  rwa [show (w.alloc (gBox g)).heap.size = w.heap.size + 1 by simp] at this
 obtain ⟨-, -, -, y3, -⟩ := gb_cells X0
 have z0 := (cellq_any (i := 0) X1).trans rfl
 have z1 := (cellq_any (i := 1) X1).trans rfl
 have z2 := (cellq_any (i := 2) X1).trans rfl
 have z3 := (cellq_any (i := 3) X1).trans rfl
 have E : Hid (alV g p 0 x n = 81) := by show _ = _; unfold alV; rw [if_neg hp, if_pos (.inr (.inr (.inr (.inl h3))))]
 clear hp
 have d1 : decide (p < 0) = false := decide_eq_false h1
 have d2 : decide ((g.ps.length : Int) <= p) = false := decide_eq_false h2
 have h4 : ¬ x.toList = [] := h3
 have hs : Hid ((fun w' : World => (w'.cell? ⟨w.heap.size, 3, none⟩ = some (.slice g.pa g.ps.length g.pc)) /\ w'.cell? ⟨w.heap.size + 1, 0, none⟩ = some (.int .i64 p) /\ w'.cell? ⟨w.heap.size + 1, 1, none⟩ = some (.int .i64 0) /\ w'.cell? ⟨w.heap.size + 1, 2, none⟩ = some (.string x) /\ w'.cell? ⟨w.heap.size + 1, 3, none⟩ = some (.slice ka n kc)) ((w.alloc (gBox g)).alloc (.cells #[.int .i64 p, .int .i64 0, .string x, .slice ka n kc] 31)).drew) := ⟨y3, z0, z1, z2, z3⟩
 clear y3 z0 z1 z2 z3 X0 X1
 go_enter Try.func36, Try.ntmps36
 go_wp2
 refine wp_region_x (S := fun _ => (fun w' : World => (w'.cell? ⟨w.heap.size, 3, none⟩ = some (.slice g.pa g.ps.length g.pc)) /\ w'.cell? ⟨w.heap.size + 1, 0, none⟩ = some (.int .i64 p) /\ w'.cell? ⟨w.heap.size + 1, 1, none⟩ = some (.int .i64 0) /\ w'.cell? ⟨w.heap.size + 1, 2, none⟩ = some (.string x) /\ w'.cell? ⟨w.heap.size + 1, 3, none⟩ = some (.slice ka n kc))) (by kernel_rfl) ?_
 refine takeF (i := 0) (v := ?_) rfl (by kernel_rfl) (by decide +kernel) (by decide +kernel) (fun _ _ _ h => h) (Or.inl ⟨by rfl, ?_⟩) hs.out ?_
 rotate_left
 ·(intro w hSw; (try dsimp only at hSw); go_simp; try (with_reducible rfl))
 (try simp only [Act.put, List.setIfInBounds_toArray, List.set_cons_zero, List.set_cons_succ])
 refine takeF (i := 1) (v := ?_) rfl (by kernel_rfl) (by decide +kernel) (by decide +kernel) (fun _ _ _ h => h) (Or.inl ⟨by rfl, ?_⟩) hs.out ?_
 rotate_left
 ·(intro w hSw; (try dsimp only at hSw); go_simp; try (with_reducible rfl))
 (try simp only [Act.put, List.setIfInBounds_toArray, List.set_cons_zero, List.set_cons_succ])
 refine takeF (i := 2) (v := ?_) rfl (by kernel_rfl) (by decide +kernel) (by decide +kernel) (fun _ _ _ h => h) (Or.inl ⟨by rfl, ?_⟩) hs.out ?_
 rotate_left
 ·(intro w hSw; (try dsimp only at hSw); go_simp; try (with_reducible rfl))
 (try simp only [Act.put, List.setIfInBounds_toArray, List.set_cons_zero, List.set_cons_succ])
 refine takeF (i := 3) (v := ?_) rfl (by kernel_rfl) (by decide +kernel) (by decide +kernel) (fun _ _ _ h => h) (Or.inl ⟨by rfl, ?_⟩) hs.out ?_
 rotate_left
 ·(intro w hSw; (try dsimp only at hSw); go_simp; try (with_reducible rfl))
 (try simp only [Act.put, List.setIfInBounds_toArray, List.set_cons_zero, List.set_cons_succ])
 refine takeF (i := 4) (v := ?_) rfl (by kernel_rfl) (by decide +kernel) (by decide +kernel) (fun _ _ _ h => h) (Or.inl ⟨by rfl, ?_⟩) hs.out ?_
 rotate_left
 ·(intro w hSw; (try dsimp only at hSw); go_simp; try (with_reducible rfl))
 (try simp only [Act.put, List.setIfInBounds_toArray, List.set_cons_zero, List.set_cons_succ])
 refine takeF (i := 5) (v := ?_) rfl (by kernel_rfl) (by decide +kernel) (by decide +kernel) (fun _ _ _ h => h) (Or.inl ⟨by rfl, ?_⟩) hs.out ?_
 rotate_left
 ·(intro w hSw; (try dsimp only at hSw); go_simp; try (with_reducible rfl))
 (try simp only [Act.put, List.setIfInBounds_toArray, List.set_cons_zero, List.set_cons_succ])
 refine takeF (i := 6) (v := ?_) rfl (by kernel_rfl) (by decide +kernel) (by decide +kernel) (fun _ _ _ h => h) (Or.inl ⟨by rfl, ?_⟩) hs.out ?_
 rotate_left
 ·(intro w hSw; (try dsimp only at hSw); go_simp; try (with_reducible rfl))
 (try simp only [Act.put, List.setIfInBounds_toArray, List.set_cons_zero, List.set_cons_succ])
 refine takeF (i := 7) (v := ?_) rfl (by kernel_rfl) (by decide +kernel) (by decide +kernel) (fun _ _ _ h => h) (Or.inl ⟨by rfl, ?_⟩) hs.out ?_
 rotate_left
 ·(intro w hSw; (try dsimp only at hSw); go_simp; try (with_reducible rfl))
 (try simp only [Act.put, List.setIfInBounds_toArray, List.set_cons_zero, List.set_cons_succ])
 refine takeF (i := 8) (v := ?_) rfl (by kernel_rfl) (by decide +kernel) (by decide +kernel) (fun _ _ _ h => h) (Or.inl ⟨by rfl, ?_⟩) hs.out ?_
 rotate_left
 ·(intro w hSw; (try dsimp only at hSw); go_simp; try (with_reducible rfl))
 (try simp only [Act.put, List.setIfInBounds_toArray, List.set_cons_zero, List.set_cons_succ])
 refine takeF (i := 9) (v := ?_) rfl (by kernel_rfl) (by decide +kernel) (by decide +kernel) (fun _ _ _ h => h) (Or.inl ⟨by rfl, ?_⟩) hs.out ?_
 rotate_left
 ·(intro w hSw; (try dsimp only at hSw); go_simp; try (with_reducible rfl))
 (try simp only [Act.put, List.setIfInBounds_toArray, List.set_cons_zero, List.set_cons_succ])
 refine takeF (i := 10) (v := ?_) rfl (by kernel_rfl) (by decide +kernel) (by decide +kernel) (fun _ _ _ h => h) (Or.inl ⟨by rfl, ?_⟩) hs.out ?_
 rotate_left
 ·(intro w hSw; (try dsimp only at hSw); go_simp; try (with_reducible rfl))
 (try simp only [Act.put, List.setIfInBounds_toArray, List.set_cons_zero, List.set_cons_succ])
 refine takeF (i := 11) (v := ?_) rfl (by kernel_rfl) (by decide +kernel) (by decide +kernel) (fun _ _ _ h => h) (Or.inl ⟨by rfl, ?_⟩) hs.out ?_
 rotate_left
 ·(intro w hSw; (try dsimp only at hSw); go_simp; try (with_reducible rfl))
 (try simp only [Act.put, List.setIfInBounds_toArray, List.set_cons_zero, List.set_cons_succ])
 refine takeF (i := 12) (v := ?_) rfl (by kernel_rfl) (by decide +kernel) (by decide +kernel) (fun _ _ _ h => h) (Or.inl ⟨by rfl, ?_⟩) hs.out ?_
 rotate_left
 ·(intro w hSw; (try dsimp only at hSw); go_simp; try (with_reducible rfl))
 (try simp only [Act.put, List.setIfInBounds_toArray, List.set_cons_zero, List.set_cons_succ])
 refine takeF (i := 13) (v := ?_) rfl (by kernel_rfl) (by decide +kernel) (by decide +kernel) (fun _ _ _ h => h) (Or.inl ⟨by rfl, ?_⟩) hs.out ?_
 rotate_left
 ·(intro w hSw; (try dsimp only at hSw); go_simp; try (with_reducible rfl))
 (try simp only [Act.put, List.setIfInBounds_toArray, List.set_cons_zero, List.set_cons_succ])
 refine takeF (i := 14) (v := ?_) rfl (by kernel_rfl) (by decide +kernel) (by decide +kernel) (fun _ _ _ h => h) (Or.inl ⟨by rfl, ?_⟩) hs.out ?_
 rotate_left
 ·(intro w hSw; (try dsimp only at hSw); go_simp; try (with_reducible rfl))
 (try simp only [Act.put, List.setIfInBounds_toArray, List.set_cons_zero, List.set_cons_succ])
 refine takeF (i := 15) (v := ?_) rfl (by kernel_rfl) (by decide +kernel) (by decide +kernel) (fun _ _ _ h => h) (Or.inl ⟨by rfl, ?_⟩) hs.out ?_
 rotate_left
 ·(intro w hSw; (try dsimp only at hSw); go_simp; try (with_reducible rfl))
 (try simp only [Act.put, List.setIfInBounds_toArray, List.set_cons_zero, List.set_cons_succ])
 refine takeF (i := 16) (v := ?_) rfl (by kernel_rfl) (by decide +kernel) (by decide +kernel) (fun _ _ _ h => h) (Or.inl ⟨by rfl, ?_⟩) hs.out ?_
 rotate_left
 ·(intro w hSw; (try dsimp only at hSw); go_simp; try (with_reducible rfl))
 (try simp only [Act.put, List.setIfInBounds_toArray, List.set_cons_zero, List.set_cons_succ])
 refine takeF (i := 17) (v := ?_) rfl (by kernel_rfl) (by decide +kernel) (by decide +kernel) (fun _ _ _ h => h) (Or.inl ⟨by rfl, ?_⟩) hs.out ?_
 rotate_left
 ·(intro w hSw; (try dsimp only at hSw); go_simp; try (with_reducible rfl))
 (try simp only [Act.put, List.setIfInBounds_toArray, List.set_cons_zero, List.set_cons_succ])
 refine takeF (i := 18) (v := undef) rfl (by kernel_rfl) (by decide +kernel) (by decide +kernel) (fun _ _ _ h => h) (Or.inr ⟨by rfl, rfl⟩) hs.out ?_
 (try simp only [Act.put, List.setIfInBounds_toArray, List.set_cons_zero, List.set_cons_succ])
 refine takeF (i := 19) (v := undef) rfl (by kernel_rfl) (by decide +kernel) (by decide +kernel) (fun _ _ _ h => h) (Or.inr ⟨by rfl, rfl⟩) hs.out ?_
 (try simp only [Act.put, List.setIfInBounds_toArray, List.set_cons_zero, List.set_cons_succ])
 refine takeF (i := 20) (v := undef) rfl (by kernel_rfl) (by decide +kernel) (by decide +kernel) (fun _ _ _ h => h) (Or.inr ⟨by rfl, rfl⟩) hs.out ?_
 (try simp only [Act.put, List.setIfInBounds_toArray, List.set_cons_zero, List.set_cons_succ])
 refine takeF (i := 21) (v := undef) rfl (by kernel_rfl) (by decide +kernel) (by decide +kernel) (fun _ _ _ h => h) (Or.inr ⟨by rfl, rfl⟩) hs.out ?_
 (try simp only [Act.put, List.setIfInBounds_toArray, List.set_cons_zero, List.set_cons_succ])
 refine takeF (i := 22) (v := undef) rfl (by kernel_rfl) (by decide +kernel) (by decide +kernel) (fun _ _ _ h => h) (Or.inr ⟨by rfl, rfl⟩) hs.out ?_
 (try simp only [Act.put, List.setIfInBounds_toArray, List.set_cons_zero, List.set_cons_succ])
 refine takeF (i := 23) (v := undef) rfl (by kernel_rfl) (by decide +kernel) (by decide +kernel) (fun _ _ _ h => h) (Or.inr ⟨by rfl, rfl⟩) hs.out ?_
 (try simp only [Act.put, List.setIfInBounds_toArray, List.set_cons_zero, List.set_cons_succ])
 refine takeF (i := 24) (v := undef) rfl (by kernel_rfl) (by decide +kernel) (by decide +kernel) (fun _ _ _ h => h) (Or.inr ⟨by rfl, rfl⟩) hs.out ?_
 (try simp only [Act.put, List.setIfInBounds_toArray, List.set_cons_zero, List.set_cons_succ])
 refine takeF (i := 25) (v := undef) rfl (by kernel_rfl) (by decide +kernel) (by decide +kernel) (fun _ _ _ h => h) (Or.inr ⟨by rfl, rfl⟩) hs.out ?_
 (try simp only [Act.put, List.setIfInBounds_toArray, List.set_cons_zero, List.set_cons_succ])
 refine takeF (i := 26) (v := undef) rfl (by kernel_rfl) (by decide +kernel) (by decide +kernel) (fun _ _ _ h => h) (Or.inr ⟨by rfl, rfl⟩) hs.out ?_
 (try simp only [Act.put, List.setIfInBounds_toArray, List.set_cons_zero, List.set_cons_succ])
 refine takeF (i := 27) (v := undef) rfl (by kernel_rfl) (by decide +kernel) (by decide +kernel) (fun _ _ _ h => h) (Or.inr ⟨by rfl, rfl⟩) hs.out ?_
 (try simp only [Act.put, List.setIfInBounds_toArray, List.set_cons_zero, List.set_cons_succ])
 refine takeF (i := 28) (v := undef) rfl (by kernel_rfl) (by decide +kernel) (by decide +kernel) (fun _ _ _ h => h) (Or.inr ⟨by rfl, rfl⟩) hs.out ?_
 (try simp only [Act.put, List.setIfInBounds_toArray, List.set_cons_zero, List.set_cons_succ])
 refine takeF (i := 29) (v := undef) rfl (by kernel_rfl) (by decide +kernel) (by decide +kernel) (fun _ _ _ h => h) (Or.inr ⟨by rfl, rfl⟩) hs.out ?_
 (try simp only [Act.put, List.setIfInBounds_toArray, List.set_cons_zero, List.set_cons_succ])
 refine takeF (i := 30) (v := ?_) rfl (by kernel_rfl) (by decide +kernel) (by decide +kernel) (fun _ _ _ h => h) (Or.inl ⟨by rfl, ?_⟩) hs.out ?_
 rotate_left
 ·(intro w hSw; (try dsimp only at hSw); go_simp; try (with_reducible rfl))
 (try simp only [Act.put, List.setIfInBounds_toArray, List.set_cons_zero, List.set_cons_succ])
 refine wpAnyX_done (by decide +kernel) ?_
 go_wp2
 go_ret
 exact ⟨by rw [E.out]; rfl, B0.out⟩
set_option linter.unusedSimpArgs false in
set_option maxRecDepth 100000 in
set_option maxHeartbeats 8000000 in
theorem alone_len (g : GV) (j : Nat) (x : ByteArray) (ka : Option Addr) (n kc : Nat) (w : World) (h : GAt 140737488355328 w g) (hk : n <= 140737488355328) (hj : j < g.ps.length) (hx : x.toList = []) : Calls Try.prog 36 #[g.val, .agg #[.int .i64 (j : Int), .int .i64 0, .string x, .slice ka n kc]] w fun e w' => e = .returned (.int .i64 (alV g (j : Int) 0 x n)) /\ Below w.heap.size w w' := by
 have hpl := h.pl
 have hrl := h.rl _ (show g.ps.getD j .none ∈ g.ps by simp [List.getD, hj])
 obtain ⟨pb, po, hpa, hbl, c0, c1, -⟩ := ps_cells h hj
 have E : Hid (alV g (j : Int) 0 x n = if ((n : Int) != ((g.ps.getD j .none).right.length : Int)) = true then 81 else 0) := by
  show _ = _
  unfold alV
  rw [if_neg (by omega), Int.toNat_natCast]
  by_cases q : n = (g.ps.getD j .none).right.length
  ·rw [if_neg (by rintro (q1 | q1 | q1 | q1 | q1) <;> first | omega | exact q1 rfl | exact q1 hx), if_neg (by rw [q]; simp)]
  ·rw [if_pos (.inr (.inr (.inr (.inr q)))), if_pos (bne_iff_ne.2 (fun e => q (Int.ofNat_inj.1 e)))]
 generalize (g.ps.getD j .none).right.length = rl at *
 generalize (g.ps.getD j .none).ra = ra at *
 generalize (g.ps.getD j .none).rc = rc at *
 have e0 : ((j : Int) == -1) = false := by simp
 have d1 : decide ((j : Int) < 0) = false := decide_eq_false (by omega)
 have d2 : decide ((g.ps.length : Int) <= (j : Int)) = false := decide_eq_false (by omega)
 have d3 : decide (g.ps.length <= j) = false := decide_eq_false (by omega)
 have jlt : (j : Int) < (g.ps.length : Int) := by omega
 have B0 : Hid (Below w.heap.size w ((w.alloc (gBox g)).alloc (.cells #[.int .i64 (j : Int), .int .i64 0, .string x, .slice ka n kc] 31)).drew) := ((below_alloc w _).alloc (below_alloc w _).size _).drew
 have X0 : ((w.alloc (gBox g)).alloc (.cells #[.int .i64 (j : Int), .int .i64 0, .string x, .slice ka n kc] 31)).drew.heap[w.heap.size]? = some (gBox g) := by
  show ((w.alloc (gBox g)).alloc (.cells #[.int .i64 (j : Int), .int .i64 0, .string x, .slice ka n kc] 31)).heap[w.heap.size]? = some (gBox g)
  rw [(below_alloc (w.alloc (gBox g)) _).block _ (by simp)]
  exact heap_alloc_new _ _
 have X1 : ((w.alloc (gBox g)).alloc (.cells #[.int .i64 (j : Int), .int .i64 0, .string x, .slice ka n kc] 31)).drew.heap[w.heap.size + 1]? = some (.cells #[.int .i64 (j : Int), .int .i64 0, .string x, .slice ka n kc] 31) := by
  have := heap_alloc_new (w.alloc (gBox g)) (.cells #[.int .i64 (j : Int), .int .i64 0, .string x, .slice ka n kc] 31)
  rwa [show (w.alloc (gBox g)).heap.size = w.heap.size + 1 by simp] at this
 obtain ⟨-, -, -, y3, -⟩ := gb_cells X0
 rw [hpa] at y3
 have hs : Hid ((fun w' : World => (w'.cell? ⟨w.heap.size, 3, none⟩ = some (.slice (some ⟨pb, po, none⟩) g.ps.length g.pc)) /\ w'.cell? ⟨w.heap.size + 1, 0, none⟩ = some (.int .i64 (j : Int)) /\ w'.cell? ⟨w.heap.size + 1, 1, none⟩ = some (.int .i64 0) /\ w'.cell? ⟨w.heap.size + 1, 2, none⟩ = some (.string x) /\ w'.cell? ⟨w.heap.size + 1, 3, none⟩ = some (.slice ka n kc) /\ w'.cell? ⟨pb, po + j * 3 + 1, none⟩ = some (.slice ra rl rc)) ((w.alloc (gBox g)).alloc (.cells #[.int .i64 (j : Int), .int .i64 0, .string x, .slice ka n kc] 31)).drew) := ⟨y3, (cellq_any (i := 0) X1).trans rfl, (cellq_any (i := 1) X1).trans rfl, (cellq_any (i := 2) X1).trans rfl, (cellq_any (i := 3) X1).trans rfl, (B0.out.cell (p := ⟨pb, po + j * 3 + 1, none⟩) hbl).trans c1⟩
 clear y3 X0 X1 c0 c1 hj hpa
 go_enter Try.func36, Try.ntmps36
 go_wp2
 refine wp_region_x (S := fun _ => (fun w' : World => (w'.cell? ⟨w.heap.size, 3, none⟩ = some (.slice (some ⟨pb, po, none⟩) g.ps.length g.pc)) /\ w'.cell? ⟨w.heap.size + 1, 0, none⟩ = some (.int .i64 (j : Int)) /\ w'.cell? ⟨w.heap.size + 1, 1, none⟩ = some (.int .i64 0) /\ w'.cell? ⟨w.heap.size + 1, 2, none⟩ = some (.string x) /\ w'.cell? ⟨w.heap.size + 1, 3, none⟩ = some (.slice ka n kc) /\ w'.cell? ⟨pb, po + j * 3 + 1, none⟩ = some (.slice ra rl rc))) (by kernel_rfl) ?_
 refine takeF (i := 0) (v := ?_) rfl (by kernel_rfl) (by decide +kernel) (by decide +kernel) (fun _ _ _ h => h) (Or.inl ⟨by rfl, ?_⟩) hs.out ?_
 rotate_left
 ·(intro w hSw; (try dsimp only at hSw); go_simp; try (with_reducible rfl))
 (try simp only [Act.put, List.setIfInBounds_toArray, List.set_cons_zero, List.set_cons_succ])
 refine takeF (i := 1) (v := ?_) rfl (by kernel_rfl) (by decide +kernel) (by decide +kernel) (fun _ _ _ h => h) (Or.inl ⟨by rfl, ?_⟩) hs.out ?_
 rotate_left
 ·(intro w hSw; (try dsimp only at hSw); go_simp; try (with_reducible rfl))
 (try simp only [Act.put, List.setIfInBounds_toArray, List.set_cons_zero, List.set_cons_succ])
 refine takeF (i := 2) (v := ?_) rfl (by kernel_rfl) (by decide +kernel) (by decide +kernel) (fun _ _ _ h => h) (Or.inl ⟨by rfl, ?_⟩) hs.out ?_
 rotate_left
 ·(intro w hSw; (try dsimp only at hSw); go_simp; try (with_reducible rfl))
 (try simp only [Act.put, List.setIfInBounds_toArray, List.set_cons_zero, List.set_cons_succ])
 refine takeF (i := 3) (v := ?_) rfl (by kernel_rfl) (by decide +kernel) (by decide +kernel) (fun _ _ _ h => h) (Or.inl ⟨by rfl, ?_⟩) hs.out ?_
 rotate_left
 ·(intro w hSw; (try dsimp only at hSw); go_simp; try (with_reducible rfl))
 (try simp only [Act.put, List.setIfInBounds_toArray, List.set_cons_zero, List.set_cons_succ])
 refine takeF (i := 4) (v := ?_) rfl (by kernel_rfl) (by decide +kernel) (by decide +kernel) (fun _ _ _ h => h) (Or.inl ⟨by rfl, ?_⟩) hs.out ?_
 rotate_left
 ·(intro w hSw; (try dsimp only at hSw); go_simp; try (with_reducible rfl))
 (try simp only [Act.put, List.setIfInBounds_toArray, List.set_cons_zero, List.set_cons_succ])
 refine takeF (i := 5) (v := ?_) rfl (by kernel_rfl) (by decide +kernel) (by decide +kernel) (fun _ _ _ h => h) (Or.inl ⟨by rfl, ?_⟩) hs.out ?_
 rotate_left
 ·(intro w hSw; (try dsimp only at hSw); go_simp; try (with_reducible rfl))
 (try simp only [Act.put, List.setIfInBounds_toArray, List.set_cons_zero, List.set_cons_succ])
 refine takeF (i := 6) (v := ?_) rfl (by kernel_rfl) (by decide +kernel) (by decide +kernel) (fun _ _ _ h => h) (Or.inl ⟨by rfl, ?_⟩) hs.out ?_
 rotate_left
 ·(intro w hSw; (try dsimp only at hSw); go_simp; try (with_reducible rfl))
 (try simp only [Act.put, List.setIfInBounds_toArray, List.set_cons_zero, List.set_cons_succ])
 refine takeF (i := 7) (v := ?_) rfl (by kernel_rfl) (by decide +kernel) (by decide +kernel) (fun _ _ _ h => h) (Or.inl ⟨by rfl, ?_⟩) hs.out ?_
 rotate_left
 ·(intro w hSw; (try dsimp only at hSw); go_simp; try (with_reducible rfl))
 (try simp only [Act.put, List.setIfInBounds_toArray, List.set_cons_zero, List.set_cons_succ])
 refine takeF (i := 8) (v := ?_) rfl (by kernel_rfl) (by decide +kernel) (by decide +kernel) (fun _ _ _ h => h) (Or.inl ⟨by rfl, ?_⟩) hs.out ?_
 rotate_left
 ·(intro w hSw; (try dsimp only at hSw); go_simp; try (with_reducible rfl))
 (try simp only [Act.put, List.setIfInBounds_toArray, List.set_cons_zero, List.set_cons_succ])
 refine takeF (i := 9) (v := ?_) rfl (by kernel_rfl) (by decide +kernel) (by decide +kernel) (fun _ _ _ h => h) (Or.inl ⟨by rfl, ?_⟩) hs.out ?_
 rotate_left
 ·(intro w hSw; (try dsimp only at hSw); go_simp; try (with_reducible rfl))
 (try simp only [Act.put, List.setIfInBounds_toArray, List.set_cons_zero, List.set_cons_succ])
 refine takeF (i := 10) (v := ?_) rfl (by kernel_rfl) (by decide +kernel) (by decide +kernel) (fun _ _ _ h => h) (Or.inl ⟨by rfl, ?_⟩) hs.out ?_
 rotate_left
 ·(intro w hSw; (try dsimp only at hSw); go_simp; try (with_reducible rfl))
 (try simp only [Act.put, List.setIfInBounds_toArray, List.set_cons_zero, List.set_cons_succ])
 refine takeF (i := 11) (v := ?_) rfl (by kernel_rfl) (by decide +kernel) (by decide +kernel) (fun _ _ _ h => h) (Or.inl ⟨by rfl, ?_⟩) hs.out ?_
 rotate_left
 ·(intro w hSw; (try dsimp only at hSw); go_simp; try (with_reducible rfl))
 (try simp only [Act.put, List.setIfInBounds_toArray, List.set_cons_zero, List.set_cons_succ])
 refine takeF (i := 12) (v := ?_) rfl (by kernel_rfl) (by decide +kernel) (by decide +kernel) (fun _ _ _ h => h) (Or.inl ⟨by rfl, ?_⟩) hs.out ?_
 rotate_left
 ·(intro w hSw; (try dsimp only at hSw); go_simp; try (with_reducible rfl))
 (try simp only [Act.put, List.setIfInBounds_toArray, List.set_cons_zero, List.set_cons_succ])
 refine takeF (i := 13) (v := ?_) rfl (by kernel_rfl) (by decide +kernel) (by decide +kernel) (fun _ _ _ h => h) (Or.inl ⟨by rfl, ?_⟩) hs.out ?_
 rotate_left
 ·(intro w hSw; (try dsimp only at hSw); go_simp; try (with_reducible rfl))
 (try simp only [Act.put, List.setIfInBounds_toArray, List.set_cons_zero, List.set_cons_succ])
 refine takeF (i := 14) (v := ?_) rfl (by kernel_rfl) (by decide +kernel) (by decide +kernel) (fun _ _ _ h => h) (Or.inl ⟨by rfl, ?_⟩) hs.out ?_
 rotate_left
 ·(intro w hSw; (try dsimp only at hSw); go_simp; try (with_reducible rfl))
 (try simp only [Act.put, List.setIfInBounds_toArray, List.set_cons_zero, List.set_cons_succ])
 refine takeF (i := 15) (v := ?_) rfl (by kernel_rfl) (by decide +kernel) (by decide +kernel) (fun _ _ _ h => h) (Or.inl ⟨by rfl, ?_⟩) hs.out ?_
 rotate_left
 ·(intro w hSw; (try dsimp only at hSw); go_simp; try (with_reducible rfl))
 (try simp only [Act.put, List.setIfInBounds_toArray, List.set_cons_zero, List.set_cons_succ])
 refine takeF (i := 16) (v := ?_) rfl (by kernel_rfl) (by decide +kernel) (by decide +kernel) (fun _ _ _ h => h) (Or.inl ⟨by rfl, ?_⟩) hs.out ?_
 rotate_left
 ·(intro w hSw; (try dsimp only at hSw); go_simp; try (with_reducible rfl))
 (try simp only [Act.put, List.setIfInBounds_toArray, List.set_cons_zero, List.set_cons_succ])
 refine takeF (i := 17) (v := ?_) rfl (by kernel_rfl) (by decide +kernel) (by decide +kernel) (fun _ _ _ h => h) (Or.inl ⟨by rfl, ?_⟩) hs.out ?_
 rotate_left
 ·(intro w hSw; (try dsimp only at hSw); go_simp; try (with_reducible rfl))
 (try simp only [Act.put, List.setIfInBounds_toArray, List.set_cons_zero, List.set_cons_succ])
 refine takeF (i := 18) (v := ?_) rfl (by kernel_rfl) (by decide +kernel) (by decide +kernel) (fun _ _ _ h => h) (Or.inl ⟨by rfl, ?_⟩) hs.out ?_
 rotate_left
 ·(intro w hSw; (try dsimp only at hSw); go_simp; try (with_reducible rfl))
 (try simp only [Act.put, List.setIfInBounds_toArray, List.set_cons_zero, List.set_cons_succ])
 refine takeF (i := 19) (v := ?_) rfl (by kernel_rfl) (by decide +kernel) (by decide +kernel) (fun _ _ _ h => h) (Or.inl ⟨by rfl, ?_⟩) hs.out ?_
 rotate_left
 ·(intro w hSw; (try dsimp only at hSw); go_simp; try (with_reducible rfl))
 (try simp only [Act.put, List.setIfInBounds_toArray, List.set_cons_zero, List.set_cons_succ])
 refine takeF (i := 20) (v := ?_) rfl (by kernel_rfl) (by decide +kernel) (by decide +kernel) (fun _ _ _ h => h) (Or.inl ⟨by rfl, ?_⟩) hs.out ?_
 rotate_left
 ·(intro w hSw; (try dsimp only at hSw); go_simp; try (with_reducible rfl))
 (try simp only [Act.put, List.setIfInBounds_toArray, List.set_cons_zero, List.set_cons_succ])
 refine takeF (i := 21) (v := ?_) rfl (by kernel_rfl) (by decide +kernel) (by decide +kernel) (fun _ _ _ h => h) (Or.inl ⟨by rfl, ?_⟩) hs.out ?_
 rotate_left
 ·(intro w hSw; (try dsimp only at hSw); go_simp; try (with_reducible rfl))
 (try simp only [Act.put, List.setIfInBounds_toArray, List.set_cons_zero, List.set_cons_succ])
 refine takeF (i := 22) (v := ?_) rfl (by kernel_rfl) (by decide +kernel) (by decide +kernel) (fun _ _ _ h => h) (Or.inl ⟨by rfl, ?_⟩) hs.out ?_
 rotate_left
 ·(intro w hSw; (try dsimp only at hSw); go_simp; try (with_reducible rfl))
 (try simp only [Act.put, List.setIfInBounds_toArray, List.set_cons_zero, List.set_cons_succ])
 refine takeF (i := 23) (v := ?_) rfl (by kernel_rfl) (by decide +kernel) (by decide +kernel) (fun _ _ _ h => h) (Or.inl ⟨by rfl, ?_⟩) hs.out ?_
 rotate_left
 ·(intro w hSw; (try dsimp only at hSw); go_simp; try (with_reducible rfl))
 (try simp only [Act.put, List.setIfInBounds_toArray, List.set_cons_zero, List.set_cons_succ])
 refine takeF (i := 24) (v := ?_) rfl (by kernel_rfl) (by decide +kernel) (by decide +kernel) (fun _ _ _ h => h) (Or.inl ⟨by rfl, ?_⟩) hs.out ?_
 rotate_left
 ·(intro w hSw; (try dsimp only at hSw); go_simp; try (with_reducible rfl))
 (try simp only [Act.put, List.setIfInBounds_toArray, List.set_cons_zero, List.set_cons_succ])
 refine takeF (i := 25) (v := ?_) rfl (by kernel_rfl) (by decide +kernel) (by decide +kernel) (fun _ _ _ h => h) (Or.inl ⟨by rfl, ?_⟩) hs.out ?_
 rotate_left
 ·(intro w hSw; (try dsimp only at hSw); go_simp; try (with_reducible rfl))
 (try simp only [Act.put, List.setIfInBounds_toArray, List.set_cons_zero, List.set_cons_succ])
 refine takeF (i := 26) (v := ?_) rfl (by kernel_rfl) (by decide +kernel) (by decide +kernel) (fun _ _ _ h => h) (Or.inl ⟨by rfl, ?_⟩) hs.out ?_
 rotate_left
 ·(intro w hSw; (try dsimp only at hSw); go_simp; try (with_reducible rfl))
 (try simp only [Act.put, List.setIfInBounds_toArray, List.set_cons_zero, List.set_cons_succ])
 refine takeF (i := 27) (v := ?_) rfl (by kernel_rfl) (by decide +kernel) (by decide +kernel) (fun _ _ _ h => h) (Or.inl ⟨by rfl, ?_⟩) hs.out ?_
 rotate_left
 ·(intro w hSw; (try dsimp only at hSw); go_simp; try (with_reducible rfl))
 (try simp only [Act.put, List.setIfInBounds_toArray, List.set_cons_zero, List.set_cons_succ])
 refine takeF (i := 28) (v := ?_) rfl (by kernel_rfl) (by decide +kernel) (by decide +kernel) (fun _ _ _ h => h) (Or.inl ⟨by rfl, ?_⟩) hs.out ?_
 rotate_left
 ·(intro w hSw; (try dsimp only at hSw); go_simp; try (with_reducible rfl))
 (try simp only [Act.put, List.setIfInBounds_toArray, List.set_cons_zero, List.set_cons_succ])
 refine takeF (i := 29) (v := ?_) rfl (by kernel_rfl) (by decide +kernel) (by decide +kernel) (fun _ _ _ h => h) (Or.inl ⟨by rfl, ?_⟩) hs.out ?_
 rotate_left
 ·(intro w hSw; (try dsimp only at hSw); go_simp; try (with_reducible rfl))
 (try simp only [Act.put, List.setIfInBounds_toArray, List.set_cons_zero, List.set_cons_succ])
 refine takeF (i := 30) (v := ?_) rfl (by kernel_rfl) (by decide +kernel) (by decide +kernel) (fun _ _ _ h => h) (Or.inl ⟨by rfl, ?_⟩) hs.out ?_
 rotate_left
 ·(intro w hSw; (try dsimp only at hSw); go_simp; try (with_reducible rfl))
 (try simp only [Act.put, List.setIfInBounds_toArray, List.set_cons_zero, List.set_cons_succ])
 refine wpAnyX_done (by decide +kernel) ?_
 by_cases q : n = rl
 ·have q1 : ((n : Int) != (rl : Int)) = false := by rw [q]; simp
  have q2 : decide (n = rl) = true := decide_eq_true q
  have q3 : (n != rl) = false := by rw [q]; simp
  have E2 : Hid (alV g (j : Int) 0 x n = 0) := by rw [q1] at E; exact E.out
  clear q E
  go_wp2
  go_ret
  exact ⟨by rw [E2.out]; rfl, B0.out⟩
 ·have q1 : ((n : Int) != (rl : Int)) = true := bne_iff_ne.2 (fun e => q (Int.ofNat_inj.1 e))
  have q2 : decide (n = rl) = false := decide_eq_false q
  have q3 : (n != rl) = true := bne_iff_ne.2 q
  have E2 : Hid (alV g (j : Int) 0 x n = 81) := by rw [q1] at E; exact E.out
  clear E
  go_wp2
  go_ret
  exact ⟨by rw [E2.out]; rfl, B0.out⟩
theorem alone_S (g : GV) (t : TV) (w : World) (h : GAt 140737488355328 w g) (hk : t.kids.length <= 140737488355328) : Calls Try.prog 36 #[g.val, t.val] w fun e w' => e = .returned (.int .i64 (alTU g t)) /\ Below w.heap.size w w' := by
 rw [alU_V]
 unfold TV.val
 generalize t.kids.length = n at *
 generalize t.prod = p
 generalize t.kind = k
 generalize t.tx = x
 by_cases hp : p = -1
 ·rw [hp]
  exact alone_leaf g k x t.ka n t.kc w h hk
 by_cases h1 : p < 0
 ·exact alone_neg g p k x t.ka n t.kc w h hk hp h1
 by_cases h2 : (g.ps.length : Int) <= p
 ·exact alone_far g p k x t.ka n t.kc w h hk hp h1 h2
 by_cases h3 : k = 0
 ·by_cases h4 : x.toList = []
  ·obtain ⟨j, rfl⟩ : ∃ j : Nat, p = (j : Int) := ⟨p.toNat, by omega⟩
   rw [h3]
   exact alone_len g j x t.ka n t.kc w h hk (by omega) h4
  ·rw [h3]
   exact alone_text g p x t.ka n t.kc w h hk hp h1 h2 h4
 ·exact alone_kind g p k x t.ka n t.kc w h hk hp h1 h2 h3
theorem tbox_on {w w' : World} {b : Nat} {o : Obj} (h : w.heap[b]? = some o) (hb : Below w.heap.size w w') : w'.heap[b]? = some o := (hb.block b (lt_of_block h)).trans h
structure PWs (w : World) (O S : List SP) (vo vs : Value) (wr : World) : Prop where
 o : SPo wr vo O
 s : SPo wr vs S
 oo : ∀ j, vo.ownBlock = some j -> w.heap.size < j
 so : ∀ j, vs.ownBlock = some j -> w.heap.size < j
 ne : ∀ j, vo.ownBlock = some j -> vs.ownBlock ≠ some j
 big : w.heap.size < wr.heap.size
 bel : Below w.heap.size w wr
theorem PWs.any {w wr w' : World} {O S : List SP} {vo vs : Value} (h : PWs w O S vo vs wr) (hb : Below wr.heap.size wr w') : PWs w O S vo vs w' :=
 ⟨h.o.later hb, h.s.later hb, h.oo, h.so, h.ne, Nat.lt_of_lt_of_le h.big hb.size, h.bel.trans (hb.mono (Nat.le_of_lt h.big))⟩
theorem PWs.push {w wr w1 w4 : World} {O S : List SP} {vo vs v' : Value} {y : SP} (h : PWs w O S vo vs wr) (hb : Below wr.heap.size wr w1) (hg : Grew w1 w4 vs v') (hi : SPo w4 v' (S ++ [y])) : PWs w O (S ++ [y]) vo v' w4 := by
 have h1 := h.any hb
 have hbig := h1.big
 refine ⟨h1.o.kept (fun j hj => hg.grown.block j (h1.o.lt j hj) (fun e => h.ne j hj e.symm)), hi, h.oo, fun j hj => hg.own (n := w.heap.size + 1) hbig h.so j hj, fun j hj e => ?_, Nat.lt_of_lt_of_le hbig hg.grown.size, hg.below h1.bel (Nat.le_refl _) (fun j hj => Nat.le_of_lt (h.so j hj))⟩
 rcases hg.moved with q | ⟨i, q, hq⟩
 ·exact h.ne j hj (by rw [<- q]; exact e)
 ·rw [q] at e
  have := h1.o.lt j hj
  simp at e
  omega
theorem PWs.out {w wr w1 w4 : World} {O S : List SP} {vo vs v' : Value} {y : SP} (h : PWs w O S vo vs wr) (hb : Below wr.heap.size wr w1) (hg : Grew w1 w4 vo v') (hi : SPo w4 v' (O ++ [y])) : PWs w (O ++ [y]) S v' vs w4 := by
 have h1 := h.any hb
 have hbig := h1.big
 refine ⟨hi, h1.s.kept (fun j hj => hg.grown.block j (h1.s.lt j hj) (fun e => h.ne j e.symm hj)), fun j hj => hg.own (n := w.heap.size + 1) hbig h.oo j hj, h.so, fun j hj e => ?_, Nat.lt_of_lt_of_le hbig hg.grown.size, hg.below h1.bel (Nat.le_refl _) (fun j hj => Nat.le_of_lt (h.oo j hj))⟩
 rcases hg.moved with q | ⟨i, q, hq⟩
 ·exact h.ne j (by rw [<- q]; exact hj) e
 ·rw [q] at hj
  have := h1.s.lt j e
  simp at hj
  omega
theorem PWs.pop {w wr : World} {O S : List SP} {x : SP} {vo vs : Value} (h : PWs w O (S ++ [x]) vo vs wr) : ∃ b c, vs = .slice (some ⟨b, 0, none⟩) (S.length + 1) c /\ S.length + 1 <= c /\ (∀ j, j < 8 -> wr.cell? ⟨b, S.length * 8 + j, none⟩ = (spCells x)[j]?) /\ PWs w O S vo (.slice (some ⟨b, 0, none⟩) S.length c) wr := by
 obtain ⟨b, c, rfl, h1, h2, h3⟩ := RO.pop (f := spCells) (fun _ => rfl) h.s
 exact ⟨b, c, rfl, h1, h2, h.o, h3, h.oo, h.so, h.ne, h.big, h.bel⟩
abbrev spBox (x : SP) : Obj := .cells #[.int .i64 x.t.prod, .int .i64 x.t.kind, .string x.t.tx, .slice x.t.ka x.t.kids.length x.t.kc, .int .i64 x.d, .int .i64 x.s.1, .int .i64 x.s.2, .bool x.u] 101
theorem slice_spot (b lc len i : Nat) (hi : i <= lc) (w : World) : (Instr.slice 102 (.slice (some ⟨b, 0, none⟩) len lc) none (some (.int .i64 (i : Int))) none).run Try.prog w = .ok (.slice (some ⟨b, 0, none⟩) i lc) w := by
 have hu : Try.prog.underlying 102 = some (.slice (Try.prog.elem 102)) := by kernel_rfl
 have he : Try.prog.elem 102 = 101 := by kernel_rfl
 obtain ⟨i0, z, hinf, _, hz1, _⟩ := rkSpot.info
 have := run_slice_h (P := Try.prog) (w := w) 102 (some ⟨b, 0, none⟩) len lc hu .i64 (i : Int) (by omega) (by omega)
 rw [this, he]
 simp [sizeOf, typeInfo, hinf, hz1]
 unfold sliced
 split <;> simp [add_none]
theorem sp_first (w : World) (x : SP) : SPo (w.alloc (spBox x)) (.slice (some ⟨w.heap.size, 0, none⟩) 1 1) [x] := by
 have := World.ownsRow_lit (e := 101) (size := 8) (base := 0) w #[.int .i64 x.t.prod, .int .i64 x.t.kind, .string x.t.tx, .slice x.t.ka x.t.kids.length x.t.kc, .int .i64 x.d, .int .i64 x.s.1, .int .i64 x.s.2, .bool x.u] 1 (Nat.zero_le _) (by unfold maxLen; omega) rfl
 exact this
theorem sp_new (w : World) (x : SP) : ∀ j u, (spCells x)[j]? = some u -> (w.alloc (spBox x)).cell? ⟨w.heap.size, j, none⟩ = some u := fun j u hu => by
 rw [cellq_any (heap_alloc_new w (spBox x)), <- hu]
 simp [spCells]
end Go.Proofs.Ytaeggelfhinedaa
