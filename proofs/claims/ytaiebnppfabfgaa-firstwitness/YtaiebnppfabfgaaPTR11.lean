import Derived.Test.YtaiebnppfabfgaaPTR10
import Derived.Test.YtaiebnppfabfgaaPFW2
import Derived.Test.YtaiebnppfabfgaaPFSamToFClo
import Derived.Test.YtaiebnppfabfgaaPGCheckR
namespace Go.Proofs.Ytaiebnppfabfgaa
set_option linter.unusedVariables false
set_option maxRecDepth 100000
set_option maxHeartbeats 16000000
open Go.RowKit
theorem step_callXG {P : Program} {ops : Array Oper} {Q : Exit -> Act -> World -> Prop} {o : Oper} {a : Act} {w : World} {K : Act -> World -> Prop} {E : Prop} (hw : Region.wanted o (yielded ops a.tmps) = true) (f : FuncId) (args : Array Value) (R : Ending -> World -> Prop)
  (hrun : (execOp a.eval o).run P w = .ok (.enter f args) w) (hC : Calls P f args w R) (hK : ∀ e w', R e w' -> ∃ v, e = .returned v /\ K (a.put o.dst v) w') :
  if Region.wanted o (yielded ops a.tmps) = true then Oper.wp P o a w K Q else E := by
 rw [if_pos hw]
 show o.upon P a K Q ((execOp a.eval o).run P w)
 rw [hrun, Oper.upon_enter]
 refine hC.mono fun e w' hR => ?_
 obtain ⟨v, rfl, hk⟩ := hK e w' hR
 exact hk
theorem run_num {o : Oper} {a : Act} {t0 : TypeId} {v0 : Value} {x0 : Operand} (hop : o.op = Op.call { callee := Callee.value (Operand.func 9), args := #[x0], argTypes := #[t0] }) (h0 : a.eval x0 = v0) (w : World) : (execOp a.eval o).run Try.prog w = .ok (.enter 9 #[v0]) w := by
 have hf : a.eval (Operand.func 9) = .func (.func 9) #[] #[] := rfl
 simp [execOp, hop, resolve, invoke, h0, hf, Deferred.ofValue]
theorem run_may {o : Oper} {a : Act} {t0 : TypeId} {v0 : Value} {x0 : Operand} (hop : o.op = Op.call { callee := Callee.value (Operand.func 8), args := #[x0], argTypes := #[t0] }) (h0 : a.eval x0 = v0) (w : World) : (execOp a.eval o).run Try.prog w = .ok (.enter 8 #[v0]) w := by
 have hf : a.eval (Operand.func 8) = .func (.func 8) #[] #[] := rfl
 simp [execOp, hop, resolve, invoke, h0, hf, Deferred.ofValue]
theorem run_made {o : Oper} {a : Act} {t0 t1 t2 : TypeId} {v0 v1 v2 : Value} {x0 x1 x2 : Operand} (hop : o.op = Op.call { callee := Callee.value (Operand.func 10), args := #[x0, x1, x2], argTypes := #[t0, t1, t2] }) (h0 : a.eval x0 = v0) (h1 : a.eval x1 = v1) (h2 : a.eval x2 = v2) (w : World) : (execOp a.eval o).run Try.prog w = .ok (.enter 10 #[v0, v1, v2]) w := by
 have hf : a.eval (Operand.func 10) = .func (.func 10) #[] #[] := rfl
 simp [execOp, hop, resolve, invoke, h0, h1, h2, hf, Deferred.ofValue]
theorem run_begins {o : Oper} {a : Act} {t0 t1 t2 t3 : TypeId} {v0 v1 v2 v3 : Value} {x0 x1 x2 x3 : Operand} (hop : o.op = Op.call { callee := Callee.value (Operand.func 12), args := #[x0, x1, x2, x3], argTypes := #[t0, t1, t2, t3] }) (h0 : a.eval x0 = v0) (h1 : a.eval x1 = v1) (h2 : a.eval x2 = v2) (h3 : a.eval x3 = v3) (w : World) : (execOp a.eval o).run Try.prog w = .ok (.enter 12 #[v0, v1, v2, v3]) w := by
 have hf : a.eval (Operand.func 12) = .func (.func 12) #[] #[] := rfl
 simp [execOp, hop, resolve, invoke, h0, h1, h2, h3, hf, Deferred.ofValue]
theorem lsrow_get {w : World} {nb k : Nat} {L : List (List Int)} (h : LsRow w (some ⟨nb, 0, none⟩) L) (hk : k < L.length) : nb < w.heap.size /\ ∃ a c, w.cell? ⟨nb, k, none⟩ = some (.slice a (L.getD k []).length c) /\ InRow w a (L.getD k []) := by
 obtain ⟨b, off, e, hb, hc⟩ := h (by intro q; rw [q] at hk; simp at hk)
 simp only [Option.some.injEq, Addr.mk.injEq] at e
 obtain ⟨rfl, rfl, _⟩ := e
 have := hc k hk
 rw [Nat.zero_add] at this
 exact ⟨hb, this⟩
set_option linter.unusedSimpArgs false in
theorem witness_no (g : GV) (w : World) (h : GAt 140737488355328 w g) (hpc : g.ps.length <= g.pc) (er at_ : Int) (hE : checkG g (checkF g.ts g.ns) = (er, at_)) (h0 : er ≠ 0) :
  Calls Try.prog 3 #[g.val] w fun e w' => e = .returned (.bool true) /\ Below w.heap.size w w' := by
 have X0 : Hid ((w.alloc (gBox g)).heap[w.heap.size]? = some (gBox g)) := heap_alloc_new _ _
 have NC : Hid (∀ w', Below w.heap.size w w' -> Calls Try.prog 5 #[g.val] w' fun e w'' => e = .returned (.tuple #[.slice none 0 0, .int .i64 er]) /\ Below w'.heap.size w' w'') := fun w' hb => nullable_no g w' (h.later hb) hpc er at_ hE h0
 have FC : Hid (∀ w', Below w.heap.size w w' -> Calls Try.prog 6 #[g.val] w' fun e w'' => e = .returned (.tuple #[.slice none 0 0, .int .i64 er]) /\ Below w'.heap.size w' w'') := fun w' hb => first_no g w' (h.later hb) hpc er at_ hE h0
 have HC : Hid (∀ w', Below w.heap.size w w' -> Calls Try.prog 7 #[g.val] w' fun e w'' => e = .returned (.tuple #[.slice none 0 0, .int .i64 er]) /\ Below w'.heap.size w' w'') := fun w' hb => heights_no g w' (h.later hb) hpc er at_ hE h0
 have MC : Hid (∀ w', Below w.heap.size w w' -> Calls Try.prog 8 #[g.val] w' fun e w'' => e = .returned (.int .i64 er) /\ Below w'.heap.size w' w'') := fun w' hb => by
  have := refmay_G g w' (h.later hb)
  rwa [hE] at this
 have t1 : (er != 0) = true := by simpa using h0
 have t2 : (er == er) = true := by simp
 clear h hE h0
 go_enter Try.func3, Try.ntmps3
 go_wp2_with (first
  | (go_at_call 4; refine (works_S _).mono ?_; rintro e w1 ⟨rfl, b1⟩; have B1 : Hid (Below w.heap.size w w1 /\ w1.heap[w.heap.size]? = some (gBox g)) := ⟨(below_alloc w _).trans (b1.mono (below_alloc w _).size), box_on X0.out b1⟩; clear b1; obtain ⟨x0, x1, x2, x3, x4⟩ := gb_cells B1.out.2)
  | (go_at_call 5; refine (NC.out _ B1.out.1).mono ?_; rintro e w2 ⟨rfl, b2⟩; have B2 : Hid (Below w.heap.size w w2 /\ w2.heap[w.heap.size]? = some (gBox g)) := ⟨B1.out.1.trans (b2.mono B1.out.1.size), box_on B1.out.2 b2⟩; clear b2 x0 x1 x2 x3 x4; obtain ⟨x0, x1, x2, x3, x4⟩ := gb_cells B2.out.2)
  | (go_at_call 6; refine (FC.out _ B2.out.1).mono ?_; rintro e w3 ⟨rfl, b3⟩; have B3 : Hid (Below w.heap.size w w3 /\ w3.heap[w.heap.size]? = some (gBox g)) := ⟨B2.out.1.trans (b3.mono B2.out.1.size), box_on B2.out.2 b3⟩; clear b3 x0 x1 x2 x3 x4; obtain ⟨x0, x1, x2, x3, x4⟩ := gb_cells B3.out.2)
  | (go_at_call 7; refine (HC.out _ B3.out.1).mono ?_; rintro e w4 ⟨rfl, b4⟩; have B4 : Hid (Below w.heap.size w w4 /\ w4.heap[w.heap.size]? = some (gBox g)) := ⟨B3.out.1.trans (b4.mono B3.out.1.size), box_on B3.out.2 b4⟩; clear b4 x0 x1 x2 x3 x4; obtain ⟨x0, x1, x2, x3, x4⟩ := gb_cells B4.out.2)
  | (go_at_call 8; refine (MC.out _ B4.out.1).mono ?_; rintro e w5 ⟨rfl, b5⟩; have B5 : Hid (Below w.heap.size w w5 /\ w5.heap[w.heap.size]? = some (gBox g)) := ⟨B4.out.1.trans (b5.mono B4.out.1.size), box_on B4.out.2 b5⟩; clear b5 x0 x1 x2 x3 x4))
 have B6 : Hid (Below w.heap.size w w5.drew /\ w5.drew.heap[w.heap.size]? = some (gBox g)) := ⟨B5.out.1.drew, B5.out.2⟩
 have KS0 : Hid (∀ w', w'.heap[w.heap.size]? = some (gBox g) -> (fun w' : World => w'.cell? ⟨w.heap.size, 0, none⟩ = some (.slice g.ta g.ts.length g.tc) /\ w'.cell? ⟨w.heap.size, 1, none⟩ = some (.slice g.na g.ns.length g.nc) /\ w'.cell? ⟨w.heap.size, 2, none⟩ = some (.int .i64 g.start) /\ w'.cell? ⟨w.heap.size, 3, none⟩ = some (.slice g.pa g.ps.length g.pc) /\ w'.cell? ⟨w.heap.size, 4, none⟩ = some (.slice g.la g.ls.length g.lc)) w') := fun w' hw => gb_cells hw
 have hs : Hid ((fun w' : World => w'.cell? ⟨w.heap.size, 0, none⟩ = some (.slice g.ta g.ts.length g.tc) /\ w'.cell? ⟨w.heap.size, 1, none⟩ = some (.slice g.na g.ns.length g.nc) /\ w'.cell? ⟨w.heap.size, 2, none⟩ = some (.int .i64 g.start) /\ w'.cell? ⟨w.heap.size, 3, none⟩ = some (.slice g.pa g.ps.length g.pc) /\ w'.cell? ⟨w.heap.size, 4, none⟩ = some (.slice g.la g.ls.length g.lc)) w5.drew) := KS0.out _ B6.out.2
 refine wp_region_x (S := fun _ => (fun w' : World => w'.cell? ⟨w.heap.size, 0, none⟩ = some (.slice g.ta g.ts.length g.tc) /\ w'.cell? ⟨w.heap.size, 1, none⟩ = some (.slice g.na g.ns.length g.nc) /\ w'.cell? ⟨w.heap.size, 2, none⟩ = some (.int .i64 g.start) /\ w'.cell? ⟨w.heap.size, 3, none⟩ = some (.slice g.pa g.ps.length g.pc) /\ w'.cell? ⟨w.heap.size, 4, none⟩ = some (.slice g.la g.ls.length g.lc))) (by kernel_rfl) ?_
 refine takeF (i := 0) (v := ?_) rfl (by kernel_rfl) (by decide +kernel) (by decide +kernel) (fun _ _ _ h => h) (Or.inl ⟨by rfl, ?_⟩) hs.out ?_
 rotate_left
 ·(intro w hSw; (try dsimp only at hSw); go_simp; try (with_reducible rfl))
 (try simp only [Act.put, lsA, lsZ, lsN])
 refine takeF (i := 1) (v := ?_) rfl (by kernel_rfl) (by decide +kernel) (by decide +kernel) (fun _ _ _ h => h) (Or.inl ⟨by rfl, ?_⟩) hs.out ?_
 rotate_left
 ·(intro w hSw; (try dsimp only at hSw); go_simp; try (with_reducible rfl))
 (try simp only [Act.put, lsA, lsZ, lsN])
 refine takeF (i := 2) (v := ?_) rfl (by kernel_rfl) (by decide +kernel) (by decide +kernel) (fun _ _ _ h => h) (Or.inl ⟨by rfl, ?_⟩) hs.out ?_
 rotate_left
 ·(intro w hSw; (try dsimp only at hSw); go_simp; try (with_reducible rfl))
 (try simp only [Act.put, lsA, lsZ, lsN])
 refine takeF (i := 3) (v := ?_) rfl (by kernel_rfl) (by decide +kernel) (by decide +kernel) (fun _ _ _ h => h) (Or.inl ⟨by rfl, ?_⟩) hs.out ?_
 rotate_left
 ·(intro w hSw; (try dsimp only at hSw); go_simp; try (with_reducible rfl))
 (try simp only [Act.put, lsA, lsZ, lsN])
 refine takeF (i := 4) (v := ?_) rfl (by kernel_rfl) (by decide +kernel) (by decide +kernel) (fun _ _ _ h => h) (Or.inl ⟨by rfl, ?_⟩) hs.out ?_
 rotate_left
 ·(intro w hSw; (try dsimp only at hSw); go_simp; try (with_reducible rfl))
 (try simp only [Act.put, lsA, lsZ, lsN])
 refine takeF (i := 5) (v := ?_) rfl (by kernel_rfl) (by decide +kernel) (by decide +kernel) (fun _ _ _ h => h) (Or.inl ⟨by rfl, ?_⟩) hs.out ?_
 rotate_left
 ·(intro w hSw; (try dsimp only at hSw); go_simp; try (with_reducible rfl))
 (try simp only [Act.put, lsA, lsZ, lsN])
 refine takeF (i := 6) (v := ?_) rfl (by kernel_rfl) (by decide +kernel) (by decide +kernel) (fun _ _ _ h => h) (Or.inl ⟨by rfl, ?_⟩) hs.out ?_
 rotate_left
 ·(intro w hSw; (try dsimp only at hSw); go_simp; try (with_reducible rfl))
 (try simp only [Act.put, lsA, lsZ, lsN])
 refine takeF (i := 7) (v := ?_) rfl (by kernel_rfl) (by decide +kernel) (by decide +kernel) (fun _ _ _ h => h) (Or.inl ⟨by rfl, ?_⟩) hs.out ?_
 rotate_left
 ·(intro w hSw; (try dsimp only at hSw); go_simp; try (with_reducible rfl))
 (try simp only [Act.put, lsA, lsZ, lsN])
 refine takeF (i := 8) (v := ?_) rfl (by kernel_rfl) (by decide +kernel) (by decide +kernel) (fun _ _ _ h => h) (Or.inl ⟨by rfl, ?_⟩) hs.out ?_
 rotate_left
 ·(intro w hSw; (try dsimp only at hSw); go_simp; try (with_reducible rfl))
 (try simp only [Act.put, lsA, lsZ, lsN])
 refine takeF (i := 9) (v := ?_) rfl (by kernel_rfl) (by decide +kernel) (by decide +kernel) (fun _ _ _ h => h) (Or.inl ⟨by rfl, ?_⟩) hs.out ?_
 rotate_left
 ·(intro w hSw; (try dsimp only at hSw); go_simp; try (with_reducible rfl))
 (try simp only [Act.put, lsA, lsZ, lsN])
 refine takeF (i := 11) (v := ?_) rfl (by kernel_rfl) (by decide +kernel) (by decide +kernel) (fun _ _ _ h => h) (Or.inl ⟨by rfl, ?_⟩) hs.out ?_
 rotate_left
 ·(intro w hSw; (try dsimp only at hSw); go_simp; try (with_reducible rfl))
 (try simp only [Act.put, lsA, lsZ, lsN])
 refine wpAnyX_one (j := 10) (by decide +kernel) rfl (fun K' hK => ?_)
 refine step_callXG (by rfl) 9 #[.int .i64 er] _ (run_num (v0 := .int .i64 er) (by rfl) (by rfl) _) (num_S er _) ?_
 rintro e w6 ⟨rfl, rfl⟩
 refine ⟨_, rfl, hK.out _ _ hs.out ?_⟩
 clear hK K'
 (try simp only [Act.put, lsA, lsZ, lsN])
 refine wpAnyX_one (j := 12) (by decide +kernel) rfl (fun K' hK => ?_)
 refine step_callXG (by rfl) 8 #[g.val] _ (run_may (v0 := g.val) (by rfl) (by rfl) _) (MC.out _ B6.out.1) ?_
 rintro e w7 ⟨rfl, b7⟩
 have B7 : Hid (Below w.heap.size w w7 /\ w7.heap[w.heap.size]? = some (gBox g)) := ⟨B6.out.1.trans (b7.mono B6.out.1.size), box_on B6.out.2 b7⟩
 clear b7 hs
 have hs : Hid ((fun w' : World => w'.cell? ⟨w.heap.size, 0, none⟩ = some (.slice g.ta g.ts.length g.tc) /\ w'.cell? ⟨w.heap.size, 1, none⟩ = some (.slice g.na g.ns.length g.nc) /\ w'.cell? ⟨w.heap.size, 2, none⟩ = some (.int .i64 g.start) /\ w'.cell? ⟨w.heap.size, 3, none⟩ = some (.slice g.pa g.ps.length g.pc) /\ w'.cell? ⟨w.heap.size, 4, none⟩ = some (.slice g.la g.ls.length g.lc)) w7) := KS0.out _ B7.out.2
 refine ⟨_, rfl, hK.out _ _ hs.out ?_⟩
 clear hK K'
 (try simp only [Act.put, lsA, lsZ, lsN])
 refine takeF (i := 13) (v := ?_) rfl (by kernel_rfl) (by decide +kernel) (by decide +kernel) (fun _ _ _ h => h) (Or.inl ⟨by rfl, ?_⟩) hs.out ?_
 rotate_left
 ·(intro w hSw; (try dsimp only at hSw); go_simp; try (with_reducible rfl))
 (try simp only [Act.put, lsA, lsZ, lsN])
 refine takeF (i := 14) (v := ?_) rfl (by kernel_rfl) (by decide +kernel) (by decide +kernel) (fun _ _ _ h => h) (Or.inl ⟨by rfl, ?_⟩) hs.out ?_
 rotate_left
 ·(intro w hSw; (try dsimp only at hSw); go_simp; try (with_reducible rfl))
 (try simp only [Act.put, lsA, lsZ, lsN])
 refine takeF (i := 15) (v := ?_) rfl (by kernel_rfl) (by decide +kernel) (by decide +kernel) (fun _ _ _ h => h) (Or.inl ⟨by rfl, ?_⟩) hs.out ?_
 rotate_left
 ·(intro w hSw; (try dsimp only at hSw); go_simp; try (with_reducible rfl))
 (try simp only [Act.put, lsA, lsZ, lsN])
 refine wpAnyX_done (by decide +kernel) ?_
 clear hs
 go_wp2
 go_ret
 exact ⟨rfl, B7.out.1⟩
end Go.Proofs.Ytaiebnppfabfgaa
