import Derived.Test.YtndbdliaidbocaaGreatPTK6ToTKc
namespace Go.Proofs.YtndbdliaidbocaaGreat
set_option linter.unusedVariables false
open Go.RowKit
theorem run_gg2 {o : Oper} {a : Act} {t0 t1 : TypeId} {v0 v1 : Value} {x0 x1 : Operand} (hop : o.op = Op.call { callee := Callee.value (Operand.func 4), args := #[x0, x1], argTypes := #[t0, t1] }) (h0 : a.eval x0 = v0) (h1 : a.eval x1 = v1) (w : World) : (execOp a.eval o).run Tryz.prog w = .ok (.enter 4 #[v0, v1]) w := by
 have hf : a.eval (Operand.func 4) = .func (.func 4) #[] #[] := rfl
 simp [execOp, hop, resolve, invoke, h0, h1, hf, Deferred.ofValue]
theorem run_gt2 {o : Oper} {a : Act} {t0 t1 : TypeId} {v0 v1 : Value} {x0 x1 : Operand} (hop : o.op = Op.call { callee := Callee.value (Operand.func 5), args := #[x0, x1], argTypes := #[t0, t1] }) (h0 : a.eval x0 = v0) (h1 : a.eval x1 = v1) (w : World) : (execOp a.eval o).run Tryz.prog w = .ok (.enter 5 #[v0, v1]) w := by
 have hf : a.eval (Operand.func 5) = .func (.func 5) #[] #[] := rfl
 simp [execOp, hop, resolve, invoke, h0, h1, hf, Deferred.ofValue]
theorem wpX_world {P : Program} {md : Region.Mode} {ops : Array Oper} {Q : Exit -> Act -> World -> Prop} {S : Array Bool -> World -> Prop} {n : Nat} {L : Array Bool} {a : Act} {w : World} (I : World -> Prop) (h : I w) (k : ∀ w', I w' -> wpAnyX P md ops Q S n L a w') : wpAnyX P md ops Q S n L a w := k w h
theorem num_8 (n : Int) (w : World) : Calls Tryz.prog 10 #[.int .i64 n] w fun e w' => e = .returned (.int .i64 n) /\ w' = w := by
 go_enter Tryz.func10, Tryz.ntmps10
 go_wp2
 go_ret
 exact ⟨rfl, rfl⟩
theorem ck_start (g : GV) (t : TV) (w : World) : CkJ 0 w g t g t none none (((w.alloc (gBox g)).alloc (tBox t)).alloc gvBoxT).drew := by
 obtain ⟨h1, h2, h3⟩ := two_allocT w (gBox g) (tBox t)
 have hz : ((w.alloc (gBox g)).alloc (tBox t)).heap.size = w.heap.size + 2 := by simp
 have hg := hg_newT w.heap.size w ((w.alloc (gBox g)).alloc (tBox t)) h1 h1.size
 rw [hz] at hg
 have hb := below_alloc ((w.alloc (gBox g)).alloc (tBox t)) gvBoxT
 have hs : CkS w g t (((w.alloc (gBox g)).alloc (tBox t)).alloc gvBoxT) := CkS.later ⟨h1, h2, h3⟩ hb
 have hn : (((w.alloc (gBox g)).alloc (tBox t)).alloc gvBoxT).heap.size = w.heap.size + 3 := by simp
 have hJ : CkJ 0 w g t g t none none (((w.alloc (gBox g)).alloc (tBox t)).alloc gvBoxT) := ⟨hs, fun _ => hg, fun e => (by cases e), fun e => (by cases e), fun b e => (by cases e), fun b e => (by cases e), by rw [hn]; omega⟩
 exact hJ.later (Below.refl _ _).drew
end Go.Proofs.YtndbdliaidbocaaGreat
