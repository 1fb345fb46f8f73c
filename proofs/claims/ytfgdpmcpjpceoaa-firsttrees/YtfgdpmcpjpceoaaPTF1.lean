import Derived.Test.YtfgdpmcpjpceoaaPTT5
import Derived.Test.YtfgdpmcpjpceoaaPFFolToFFol7
import Derived.Test.YtfgdpmcpjpceoaaPFSamToFClo
import Derived.Test.YtfgdpmcpjpceoaaPGCheckR
namespace Go.Proofs.Ytfgdpmcpjpceoaa
set_option linter.unusedVariables false
set_option maxRecDepth 100000
set_option maxHeartbeats 16000000
open Go.RowKit
theorem run_numT {o : Oper} {a : Act} {t0 : TypeId} {v0 : Value} {x0 : Operand} (hop : o.op = Op.call { callee := Callee.value (Operand.func 8), args := #[x0], argTypes := #[t0] }) (h0 : a.eval x0 = v0) (w : World) : (execOp a.eval o).run Try.prog w = .ok (.enter 8 #[v0]) w := by
 have hf : a.eval (Operand.func 8) = .func (.func 8) #[] #[] := rfl
 simp [execOp, hop, resolve, invoke, h0, hf, Deferred.ofValue]
theorem run_mayT {o : Oper} {a : Act} {t0 : TypeId} {v0 : Value} {x0 : Operand} (hop : o.op = Op.call { callee := Callee.value (Operand.func 7), args := #[x0], argTypes := #[t0] }) (h0 : a.eval x0 = v0) (w : World) : (execOp a.eval o).run Try.prog w = .ok (.enter 7 #[v0]) w := by
 have hf : a.eval (Operand.func 7) = .func (.func 7) #[] #[] := rfl
 simp [execOp, hop, resolve, invoke, h0, hf, Deferred.ofValue]
theorem run_inT {o : Oper} {a : Act} {t0 t1 : TypeId} {v0 v1 : Value} {x0 x1 : Operand} (hop : o.op = Op.call { callee := Callee.value (Operand.func 15), args := #[x0, x1], argTypes := #[t0, t1] }) (h0 : a.eval x0 = v0) (h1 : a.eval x1 = v1) (w : World) : (execOp a.eval o).run Try.prog w = .ok (.enter 15 #[v0, v1]) w := by
 have hf : a.eval (Operand.func 15) = .func (.func 15) #[] #[] := rfl
 simp [execOp, hop, resolve, invoke, h0, h1, hf, Deferred.ofValue]
theorem two_gt (w : World) (g : GV) (t : TV) : Below w.heap.size w ((w.alloc (gBox g)).alloc (tBox t)) /\ ((w.alloc (gBox g)).alloc (tBox t)).heap[w.heap.size]? = some (gBox g) /\ ((w.alloc (gBox g)).alloc (tBox t)).heap[w.heap.size + 1]? = some (tBox t) := by
 refine ⟨two_tbox w g t, ?_, ?_⟩
 ·rw [(below_alloc (w.alloc (gBox g)) (tBox t)).block _ (by simp)]
  exact heap_alloc_new _ _
 ·have := heap_alloc_new (w.alloc (gBox g)) (tBox t)
  rwa [show (w.alloc (gBox g)).heap.size = w.heap.size + 1 by simp] at this
theorem RT.places {g : GV} (t : TV) (h : RT g t) : ∀ d, ∀ y ∈ plT d t, RT g y.t := by
 induction h using RT.ind with
 | leaf t hp h0 h1 hk =>
  intro d y hy
  rw [plT_eq, hk, plL_nil] at hy
  obtain rfl := List.mem_singleton.1 hy
  exact RT.leaf t hp h0 h1 hk
 | node t h0 h1 hr hk ih =>
  intro d y hy
  rw [plT_eq] at hy
  rcases List.mem_cons.1 hy with rfl | hy
  ·exact RT.node t h0 h1 hr hk
  ·have : ∀ l : List TV, (∀ k ∈ l, ∀ d, ∀ y ∈ plT d k, RT g y.t) -> y ∈ plL (d + 1) l -> RT g y.t := by
    intro l
    induction l with
    | nil => intro _ h; rw [plL_nil] at h; cases h
    | cons k l ihl =>
     intro hl h
     rw [plL_cons] at h
     rcases List.mem_append.1 h with q | q
     ·exact hl k (List.mem_cons_self ..) _ y q
     ·exact ihl (fun k hk => hl k (List.mem_cons_of_mem _ hk)) q
   exact this t.kids ih hy
theorem RT.prodB {g : GV} {t : TV} (h : RT g t) (hp : t.prod ≠ -1) : 0 <= t.prod /\ t.prod < g.ps.length := by
 rcases AllP.here h with ⟨e, _⟩ | ⟨a, b, _⟩
 ·exact absurd e hp
 ·exact ⟨a, b⟩
end Go.Proofs.Ytfgdpmcpjpceoaa
