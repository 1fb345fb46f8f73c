import Derived.Test.YtlkkllehaabebaaPPC10ToPC11
namespace Go.Proofs.Ytlkkllehaabebaa
set_option linter.unusedVariables false
set_option maxRecDepth 100000
set_option maxHeartbeats 16000000
open Go.RowKit Go.Maps
set_option linter.unusedSimpArgs false in
theorem same_P (d : DV) (ao bo : Option Addr) (c e : Nat) (w : World) (hl : d.drop.length <= 140737488355328) (h1 : InRow w ao d.drop) (h2 : InRow w bo d.drop) :
  Calls Try.prog 17 #[dval d ao c, dval d bo e] w fun e' w' => e' = .returned (.bool true) /\ Below w.heap.size w w' := by
 have hb : Below w.heap.size w ((w.alloc (.cells #[.int .i64 d.look, .int .i64 d.kind, .int .i64 d.prod, .slice ao d.drop.length c, .bool d.sd, .int .i64 d.lev] 47)).alloc (.cells #[.int .i64 d.look, .int .i64 d.kind, .int .i64 d.prod, .slice bo d.drop.length e, .bool d.sd, .int .i64 d.lev] 47)) := (below_alloc w _).trans ((below_alloc _ _).mono (below_alloc w _).size)
 have HC : Hid (Calls Try.prog 41 #[.slice ao d.drop.length c, .slice bo d.drop.length e] ((w.alloc (.cells #[.int .i64 d.look, .int .i64 d.kind, .int .i64 d.prod, .slice ao d.drop.length c, .bool d.sd, .int .i64 d.lev] 47)).alloc (.cells #[.int .i64 d.look, .int .i64 d.kind, .int .i64 d.prod, .slice bo d.drop.length e, .bool d.sd, .int .i64 d.lev] 47)) fun e' w' => e' = .returned (.bool true) /\ ∃ n, w' = ((w.alloc (.cells #[.int .i64 d.look, .int .i64 d.kind, .int .i64 d.prod, .slice ao d.drop.length c, .bool d.sd, .int .i64 d.lev] 47)).alloc (.cells #[.int .i64 d.look, .int .i64 d.kind, .int .i64 d.prod, .slice bo d.drop.length e, .bool d.sd, .int .i64 d.lev] 47)).drewN n) := sameints_g ao bo _ _ c e d.drop _ rfl rfl hl (h1.later hb) (h2.later hb)
 have HB : Hid (Below w.heap.size w ((w.alloc (.cells #[.int .i64 d.look, .int .i64 d.kind, .int .i64 d.prod, .slice ao d.drop.length c, .bool d.sd, .int .i64 d.lev] 47)).alloc (.cells #[.int .i64 d.look, .int .i64 d.kind, .int .i64 d.prod, .slice bo d.drop.length e, .bool d.sd, .int .i64 d.lev] 47))) := hb
 have q1 : ((w.alloc (.cells #[.int .i64 d.look, .int .i64 d.kind, .int .i64 d.prod, .slice ao d.drop.length c, .bool d.sd, .int .i64 d.lev] 47)).alloc (.cells #[.int .i64 d.look, .int .i64 d.kind, .int .i64 d.prod, .slice bo d.drop.length e, .bool d.sd, .int .i64 d.lev] 47)).heap[w.heap.size]? = some (.cells #[.int .i64 d.look, .int .i64 d.kind, .int .i64 d.prod, .slice ao d.drop.length c, .bool d.sd, .int .i64 d.lev] 47 (0, 0)) := blk_later (heap_alloc_new _ _) (below_alloc _ _)
 have q2 : ((w.alloc (.cells #[.int .i64 d.look, .int .i64 d.kind, .int .i64 d.prod, .slice ao d.drop.length c, .bool d.sd, .int .i64 d.lev] 47)).alloc (.cells #[.int .i64 d.look, .int .i64 d.kind, .int .i64 d.prod, .slice bo d.drop.length e, .bool d.sd, .int .i64 d.lev] 47)).heap[w.heap.size + 1]? = some (.cells #[.int .i64 d.look, .int .i64 d.kind, .int .i64 d.prod, .slice bo d.drop.length e, .bool d.sd, .int .i64 d.lev] 47 (0, 0)) := by have := heap_alloc_new (w.alloc (.cells #[.int .i64 d.look, .int .i64 d.kind, .int .i64 d.prod, .slice ao d.drop.length c, .bool d.sd, .int .i64 d.lev] 47)) (.cells #[.int .i64 d.look, .int .i64 d.kind, .int .i64 d.prod, .slice bo d.drop.length e, .bool d.sd, .int .i64 d.lev] 47); rwa [alZ] at this
 have a0 : ((w.alloc (.cells #[.int .i64 d.look, .int .i64 d.kind, .int .i64 d.prod, .slice ao d.drop.length c, .bool d.sd, .int .i64 d.lev] 47)).alloc (.cells #[.int .i64 d.look, .int .i64 d.kind, .int .i64 d.prod, .slice bo d.drop.length e, .bool d.sd, .int .i64 d.lev] 47)).cell? ⟨w.heap.size, 0, none⟩ = some (.int .i64 d.look) := (cellq_any q1).trans rfl
 have a1 : ((w.alloc (.cells #[.int .i64 d.look, .int .i64 d.kind, .int .i64 d.prod, .slice ao d.drop.length c, .bool d.sd, .int .i64 d.lev] 47)).alloc (.cells #[.int .i64 d.look, .int .i64 d.kind, .int .i64 d.prod, .slice bo d.drop.length e, .bool d.sd, .int .i64 d.lev] 47)).cell? ⟨w.heap.size, 1, none⟩ = some (.int .i64 d.kind) := (cellq_any q1).trans rfl
 have a2 : ((w.alloc (.cells #[.int .i64 d.look, .int .i64 d.kind, .int .i64 d.prod, .slice ao d.drop.length c, .bool d.sd, .int .i64 d.lev] 47)).alloc (.cells #[.int .i64 d.look, .int .i64 d.kind, .int .i64 d.prod, .slice bo d.drop.length e, .bool d.sd, .int .i64 d.lev] 47)).cell? ⟨w.heap.size, 2, none⟩ = some (.int .i64 d.prod) := (cellq_any q1).trans rfl
 have a3 : ((w.alloc (.cells #[.int .i64 d.look, .int .i64 d.kind, .int .i64 d.prod, .slice ao d.drop.length c, .bool d.sd, .int .i64 d.lev] 47)).alloc (.cells #[.int .i64 d.look, .int .i64 d.kind, .int .i64 d.prod, .slice bo d.drop.length e, .bool d.sd, .int .i64 d.lev] 47)).cell? ⟨w.heap.size, 3, none⟩ = some (.slice ao d.drop.length c) := (cellq_any q1).trans rfl
 have a4 : ((w.alloc (.cells #[.int .i64 d.look, .int .i64 d.kind, .int .i64 d.prod, .slice ao d.drop.length c, .bool d.sd, .int .i64 d.lev] 47)).alloc (.cells #[.int .i64 d.look, .int .i64 d.kind, .int .i64 d.prod, .slice bo d.drop.length e, .bool d.sd, .int .i64 d.lev] 47)).cell? ⟨w.heap.size, 4, none⟩ = some (.bool d.sd) := (cellq_any q1).trans rfl
 have a5 : ((w.alloc (.cells #[.int .i64 d.look, .int .i64 d.kind, .int .i64 d.prod, .slice ao d.drop.length c, .bool d.sd, .int .i64 d.lev] 47)).alloc (.cells #[.int .i64 d.look, .int .i64 d.kind, .int .i64 d.prod, .slice bo d.drop.length e, .bool d.sd, .int .i64 d.lev] 47)).cell? ⟨w.heap.size, 5, none⟩ = some (.int .i64 d.lev) := (cellq_any q1).trans rfl
 have b0 : ((w.alloc (.cells #[.int .i64 d.look, .int .i64 d.kind, .int .i64 d.prod, .slice ao d.drop.length c, .bool d.sd, .int .i64 d.lev] 47)).alloc (.cells #[.int .i64 d.look, .int .i64 d.kind, .int .i64 d.prod, .slice bo d.drop.length e, .bool d.sd, .int .i64 d.lev] 47)).cell? ⟨w.heap.size + 1, 0, none⟩ = some (.int .i64 d.look) := (cellq_any q2).trans rfl
 have b1 : ((w.alloc (.cells #[.int .i64 d.look, .int .i64 d.kind, .int .i64 d.prod, .slice ao d.drop.length c, .bool d.sd, .int .i64 d.lev] 47)).alloc (.cells #[.int .i64 d.look, .int .i64 d.kind, .int .i64 d.prod, .slice bo d.drop.length e, .bool d.sd, .int .i64 d.lev] 47)).cell? ⟨w.heap.size + 1, 1, none⟩ = some (.int .i64 d.kind) := (cellq_any q2).trans rfl
 have b2 : ((w.alloc (.cells #[.int .i64 d.look, .int .i64 d.kind, .int .i64 d.prod, .slice ao d.drop.length c, .bool d.sd, .int .i64 d.lev] 47)).alloc (.cells #[.int .i64 d.look, .int .i64 d.kind, .int .i64 d.prod, .slice bo d.drop.length e, .bool d.sd, .int .i64 d.lev] 47)).cell? ⟨w.heap.size + 1, 2, none⟩ = some (.int .i64 d.prod) := (cellq_any q2).trans rfl
 have b3 : ((w.alloc (.cells #[.int .i64 d.look, .int .i64 d.kind, .int .i64 d.prod, .slice ao d.drop.length c, .bool d.sd, .int .i64 d.lev] 47)).alloc (.cells #[.int .i64 d.look, .int .i64 d.kind, .int .i64 d.prod, .slice bo d.drop.length e, .bool d.sd, .int .i64 d.lev] 47)).cell? ⟨w.heap.size + 1, 3, none⟩ = some (.slice bo d.drop.length e) := (cellq_any q2).trans rfl
 have b4 : ((w.alloc (.cells #[.int .i64 d.look, .int .i64 d.kind, .int .i64 d.prod, .slice ao d.drop.length c, .bool d.sd, .int .i64 d.lev] 47)).alloc (.cells #[.int .i64 d.look, .int .i64 d.kind, .int .i64 d.prod, .slice bo d.drop.length e, .bool d.sd, .int .i64 d.lev] 47)).cell? ⟨w.heap.size + 1, 4, none⟩ = some (.bool d.sd) := (cellq_any q2).trans rfl
 have b5 : ((w.alloc (.cells #[.int .i64 d.look, .int .i64 d.kind, .int .i64 d.prod, .slice ao d.drop.length c, .bool d.sd, .int .i64 d.lev] 47)).alloc (.cells #[.int .i64 d.look, .int .i64 d.kind, .int .i64 d.prod, .slice bo d.drop.length e, .bool d.sd, .int .i64 d.lev] 47)).cell? ⟨w.heap.size + 1, 5, none⟩ = some (.int .i64 d.lev) := (cellq_any q2).trans rfl
 have s0 : (d.look == d.look) = true := by simp
 have s1 : (d.kind == d.kind) = true := by simp
 have s2 : (d.prod == d.prod) = true := by simp
 have s4 : (d.sd == d.sd) = true := by simp
 have s5 : (d.lev == d.lev) = true := by simp
 clear hb q1 q2 h1 h2
 go_enter Try.func17, Try.ntmps17
 go_wp2_with (go_at_call 41; refine HC.out.mono ?_; rintro e' w1 ⟨rfl, n, rfl⟩)
 go_ret
 exact ⟨rfl, below_drewN HB.out n⟩
end Go.Proofs.Ytlkkllehaabebaa
namespace Go.Proofs.Ytlkkllehaabebaa
set_option linter.unusedVariables false
set_option maxRecDepth 100000
set_option maxHeartbeats 16000000
open Go.RowKit Go.Maps
end Go.Proofs.Ytlkkllehaabebaa
