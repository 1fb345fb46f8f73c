import Derived.Test.YtlkkllehaabebaaPPC11
namespace Go.Proofs.Ytlkkllehaabebaa
set_option linter.unusedVariables false
set_option maxRecDepth 100000
set_option maxHeartbeats 16000000
open Go.RowKit Go.Maps
set_option linter.unusedSimpArgs false in
theorem same_P (d : DV) (ao bo : Option Addr) (c e : Nat) (w : World) (hl : d.drop.length <= 140737488355328) (h1 : InRow w ao d.drop) (h2 : InRow w bo d.drop) :
  Calls Try.prog 17 #[dval d ao c, dval d bo e] w fun e' w' => e' = .returned (.bool true) /\ Below w.heap.size w w' := by
 have hb : Below w.heap.size w ((w.alloc (.cells #[.int .i64 d.look, .int .i64 d.kind, .int .i64 d.prod, .slice ao d.drop.length c, .bool d.sd, .int .i64 d.lev] 47)).alloc (.cells #[.int .i64 d.look, .int .i64 d.kind, .int .i64 d.prod, .slice bo d.drop.length e, .bool d.sd, .int .i64 d.lev] 47)) := (below_alloc w _).trans ((below_alloc _ _).mono (below_alloc w _).size)
 have HC : Hid (Calls Try.prog 41 #[.slice ao d.drop.length c, .slice bo d.drop.length e] ((w.alloc (.cells #[.int .i64 d.look, .int .i64 d.kind, .int .i64 d.prod, .slice ao d.drop.length c, .bool d.sd, .int .i64 d.lev] 47)).alloc (.cells #[.int .i64 d.look, .int .i64 d.kind, .int .i64 d.prod, .slice bo d.drop.length e, .bool d.sd, .int .i64 d.lev] 47)) fun e' w' => e' = .returned (.bool true) /\ ∃ n, w' = ((w.alloc (.cells #[.int .i64 d.look, .int .i64 d.kind, .int .i64 d.prod, .slice ao d.drop.length c, .bool d.sd, .int .i64 d.lev] 47)).alloc (.cells #[.int .i64 d.look, .int .i64 d.kind, .int .i64 d.prod, .slice bo d.drop.length e, .bool d.sd, .int .i64 d.lev] 47)).drewN n) := sameints_g ao bo _ _ c e d.drop _ rfl rfl hl (h1.later hb) (h2.later hb)
 have HB : Hid (Below w.heap.size w ((w.alloc (.cells #[.int .i64 d.look, .int .i64 d.kind, .int .i64 d.prod, .slice ao d.drop.length c, .bool d.sd, .int .i64 d.lev] 47)).alloc (.cells #[.int .i64 d.look, .int .i64 d.kind, .int .i64 d.prod, .slice bo d.drop.length e, .bool d.sd, .int .i64 d.lev] 47))) := hb
 have q1 : ((w.alloc (.cells #[.int .i64 d.look, .int .i64 d.kind, .int .i64 d.prod, .slice ao d.drop.length c, .bool d.sd, .int .i64 d.lev] 47)).alloc (.cells #[.int .i64 d.look, .int .i64 d.kind, .int .i64 d.prod, .slice bo d.drop.length e, .bool d.sd, .int .i64 d.lev] 47)).heap[w.heap.size]? = some (.cells #[.int .i64 d.look, .int .i64 d.kind, .int .i64 d.prod, .slice ao d.drop.length c, .bool d.sd, .int .i64 d.lev] 47 (0, 0)) := blk_later (heap_alloc_new _ _) (below_alloc _ _)
 have q2 : ((w.alloc (.cells #[.int .i64 d.look, .int .i64 d.kind, .int .i64 d.prod, .slice ao d.drop.length c, .bool d.sd, .int .i64 d.lev] 47)).alloc (.cells #[.int .i64 d.look, .int .i64 d.kind, .int .i64 d.prod, .slice bo d.drop.length e, .bool d.sd, .int .i64 d.lev] 47)).heap[w.heap.size + 1]? = some (.cells #[.int .i64 d.look, .int .i64 d.kind, .int .i64 d.prod, .slice bo d.drop.length e, .bool d.sd, .int .i64 d.lev] 47 (0, 0)) := by have := heap_alloc_new (w.alloc (.cells #[.int .i64 d.look, .int .i64 d.kind, .int .i64 d.prod, .slice ao d.drop.length c, .bool d.sd, .int .i64 d.lev] 47)) (.cells #[.int .i64 d.look, .int .i64 d.kind, .int .i64 d.prod, .slice bo d.drop.length e, .bool d.sd, .int .i64 d.lev] 47); rwa [alZ] at this
 have a0 : ((w.alloc (.cells #[.int .i64 d.look, .int .i64 d.kind, .int .i64 d.prod, .slice ao d.drop.length c, .bool d.sd, .int .i64 d.lev] 47)).alloc (.cells #[.int .i64 d.look, .int .i64 d.kind, .int .i64 d.prod, .slice bo d.drop.length e, .bool d.sd, .int .i64 d.lev] 47)).cell? ⟨w.heap.size, 0, none⟩ = some (.int .i64 d.look) := (cellq_any q1).trans rfl
 have a1 : ((w.alloc (.cells #[.int .i64 d.look, .int .i64 d.kind, .int .i64 d.prod, .slice ao d.drop.length c, .bool d.sd, .int .i64 d.lev] 47)).alloc (.cells #[.int .i64 d.look, .int .i64 d.kind, .int .i64 d.prod, .slice bo d.drop.length e, .bool d.sd, .int .i64 d.lev] 47)).cell? ⟨w.heap.size, 1, none⟩ = some (.int .i64 d.kind) := (cellq_any q1).trans rfl
 have a2 : ((w.alloc (.cells #[.int .i64 d.look, .int .i64 d.kind, .int .i64 d.prod, .slice ao d.drop.length c, .bool d.sd, .int .i64 d.lev] 47)).alloc (.cells #[.int .i64 d.look, .int .i64 d.kind, .int .i64 d.prod, .slice bo d.drop.length e, .bool d.sd, .int .i64 d.lev] 47)).cell? ⟨w.heap.size, 2, none⟩ = some (.int .i64 d.prod) := (cellq_any q1).trans rfl
 have a3 : ((w.alloc (.cells #[.int .i64 d.look, .int .i64 d.kind, .int .i64 d.prod, .slice ao d.drop.length c, .bool d.sd, .int .i64 d.lev] 47)).alloc (.cells #[.int .i64 d.look, .int .i64 d.kind, .int .i64 d.prod, .slice bo d.drop.length e, .bool d.sd, .int .i64 d.lev] 47)).cell? ⟨w.heap.size, 3, none⟩ = some (.slice ao d.drop.length c) := (cellq_any q1).trans rfl
 have a4 : ((w.alloc (.cells #[.int .i64 d.look, .int .i64 d.kind, .int .i64 d.prod, .slice ao d.drop.length c, .bool d.sd, .int .i64 d.lev] 47)).alloc (.cells #[.int .i64 d.look, .int .i64 d.kind, .int .i64 d.prod, .slice bo d.drop.length e, .bool d.sd, .int .i64 d.lev] 47)).cell? ⟨w.heap.size, 4, none⟩ = some (.bool d.sd) := (cellq_any q1).trans rfl
 have a5 : ((w.alloc (.cells #[.int .i64 d.look, .int .i64 d.kind, .int .i64 d.prod, .slice ao d.drop.length c, .bool d.sd, .int .i64 d.lev] 47)).alloc (.cells #[.int .i64 d.look, .int .i64 d.kind, .int .i64 d.prod, .slice bo d.drop.length e, .bool d.sd, .int .i64 d.lev] 47)).cell? ⟨w.heap.size, 5, none⟩ = some (.int .i64 d.lev) := (cellq_any q1).trans rfl
 have b0 : ((w.alloc (.cells #[.int .i64 d.look, .int .i64 d.kind, .int .i64 d.prod, .slice ao d.drop.length c, .bool d.sd, .int .i64 d.lev] 47)).alloc (.cells #[.int .i64 d.look, .int .i64 d.kind, .int .i64 d.prod, .slice bo d.drop.length e, .bool d.sd, .int .i64 d.lev] 47)).cell? ⟨w.heap.size + 1, 0, none⟩ = some (.int .i64 d.look) := (cellq_any q2).trans rfl
 have b1 : ((w.alloc (.cells #[.int .i64 d.look, .int .i64 d.kind, .int .i64 d.prod, .slice ao d.drop.length c, .bool d.sd, .int .i64 d.lev] 47)).alloc (.cells #[.int .i64 d.look, .int .i64 d.kind, .int .i64 d.prod, .slice bo d.drop.length e, .bool d.sd, .int .i64 d.lev] 47)).cell? ⟨w.heap.size + 1, 1, none⟩ = some (.int .i64 d.kind) := (cellq_any q2).trans rfl
 have b2 : ((w.alloc (.cells #[.int .i64 d.look, .int .i64 d.kind, .int .i64 d.prod, .slice ao d.drop.length c, .bool d.sd, .int .i64 d.lev] 47)).alloc (.cells #[.int .i64 d.look, .int .i64 d.kind, .int .i64 d.prod, .slice bo d.drop.length e, .bool d.sd, .int .i64 d.lev] 47)).cell? ⟨w.heap.size + 1, 2, none⟩ = some (.int .i64 d.prod) := (cellq_any q2).trans rfl
 have b3 : ((w.alloc (.cells #[.int .i64 d.look, .int .i64 d.kind, .int .i64 d.prod, .slice ao d.drop.length c, .bool d.sd, .int .i64 d.lev] 47)).alloc (.cells #[.int .i64 d.look, .int .i64 d.kind, .int .i64 d.prod, .slice bo d.drop.length e, .bool d.sd, .int .i64 d.lev] 47)).cell? ⟨w.heap.size + 1, 3, none⟩ = some (.slice bo d.drop.length e) := (cellq_any q2).trans rfl
 have b4 : ((w.alloc (.cells #[.int .i64 d.look, .int .i64 d.kind, .int .i64 d.prod, .slice ao d.drop.length c, .bool d.sd, .int .i64 d.lev] 47)).alloc (.cells #[.int .i64 d.look, .int .i64 d.kind, .int .i64 d.prod, .slice bo d.drop.length e, .bool d.sd, .int .i64 d.lev] 47)).cell? ⟨w.heap.size + 1, 4, none⟩ = some (.bool d.sd) := (cellq_any q2).trans rfl
 have b5 : ((w.alloc (.cells #[.int .i64 d.look, .int .i64 d.kind, .int .i64 d.prod, .slice ao d.drop.length c, .bool d.sd, .int .i64 d.lev] 47)).alloc (.cells #[.int .i64 d.look, .int .i64 d.kind, .int .i64 d.prod, .slice bo d.drop.length e, .bool d.sd, .int .i64 d.lev] 47)).cell? ⟨w.heap.size + 1, 5, none⟩ = some (.int .i64 d.lev) := (cellq_any q2).trans rfl
 have s0 : (d.look == d.look) = true := by simp
 have s1 : (d.kind == d.kind) = true := by simp
 have s2 : (d.prod == d.prod) = true := by simp
 have s4 : (d.sd == d.sd) = true := by simp
 have s5 : (d.lev == d.lev) = true := by simp
 clear hb q1 q2 h1 h2
 go_enter Try.func17, Try.ntmps17
 go_wp2_with (go_at_call 41; refine HC.out.mono ?_; rintro e' w1 ⟨rfl, n, rfl⟩)
 go_ret
 exact ⟨rfl, below_drewN HB.out n⟩
theorem lev_neg {g : GV} (ok : OkC g) {t : Int} (ht : t < 0) : levU g.ls t = -1 := lev_none fun j hj => by
 have h0 := ok.ls j hj
 cases q : (g.ls.getD j .none).terms.contains t with
 | false => rfl
 | true =>
  exfalso
  have hm := List.contains_iff_mem.1 q
  have hq : ((g.ls.getD j .none).terms.any fun n => !inT g n) = true := by
   rw [List.any_eq_true]
   exact ⟨t, hm, by simp [inT]; omega⟩
  unfold levelU at h0
  rw [hq] at h0
  split at h0
  ·exact absurd h0 (by decide)
  ·simp at h0
set_option linter.unusedSimpArgs false in
theorem rlevel_P (g : GV) (t : Int) (w : World) (h : GAt 140737488355328 w g) :
  Calls Try.prog 51 #[g.val, .int .i64 t] w fun e w' => e = .returned (.int .i64 (levU g.ls t)) /\ Below w.heap.size w w' := by
 have hb := below_alloc w (gBox g)
 have HG : Hid (GAt 140737488355328 (w.alloc (gBox g)) g) := h.later hb
 have HB : Hid (Below w.heap.size w (w.alloc (gBox g))) := hb
 obtain ⟨x0, x1, x2, x3, x4⟩ := gb_cells (heap_alloc_new w (gBox g))
 have hll := h.ll
 clear hb h
 go_enter Try.func51, Try.ntmps51
 go_wp2
 generalize w.alloc (gBox g) = W at *
 go_loopw [5] (fun z wr => ∃ i : Nat, i <= g.ls.length /\ z = .int .i64 i /\ wr = W /\ Hid (∀ j, j < i -> (g.ls.getD j .none).terms.contains t = false)) (fun z _ => g.ls.length - (intOf z).toNat)
 case atStart => exact ⟨0, Nat.zero_le _, rfl, rfl, fun j hj => by omega⟩
 case round =>
  obtain ⟨i, hi, rfl, rfl, HA⟩ := hrel
  by_cases hlt : i < g.ls.length
  ·obtain ⟨lb, lo, hla, hlb, hlc⟩ := HG.out.l.cells (by intro e; rw [e] at hlt; simp at hlt)
   obtain ⟨c0, c1⟩ := hlc i hlt
   have hm : g.ls.getD i .none ∈ g.ls := mem_getD hlt
   have HR : Hid (InRow wr (g.ls.getD i .none).ta (g.ls.getD i .none).terms) := HG.out.l.rows _ hm
   have hvl := HG.out.vl _ hm
   have HIT : Hid ((g.ls.getD i .none).terms.contains t = true -> levU g.ls t = i) := fun e => lev_at hlt HA.out e
   have HST : Hid ((g.ls.getD i .none).terms.contains t = false -> ∀ j, j < i + 1 -> (g.ls.getD j .none).terms.contains t = false) := fun e j hj => by
    rcases Nat.lt_succ_iff_lt_or_eq.1 hj with r | rfl
    ·exact HA.out j r
    ·exact e
   have ilt : (i : Int) < (g.ls.length : Int) := by omega
   rw [hla] at x4
   clear hlc hm HA hla
   generalize g.ls.getD i .none = q at *
   obtain ⟨qa, ta, tc, ts⟩ := q
   simp only at c0 c1 HR hvl HIT HST
   go_wp2
   go_loopw [6] (fun z w2 => ∃ k : Nat, k <= ts.length /\ z = .int .i64 k /\ w2 = wr /\ Hid (∀ j, j < k -> t ≠ ts.getD j 0)) (fun z _ => ts.length - (intOf z).toNat)
   case atStart => exact ⟨0, Nat.zero_le _, rfl, rfl, fun j hj => by omega⟩
   case round =>
    obtain ⟨k, hk, rfl, hww, HK⟩ := hrel
    subst hww
    by_cases hkt : k < ts.length
    ·obtain ⟨rb, ro, rfl, hrb, hrc⟩ := HR.out (by intro e; subst e; simp at hkt)
     have r0 := hrc k hkt
     have klt : (k : Int) < (ts.length : Int) := by omega
     clear hrc
     by_cases hin : t = ts.getD k 0
     ·have HX : Hid (levU g.ls t = i) := HIT.out (contains_hit hkt hin)
      generalize ts.getD k 0 = n at *
      have t1 : (n == t) = true := by simpa using hin.symm
      clear hin HIT HST HK
      go_wp2
      go_ret
      exact ⟨by rw [HX.out]; rfl, HB.out⟩
     ·have HX : Hid (∀ j, j < k + 1 -> t ≠ ts.getD j 0) := fun j hj => by
       rcases Nat.lt_succ_iff_lt_or_eq.1 hj with r | rfl
       ·exact HK.out j r
       ·exact hin
      generalize ts.getD k 0 = n at *
      have t1 : (n == t) = false := by simpa using fun e => hin (Eq.symm e)
      clear hin HIT HK
      go_wp2
      go_roundw
      case rel => exact ⟨k + 1, by omega, by go_num, by first | rfl | trivial, HX.out⟩
      case measure => simp [intOf]; omega
    ·have HX : Hid (∀ j, j < i + 1 -> (g.ls.getD j .none).terms.contains t = false) := HST.out (contains_not fun j hj => HK.out j (by omega))
     have klt : ¬ (k : Int) < (ts.length : Int) := by omega
     clear HK HIT HST
     go_wp2
     go_roundw
     case rel => exact ⟨i + 1, by omega, by go_num, by first | rfl | trivial, HX.out⟩
     case measure => simp [intOf]; omega
  ·have HX : Hid (levU g.ls t = -1) := lev_none fun j hj => HA.out j (by omega)
   have ilt : ¬ (i : Int) < (g.ls.length : Int) := by omega
   clear HA
   go_wp2
   go_ret
   exact ⟨by rw [HX.out]; rfl, HB.out⟩
end Go.Proofs.Ytlkkllehaabebaa
