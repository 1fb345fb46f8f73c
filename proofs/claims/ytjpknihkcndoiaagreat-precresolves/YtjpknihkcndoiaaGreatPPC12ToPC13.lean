import Derived.Test.YtjpknihkcndoiaaGreatPPC10ToPC11
namespace Go.Proofs.YtjpknihkcndoiaaGreat
set_option linter.unusedVariables false
set_option maxRecDepth 100000
set_option maxHeartbeats 16000000
open Go.RowKit Go.Maps
set_option linter.unusedSimpArgs false in
theorem same_P (d : DV) (ao bo : Option Addr) (c e : Nat) (w : World) (hl : d.drop.length <= 140737488355328) (h1 : InRow w ao d.drop) (h2 : InRow w bo d.drop) :
  Calls Tryz.prog 15 #[dval d ao c, dval d bo e] w fun e' w' => e' = .returned (.bool true) /\ Below w.heap.size w w' := by
 have hb : Below w.heap.size w ((w.alloc (.cells #[.int .i64 d.look, .int .i64 d.kind, .int .i64 d.prod, .slice ao d.drop.length c, .bool d.sd, .int .i64 d.lev] 58)).alloc (.cells #[.int .i64 d.look, .int .i64 d.kind, .int .i64 d.prod, .slice bo d.drop.length e, .bool d.sd, .int .i64 d.lev] 58)) := (below_alloc w _).trans ((below_alloc _ _).mono (below_alloc w _).size)
 have HC : Hid (Calls Tryz.prog 25 #[.slice ao d.drop.length c, .slice bo d.drop.length e] ((w.alloc (.cells #[.int .i64 d.look, .int .i64 d.kind, .int .i64 d.prod, .slice ao d.drop.length c, .bool d.sd, .int .i64 d.lev] 58)).alloc (.cells #[.int .i64 d.look, .int .i64 d.kind, .int .i64 d.prod, .slice bo d.drop.length e, .bool d.sd, .int .i64 d.lev] 58)) fun e' w' => e' = .returned (.bool true) /\ ∃ n, w' = ((w.alloc (.cells #[.int .i64 d.look, .int .i64 d.kind, .int .i64 d.prod, .slice ao d.drop.length c, .bool d.sd, .int .i64 d.lev] 58)).alloc (.cells #[.int .i64 d.look, .int .i64 d.kind, .int .i64 d.prod, .slice bo d.drop.length e, .bool d.sd, .int .i64 d.lev] 58)).drewN n) := sameints_g ao bo _ _ c e d.drop _ rfl rfl hl (h1.later hb) (h2.later hb)
 have HB : Hid (Below w.heap.size w ((w.alloc (.cells #[.int .i64 d.look, .int .i64 d.kind, .int .i64 d.prod, .slice ao d.drop.length c, .bool d.sd, .int .i64 d.lev] 58)).alloc (.cells #[.int .i64 d.look, .int .i64 d.kind, .int .i64 d.prod, .slice bo d.drop.length e, .bool d.sd, .int .i64 d.lev] 58))) := hb
 have q1 : ((w.alloc (.cells #[.int .i64 d.look, .int .i64 d.kind, .int .i64 d.prod, .slice ao d.drop.length c, .bool d.sd, .int .i64 d.lev] 58)).alloc (.cells #[.int .i64 d.look, .int .i64 d.kind, .int .i64 d.prod, .slice bo d.drop.length e, .bool d.sd, .int .i64 d.lev] 58)).heap[w.heap.size]? = some (.cells #[.int .i64 d.look, .int .i64 d.kind, .int .i64 d.prod, .slice ao d.drop.length c, .bool d.sd, .int .i64 d.lev] 58 (0, 0)) := blk_later (heap_alloc_new _ _) (below_alloc _ _)
 have q2 : ((w.alloc (.cells #[.int .i64 d.look, .int .i64 d.kind, .int .i64 d.prod, .slice ao d.drop.length c, .bool d.sd, .int .i64 d.lev] 58)).alloc (.cells #[.int .i64 d.look, .int .i64 d.kind, .int .i64 d.prod, .slice bo d.drop.length e, .bool d.sd, .int .i64 d.lev] 58)).heap[w.heap.size + 1]? = some (.cells #[.int .i64 d.look, .int .i64 d.kind, .int .i64 d.prod, .slice bo d.drop.length e, .bool d.sd, .int .i64 d.lev] 58 (0, 0)) := by have := heap_alloc_new (w.alloc (.cells #[.int .i64 d.look, .int .i64 d.kind, .int .i64 d.prod, .slice ao d.drop.length c, .bool d.sd, .int .i64 d.lev] 58)) (.cells #[.int .i64 d.look, .int .i64 d.kind, .int .i64 d.prod, .slice bo d.drop.length e, .bool d.sd, .int .i64 d.lev] 58); rwa [alZ] at this
 have a0 : ((w.alloc (.cells #[.int .i64 d.look, .int .i64 d.kind, .int .i64 d.prod, .slice ao d.drop.length c, .bool d.sd, .int .i64 d.lev] 58)).alloc (.cells #[.int .i64 d.look, .int .i64 d.kind, .int .i64 d.prod, .slice bo d.drop.length e, .bool d.sd, .int .i64 d.lev] 58)).cell? ⟨w.heap.size, 0, none⟩ = some (.int .i64 d.look) := (cellq_any q1).trans rfl
 have a1 : ((w.alloc (.cells #[.int .i64 d.look, .int .i64 d.kind, .int .i64 d.prod, .slice ao d.drop.length c, .bool d.sd, .int .i64 d.lev] 58)).alloc (.cells #[.int .i64 d.look, .int .i64 d.kind, .int .i64 d.prod, .slice bo d.drop.length e, .bool d.sd, .int .i64 d.lev] 58)).cell? ⟨w.heap.size, 1, none⟩ = some (.int .i64 d.kind) := (cellq_any q1).trans rfl
 have a2 : ((w.alloc (.cells #[.int .i64 d.look, .int .i64 d.kind, .int .i64 d.prod, .slice ao d.drop.length c, .bool d.sd, .int .i64 d.lev] 58)).alloc (.cells #[.int .i64 d.look, .int .i64 d.kind, .int .i64 d.prod, .slice bo d.drop.length e, .bool d.sd, .int .i64 d.lev] 58)).cell? ⟨w.heap.size, 2, none⟩ = some (.int .i64 d.prod) := (cellq_any q1).trans rfl
 have a3 : ((w.alloc (.cells #[.int .i64 d.look, .int .i64 d.kind, .int .i64 d.prod, .slice ao d.drop.length c, .bool d.sd, .int .i64 d.lev] 58)).alloc (.cells #[.int .i64 d.look, .int .i64 d.kind, .int .i64 d.prod, .slice bo d.drop.length e, .bool d.sd, .int .i64 d.lev] 58)).cell? ⟨w.heap.size, 3, none⟩ = some (.slice ao d.drop.length c) := (cellq_any q1).trans rfl
 have a4 : ((w.alloc (.cells #[.int .i64 d.look, .int .i64 d.kind, .int .i64 d.prod, .slice ao d.drop.length c, .bool d.sd, .int .i64 d.lev] 58)).alloc (.cells #[.int .i64 d.look, .int .i64 d.kind, .int .i64 d.prod, .slice bo d.drop.length e, .bool d.sd, .int .i64 d.lev] 58)).cell? ⟨w.heap.size, 4, none⟩ = some (.bool d.sd) := (cellq_any q1).trans rfl
 have a5 : ((w.alloc (.cells #[.int .i64 d.look, .int .i64 d.kind, .int .i64 d.prod, .slice ao d.drop.length c, .bool d.sd, .int .i64 d.lev] 58)).alloc (.cells #[.int .i64 d.look, .int .i64 d.kind, .int .i64 d.prod, .slice bo d.drop.length e, .bool d.sd, .int .i64 d.lev] 58)).cell? ⟨w.heap.size, 5, none⟩ = some (.int .i64 d.lev) := (cellq_any q1).trans rfl
 have b0 : ((w.alloc (.cells #[.int .i64 d.look, .int .i64 d.kind, .int .i64 d.prod, .slice ao d.drop.length c, .bool d.sd, .int .i64 d.lev] 58)).alloc (.cells #[.int .i64 d.look, .int .i64 d.kind, .int .i64 d.prod, .slice bo d.drop.length e, .bool d.sd, .int .i64 d.lev] 58)).cell? ⟨w.heap.size + 1, 0, none⟩ = some (.int .i64 d.look) := (cellq_any q2).trans rfl
 have b1 : ((w.alloc (.cells #[.int .i64 d.look, .int .i64 d.kind, .int .i64 d.prod, .slice ao d.drop.length c, .bool d.sd, .int .i64 d.lev] 58)).alloc (.cells #[.int .i64 d.look, .int .i64 d.kind, .int .i64 d.prod, .slice bo d.drop.length e, .bool d.sd, .int .i64 d.lev] 58)).cell? ⟨w.heap.size + 1, 1, none⟩ = some (.int .i64 d.kind) := (cellq_any q2).trans rfl
 have b2 : ((w.alloc (.cells #[.int .i64 d.look, .int .i64 d.kind, .int .i64 d.prod, .slice ao d.drop.length c, .bool d.sd, .int .i64 d.lev] 58)).alloc (.cells #[.int .i64 d.look, .int .i64 d.kind, .int .i64 d.prod, .slice bo d.drop.length e, .bool d.sd, .int .i64 d.lev] 58)).cell? ⟨w.heap.size + 1, 2, none⟩ = some (.int .i64 d.prod) := (cellq_any q2).trans rfl
 have b3 : ((w.alloc (.cells #[.int .i64 d.look, .int .i64 d.kind, .int .i64 d.prod, .slice ao d.drop.length c, .bool d.sd, .int .i64 d.lev] 58)).alloc (.cells #[.int .i64 d.look, .int .i64 d.kind, .int .i64 d.prod, .slice bo d.drop.length e, .bool d.sd, .int .i64 d.lev] 58)).cell? ⟨w.heap.size + 1, 3, none⟩ = some (.slice bo d.drop.length e) := (cellq_any q2).trans rfl
 have b4 : ((w.alloc (.cells #[.int .i64 d.look, .int .i64 d.kind, .int .i64 d.prod, .slice ao d.drop.length c, .bool d.sd, .int .i64 d.lev] 58)).alloc (.cells #[.int .i64 d.look, .int .i64 d.kind, .int .i64 d.prod, .slice bo d.drop.length e, .bool d.sd, .int .i64 d.lev] 58)).cell? ⟨w.heap.size + 1, 4, none⟩ = some (.bool d.sd) := (cellq_any q2).trans rfl
 have b5 : ((w.alloc (.cells #[.int .i64 d.look, .int .i64 d.kind, .int .i64 d.prod, .slice ao d.drop.length c, .bool d.sd, .int .i64 d.lev] 58)).alloc (.cells #[.int .i64 d.look, .int .i64 d.kind, .int .i64 d.prod, .slice bo d.drop.length e, .bool d.sd, .int .i64 d.lev] 58)).cell? ⟨w.heap.size + 1, 5, none⟩ = some (.int .i64 d.lev) := (cellq_any q2).trans rfl
 have s0 : (d.look == d.look) = true := by simp
 have s1 : (d.kind == d.kind) = true := by simp
 have s2 : (d.prod == d.prod) = true := by simp
 have s4 : (d.sd == d.sd) = true := by simp
 have s5 : (d.lev == d.lev) = true := by simp
 clear hb q1 q2 h1 h2
 go_enter Tryz.func15, Tryz.ntmps15
 go_wp2_with (go_at_call 25; refine HC.out.mono ?_; rintro e' w1 ⟨rfl, n, rfl⟩)
 go_ret
 exact ⟨rfl, below_drewN HB.out n⟩
theorem lev_neg {g : GV} (ok : OkC g) {t : Int} (ht : t < 0) : levU g.ls t = -1 := lev_none fun j hj => by
 have h0 := ok.ls j hj
 cases q : (g.ls.getD j .none).terms.contains t with
 | false => rfl
 | true =>
  exfalso
  have hm := List.contains_iff_mem.1 q
  have hq : ((g.ls.getD j .none).terms.any fun n => !inT g n) = true := by
   rw [List.any_eq_true]
   exact ⟨t, hm, by simp [inT]; omega⟩
  unfold levelU at h0
  rw [hq] at h0
  split at h0
  ·exact absurd h0 (by decide)
  ·simp at h0
set_option linter.unusedSimpArgs false in
theorem rlevel_P (g : GV) (t : Int) (w : World) (h : GAt 140737488355328 w g) :
  Calls Tryz.prog 39 #[g.val, .int .i64 t] w fun e w' => e = .returned (.int .i64 (levU g.ls t)) /\ Below w.heap.size w w' := by
 have hb := below_alloc w (gBox g)
 have HG : Hid (GAt 140737488355328 (w.alloc (gBox g)) g) := h.later hb
 have HB : Hid (Below w.heap.size w (w.alloc (gBox g))) := hb
 obtain ⟨x0, x1, x2, x3, x4⟩ := gb_cells (heap_alloc_new w (gBox g))
 have hll := h.ll
 clear hb h
 go_enter Tryz.func39, Tryz.ntmps39
 go_wp2
 generalize w.alloc (gBox g) = W at *
 go_loopw [5] (fun z wr => ∃ i : Nat, i <= g.ls.length /\ z = .int .i64 i /\ wr = W /\ Hid (∀ j, j < i -> (g.ls.getD j .none).terms.contains t = false)) (fun z _ => g.ls.length - (intOf z).toNat)
 case atStart => exact ⟨0, Nat.zero_le _, rfl, rfl, fun j hj => by omega⟩
 case round =>
  obtain ⟨i, hi, rfl, rfl, HA⟩ := hrel
  by_cases hlt : i < g.ls.length
  ·obtain ⟨lb, lo, hla, hlb, hlc⟩ := HG.out.l.cells (by intro e; rw [e] at hlt; simp at hlt)
   obtain ⟨c0, c1⟩ := hlc i hlt
   have hm : g.ls.getD i .none ∈ g.ls := mem_getD hlt
   have HR : Hid (InRow wr (g.ls.getD i .none).ta (g.ls.getD i .none).terms) := HG.out.l.rows _ hm
   have hvl := HG.out.vl _ hm
   have HIT : Hid ((g.ls.getD i .none).terms.contains t = true -> levU g.ls t = i) := fun e => lev_at hlt HA.out e
   have HST : Hid ((g.ls.getD i .none).terms.contains t = false -> ∀ j, j < i + 1 -> (g.ls.getD j .none).terms.contains t = false) := fun e j hj => by
    rcases Nat.lt_succ_iff_lt_or_eq.1 hj with r | rfl
    ·exact HA.out j r
    ·exact e
   have ilt : (i : Int) < (g.ls.length : Int) := by omega
   rw [hla] at x4
   clear hlc hm HA hla
   generalize g.ls.getD i .none = q at *
   obtain ⟨qa, ta, tc, ts⟩ := q
   simp only at c0 c1 HR hvl HIT HST
   go_wp2
   go_loopw [6] (fun z w2 => ∃ k : Nat, k <= ts.length /\ z = .int .i64 k /\ w2 = wr /\ Hid (∀ j, j < k -> t ≠ ts.getD j 0)) (fun z _ => ts.length - (intOf z).toNat)
   case atStart => exact ⟨0, Nat.zero_le _, rfl, rfl, fun j hj => by omega⟩
   case round =>
    obtain ⟨k, hk, rfl, hww, HK⟩ := hrel
    subst hww
    by_cases hkt : k < ts.length
    ·obtain ⟨rb, ro, rfl, hrb, hrc⟩ := HR.out (by intro e; subst e; simp at hkt)
     have r0 := hrc k hkt
     have klt : (k : Int) < (ts.length : Int) := by omega
     clear hrc
     by_cases hin : t = ts.getD k 0
     ·have HX : Hid (levU g.ls t = i) := HIT.out (contains_hit hkt hin)
      generalize ts.getD k 0 = n at *
      have t1 : (n == t) = true := by simpa using hin.symm
      clear hin HIT HST HK
      go_wp2
      go_ret
      exact ⟨by rw [HX.out]; rfl, HB.out⟩
     ·have HX : Hid (∀ j, j < k + 1 -> t ≠ ts.getD j 0) := fun j hj => by
       rcases Nat.lt_succ_iff_lt_or_eq.1 hj with r | rfl
       ·exact HK.out j r
       ·exact hin
      generalize ts.getD k 0 = n at *
      have t1 : (n == t) = false := by simpa using fun e => hin (Eq.symm e)
      clear hin HIT HK
      go_wp2
      go_roundw
      case rel => exact ⟨k + 1, by omega, by go_num, by first | rfl | trivial, HX.out⟩
      case measure => simp [intOf]; omega
    ·have HX : Hid (∀ j, j < i + 1 -> (g.ls.getD j .none).terms.contains t = false) := HST.out (contains_not fun j hj => HK.out j (by omega))
     have klt : ¬ (k : Int) < (ts.length : Int) := by omega
     clear HK HIT HST
     go_wp2
     go_roundw
     case rel => exact ⟨i + 1, by omega, by go_num, by first | rfl | trivial, HX.out⟩
     case measure => simp [intOf]; omega
  ·have HX : Hid (levU g.ls t = -1) := lev_none fun j hj => HA.out j (by omega)
   have ilt : ¬ (i : Int) < (g.ls.length : Int) := by omega
   clear HA
   go_wp2
   go_ret
   exact ⟨by rw [HX.out]; rfl, HB.out⟩
end Go.Proofs.YtjpknihkcndoiaaGreat
namespace Go.Proofs.YtjpknihkcndoiaaGreat
set_option linter.unusedVariables false
set_option maxRecDepth 100000
set_option maxHeartbeats 16000000
open Go.RowKit Go.Maps
set_option linter.unusedSimpArgs false in
theorem rLevelOf_P (g : GV) (t : Int) (w : World) (h : GAt 140737488355328 w g) :
  Calls Tryz.prog 68 #[g.val, .int .i64 t] w fun e w' => e = .returned (.tuple #[.int .i64 (levF g 0 t).1, .int .i64 (levF g 0 t).2]) /\ Below w.heap.size w w' := by
 have hb := below_alloc w (gBox g)
 have HC : Hid (Calls Tryz.prog 39 #[g.val, .int .i64 t] (w.alloc (gBox g)) fun e w' => e = .returned (.int .i64 (levU g.ls t)) /\ Below (w.alloc (gBox g)).heap.size (w.alloc (gBox g)) w') := rlevel_P g t _ (h.later hb)
 have HB : Hid (Below w.heap.size w (w.alloc (gBox g))) := hb
 have htl := h.tl
 clear h hb
 by_cases h0 : 0 <= t
 ·by_cases h1 : t < g.ts.length
  ·have E : Hid (levF g 0 t = (levU g.ls t, 0)) := by show _ = _; simp [levF, inT, h0, h1]
   have a1 : ¬ t < 0 := by omega
   go_enter Tryz.func68, Tryz.ntmps68
   go_wp2_with (go_at_call 39; refine HC.out.mono ?_; rintro e w1 ⟨rfl, b1'⟩; have b1 : Hid (Below w.heap.size w w1) := HB.out.trans (b1'.mono HB.out.size); clear b1')
   refine bodyPost_ret (v := .tuple #[.int .i64 (levU g.ls t), .int .i64 0]) (by simp [results, Tryz.results68, go_sem]) rfl ?_
   exact ⟨by rw [E.out], b1.out⟩
  ·have E : Hid (levF g 0 t = (0, 35)) := by show _ = _; simp [levF, inT, h1]
   have a1 : ¬ t < 0 := by omega
   go_enter Tryz.func68, Tryz.ntmps68
   go_wp2
   refine bodyPost_ret (v := .tuple #[.int .i64 0, .int .i64 35]) (by simp [results, Tryz.results68, go_sem]) rfl ?_
   exact ⟨by rw [E.out], HB.out⟩
 ·have E : Hid (levF g 0 t = (0, 35)) := by show _ = _; simp [levF, inT, h0]
  have a1 : t < 0 := by omega
  go_enter Tryz.func68, Tryz.ntmps68
  go_wp2
  refine bodyPost_ret (v := .tuple #[.int .i64 0, .int .i64 35]) (by simp [results, Tryz.results68, go_sem]) rfl ?_
  exact ⟨by rw [E.out], HB.out⟩
theorem last_take {l : List (Int × Int)} {i : Nat} (hi : i < l.length) : lastT (l.take (i + 1)) = if (l.getD i (0, 0)).1 = 1 then (l.getD i (0, 0)).2 else lastT (l.take i) := by
 rw [List.take_succ_eq_append_getElem hi, last_snoc]
 simp [List.getD, hi]
set_option linter.unusedSimpArgs false in
theorem rTerminalOf_P (g : GV) (p : Int) (w : World) (h : GAt 140737488355328 w g) :
  Calls Tryz.prog 89 #[g.val, .int .i64 p] w fun e w' => e = .returned (.tuple #[.int .i64 (terF g 0 p).1, .int .i64 (terF g 0 p).2]) /\ Below w.heap.size w w' := by
 have hb := below_alloc w (gBox g)
 have HB : Hid (Below w.heap.size w (w.alloc (gBox g))) := hb
 have hpl := h.pl
 by_cases h0 : 0 <= p
 ·by_cases h1 : p < g.ps.length
  ·obtain ⟨k, rfl⟩ : ∃ k : Nat, p = (k : Int) := ⟨p.toNat, by omega⟩
   have hk : k < g.ps.length := by omega
   have E : Hid (terF g 0 (k : Int) = (ownU (g.ps.getD k .none), 0)) := by show _ = _; simp only [terF, inP, h0, h1]; simp
   have a1 : ¬ (k : Int) < 0 := by omega
   obtain ⟨pb, po, hpa, hpb, hpc⟩ := (h.p.later hb).cells (by intro e; rw [e] at hk; simp at hk)
   obtain ⟨c0, c1, c2⟩ := hpc k hk
   have hm : g.ps.getD k .none ∈ g.ps := mem_getD hk
   have hrow := h.p.rows _ hm
   have hrl := h.rl _ hm
   obtain ⟨x0, x1, x2, x3, x4⟩ := gb_cells (heap_alloc_new w (gBox g))
   have HPA : Hid (g.pa = some ⟨pb, po, none⟩) := hpa
   clear hpc hm h
   generalize g.ps.getD k .none = q at *
   obtain ⟨ql, qa, qc, qr, qp⟩ := q
   simp only at c0 c1 c2 hrow hrl
   have b2 : Below w.heap.size w ((w.alloc (gBox g)).alloc (.cells #[.int .i64 ql, .slice qa qr.length qc, .int .i64 qp] 69)) := hb.trans ((below_alloc _ _).mono hb.size)
   have HB2 : Hid (Below w.heap.size w ((w.alloc (gBox g)).alloc (.cells #[.int .i64 ql, .slice qa qr.length qc, .int .i64 qp] 69))) := b2
   have HR : Hid (SymRow ((w.alloc (gBox g)).alloc (.cells #[.int .i64 ql, .slice qa qr.length qc, .int .i64 qp] 69)) qa qr) := hrow.later (Nat.le_refl _) b2
   have q1 := heap_alloc_new (w.alloc (gBox g)) (.cells #[.int .i64 ql, .slice qa qr.length qc, .int .i64 qp] 69)
   rw [alZ] at q1
   have d1 : ((w.alloc (gBox g)).alloc (.cells #[.int .i64 ql, .slice qa qr.length qc, .int .i64 qp] 69)).cell? ⟨w.heap.size + 1, 1, none⟩ = some (.slice qa qr.length qc) := (cellq_any q1).trans rfl
   clear hb b2 hrow q1 HPA x0 x1 x2 x3 x4
   obtain ⟨gta, gtc, gts, gna, gnc, gns, gst, gpa, gpc, gps, gla, glc, gls⟩ := g
   simp only at hpa hk h0 h1 hpl
   subst hpa
   by_cases hq : qp = -1
   ·subst hq
    have E2 : Hid (ownU ⟨ql, qa, qc, qr, -1⟩ = lastT qr) := by show _ = _; simp [ownU]
    have tp : ((-1 : Int) != -1) = false := by decide
    go_enter Tryz.func89, Tryz.ntmps89
    go_wp2
    clear c0 c1 c2
    generalize (w.alloc (gBox ⟨gta, gtc, gts, gna, gnc, gns, gst, some ⟨pb, po, none⟩, gpc, gps, gla, glc, gls⟩)).alloc (.cells #[.int .i64 ql, .slice qa qr.length qc, .int .i64 (-1)] 69) = W at *
    go_loopw [7, 8] (fun y z wr => ∃ i : Nat, i <= qr.length /\ z = .int .i64 i /\ y = .int .i64 (lastT (qr.take i)) /\ wr = W) (fun _ z _ => qr.length - (intOf z).toNat)
    case atStart => exact ⟨0, Nat.zero_le _, rfl, rfl, rfl⟩
    case round =>
     obtain ⟨i, hi, rfl, rfl, hww⟩ := hrel
     subst hww
     by_cases hlt : i < qr.length
     ·obtain ⟨rb, ro, rfl, hrb, hrc⟩ := HR.out (by intro e; subst e; simp at hlt)
      obtain ⟨r0, r1⟩ := hrc i hlt
      have HL := last_take hlt
      have ilt : (i : Int) < (qr.length : Int) := by omega
      clear hrc
      generalize qr.getD i (0, 0) = s at *
      obtain ⟨s1, s2⟩ := s
      simp only at r0 r1 HL
      by_cases hs : s1 = 1
      ·subst hs
       have HL2 : Hid (lastT (qr.take (i + 1)) = s2) := by show _ = _; rw [HL, if_pos rfl]
       clear HL
       go_wp2
       go_roundw
       case rel => exact ⟨i + 1, by omega, by go_num, by rw [HL2.out], by first | rfl | trivial⟩
       case measure => simp [intOf]; omega
      ·have HL2 : Hid (lastT (qr.take (i + 1)) = lastT (qr.take i)) := by show _ = _; rw [HL, if_neg hs]
       have ts : (s1 == 1) = false := by simpa using hs
       clear HL
       go_wp2
       go_roundw
       case rel => exact ⟨i + 1, by omega, by go_num, by rw [HL2.out], by first | rfl | trivial⟩
       case measure => simp [intOf]; omega
     ·have ilt : ¬ (i : Int) < (qr.length : Int) := by omega
      have e : qr.take i = qr := List.take_of_length_le (by omega)
      rw [e]
      go_wp2
      refine bodyPost_ret (v := .tuple #[.int .i64 (lastT qr), .int .i64 0]) (by simp [results, Tryz.results89, go_sem]) rfl ?_
      exact ⟨by rw [E.out, E2.out], HB2.out⟩
   ·have E2 : Hid (ownU ⟨ql, qa, qc, qr, qp⟩ = qp) := by show _ = _; unfold ownU; rw [if_pos hq]
    have tp : (qp != -1) = true := by simpa using hq
    go_enter Tryz.func89, Tryz.ntmps89
    go_wp2
    refine bodyPost_ret (v := .tuple #[.int .i64 qp, .int .i64 0]) (by simp [results, Tryz.results89, go_sem]) rfl ?_
    exact ⟨by rw [E.out, E2.out], HB2.out⟩
  ·have E : Hid (terF g 0 p = (0, 4)) := by show _ = _; simp [terF, inP, h1]
   have a1 : ¬ p < 0 := by omega
   clear h hb
   go_enter Tryz.func89, Tryz.ntmps89
   go_wp2
   refine bodyPost_ret (v := .tuple #[.int .i64 0, .int .i64 4]) (by simp [results, Tryz.results89, go_sem]) rfl ?_
   exact ⟨by rw [E.out], HB.out⟩
 ·have E : Hid (terF g 0 p = (0, 4)) := by show _ = _; simp [terF, inP, h0]
  have a1 : p < 0 := by omega
  clear h hb
  go_enter Tryz.func89, Tryz.ntmps89
  go_wp2
  refine bodyPost_ret (v := .tuple #[.int .i64 0, .int .i64 4]) (by simp [results, Tryz.results89, go_sem]) rfl ?_
  exact ⟨by rw [E.out], HB.out⟩
set_option linter.unusedSimpArgs false in
theorem rProdLevel_P (g : GV) (p : Int) (w : World) (h : GAt 140737488355328 w g) (ok : OkC g) :
  Calls Tryz.prog 67 #[g.val, .int .i64 p] w fun e w' => e = .returned (.tuple #[.int .i64 (prlF g 0 p).1, .int .i64 (prlF g 0 p).2]) /\ Below w.heap.size w w' := by
 have X0 : Hid ((w.alloc (gBox g)).heap[w.heap.size]? = some (gBox g) /\ Below w.heap.size w (w.alloc (gBox g))) := ⟨heap_alloc_new _ _, below_alloc _ _⟩
 have TO : Hid (∀ w', Below w.heap.size w w' -> Calls Tryz.prog 89 #[g.val, .int .i64 p] w' fun e w'' => e = .returned (.tuple #[.int .i64 (terF g 0 p).1, .int .i64 (terF g 0 p).2]) /\ Below w'.heap.size w' w'') := fun w' hb => rTerminalOf_P g p w' (h.later hb)
 have HT : Hid (∀ w', Below w.heap.size w w' -> GAt 140737488355328 w' g) := fun w' hb => h.later hb
 have E : Hid (prlF g 0 p = if (terF g 0 p).2 ≠ 0 then (0, (terF g 0 p).2) else (levU g.ls (terF g 0 p).1, 0)) := rfl
 have HN : Hid ((terF g 0 p).1 < 0 -> levU g.ls (terF g 0 p).1 = -1) := fun e => lev_neg ok e
 clear h ok
 generalize terF g 0 p = r at *
 obtain ⟨r1, r2⟩ := r
 simp only at TO E HN
 by_cases h0 : r2 = 0
 ·subst h0
  have t1 : ((0 : Int) != 0) = false := by decide
  by_cases hn : r1 < 0
  ·have E2 : Hid (prlF g 0 p = (-1, 0)) := by show _ = _; rw [E.out, if_neg (by simp), HN.out hn]
   clear E HN
   go_enter Tryz.func67, Tryz.ntmps67
   go_wp2_with (go_at_call 89; refine (TO.out _ X0.out.2).mono ?_; rintro e w1 ⟨rfl, b1⟩; have X1 : Hid (Below w.heap.size w w1) := X0.out.2.trans (b1.mono X0.out.2.size); clear b1)
   refine bodyPost_ret (v := .tuple #[.int .i64 (-1), .int .i64 0]) (by simp [results, Tryz.results67, go_sem]) rfl ?_
   exact ⟨by rw [E2.out], X1.out⟩
  ·have E2 : Hid (prlF g 0 p = (levU g.ls r1, 0)) := by show _ = _; rw [E.out, if_neg (by simp)]
   clear E HN
   go_enter Tryz.func67, Tryz.ntmps67
   go_wp2_with (first
    | (go_at_call 89; refine (TO.out _ X0.out.2).mono ?_; rintro e w1 ⟨rfl, b1⟩; have X1 : Hid (w1.heap[w.heap.size]? = some (gBox g) /\ Below w.heap.size w w1) := ⟨blk_later X0.out.1 b1, X0.out.2.trans (b1.mono X0.out.2.size)⟩; clear b1; obtain ⟨y0, y1, y2, y3, y4⟩ := gb_cells X1.out.1)
    | (go_at_call 39; refine (rlevel_P g r1 _ (HT.out _ X1.out.2)).mono ?_; rintro e w3 ⟨rfl, b3⟩; have X3 : Hid (Below w.heap.size w w3) := X1.out.2.trans (b3.mono X1.out.2.size); clear b3))
   refine bodyPost_ret (v := .tuple #[.int .i64 (levU g.ls r1), .int .i64 0]) (by simp [results, Tryz.results67, go_sem]) rfl ?_
   exact ⟨by rw [E2.out], X3.out⟩
 ·have t1 : (r2 != 0) = true := by simpa using h0
  have E2 : Hid (prlF g 0 p = (0, r2)) := by show _ = _; rw [E.out, if_pos h0]
  clear E HN
  go_enter Tryz.func67, Tryz.ntmps67
  go_wp2_with (go_at_call 89; refine (TO.out _ X0.out.2).mono ?_; rintro e w1 ⟨rfl, b1⟩; have X1 : Hid (Below w.heap.size w w1) := X0.out.2.trans (b1.mono X0.out.2.size); clear b1)
  refine bodyPost_ret (v := .tuple #[.int .i64 0, .int .i64 r2]) (by simp [results, Tryz.results67, go_sem]) rfl ?_
  exact ⟨by rw [E2.out], X1.out⟩
end Go.Proofs.YtjpknihkcndoiaaGreat
