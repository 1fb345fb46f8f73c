import Derived.Test.YtmkakdfdfdcncaaGreatDoorPGQ1ToGQ3
import Derived.Test.YtmkakdfdfdcncaaGreatDoorPGDec12ToGDec14
import Derived.Test.YtmkakdfdfdcncaaGreatDoorPGG0ToGG2
import Derived.Test.YtmkakdfdfdcncaaGreatDoorPRegX
namespace Go.Proofs.YtmkakdfdfdcncaaGreatDoor
set_option linter.unusedVariables false
set_option maxRecDepth 100000
set_option maxHeartbeats 16000000
open Go.RowKit
structure Fr (W wr : World) (bg r n : Nat) : Prop where
 os : wr.os = W.os
 tape : wr.tape = W.tape
 output : wr.output = W.output
 size : W.heap.size <= wr.heap.size
 blk : ∀ k, k < n -> k ≠ bg -> k ≠ r -> wr.heap[k]? = W.heap[k]?
section
variable {W wr w' : World} {bg r n : Nat}
theorem Fr.refl (W : World) (bg r n : Nat) : Fr W W bg r n := ⟨rfl, rfl, rfl, Nat.le_refl _, fun _ _ _ _ => rfl⟩
theorem Fr.ronly (h : Fr W wr bg r n) (ho : C.ROnly wr w' r) (hn : n <= wr.heap.size) : Fr W w' bg r n :=
 ⟨ho.os.trans h.os, ho.tape.trans h.tape, ho.output.trans h.output, Nat.le_trans h.size ho.size, fun k h1 h2 h3 => (ho.block k (by omega) h3).trans (h.blk k h1 h2 h3)⟩
theorem Fr.below (h : Fr W wr bg r n) (hb : Below bg wr w') (hk : ∀ k, bg < k -> k < n -> w'.heap[k]? = wr.heap[k]?) : Fr W w' bg r n :=
 ⟨hb.os.trans h.os, hb.tape.trans h.tape, hb.output.trans h.output, Nat.le_trans h.size hb.size, fun k h1 h2 h3 => (by
  by_cases hc : k < bg
  ·exact hb.block k hc
  ·exact hk k (by omega) h1 : w'.heap[k]? = wr.heap[k]?).trans (h.blk k h1 h2 h3)⟩
end
theorem PO.len {B : Nat} {w : World} {v : Value} {l : List PV} (h : PO B w v l) : ∃ a c, v = .slice a l.length c := h.row.len
theorem LO.len {B : Nat} {w : World} {v : Value} {l : List LV} (h : LO B w v l) : ∃ a c, v = .slice a l.length c := h.row.len
theorem grown_bel {B : Nat} {w w' : World} {v v' : Value} (hg : Grew w w' v v') (hB : B <= w.heap.size) (hv : ∀ k, v.ownBlock = some k -> B <= k) : Below B w w' := (Below.refl _ _).grown hg.grown hB hv
theorem box_cells {w : World} {b : Nat} {x0 x1 x2 x3 x4 : Value} {t : TypeId} (h : w.heap[b]? = some (.cells #[x0, x1, x2, x3, x4] t (0, 0))) : w.cell? ⟨b, 0, none⟩ = some x0 /\ w.cell? ⟨b, 1, none⟩ = some x1 /\ w.cell? ⟨b, 2, none⟩ = some x2 /\ w.cell? ⟨b, 3, none⟩ = some x3 /\ w.cell? ⟨b, 4, none⟩ = some x4 /\ w.frozen? ⟨b, 3, none⟩ = false /\ w.frozen? ⟨b, 4, none⟩ = false :=
 ⟨(cellq_any h).trans rfl, (cellq_any h).trans rfl, (cellq_any h).trans rfl, (cellq_any h).trans rfl, (cellq_any h).trans rfl, by unfold World.frozen?; rw [h]; rfl, by unfold World.frozen?; rw [h]; rfl⟩
theorem run_qint {o : Oper} {a : Act} {t0 t1 : TypeId} {v0 v1 : Value} {x0 x1 : Operand} (hop : o.op = Op.call { callee := Callee.value (Operand.func 164), args := #[x0, x1], argTypes := #[t0, t1] }) (h0 : a.eval x0 = v0) (h1 : a.eval x1 = v1) (w : World) : (execOp a.eval o).run Tryz.prog w = .ok (.enter 164 #[v0, v1]) w := by
 have hf : a.eval (Operand.func 164) = .func (.func 164) #[] #[] := rfl
 simp [execOp, hop, resolve, invoke, h0, h1, hf, Deferred.ofValue]
theorem run_qsg {o : Oper} {a : Act} {t0 t1 : TypeId} {v0 v1 : Value} {x0 x1 : Operand} (hop : o.op = Op.call { callee := Callee.value (Operand.func 167), args := #[x0, x1], argTypes := #[t0, t1] }) (h0 : a.eval x0 = v0) (h1 : a.eval x1 = v1) (w : World) : (execOp a.eval o).run Tryz.prog w = .ok (.enter 167 #[v0, v1]) w := by
 have hf : a.eval (Operand.func 167) = .func (.func 167) #[] #[] := rfl
 simp [execOp, hop, resolve, invoke, h0, h1, hf, Deferred.ofValue]
theorem run_qsyms {o : Oper} {a : Act} {t0 : TypeId} {v0 : Value} {x0 : Operand} (hop : o.op = Op.call { callee := Callee.value (Operand.func 166), args := #[x0], argTypes := #[t0] }) (h0 : a.eval x0 = v0) (w : World) : (execOp a.eval o).run Tryz.prog w = .ok (.enter 166 #[v0]) w := by
 have hf : a.eval (Operand.func 166) = .func (.func 166) #[] #[] := rfl
 simp [execOp, hop, resolve, invoke, h0, hf, Deferred.ofValue]
theorem run_qints {o : Oper} {a : Act} {t0 : TypeId} {v0 : Value} {x0 : Operand} (hop : o.op = Op.call { callee := Callee.value (Operand.func 168), args := #[x0], argTypes := #[t0] }) (h0 : a.eval x0 = v0) (w : World) : (execOp a.eval o).run Tryz.prog w = .ok (.enter 168 #[v0]) w := by
 have hf : a.eval (Operand.func 168) = .func (.func 168) #[] #[] := rfl
 simp [execOp, hop, resolve, invoke, h0, hf, Deferred.ofValue]
theorem qgram {u0 : World} {r : Nat} {ao : Option Addr} {cap : Nat} {zs : List Int} {pos : Nat} {err : Int} (h : C.QInv u0 r ao cap zs pos err) (hcap : zs.length <= cap) (hg : ∀ b off, ao = some ⟨b, off, none⟩ -> zs ≠ [] -> b < u0.heap.size) (hz : zs.length <= 16777216) (gc : GC) (P : Nat) (E : Int) (hL : grQ zs pos err = (gc, P, E)) :
  Calls Tryz.prog 85 #[.pointer (some ⟨r, 0, none⟩)] u0 fun e w' => ∃ g', e = .returned g'.val /\ g'.core = gc /\ DG u0.heap.size w' g' /\ C.QInv w' r ao cap zs P E /\ C.ROnly u0 w' r := by
 obtain ⟨gt, p1, i1, ha⟩ : ∃ gt p1 e1, liQ zs (txS zs) pos err = (gt, p1, e1) := ⟨_, _, _, rfl⟩
 obtain ⟨gn, p2, i2, hb⟩ : ∃ gn p2 e2, liQ zs (txS zs) p1 i1 = (gn, p2, e2) := ⟨_, _, _, rfl⟩
 obtain ⟨gs, p3, i3, hc⟩ : ∃ gs p3 e3, itS zs p2 i2 = (gs, p3, e3) := ⟨_, _, _, rfl⟩
 obtain ⟨gp, p4, i4, hd⟩ : ∃ gp p4 e4, liQ zs (prQ zs) p3 i3 = (gp, p4, e4) := ⟨_, _, _, rfl⟩
 obtain ⟨gl, p5, i5, he⟩ : ∃ gl p5 e5, liQ zs (lvQ zs) p4 i4 = (gl, p5, e5) := ⟨_, _, _, rfl⟩
 rw [grQ, bdS, ha] at hL
 simp only [bdS, hb, hc, hd, he, Prod.mk.injEq] at hL
 obtain ⟨rfl, rfl, rfl⟩ := hL
 have HS : Hid (liQ zs (txS zs) pos err = (gt, p1, i1) /\ liQ zs (txS zs) p1 i1 = (gn, p2, i2) /\ itS zs p2 i2 = (gs, p3, i3) /\ liQ zs (prQ zs) p3 i3 = (gp, p4, i4) /\ liQ zs (lvQ zs) p4 i4 = (gl, p5, i5)) := ⟨ha, hb, hc, hd, he⟩
 have HZ : Hid (zs.length <= 16777216 /\ zs.length <= cap) := ⟨hz, hcap⟩
 have hlt : r < u0.heap.size := lt_of_block h.hq
 have HG : Hid (∀ w' : World, u0.heap.size <= w'.heap.size -> ∀ b off, ao = some ⟨b, off, none⟩ -> zs ≠ [] -> b < w'.heap.size) := fun w' hw b off eb hn => Nat.lt_of_lt_of_le (hg b off eb hn) hw
 have HGB : Hid (∀ b off, ao = some ⟨b, off, none⟩ -> zs ≠ [] -> b < u0.heap.size) := hg
 have HC : Hid (C.QInv (u0.alloc (.cells #[.slice none 0 0, .slice none 0 0, .int .i64 0, .slice none 0 0, .slice none 0 0] 26)) r ao cap zs pos err) := h.later (below_alloc _ _)
 have HO : Hid (C.ROnly u0 (u0.alloc (.cells #[.slice none 0 0, .slice none 0 0, .int .i64 0, .slice none 0 0, .slice none 0 0] 26)) r) := C.ROnly.ofBelow (below_alloc _ _)
 have hb0 : Hid ((u0.alloc (.cells #[.slice none 0 0, .slice none 0 0, .int .i64 0, .slice none 0 0, .slice none 0 0] 26)).heap[u0.heap.size]? = some (.cells #[.slice none 0 0, .slice none 0 0, .int .i64 0, .slice none 0 0, .slice none 0 0] 26)) := heap_alloc_new u0 _
 have GD : Hid True := trivial
 have GC1 : Hid True := trivial
 have GC2 : Hid True := trivial
 obtain ⟨n4, q4, j4, hn4⟩ : ∃ n p e, ctS zs p3 i3 = (n, p, e) := ⟨_, _, _, rfl⟩
 have HN4 : Hid (ctS zs p3 i3 = (n4, q4, j4)) := hn4
 have HL4 : Hid (lsQ (prQ zs) n4 q4 j4 = (gp, p4, i4)) := by show _ = _; rw [liQ, hn4] at hd; exact hd
 obtain ⟨n5, q5, j5, hn5⟩ : ∃ n p e, ctS zs p4 i4 = (n, p, e) := ⟨_, _, _, rfl⟩
 have HN5 : Hid (ctS zs p4 i4 = (n5, q5, j5)) := hn5
 have HL5 : Hid (lsQ (lvQ zs) n5 q5 j5 = (gl, p5, i5)) := by show _ = _; rw [liQ, hn5] at he; exact he
 have hb1' := h.row.1
 have hp1 : p1 <= zs.length := by have := ((rq_li hb1' (rd_tx hb1') (Rq.refl zs (txS zs))).snd pos err h.pos_); have q := ((rd_li hb1' (rd_tx hb1')).mono pos err h.pos_).2; rw [<- this, ha] at q; exact q
 have hp2 : p2 <= zs.length := by have := ((rq_li hb1' (rd_tx hb1') (Rq.refl zs (txS zs))).snd p1 i1 hp1); have q := ((rd_li hb1' (rd_tx hb1')).mono p1 i1 hp1).2; rw [<- this, hb] at q; exact q
 have hp3 : p3 <= zs.length := by have q := ((rd_in hb1').mono p2 i2 hp2).2; rw [hc] at q; exact q
 have hp4 : p4 <= zs.length := by
  have i := rd_in hb1'
  have y := rd_li hb1' (rd_sy hb1')
  have qp : Rq zs (prS zs) (prQ zs) := rq_bd i (rd_bd y (rd_sg hb1')) (Rq.refl _ _) (rq_bd y (rd_sg hb1') (rq_li hb1' (rd_sy hb1') (Rq.refl zs (syS zs))) (Rq.refl _ _))
  have := ((rq_li hb1' (rd_pr hb1') qp).snd p3 i3 hp3)
  have q := ((rd_li hb1' (rd_pr hb1')).mono p3 i3 hp3).2
  rw [<- this, hd] at q; exact q
 have hm4 : n4 <= zs.length := by have := ct_le hb1' p3 i3 hp3; rw [hn4] at this; exact this
 have hm5 : n5 <= zs.length := by have := ct_le hb1' p4 i4 hp4; rw [hn5] at this; exact this
 have hm4' : n4 <= 16777216 := by omega
 have hm5' : n5 <= 16777216 := by omega
 clear hn4 hn5 hb1' hp1 hp2 hp3 hp4 hm4 hm5
 clear h ha hb hc hd he hz hcap hg
 go_enter Tryz.func85, Tryz.ntmps85
 go_wp2_with (first
  | (go_at_call 163; guard_hyp GD : Hid True; refine (ql_str HC.out HZ.out.2 (HG.out _ (below_alloc _ _).size) HZ.out.1 gt p1 i1 HS.out.1).mono ?_; rintro e w1 ⟨ta, tc, rfl, s', v', h', o'⟩; have h1 : Hid (C.QInv w1 r ao cap zs p1 i1) := h'; have o1 : Hid (C.ROnly u0 w1 r) := HO.out.trans o'; have T1 : Hid (GS w1 (.slice ta gt.length tc) gt /\ ∀ k, (Value.slice ta gt.length tc).ownBlock = some k -> (u0.alloc (.cells #[.slice none 0 0, .slice none 0 0, .int .i64 0, .slice none 0 0, .slice none 0 0] 26)).heap.size <= k) := ⟨s', v'⟩; have R1 : Hid (w1.heap[u0.heap.size]? = some (.cells #[.slice none 0 0, .slice none 0 0, .int .i64 0, .slice none 0 0, .slice none 0 0] 26)) := (o'.block _ (lt_of_block hb0.out) (by omega)).trans hb0.out; clear GD h' o' s' v')
  | (go_at_call 163; refine (ql_str h1.out HZ.out.2 (HG.out _ o1.out.size) HZ.out.1 gn p2 i2 HS.out.2.1).mono ?_; rintro e w2 ⟨na, nc, rfl, s', v', h', o'⟩; have h2 : Hid (C.QInv w2 r ao cap zs p2 i2) := h'; have o2 : Hid (C.ROnly u0 w2 r) := o1.out.trans o'; have T2 : Hid (GS w2 (.slice ta gt.length tc) gt) := T1.out.1.kept (fun k hk => o'.block k (T1.out.1.lt k hk) (fun e => by have := T1.out.2 k hk; have := (below_alloc u0 (.cells #[.slice none 0 0, .slice none 0 0, .int .i64 0, .slice none 0 0, .slice none 0 0] 26)).size; omega)); have N2 : Hid (GS w2 (.slice na gn.length nc) gn /\ ∀ k, (Value.slice na gn.length nc).ownBlock = some k -> w1.heap.size <= k) := ⟨s', v'⟩; have R2 : Hid (w2.heap[u0.heap.size]? = some (.cells #[.slice none 0 0, .slice none 0 0, .int .i64 0, .slice none 0 0, .slice none 0 0] 26)) := (o'.block _ (lt_of_block R1.out) (by omega)).trans R1.out; have Z2 : Hid (w1.heap.size <= w2.heap.size) := o'.size; clear h' o' s' v')
  | (go_at_call 164; refine (qit h2.out gs p3 i3 HS.out.2.2.1).mono ?_; rintro e w3 ⟨rfl, h', o'⟩; have h3 : Hid (C.QInv w3 r ao cap zs p3 i3) := h'; have o3 : Hid (C.ROnly u0 w3 r) := o2.out.trans o'; have T3 : Hid (GS w3 (.slice ta gt.length tc) gt) := T2.out.kept (fun k hk => o'.block k (T2.out.lt k hk) (fun e => by have := T1.out.2 k hk; have := (below_alloc u0 (.cells #[.slice none 0 0, .slice none 0 0, .int .i64 0, .slice none 0 0, .slice none 0 0] 26)).size; omega)); have N3 : Hid (GS w3 (.slice na gn.length nc) gn) := N2.out.1.kept (fun k hk => o'.block k (N2.out.1.lt k hk) (fun e => by have := N2.out.2 k hk; have := o1.out.size; omega)); have R3 : Hid (w3.heap[u0.heap.size]? = some (.cells #[.slice none 0 0, .slice none 0 0, .int .i64 0, .slice none 0 0, .slice none 0 0] 26)) := (o'.block _ (lt_of_block R2.out) (by omega)).trans R2.out; clear h' o')
  | (go_at_call 165; guard_hyp GC1 : Hid True; refine (qct (h3.out.later (below_alloc _ _)) n4 q4 j4 HN4.out).mono ?_; rintro e w4 ⟨rfl, h', o'⟩; have h4 : Hid (C.QInv w4 r ao cap zs q4 j4) := h'; have O4 : Hid (C.ROnly (w3.alloc (.cells #[.slice ta gt.length tc, .slice na gn.length nc, .int .i64 gs, .slice none 0 0, .slice none 0 0] 26)) w4 r) := o'; clear GC1 h' o'))
 have HZW : Hid (u0.heap.size <= w3.heap.size) := o3.out.size
 have HRW : Hid (r < w3.heap.size) := by have := o3.out.size; show _ < _; omega
 have HSL : Hid (u0.heap.size < w3.heap.size) := lt_of_block R3.out
 have HLW : Hid (r < u0.heap.size) := hlt
 have RW : Hid ((w3.alloc (.cells #[.slice ta gt.length tc, .slice na gn.length nc, .int .i64 gs, .slice none 0 0, .slice none 0 0] 26)).heap[u0.heap.size]? = some (.cells #[.slice none 0 0, .slice none 0 0, .int .i64 0, .slice none 0 0, .slice none 0 0] 26)) := ((below_alloc w3 _).block _ (lt_of_block R3.out)).trans R3.out
 have HGS : Hid (∀ w' : World, u0.heap.size <= w'.heap.size -> ∀ b off, ao = some ⟨b, off, none⟩ -> zs ≠ [] -> b < w'.heap.size) := fun w' hw => HG.out w' hw
 go_loopw [4] (fun z wr => ∃ (m : Nat) (K : List PV) (p : Nat) (e : Int) (pa : Option Addr) (pc : Nat), z = .int .i64 m /\ K.length + m = n4 /\ wr.heap[w3.heap.size]? = some (.cells #[.slice ta gt.length tc, .slice na gn.length nc, .int .i64 gs, .slice pa K.length pc, .slice none 0 0] 26 (0, 0)) /\ PO (w3.heap.size + 1) wr (.slice pa K.length pc) K /\ C.QInv wr r ao cap zs p e /\ Fr (w3.alloc (.cells #[.slice ta gt.length tc, .slice na gn.length nc, .int .i64 gs, .slice none 0 0, .slice none 0 0] 26)) wr w3.heap.size r (w3.heap.size + 1) /\ (K.map PV.core ++ (lsQ (prQ zs) m p e).1, (lsQ (prQ zs) m p e).2) = (gp, p4, i4)) (fun z _ => (intOf z).toNat)
 case atStart => exact ⟨n4, [], q4, j4, none, 0, rfl, by simp, (O4.out.block _ (lt_of_block (heap_alloc_new w3 (.cells #[.slice ta gt.length tc, .slice na gn.length nc, .int .i64 gs, .slice none 0 0, .slice none 0 0] 26))) (by have := HRW.out; omega)).trans (heap_alloc_new w3 (.cells #[.slice ta gt.length tc, .slice na gn.length nc, .int .i64 gs, .slice none 0 0, .slice none 0 0] 26)), PO.nil _ _, h4.out, (Fr.refl _ _ _ _).ronly O4.out (by simp), HL4.out⟩
 case round =>
  clear h4
  obtain ⟨m, K, p, e, pa, pc, rfl, hKm, hB', hS', hR', hF0, hF'⟩ := hrel
  have HB : Hid (wr.heap[w3.heap.size]? = some (.cells #[.slice ta gt.length tc, .slice na gn.length nc, .int .i64 gs, .slice pa K.length pc, .slice none 0 0] 26 (0, 0))) := hB'
  have HS_ : Hid (PO (w3.heap.size + 1) wr (.slice pa K.length pc) K) := hS'
  have HR : Hid (C.QInv wr r ao cap zs p e) := hR'
  have HFr : Hid (Fr (w3.alloc (.cells #[.slice ta gt.length tc, .slice na gn.length nc, .int .i64 gs, .slice none 0 0, .slice none 0 0] 26)) wr w3.heap.size r (w3.heap.size + 1)) := hF0
  have HF : Hid ((K.map PV.core ++ (lsQ (prQ zs) m p e).1, (lsQ (prQ zs) m p e).2) = (gp, p4, i4)) := hF'
  have HTL : Hid (K.length <= 100000000) := by show _ <= _; omega
  have k2 := hR'.c2
  have c3 := (box_cells hB').2.2.2.1
  have hw3 := lt_of_block hB'
  have HSZ : Hid (w3.heap.size + 1 <= wr.heap.size) := hw3
  have hzw := HZW.out
  have HSW : Hid (u0.heap.size <= wr.heap.size) := by show _ <= _; omega
  have hrw : r < w3.heap.size := HRW.out
  clear hB' hS' hR' hF0 hF'
  by_cases hend : m = 0 ∨ e ≠ 0
  ·obtain ⟨eK, eP, eE⟩ := lsQ_end HF.out hend
   subst eP
   subst eE
   by_cases hm : m = 0
   ·subst hm
    clear hend
    go_wp2_with (go_at_call 165; refine (qct HR.out n5 q5 j5 HN5.out).mono ?_; rintro e w5 ⟨rfl, h', o'⟩; have h5 : Hid (C.QInv w5 r ao cap zs q5 j5) := h'; have O5 : Hid (C.ROnly wr w5 r) := o'; clear h' o')
    have P5K : Hid (K.map PV.core = gp /\ PO (w3.heap.size + 1) w5 (.slice pa K.length pc) K) := ⟨eK, HS_.out.kept fun j hj hjs => O5.out.block j hjs (by omega)⟩
    have B5 : Hid (w5.heap[w3.heap.size]? = some (.cells #[.slice ta gt.length tc, .slice na gn.length nc, .int .i64 gs, .slice pa K.length pc, .slice none 0 0] 26 (0, 0))) := (O5.out.block _ (lt_of_block HB.out) (by omega)).trans HB.out
    have HF5 : Hid (Fr (w3.alloc (.cells #[.slice ta gt.length tc, .slice na gn.length nc, .int .i64 gs, .slice none 0 0, .slice none 0 0] 26)) w5 w3.heap.size r (w3.heap.size + 1)) := HFr.out.ronly O5.out HSZ.out
    have HSW5 : Hid (w3.heap.size < w5.heap.size) := lt_of_block B5.out
    clear HB HS_ HR HFr HF HTL k2 c3 hw3 HSZ HSW O5 eK
    go_loopw [5] (fun z wr => ∃ (m : Nat) (M : List LV) (p : Nat) (e : Int) (la : Option Addr) (lc : Nat), z = .int .i64 m /\ M.length + m = n5 /\ wr.heap[w3.heap.size]? = some (.cells #[.slice ta gt.length tc, .slice na gn.length nc, .int .i64 gs, .slice pa K.length pc, .slice la M.length lc] 26 (0, 0)) /\ LO w5.heap.size wr (.slice la M.length lc) M /\ C.QInv wr r ao cap zs p e /\ Fr w5 wr w3.heap.size r w5.heap.size /\ (M.map LV.core ++ (lsQ (lvQ zs) m p e).1, (lsQ (lvQ zs) m p e).2) = (gl, p5, i5)) (fun z _ => (intOf z).toNat)
    case atStart => exact ⟨n5, [], q5, j5, none, 0, rfl, by simp, B5.out, LO.nil _ _, h5.out, Fr.refl _ _ _ _, HL5.out⟩
    case round =>
     clear h5
     obtain ⟨m, M, p, e, la, lc, rfl, hKm, hB', hS', hR', hF0, hF'⟩ := hrel
     have HB : Hid (wr.heap[w3.heap.size]? = some (.cells #[.slice ta gt.length tc, .slice na gn.length nc, .int .i64 gs, .slice pa K.length pc, .slice la M.length lc] 26 (0, 0))) := hB'
     have HS_ : Hid (LO w5.heap.size wr (.slice la M.length lc) M) := hS'
     have HR : Hid (C.QInv wr r ao cap zs p e) := hR'
     have HFr : Hid (Fr w5 wr w3.heap.size r w5.heap.size) := hF0
     have HF : Hid ((M.map LV.core ++ (lsQ (lvQ zs) m p e).1, (lsQ (lvQ zs) m p e).2) = (gl, p5, i5)) := hF'
     have HTL : Hid (M.length <= 100000000) := by show _ <= _; omega
     have k2 := hR'.c2
     have c4 := (box_cells hB').2.2.2.2.1
     have hw5 := hF0.size
     have hsw5 := HSW5.out
     have HSZ : Hid (w5.heap.size <= wr.heap.size) := hw5
     have HSW : Hid (u0.heap.size <= wr.heap.size) := by show _ <= _; omega
     clear hB' hS' hR' hF0 hF'
     by_cases hend : m = 0 ∨ e ≠ 0
     ·obtain ⟨eK, eP, eE⟩ := lsQ_end HF.out hend
      have HEQ : Hid (M.map LV.core = gl /\ p = p5 /\ e = i5) := ⟨eK, eP, eE⟩
      clear eK eP eE
      by_cases hm : m = 0
      ·subst hm
       have hK5 := P5K.out
       have hsl := HSL.out
       have hsw5' := HSW5.out
       have hlw := HLW.out
       have R9 : wr.heap[u0.heap.size]? = some (.cells #[.slice none 0 0, .slice none 0 0, .int .i64 0, .slice none 0 0, .slice none 0 0] 26) := (HFr.out.blk _ (by have := HSW5.out; omega) (by omega) (by have := HLW.out; omega)).trans ((HF5.out.blk _ (by omega) (by omega) (by have := HLW.out; omega)).trans RW.out)
       obtain ⟨g0, g1, g2, g3, g4, -, -⟩ := box_cells HB.out
       obtain ⟨z0, z1, z2, z3, z4, -, -⟩ := box_cells R9
       have y0 : wr.frozen? ⟨u0.heap.size, 0, none⟩ = false := by unfold World.frozen?; rw [R9]; rfl
       have y1 : wr.frozen? ⟨u0.heap.size, 1, none⟩ = false := by unfold World.frozen?; rw [R9]; rfl
       have y2 : wr.frozen? ⟨u0.heap.size, 2, none⟩ = false := by unfold World.frozen?; rw [R9]; rfl
       have y3 : wr.frozen? ⟨u0.heap.size, 3, none⟩ = false := by unfold World.frozen?; rw [R9]; rfl
       have y4 : wr.frozen? ⟨u0.heap.size, 4, none⟩ = false := by unfold World.frozen?; rw [R9]; rfl
       have hzs := lt_of_block R9
       clear R9
       go_wp2
       have hb9 : Below u0.heap.size wr (((((wr.setCell ⟨u0.heap.size, 0, none⟩ (.slice ta gt.length tc)).setCell ⟨u0.heap.size, 1, none⟩ (.slice na gn.length nc)).setCell ⟨u0.heap.size, 2, none⟩ (.int .i64 gs)).setCell ⟨u0.heap.size, 3, none⟩ (.slice pa K.length pc)).setCell ⟨u0.heap.size, 4, none⟩ (.slice la M.length lc)) := ((((own_set _ _ _ (Nat.le_refl _)).trans (own_set _ _ _ (Nat.le_refl _))).trans (own_set _ _ _ (Nat.le_refl _))).trans (own_set _ _ _ (Nat.le_refl _))).trans (own_set _ _ _ (Nat.le_refl _))
       have hk9 : ∀ k, k ≠ u0.heap.size -> (((((wr.setCell ⟨u0.heap.size, 0, none⟩ (.slice ta gt.length tc)).setCell ⟨u0.heap.size, 1, none⟩ (.slice na gn.length nc)).setCell ⟨u0.heap.size, 2, none⟩ (.int .i64 gs)).setCell ⟨u0.heap.size, 3, none⟩ (.slice pa K.length pc)).setCell ⟨u0.heap.size, 4, none⟩ (.slice la M.length lc)).heap[k]? = wr.heap[k]? := fun k hne => by
        rw [Below.heap_setCell _ _ _ _ hne, Below.heap_setCell _ _ _ _ hne, Below.heap_setCell _ _ _ _ hne, Below.heap_setCell _ _ _ _ hne, Below.heap_setCell _ _ _ _ hne]
       have hkk : ∀ k, u0.heap.size < k -> k < w3.heap.size -> wr.heap[k]? = (w3.alloc (.cells #[.slice ta gt.length tc, .slice na gn.length nc, .int .i64 gs, .slice none 0 0, .slice none 0 0] 26)).heap[k]? := fun k h1 h2 => (HFr.out.blk k (by have := HSW5.out; omega) (by omega) (by omega)).trans (HF5.out.blk k (by omega) (by omega) (by omega))
       have e1 : (u0.alloc (.cells #[.slice none 0 0, .slice none 0 0, .int .i64 0, .slice none 0 0, .slice none 0 0] 26)).heap.size = u0.heap.size + 1 := by simp
       refine bodyPost_ret (v := .agg #[.slice ta gt.length tc, .slice na gn.length nc, .int .i64 gs, .slice pa K.length pc, .slice la M.length lc]) (by simp [results, Tryz.results85, go_sem, z0, z1, z2, z3, z4]) rfl ?_
       refine ⟨⟨ta, tc, gt, na, nc, gn, gs, pa, pc, K, la, lc, M⟩, rfl, ?_, ⟨⟨?_, ?_⟩, ⟨?_, ?_⟩, ?_, ?_⟩, ?_, ?_⟩
       ·show (gt, gn, gs, K.map PV.core, M.map LV.core) = _; rw [hK5.1, HEQ.out.1]
       ·refine (T3.out.later (below_alloc w3 (.cells #[.slice ta gt.length tc, .slice na gn.length nc, .int .i64 gs, .slice none 0 0, .slice none 0 0] 26))).kept fun k hk => ?_
        have h1 := T1.out.2 k hk
        have h2 := T3.out.lt k hk
        rw [e1] at h1
        rw [hk9 k (by omega), hkk k (by omega) h2]
       ·intro k hk; have := T1.out.2 k hk; omega
       ·refine (N3.out.later (below_alloc w3 (.cells #[.slice ta gt.length tc, .slice na gn.length nc, .int .i64 gs, .slice none 0 0, .slice none 0 0] 26))).kept fun k hk => ?_
        have h1 := N2.out.2 k hk
        have h2 := N3.out.lt k hk
        have h3 := o1.out.size
        have h4 := lt_of_block R1.out
        rw [hk9 k (by omega), hkk k (by omega) h2]
       ·intro k hk; have := N2.out.2 k hk; have := o1.out.size; omega
       ·refine ((hK5.2.kept fun k h1 h2 => ?_) : PO (w3.heap.size + 1) _ _ _).mono (by omega)
        rw [hk9 k (by omega)]
        exact HFr.out.blk k h2 (by omega) (by omega)
       ·exact (HS_.out.kept fun k h1 h2 => hk9 k (by have := HSW5.out; omega)).mono (by have := HSW5.out; omega)
       ·obtain ⟨_, rfl, rfl⟩ := HEQ.out
        exact qinv_below HR.out hb9 (by omega) HGB.out
       ·refine ⟨hb9.os.trans (HFr.out.os.trans (HF5.out.os.trans o3.out.os)), hb9.tape.trans (HFr.out.tape.trans (HF5.out.tape.trans o3.out.tape)), hb9.output.trans (HFr.out.output.trans (HF5.out.output.trans o3.out.output)), by have := hb9.size; omega, fun k h1 h2 => ?_⟩
        rw [hb9.block k h1, HFr.out.blk k (by have := HSW5.out; omega) (by omega) h2, HF5.out.blk k (by omega) (by omega) h2, (below_alloc w3 (.cells #[.slice ta gt.length tc, .slice na gn.length nc, .int .i64 gs, .slice none 0 0, .slice none 0 0] 26)).block k (by omega)]
        exact o3.out.block k h1 h2
      ·have he : (e == 0) = false := by simpa using hend.resolve_left hm
       have hm1 : (0 : Int) < (m : Int) := by omega
       have hK5 := P5K.out
       have hsl := HSL.out
       have hsw5' := HSW5.out
       have hlw := HLW.out
       have R9 : wr.heap[u0.heap.size]? = some (.cells #[.slice none 0 0, .slice none 0 0, .int .i64 0, .slice none 0 0, .slice none 0 0] 26) := (HFr.out.blk _ (by have := HSW5.out; omega) (by omega) (by have := HLW.out; omega)).trans ((HF5.out.blk _ (by omega) (by omega) (by have := HLW.out; omega)).trans RW.out)
       obtain ⟨g0, g1, g2, g3, g4, -, -⟩ := box_cells HB.out
       obtain ⟨z0, z1, z2, z3, z4, -, -⟩ := box_cells R9
       have y0 : wr.frozen? ⟨u0.heap.size, 0, none⟩ = false := by unfold World.frozen?; rw [R9]; rfl
       have y1 : wr.frozen? ⟨u0.heap.size, 1, none⟩ = false := by unfold World.frozen?; rw [R9]; rfl
       have y2 : wr.frozen? ⟨u0.heap.size, 2, none⟩ = false := by unfold World.frozen?; rw [R9]; rfl
       have y3 : wr.frozen? ⟨u0.heap.size, 3, none⟩ = false := by unfold World.frozen?; rw [R9]; rfl
       have y4 : wr.frozen? ⟨u0.heap.size, 4, none⟩ = false := by unfold World.frozen?; rw [R9]; rfl
       have hzs := lt_of_block R9
       clear R9
       go_wp2
       have hb9 : Below u0.heap.size wr (((((wr.setCell ⟨u0.heap.size, 0, none⟩ (.slice ta gt.length tc)).setCell ⟨u0.heap.size, 1, none⟩ (.slice na gn.length nc)).setCell ⟨u0.heap.size, 2, none⟩ (.int .i64 gs)).setCell ⟨u0.heap.size, 3, none⟩ (.slice pa K.length pc)).setCell ⟨u0.heap.size, 4, none⟩ (.slice la M.length lc)) := ((((own_set _ _ _ (Nat.le_refl _)).trans (own_set _ _ _ (Nat.le_refl _))).trans (own_set _ _ _ (Nat.le_refl _))).trans (own_set _ _ _ (Nat.le_refl _))).trans (own_set _ _ _ (Nat.le_refl _))
       have hk9 : ∀ k, k ≠ u0.heap.size -> (((((wr.setCell ⟨u0.heap.size, 0, none⟩ (.slice ta gt.length tc)).setCell ⟨u0.heap.size, 1, none⟩ (.slice na gn.length nc)).setCell ⟨u0.heap.size, 2, none⟩ (.int .i64 gs)).setCell ⟨u0.heap.size, 3, none⟩ (.slice pa K.length pc)).setCell ⟨u0.heap.size, 4, none⟩ (.slice la M.length lc)).heap[k]? = wr.heap[k]? := fun k hne => by
        rw [Below.heap_setCell _ _ _ _ hne, Below.heap_setCell _ _ _ _ hne, Below.heap_setCell _ _ _ _ hne, Below.heap_setCell _ _ _ _ hne, Below.heap_setCell _ _ _ _ hne]
       have hkk : ∀ k, u0.heap.size < k -> k < w3.heap.size -> wr.heap[k]? = (w3.alloc (.cells #[.slice ta gt.length tc, .slice na gn.length nc, .int .i64 gs, .slice none 0 0, .slice none 0 0] 26)).heap[k]? := fun k h1 h2 => (HFr.out.blk k (by have := HSW5.out; omega) (by omega) (by omega)).trans (HF5.out.blk k (by omega) (by omega) (by omega))
       have e1 : (u0.alloc (.cells #[.slice none 0 0, .slice none 0 0, .int .i64 0, .slice none 0 0, .slice none 0 0] 26)).heap.size = u0.heap.size + 1 := by simp
       refine bodyPost_ret (v := .agg #[.slice ta gt.length tc, .slice na gn.length nc, .int .i64 gs, .slice pa K.length pc, .slice la M.length lc]) (by simp [results, Tryz.results85, go_sem, z0, z1, z2, z3, z4]) rfl ?_
       refine ⟨⟨ta, tc, gt, na, nc, gn, gs, pa, pc, K, la, lc, M⟩, rfl, ?_, ⟨⟨?_, ?_⟩, ⟨?_, ?_⟩, ?_, ?_⟩, ?_, ?_⟩
       ·show (gt, gn, gs, K.map PV.core, M.map LV.core) = _; rw [hK5.1, HEQ.out.1]
       ·refine (T3.out.later (below_alloc w3 (.cells #[.slice ta gt.length tc, .slice na gn.length nc, .int .i64 gs, .slice none 0 0, .slice none 0 0] 26))).kept fun k hk => ?_
        have h1 := T1.out.2 k hk
        have h2 := T3.out.lt k hk
        rw [e1] at h1
        rw [hk9 k (by omega), hkk k (by omega) h2]
       ·intro k hk; have := T1.out.2 k hk; omega
       ·refine (N3.out.later (below_alloc w3 (.cells #[.slice ta gt.length tc, .slice na gn.length nc, .int .i64 gs, .slice none 0 0, .slice none 0 0] 26))).kept fun k hk => ?_
        have h1 := N2.out.2 k hk
        have h2 := N3.out.lt k hk
        have h3 := o1.out.size
        have h4 := lt_of_block R1.out
        rw [hk9 k (by omega), hkk k (by omega) h2]
       ·intro k hk; have := N2.out.2 k hk; have := o1.out.size; omega
       ·refine ((hK5.2.kept fun k h1 h2 => ?_) : PO (w3.heap.size + 1) _ _ _).mono (by omega)
        rw [hk9 k (by omega)]
        exact HFr.out.blk k h2 (by omega) (by omega)
       ·exact (HS_.out.kept fun k h1 h2 => hk9 k (by have := HSW5.out; omega)).mono (by have := HSW5.out; omega)
       ·obtain ⟨_, rfl, rfl⟩ := HEQ.out
        exact qinv_below HR.out hb9 (by omega) HGB.out
       ·refine ⟨hb9.os.trans (HFr.out.os.trans (HF5.out.os.trans o3.out.os)), hb9.tape.trans (HFr.out.tape.trans (HF5.out.tape.trans o3.out.tape)), hb9.output.trans (HFr.out.output.trans (HF5.out.output.trans o3.out.output)), by have := hb9.size; omega, fun k h1 h2 => ?_⟩
        rw [hb9.block k h1, HFr.out.blk k (by have := HSW5.out; omega) (by omega) h2, HF5.out.blk k (by omega) (by omega) h2, (below_alloc w3 (.cells #[.slice ta gt.length tc, .slice na gn.length nc, .int .i64 gs, .slice none 0 0, .slice none 0 0] 26)).block k (by omega)]
        exact o3.out.block k h1 h2
     ·obtain ⟨m, rfl⟩ : ∃ m', m = m' + 1 := ⟨m - 1, by omega⟩
      obtain rfl : e = 0 := by omega
      have he : ((0 : Int) == 0) = true := by simp
      have hm1 : (0 : Int) < ((m + 1 : Nat) : Int) := by omega
      obtain ⟨s, p', e', hR⟩ : ∃ s p' e', lvQ zs p 0 = (s, p', e') := ⟨_, _, _, rfl⟩
      have hGO := lsQ_go HF.out hR
      obtain ⟨sa, x1, y1, hx1⟩ : ∃ a b c, itS zs p 0 = (a, b, c) := ⟨_, _, _, rfl⟩
      obtain ⟨sl, x2, y2, hx2⟩ : ∃ a b c, liQ zs (itS zs) x1 y1 = (a, b, c) := ⟨_, _, _, rfl⟩
      have HX : Hid (itS zs p 0 = (sa, x1, y1) /\ liQ zs (itS zs) x1 y1 = (sl, x2, y2)) := ⟨hx1, hx2⟩
      rw [lvQ, bdS, hx1] at hR
      simp only [hx2, Prod.mk.injEq] at hR
      obtain ⟨rfl, rfl, rfl⟩ := hR
      have HGO : Hid ((M.map LV.core ++ [(sa, sl)] ++ (lsQ (lvQ zs) m x2 y2).1, (lsQ (lvQ zs) m x2 y2).2) = (gl, p5, i5)) := hGO
      clear hx1 hx2 hGO hend
      go_wp2
      refine wp_region_x (S := SX 10 (fun _ => True) (fun w' => w'.cell? ⟨w3.heap.size, 4, none⟩ = some (.slice la M.length lc))) (by kernel_rfl) ?_
      have hs1 : Hid (wr.drew.cell? ⟨w3.heap.size, 4, none⟩ = some (.slice la M.length lc)) := c4
      refine wtT (m := 10) (i := 0) (v := ?_) rfl (Or.inl ⟨by rfl, ?_⟩) (SX.both trivial hs1.out) ?_
      rotate_left
      ·(intro w hSw; (try dsimp only at hSw); go_simp; try (with_reducible rfl))
      (try simp only [Act.put, lsA, lsZ, lsN])
      refine wtT (m := 10) (i := 1) (v := ?_) rfl (Or.inl ⟨by rfl, ?_⟩) (SX.both trivial hs1.out) ?_
      rotate_left
      ·(intro w hSw; (try dsimp only at hSw); go_simp; try (with_reducible rfl))
      (try simp only [Act.put, lsA, lsZ, lsN])
      refine wtT (m := 10) (i := 2) (v := ?_) rfl (Or.inl ⟨by rfl, ?_⟩) (SX.both trivial hs1.out) ?_
      rotate_left
      ·(intro w hSw; (try dsimp only at hSw); go_simp; try (with_reducible rfl))
      (try simp only [Act.put, lsA, lsZ, lsN])
      refine wtT (m := 10) (i := 4) (v := ?_) rfl (Or.inl ⟨by rfl, ?_⟩) (SX.both trivial hs1.out) ?_
      rotate_left
      ·(intro w hSw; (try dsimp only at hSw); go_simp; try (with_reducible rfl))
      (try simp only [Act.put, lsA, lsZ, lsN])
      refine wpAnyX_one (j := 3) (by decide +kernel) rfl (fun K' hK => ?_)
      refine step_callX rfl 164 #[.pointer (some ⟨r, 0, none⟩), .int .i64 2147483647] _ (run_qint (v0 := .pointer (some ⟨r, 0, none⟩)) (v1 := .int .i64 2147483647) (by rfl) (by rfl) (by rfl) _) (qit (HR.out.later (by go_grown)) sa x1 y1 HX.out.1) ?_
      rintro e v2 ⟨rfl, hq', ho'⟩
      have Q2 : Hid (C.QInv v2 r ao cap zs x1 y1) := hq'
      have O2 : Hid (C.ROnly wr v2 r) := (C.ROnly.ofBelow (by go_grown)).trans ho'
      have B2 : Hid (v2.heap[w3.heap.size]? = some (.cells #[.slice ta gt.length tc, .slice na gn.length nc, .int .i64 gs, .slice pa K.length pc, .slice la M.length lc] 26 (0, 0))) := (O2.out.block _ (lt_of_block HB.out) (by omega)).trans HB.out
      clear hq' ho'
      refine ⟨_, rfl, hK.out _ _ (SX.both trivial (box_cells B2.out).2.2.2.2.1) ?_⟩
      clear hK K'
      (try simp only [Act.put, lsA, lsZ, lsN])
      refine wpAnyX_one (j := 5) (by decide +kernel) rfl (fun K' hK => ?_)
      refine step_callX rfl 168 #[.pointer (some ⟨r, 0, none⟩)] _ (run_qints (v0 := .pointer (some ⟨r, 0, none⟩)) (by rfl) (by rfl) _) (ql_int Q2.out HZ.out.2 (HGS.out _ (Nat.le_trans HSW.out O2.out.size)) HZ.out.1 sl x2 y2 HX.out.2) ?_
      rintro e v3 ⟨ra, rc, rfl, s', v', hq', ho'⟩
      have Q4 : Hid (C.QInv v3 r ao cap zs x2 y2) := hq'
      have O4' : Hid (C.ROnly wr v3 r) := O2.out.trans ho'
      have B4 : Hid (v3.heap[w3.heap.size]? = some (.cells #[.slice ta gt.length tc, .slice na gn.length nc, .int .i64 gs, .slice pa K.length pc, .slice la M.length lc] 26 (0, 0))) := (ho'.block _ (lt_of_block B2.out) (by omega)).trans B2.out
      have Y3 : Hid (IL v3 (.slice ra sl.length rc) sl /\ ∀ k, (Value.slice ra sl.length rc).ownBlock = some k -> v2.heap.size <= k) := ⟨s', v'⟩
      clear hq' ho' s' v'
      refine ⟨_, rfl, hK.out _ _ (SX.both trivial (box_cells B4.out).2.2.2.2.1) ?_⟩
      clear hK K'
      (try simp only [Act.put, lsA, lsZ, lsN])
      refine wtT (m := 10) (i := 6) (v := ?_) rfl (Or.inl ⟨by rfl, ?_⟩) (SX.both trivial (box_cells B4.out).2.2.2.2.1) ?_
      rotate_left
      ·(intro w hSw; (try dsimp only at hSw); go_simp; try (with_reducible rfl))
      (try simp only [Act.put, lsA, lsZ, lsN])
      refine wpAnyX_one (j := 7) (by decide +kernel) rfl (fun K' hK => ?_)
      go_simp
      have B5 : Hid ((v3.alloc (.cells #[.int .i64 sa, .slice ra sl.length rc] 100)).heap[w3.heap.size]? = some (.cells #[.slice ta gt.length tc, .slice na gn.length nc, .int .i64 gs, .slice pa K.length pc, .slice la M.length lc] 26 (0, 0))) := ((below_alloc v3 _).block _ (lt_of_block B4.out)).trans B4.out
      refine hK.out _ _ (SX.both trivial (box_cells B5.out).2.2.2.2.1) ?_
      clear hK K'
      (try simp only [Act.put, lsA, lsZ, lsN])
      have P5 : Hid (LO w5.heap.size (v3.alloc (.cells #[.int .i64 sa, .slice ra sl.length rc] 100)) (.slice la M.length lc) M) := (HS_.out.kept fun j hj hjs => O4'.out.block j hjs (by omega)).later (below_alloc _ _)
      refine wpAnyX_one (j := 8) (by decide +kernel) rfl (fun K' hK => ?_)
      refine step_ly_append (by rfl) _ _ (by rfl) (.slice la M.length lc) M (by rfl) P5.out.row v3.heap.size 1 ⟨sa, ra, rc, sl⟩ (by rfl) (new_cells2 v3 _ _ _) (Nat.le_trans HTL.out (by omega)) ?_
      intro a4 n4' c4' v5 hy5 hg5
      have P6 : Hid (LO w5.heap.size v5 (.slice a4 n4' c4') (M ++ [⟨sa, ra, rc, sl⟩])) := P5.out.append hy5 hg5 (Nat.le_trans HSZ.out (Nat.le_trans O4'.out.size (below_alloc _ _).size)) (Y3.out.1.later (below_alloc _ _)) (fun j hj => ⟨by have := Y3.out.2 j hj; have := O2.out.size; have := HSZ.out; omega, fun e => by have h1 := HS_.out.row.lt j e; have := Y3.out.2 j hj; have := O2.out.size; omega⟩)
      have B6 : Hid (v5.heap[w3.heap.size]? = some (.cells #[.slice ta gt.length tc, .slice na gn.length nc, .int .i64 gs, .slice pa K.length pc, .slice la M.length lc] 26 (0, 0))) := (hg5.grown.block _ (lt_of_block B5.out) (fun e => by have := HS_.out.lo _ e.symm; omega)).trans B5.out
      have L7 : Hid (Below w5.heap.size v3 v5) := ((below_alloc v3 _).mono (Nat.le_trans HSZ.out O4'.out.size)).trans (grown_bel hg5 (Nat.le_trans (Nat.le_trans HSZ.out O4'.out.size) (below_alloc _ _).size) (fun k hk => HS_.out.lo k hk))
      refine hK.out _ _ (SX.both trivial (box_cells B6.out).2.2.2.2.1) ?_
      clear hK K' hy5 hg5
      (try simp only [Act.put, lsA, lsZ, lsN])
      refine wtT (m := 10) (i := 9) (v := ?_) rfl (Or.inl ⟨by rfl, ?_⟩) (SX.both trivial (box_cells B6.out).2.2.2.2.1) ?_
      rotate_left
      ·(intro w hSw; (try dsimp only at hSw); go_simp; try (with_reducible rfl))
      (try simp only [Act.put, lsA, lsZ, lsN])
      have d4 := (box_cells B6.out).2.2.2.2.1
      have f4 := (box_cells B6.out).2.2.2.2.2.2
      refine wpAnyX_one (j := 10) (by decide +kernel) rfl (fun K' hK => ?_)
      go_simp
      refine hK.out _ _ (SX.one trivial (by decide +kernel)) ?_
      clear hK K'
      (try simp only [Act.put, lsA, lsZ, lsN])
      refine wpAnyX_done (by decide +kernel) ?_
      clear d4 f4 hs1
      go_wp2
      go_roundw
      case rel =>
       obtain rfl : n4' = (M ++ [(⟨sa, ra, rc, sl⟩ : LV)]).length := by obtain ⟨_, _, e⟩ := P6.out.len; simp at e; simp [e.2.1]
       have hst : Below w3.heap.size v3 (v5.setCell ⟨w3.heap.size, 4, none⟩ (.slice a4 (M ++ [(⟨sa, ra, rc, sl⟩ : LV)]).length c4')) := (L7.out.mono (by omega)).trans ((Below.refl _ _).setCell (p := ⟨w3.heap.size, 4, none⟩) (Nat.le_refl _) _)
       refine ⟨m, M ++ [⟨sa, ra, rc, sl⟩], x2, y2, a4, c4', by go_num, by simp; omega, ?_, ?_, ?_, ?_, ?_⟩
       ·have := heap_set B6.out 4 (.slice a4 (M ++ [(⟨sa, ra, rc, sl⟩ : LV)]).length c4'); exact this
       ·exact P6.out.kept fun k hk _ => Below.heap_setCell _ _ _ _ (show k ≠ w3.heap.size by omega)
       ·exact qinv_below Q4.out hst HRW.out (fun b off eb hn => HGS.out w3 HZW.out b off eb hn)
       ·exact (HFr.out.ronly O4'.out HSZ.out).below hst (fun k h1 h2 => (Below.heap_setCell _ _ _ _ (show k ≠ w3.heap.size by omega)).trans (L7.out.block k h2))
       ·rw [List.map_append]; exact HGO.out
      case measure => simp [intOf]
   ·have he : (e == 0) = false := by simpa using hend.resolve_left hm
    have hm1 : (0 : Int) < (m : Int) := by omega
    clear hend hm
    go_wp2_with (go_at_call 165; refine (qct HR.out n5 q5 j5 HN5.out).mono ?_; rintro e w5 ⟨rfl, h', o'⟩; have h5 : Hid (C.QInv w5 r ao cap zs q5 j5) := h'; have O5 : Hid (C.ROnly wr w5 r) := o'; clear h' o')
    have P5K : Hid (K.map PV.core = gp /\ PO (w3.heap.size + 1) w5 (.slice pa K.length pc) K) := ⟨eK, HS_.out.kept fun j hj hjs => O5.out.block j hjs (by omega)⟩
    have B5 : Hid (w5.heap[w3.heap.size]? = some (.cells #[.slice ta gt.length tc, .slice na gn.length nc, .int .i64 gs, .slice pa K.length pc, .slice none 0 0] 26 (0, 0))) := (O5.out.block _ (lt_of_block HB.out) (by omega)).trans HB.out
    have HF5 : Hid (Fr (w3.alloc (.cells #[.slice ta gt.length tc, .slice na gn.length nc, .int .i64 gs, .slice none 0 0, .slice none 0 0] 26)) w5 w3.heap.size r (w3.heap.size + 1)) := HFr.out.ronly O5.out HSZ.out
    have HSW5 : Hid (w3.heap.size < w5.heap.size) := lt_of_block B5.out
    clear HB HS_ HR HFr HF HTL k2 c3 hw3 HSZ HSW O5 eK
    go_loopw [5] (fun z wr => ∃ (m : Nat) (M : List LV) (p : Nat) (e : Int) (la : Option Addr) (lc : Nat), z = .int .i64 m /\ M.length + m = n5 /\ wr.heap[w3.heap.size]? = some (.cells #[.slice ta gt.length tc, .slice na gn.length nc, .int .i64 gs, .slice pa K.length pc, .slice la M.length lc] 26 (0, 0)) /\ LO w5.heap.size wr (.slice la M.length lc) M /\ C.QInv wr r ao cap zs p e /\ Fr w5 wr w3.heap.size r w5.heap.size /\ (M.map LV.core ++ (lsQ (lvQ zs) m p e).1, (lsQ (lvQ zs) m p e).2) = (gl, p5, i5)) (fun z _ => (intOf z).toNat)
    case atStart => exact ⟨n5, [], q5, j5, none, 0, rfl, by simp, B5.out, LO.nil _ _, h5.out, Fr.refl _ _ _ _, HL5.out⟩
    case round =>
     clear h5
     obtain ⟨m, M, p, e, la, lc, rfl, hKm, hB', hS', hR', hF0, hF'⟩ := hrel
     have HB : Hid (wr.heap[w3.heap.size]? = some (.cells #[.slice ta gt.length tc, .slice na gn.length nc, .int .i64 gs, .slice pa K.length pc, .slice la M.length lc] 26 (0, 0))) := hB'
     have HS_ : Hid (LO w5.heap.size wr (.slice la M.length lc) M) := hS'
     have HR : Hid (C.QInv wr r ao cap zs p e) := hR'
     have HFr : Hid (Fr w5 wr w3.heap.size r w5.heap.size) := hF0
     have HF : Hid ((M.map LV.core ++ (lsQ (lvQ zs) m p e).1, (lsQ (lvQ zs) m p e).2) = (gl, p5, i5)) := hF'
     have HTL : Hid (M.length <= 100000000) := by show _ <= _; omega
     have k2 := hR'.c2
     have c4 := (box_cells hB').2.2.2.2.1
     have hw5 := hF0.size
     have hsw5 := HSW5.out
     have HSZ : Hid (w5.heap.size <= wr.heap.size) := hw5
     have HSW : Hid (u0.heap.size <= wr.heap.size) := by show _ <= _; omega
     clear hB' hS' hR' hF0 hF'
     by_cases hend : m = 0 ∨ e ≠ 0
     ·obtain ⟨eK, eP, eE⟩ := lsQ_end HF.out hend
      have HEQ : Hid (M.map LV.core = gl /\ p = p5 /\ e = i5) := ⟨eK, eP, eE⟩
      clear eK eP eE
      by_cases hm : m = 0
      ·subst hm
       have hK5 := P5K.out
       have hsl := HSL.out
       have hsw5' := HSW5.out
       have hlw := HLW.out
       have R9 : wr.heap[u0.heap.size]? = some (.cells #[.slice none 0 0, .slice none 0 0, .int .i64 0, .slice none 0 0, .slice none 0 0] 26) := (HFr.out.blk _ (by have := HSW5.out; omega) (by omega) (by have := HLW.out; omega)).trans ((HF5.out.blk _ (by omega) (by omega) (by have := HLW.out; omega)).trans RW.out)
       obtain ⟨g0, g1, g2, g3, g4, -, -⟩ := box_cells HB.out
       obtain ⟨z0, z1, z2, z3, z4, -, -⟩ := box_cells R9
       have y0 : wr.frozen? ⟨u0.heap.size, 0, none⟩ = false := by unfold World.frozen?; rw [R9]; rfl
       have y1 : wr.frozen? ⟨u0.heap.size, 1, none⟩ = false := by unfold World.frozen?; rw [R9]; rfl
       have y2 : wr.frozen? ⟨u0.heap.size, 2, none⟩ = false := by unfold World.frozen?; rw [R9]; rfl
       have y3 : wr.frozen? ⟨u0.heap.size, 3, none⟩ = false := by unfold World.frozen?; rw [R9]; rfl
       have y4 : wr.frozen? ⟨u0.heap.size, 4, none⟩ = false := by unfold World.frozen?; rw [R9]; rfl
       have hzs := lt_of_block R9
       clear R9
       go_wp2
       have hb9 : Below u0.heap.size wr (((((wr.setCell ⟨u0.heap.size, 0, none⟩ (.slice ta gt.length tc)).setCell ⟨u0.heap.size, 1, none⟩ (.slice na gn.length nc)).setCell ⟨u0.heap.size, 2, none⟩ (.int .i64 gs)).setCell ⟨u0.heap.size, 3, none⟩ (.slice pa K.length pc)).setCell ⟨u0.heap.size, 4, none⟩ (.slice la M.length lc)) := ((((own_set _ _ _ (Nat.le_refl _)).trans (own_set _ _ _ (Nat.le_refl _))).trans (own_set _ _ _ (Nat.le_refl _))).trans (own_set _ _ _ (Nat.le_refl _))).trans (own_set _ _ _ (Nat.le_refl _))
       have hk9 : ∀ k, k ≠ u0.heap.size -> (((((wr.setCell ⟨u0.heap.size, 0, none⟩ (.slice ta gt.length tc)).setCell ⟨u0.heap.size, 1, none⟩ (.slice na gn.length nc)).setCell ⟨u0.heap.size, 2, none⟩ (.int .i64 gs)).setCell ⟨u0.heap.size, 3, none⟩ (.slice pa K.length pc)).setCell ⟨u0.heap.size, 4, none⟩ (.slice la M.length lc)).heap[k]? = wr.heap[k]? := fun k hne => by
        rw [Below.heap_setCell _ _ _ _ hne, Below.heap_setCell _ _ _ _ hne, Below.heap_setCell _ _ _ _ hne, Below.heap_setCell _ _ _ _ hne, Below.heap_setCell _ _ _ _ hne]
       have hkk : ∀ k, u0.heap.size < k -> k < w3.heap.size -> wr.heap[k]? = (w3.alloc (.cells #[.slice ta gt.length tc, .slice na gn.length nc, .int .i64 gs, .slice none 0 0, .slice none 0 0] 26)).heap[k]? := fun k h1 h2 => (HFr.out.blk k (by have := HSW5.out; omega) (by omega) (by omega)).trans (HF5.out.blk k (by omega) (by omega) (by omega))
       have e1 : (u0.alloc (.cells #[.slice none 0 0, .slice none 0 0, .int .i64 0, .slice none 0 0, .slice none 0 0] 26)).heap.size = u0.heap.size + 1 := by simp
       refine bodyPost_ret (v := .agg #[.slice ta gt.length tc, .slice na gn.length nc, .int .i64 gs, .slice pa K.length pc, .slice la M.length lc]) (by simp [results, Tryz.results85, go_sem, z0, z1, z2, z3, z4]) rfl ?_
       refine ⟨⟨ta, tc, gt, na, nc, gn, gs, pa, pc, K, la, lc, M⟩, rfl, ?_, ⟨⟨?_, ?_⟩, ⟨?_, ?_⟩, ?_, ?_⟩, ?_, ?_⟩
       ·show (gt, gn, gs, K.map PV.core, M.map LV.core) = _; rw [hK5.1, HEQ.out.1]
       ·refine (T3.out.later (below_alloc w3 (.cells #[.slice ta gt.length tc, .slice na gn.length nc, .int .i64 gs, .slice none 0 0, .slice none 0 0] 26))).kept fun k hk => ?_
        have h1 := T1.out.2 k hk
        have h2 := T3.out.lt k hk
        rw [e1] at h1
        rw [hk9 k (by omega), hkk k (by omega) h2]
       ·intro k hk; have := T1.out.2 k hk; omega
       ·refine (N3.out.later (below_alloc w3 (.cells #[.slice ta gt.length tc, .slice na gn.length nc, .int .i64 gs, .slice none 0 0, .slice none 0 0] 26))).kept fun k hk => ?_
        have h1 := N2.out.2 k hk
        have h2 := N3.out.lt k hk
        have h3 := o1.out.size
        have h4 := lt_of_block R1.out
        rw [hk9 k (by omega), hkk k (by omega) h2]
       ·intro k hk; have := N2.out.2 k hk; have := o1.out.size; omega
       ·refine ((hK5.2.kept fun k h1 h2 => ?_) : PO (w3.heap.size + 1) _ _ _).mono (by omega)
        rw [hk9 k (by omega)]
        exact HFr.out.blk k h2 (by omega) (by omega)
       ·exact (HS_.out.kept fun k h1 h2 => hk9 k (by have := HSW5.out; omega)).mono (by have := HSW5.out; omega)
       ·obtain ⟨_, rfl, rfl⟩ := HEQ.out
        exact qinv_below HR.out hb9 (by omega) HGB.out
       ·refine ⟨hb9.os.trans (HFr.out.os.trans (HF5.out.os.trans o3.out.os)), hb9.tape.trans (HFr.out.tape.trans (HF5.out.tape.trans o3.out.tape)), hb9.output.trans (HFr.out.output.trans (HF5.out.output.trans o3.out.output)), by have := hb9.size; omega, fun k h1 h2 => ?_⟩
        rw [hb9.block k h1, HFr.out.blk k (by have := HSW5.out; omega) (by omega) h2, HF5.out.blk k (by omega) (by omega) h2, (below_alloc w3 (.cells #[.slice ta gt.length tc, .slice na gn.length nc, .int .i64 gs, .slice none 0 0, .slice none 0 0] 26)).block k (by omega)]
        exact o3.out.block k h1 h2
      ·have he : (e == 0) = false := by simpa using hend.resolve_left hm
       have hm1 : (0 : Int) < (m : Int) := by omega
       have hK5 := P5K.out
       have hsl := HSL.out
       have hsw5' := HSW5.out
       have hlw := HLW.out
       have R9 : wr.heap[u0.heap.size]? = some (.cells #[.slice none 0 0, .slice none 0 0, .int .i64 0, .slice none 0 0, .slice none 0 0] 26) := (HFr.out.blk _ (by have := HSW5.out; omega) (by omega) (by have := HLW.out; omega)).trans ((HF5.out.blk _ (by omega) (by omega) (by have := HLW.out; omega)).trans RW.out)
       obtain ⟨g0, g1, g2, g3, g4, -, -⟩ := box_cells HB.out
       obtain ⟨z0, z1, z2, z3, z4, -, -⟩ := box_cells R9
       have y0 : wr.frozen? ⟨u0.heap.size, 0, none⟩ = false := by unfold World.frozen?; rw [R9]; rfl
       have y1 : wr.frozen? ⟨u0.heap.size, 1, none⟩ = false := by unfold World.frozen?; rw [R9]; rfl
       have y2 : wr.frozen? ⟨u0.heap.size, 2, none⟩ = false := by unfold World.frozen?; rw [R9]; rfl
       have y3 : wr.frozen? ⟨u0.heap.size, 3, none⟩ = false := by unfold World.frozen?; rw [R9]; rfl
       have y4 : wr.frozen? ⟨u0.heap.size, 4, none⟩ = false := by unfold World.frozen?; rw [R9]; rfl
       have hzs := lt_of_block R9
       clear R9
       go_wp2
       have hb9 : Below u0.heap.size wr (((((wr.setCell ⟨u0.heap.size, 0, none⟩ (.slice ta gt.length tc)).setCell ⟨u0.heap.size, 1, none⟩ (.slice na gn.length nc)).setCell ⟨u0.heap.size, 2, none⟩ (.int .i64 gs)).setCell ⟨u0.heap.size, 3, none⟩ (.slice pa K.length pc)).setCell ⟨u0.heap.size, 4, none⟩ (.slice la M.length lc)) := ((((own_set _ _ _ (Nat.le_refl _)).trans (own_set _ _ _ (Nat.le_refl _))).trans (own_set _ _ _ (Nat.le_refl _))).trans (own_set _ _ _ (Nat.le_refl _))).trans (own_set _ _ _ (Nat.le_refl _))
       have hk9 : ∀ k, k ≠ u0.heap.size -> (((((wr.setCell ⟨u0.heap.size, 0, none⟩ (.slice ta gt.length tc)).setCell ⟨u0.heap.size, 1, none⟩ (.slice na gn.length nc)).setCell ⟨u0.heap.size, 2, none⟩ (.int .i64 gs)).setCell ⟨u0.heap.size, 3, none⟩ (.slice pa K.length pc)).setCell ⟨u0.heap.size, 4, none⟩ (.slice la M.length lc)).heap[k]? = wr.heap[k]? := fun k hne => by
        rw [Below.heap_setCell _ _ _ _ hne, Below.heap_setCell _ _ _ _ hne, Below.heap_setCell _ _ _ _ hne, Below.heap_setCell _ _ _ _ hne, Below.heap_setCell _ _ _ _ hne]
       have hkk : ∀ k, u0.heap.size < k -> k < w3.heap.size -> wr.heap[k]? = (w3.alloc (.cells #[.slice ta gt.length tc, .slice na gn.length nc, .int .i64 gs, .slice none 0 0, .slice none 0 0] 26)).heap[k]? := fun k h1 h2 => (HFr.out.blk k (by have := HSW5.out; omega) (by omega) (by omega)).trans (HF5.out.blk k (by omega) (by omega) (by omega))
       have e1 : (u0.alloc (.cells #[.slice none 0 0, .slice none 0 0, .int .i64 0, .slice none 0 0, .slice none 0 0] 26)).heap.size = u0.heap.size + 1 := by simp
       refine bodyPost_ret (v := .agg #[.slice ta gt.length tc, .slice na gn.length nc, .int .i64 gs, .slice pa K.length pc, .slice la M.length lc]) (by simp [results, Tryz.results85, go_sem, z0, z1, z2, z3, z4]) rfl ?_
       refine ⟨⟨ta, tc, gt, na, nc, gn, gs, pa, pc, K, la, lc, M⟩, rfl, ?_, ⟨⟨?_, ?_⟩, ⟨?_, ?_⟩, ?_, ?_⟩, ?_, ?_⟩
       ·show (gt, gn, gs, K.map PV.core, M.map LV.core) = _; rw [hK5.1, HEQ.out.1]
       ·refine (T3.out.later (below_alloc w3 (.cells #[.slice ta gt.length tc, .slice na gn.length nc, .int .i64 gs, .slice none 0 0, .slice none 0 0] 26))).kept fun k hk => ?_
        have h1 := T1.out.2 k hk
        have h2 := T3.out.lt k hk
        rw [e1] at h1
        rw [hk9 k (by omega), hkk k (by omega) h2]
       ·intro k hk; have := T1.out.2 k hk; omega
       ·refine (N3.out.later (below_alloc w3 (.cells #[.slice ta gt.length tc, .slice na gn.length nc, .int .i64 gs, .slice none 0 0, .slice none 0 0] 26))).kept fun k hk => ?_
        have h1 := N2.out.2 k hk
        have h2 := N3.out.lt k hk
        have h3 := o1.out.size
        have h4 := lt_of_block R1.out
        rw [hk9 k (by omega), hkk k (by omega) h2]
       ·intro k hk; have := N2.out.2 k hk; have := o1.out.size; omega
       ·refine ((hK5.2.kept fun k h1 h2 => ?_) : PO (w3.heap.size + 1) _ _ _).mono (by omega)
        rw [hk9 k (by omega)]
        exact HFr.out.blk k h2 (by omega) (by omega)
       ·exact (HS_.out.kept fun k h1 h2 => hk9 k (by have := HSW5.out; omega)).mono (by have := HSW5.out; omega)
       ·obtain ⟨_, rfl, rfl⟩ := HEQ.out
        exact qinv_below HR.out hb9 (by omega) HGB.out
       ·refine ⟨hb9.os.trans (HFr.out.os.trans (HF5.out.os.trans o3.out.os)), hb9.tape.trans (HFr.out.tape.trans (HF5.out.tape.trans o3.out.tape)), hb9.output.trans (HFr.out.output.trans (HF5.out.output.trans o3.out.output)), by have := hb9.size; omega, fun k h1 h2 => ?_⟩
        rw [hb9.block k h1, HFr.out.blk k (by have := HSW5.out; omega) (by omega) h2, HF5.out.blk k (by omega) (by omega) h2, (below_alloc w3 (.cells #[.slice ta gt.length tc, .slice na gn.length nc, .int .i64 gs, .slice none 0 0, .slice none 0 0] 26)).block k (by omega)]
        exact o3.out.block k h1 h2
     ·obtain ⟨m, rfl⟩ : ∃ m', m = m' + 1 := ⟨m - 1, by omega⟩
      obtain rfl : e = 0 := by omega
      have he : ((0 : Int) == 0) = true := by simp
      have hm1 : (0 : Int) < ((m + 1 : Nat) : Int) := by omega
      obtain ⟨s, p', e', hR⟩ : ∃ s p' e', lvQ zs p 0 = (s, p', e') := ⟨_, _, _, rfl⟩
      have hGO := lsQ_go HF.out hR
      obtain ⟨sa, x1, y1, hx1⟩ : ∃ a b c, itS zs p 0 = (a, b, c) := ⟨_, _, _, rfl⟩
      obtain ⟨sl, x2, y2, hx2⟩ : ∃ a b c, liQ zs (itS zs) x1 y1 = (a, b, c) := ⟨_, _, _, rfl⟩
      have HX : Hid (itS zs p 0 = (sa, x1, y1) /\ liQ zs (itS zs) x1 y1 = (sl, x2, y2)) := ⟨hx1, hx2⟩
      rw [lvQ, bdS, hx1] at hR
      simp only [hx2, Prod.mk.injEq] at hR
      obtain ⟨rfl, rfl, rfl⟩ := hR
      have HGO : Hid ((M.map LV.core ++ [(sa, sl)] ++ (lsQ (lvQ zs) m x2 y2).1, (lsQ (lvQ zs) m x2 y2).2) = (gl, p5, i5)) := hGO
      clear hx1 hx2 hGO hend
      go_wp2
      refine wp_region_x (S := SX 10 (fun _ => True) (fun w' => w'.cell? ⟨w3.heap.size, 4, none⟩ = some (.slice la M.length lc))) (by kernel_rfl) ?_
      have hs1 : Hid (wr.drew.cell? ⟨w3.heap.size, 4, none⟩ = some (.slice la M.length lc)) := c4
      refine wtT (m := 10) (i := 0) (v := ?_) rfl (Or.inl ⟨by rfl, ?_⟩) (SX.both trivial hs1.out) ?_
      rotate_left
      ·(intro w hSw; (try dsimp only at hSw); go_simp; try (with_reducible rfl))
      (try simp only [Act.put, lsA, lsZ, lsN])
      refine wtT (m := 10) (i := 1) (v := ?_) rfl (Or.inl ⟨by rfl, ?_⟩) (SX.both trivial hs1.out) ?_
      rotate_left
      ·(intro w hSw; (try dsimp only at hSw); go_simp; try (with_reducible rfl))
      (try simp only [Act.put, lsA, lsZ, lsN])
      refine wtT (m := 10) (i := 2) (v := ?_) rfl (Or.inl ⟨by rfl, ?_⟩) (SX.both trivial hs1.out) ?_
      rotate_left
      ·(intro w hSw; (try dsimp only at hSw); go_simp; try (with_reducible rfl))
      (try simp only [Act.put, lsA, lsZ, lsN])
      refine wtT (m := 10) (i := 4) (v := ?_) rfl (Or.inl ⟨by rfl, ?_⟩) (SX.both trivial hs1.out) ?_
      rotate_left
      ·(intro w hSw; (try dsimp only at hSw); go_simp; try (with_reducible rfl))
      (try simp only [Act.put, lsA, lsZ, lsN])
      refine wpAnyX_one (j := 3) (by decide +kernel) rfl (fun K' hK => ?_)
      refine step_callX rfl 164 #[.pointer (some ⟨r, 0, none⟩), .int .i64 2147483647] _ (run_qint (v0 := .pointer (some ⟨r, 0, none⟩)) (v1 := .int .i64 2147483647) (by rfl) (by rfl) (by rfl) _) (qit (HR.out.later (by go_grown)) sa x1 y1 HX.out.1) ?_
      rintro e v2 ⟨rfl, hq', ho'⟩
      have Q2 : Hid (C.QInv v2 r ao cap zs x1 y1) := hq'
      have O2 : Hid (C.ROnly wr v2 r) := (C.ROnly.ofBelow (by go_grown)).trans ho'
      have B2 : Hid (v2.heap[w3.heap.size]? = some (.cells #[.slice ta gt.length tc, .slice na gn.length nc, .int .i64 gs, .slice pa K.length pc, .slice la M.length lc] 26 (0, 0))) := (O2.out.block _ (lt_of_block HB.out) (by omega)).trans HB.out
      clear hq' ho'
      refine ⟨_, rfl, hK.out _ _ (SX.both trivial (box_cells B2.out).2.2.2.2.1) ?_⟩
      clear hK K'
      (try simp only [Act.put, lsA, lsZ, lsN])
      refine wpAnyX_one (j := 5) (by decide +kernel) rfl (fun K' hK => ?_)
      refine step_callX rfl 168 #[.pointer (some ⟨r, 0, none⟩)] _ (run_qints (v0 := .pointer (some ⟨r, 0, none⟩)) (by rfl) (by rfl) _) (ql_int Q2.out HZ.out.2 (HGS.out _ (Nat.le_trans HSW.out O2.out.size)) HZ.out.1 sl x2 y2 HX.out.2) ?_
      rintro e v3 ⟨ra, rc, rfl, s', v', hq', ho'⟩
      have Q4 : Hid (C.QInv v3 r ao cap zs x2 y2) := hq'
      have O4' : Hid (C.ROnly wr v3 r) := O2.out.trans ho'
      have B4 : Hid (v3.heap[w3.heap.size]? = some (.cells #[.slice ta gt.length tc, .slice na gn.length nc, .int .i64 gs, .slice pa K.length pc, .slice la M.length lc] 26 (0, 0))) := (ho'.block _ (lt_of_block B2.out) (by omega)).trans B2.out
      have Y3 : Hid (IL v3 (.slice ra sl.length rc) sl /\ ∀ k, (Value.slice ra sl.length rc).ownBlock = some k -> v2.heap.size <= k) := ⟨s', v'⟩
      clear hq' ho' s' v'
      refine ⟨_, rfl, hK.out _ _ (SX.both trivial (box_cells B4.out).2.2.2.2.1) ?_⟩
      clear hK K'
      (try simp only [Act.put, lsA, lsZ, lsN])
      refine wtT (m := 10) (i := 6) (v := ?_) rfl (Or.inl ⟨by rfl, ?_⟩) (SX.both trivial (box_cells B4.out).2.2.2.2.1) ?_
      rotate_left
      ·(intro w hSw; (try dsimp only at hSw); go_simp; try (with_reducible rfl))
      (try simp only [Act.put, lsA, lsZ, lsN])
      refine wpAnyX_one (j := 7) (by decide +kernel) rfl (fun K' hK => ?_)
      go_simp
      have B5 : Hid ((v3.alloc (.cells #[.int .i64 sa, .slice ra sl.length rc] 100)).heap[w3.heap.size]? = some (.cells #[.slice ta gt.length tc, .slice na gn.length nc, .int .i64 gs, .slice pa K.length pc, .slice la M.length lc] 26 (0, 0))) := ((below_alloc v3 _).block _ (lt_of_block B4.out)).trans B4.out
      refine hK.out _ _ (SX.both trivial (box_cells B5.out).2.2.2.2.1) ?_
      clear hK K'
      (try simp only [Act.put, lsA, lsZ, lsN])
      have P5 : Hid (LO w5.heap.size (v3.alloc (.cells #[.int .i64 sa, .slice ra sl.length rc] 100)) (.slice la M.length lc) M) := (HS_.out.kept fun j hj hjs => O4'.out.block j hjs (by omega)).later (below_alloc _ _)
      refine wpAnyX_one (j := 8) (by decide +kernel) rfl (fun K' hK => ?_)
      refine step_ly_append (by rfl) _ _ (by rfl) (.slice la M.length lc) M (by rfl) P5.out.row v3.heap.size 1 ⟨sa, ra, rc, sl⟩ (by rfl) (new_cells2 v3 _ _ _) (Nat.le_trans HTL.out (by omega)) ?_
      intro a4 n4' c4' v5 hy5 hg5
      have P6 : Hid (LO w5.heap.size v5 (.slice a4 n4' c4') (M ++ [⟨sa, ra, rc, sl⟩])) := P5.out.append hy5 hg5 (Nat.le_trans HSZ.out (Nat.le_trans O4'.out.size (below_alloc _ _).size)) (Y3.out.1.later (below_alloc _ _)) (fun j hj => ⟨by have := Y3.out.2 j hj; have := O2.out.size; have := HSZ.out; omega, fun e => by have h1 := HS_.out.row.lt j e; have := Y3.out.2 j hj; have := O2.out.size; omega⟩)
      have B6 : Hid (v5.heap[w3.heap.size]? = some (.cells #[.slice ta gt.length tc, .slice na gn.length nc, .int .i64 gs, .slice pa K.length pc, .slice la M.length lc] 26 (0, 0))) := (hg5.grown.block _ (lt_of_block B5.out) (fun e => by have := HS_.out.lo _ e.symm; omega)).trans B5.out
      have L7 : Hid (Below w5.heap.size v3 v5) := ((below_alloc v3 _).mono (Nat.le_trans HSZ.out O4'.out.size)).trans (grown_bel hg5 (Nat.le_trans (Nat.le_trans HSZ.out O4'.out.size) (below_alloc _ _).size) (fun k hk => HS_.out.lo k hk))
      refine hK.out _ _ (SX.both trivial (box_cells B6.out).2.2.2.2.1) ?_
      clear hK K' hy5 hg5
      (try simp only [Act.put, lsA, lsZ, lsN])
      refine wtT (m := 10) (i := 9) (v := ?_) rfl (Or.inl ⟨by rfl, ?_⟩) (SX.both trivial (box_cells B6.out).2.2.2.2.1) ?_
      rotate_left
      ·(intro w hSw; (try dsimp only at hSw); go_simp; try (with_reducible rfl))
      (try simp only [Act.put, lsA, lsZ, lsN])
      have d4 := (box_cells B6.out).2.2.2.2.1
      have f4 := (box_cells B6.out).2.2.2.2.2.2
      refine wpAnyX_one (j := 10) (by decide +kernel) rfl (fun K' hK => ?_)
      go_simp
      refine hK.out _ _ (SX.one trivial (by decide +kernel)) ?_
      clear hK K'
      (try simp only [Act.put, lsA, lsZ, lsN])
      refine wpAnyX_done (by decide +kernel) ?_
      clear d4 f4 hs1
      go_wp2
      go_roundw
      case rel =>
       obtain rfl : n4' = (M ++ [(⟨sa, ra, rc, sl⟩ : LV)]).length := by obtain ⟨_, _, e⟩ := P6.out.len; simp at e; simp [e.2.1]
       have hst : Below w3.heap.size v3 (v5.setCell ⟨w3.heap.size, 4, none⟩ (.slice a4 (M ++ [(⟨sa, ra, rc, sl⟩ : LV)]).length c4')) := (L7.out.mono (by omega)).trans ((Below.refl _ _).setCell (p := ⟨w3.heap.size, 4, none⟩) (Nat.le_refl _) _)
       refine ⟨m, M ++ [⟨sa, ra, rc, sl⟩], x2, y2, a4, c4', by go_num, by simp; omega, ?_, ?_, ?_, ?_, ?_⟩
       ·have := heap_set B6.out 4 (.slice a4 (M ++ [(⟨sa, ra, rc, sl⟩ : LV)]).length c4'); exact this
       ·exact P6.out.kept fun k hk _ => Below.heap_setCell _ _ _ _ (show k ≠ w3.heap.size by omega)
       ·exact qinv_below Q4.out hst HRW.out (fun b off eb hn => HGS.out w3 HZW.out b off eb hn)
       ·exact (HFr.out.ronly O4'.out HSZ.out).below hst (fun k h1 h2 => (Below.heap_setCell _ _ _ _ (show k ≠ w3.heap.size by omega)).trans (L7.out.block k h2))
       ·rw [List.map_append]; exact HGO.out
      case measure => simp [intOf]
  ·obtain ⟨m, rfl⟩ : ∃ m', m = m' + 1 := ⟨m - 1, by omega⟩
   obtain rfl : e = 0 := by omega
   have he : ((0 : Int) == 0) = true := by simp
   have hm1 : (0 : Int) < ((m + 1 : Nat) : Int) := by omega
   obtain ⟨s, p', e', hR⟩ : ∃ s p' e', prQ zs p 0 = (s, p', e') := ⟨_, _, _, rfl⟩
   have hGO := lsQ_go HF.out hR
   obtain ⟨sa, x1, y1, hx1⟩ : ∃ a b c, itS zs p 0 = (a, b, c) := ⟨_, _, _, rfl⟩
   obtain ⟨sl, x2, y2, hx2⟩ : ∃ a b c, liQ zs (syS zs) x1 y1 = (a, b, c) := ⟨_, _, _, rfl⟩
   obtain ⟨sp, x3, y3, hx3⟩ : ∃ a b c, sgS zs x2 y2 = (a, b, c) := ⟨_, _, _, rfl⟩
   have HX : Hid (itS zs p 0 = (sa, x1, y1) /\ liQ zs (syS zs) x1 y1 = (sl, x2, y2) /\ sgS zs x2 y2 = (sp, x3, y3)) := ⟨hx1, hx2, hx3⟩
   rw [prQ, bdS, hx1] at hR
   simp only [bdS, hx2, hx3, Prod.mk.injEq] at hR
   obtain ⟨rfl, rfl, rfl⟩ := hR
   have HGO : Hid ((K.map PV.core ++ [(sa, sl, sp)] ++ (lsQ (prQ zs) m x3 y3).1, (lsQ (prQ zs) m x3 y3).2) = (gp, p4, i4)) := hGO
   clear hx1 hx2 hx3 hGO hend
   go_wp2
   refine wp_region_x (S := SX 12 (fun _ => True) (fun w' => w'.cell? ⟨w3.heap.size, 3, none⟩ = some (.slice pa K.length pc))) (by kernel_rfl) ?_
   have hs1 : Hid (wr.drew.cell? ⟨w3.heap.size, 3, none⟩ = some (.slice pa K.length pc)) := c3
   refine wtT (m := 12) (i := 0) (v := ?_) rfl (Or.inl ⟨by rfl, ?_⟩) (SX.both trivial hs1.out) ?_
   rotate_left
   ·(intro w hSw; (try dsimp only at hSw); go_simp; try (with_reducible rfl))
   (try simp only [Act.put, lsA, lsZ, lsN])
   refine wtT (m := 12) (i := 1) (v := ?_) rfl (Or.inl ⟨by rfl, ?_⟩) (SX.both trivial hs1.out) ?_
   rotate_left
   ·(intro w hSw; (try dsimp only at hSw); go_simp; try (with_reducible rfl))
   (try simp only [Act.put, lsA, lsZ, lsN])
   refine wtT (m := 12) (i := 2) (v := ?_) rfl (Or.inl ⟨by rfl, ?_⟩) (SX.both trivial hs1.out) ?_
   rotate_left
   ·(intro w hSw; (try dsimp only at hSw); go_simp; try (with_reducible rfl))
   (try simp only [Act.put, lsA, lsZ, lsN])
   refine wtT (m := 12) (i := 4) (v := ?_) rfl (Or.inl ⟨by rfl, ?_⟩) (SX.both trivial hs1.out) ?_
   rotate_left
   ·(intro w hSw; (try dsimp only at hSw); go_simp; try (with_reducible rfl))
   (try simp only [Act.put, lsA, lsZ, lsN])
   refine wtT (m := 12) (i := 6) (v := ?_) rfl (Or.inl ⟨by rfl, ?_⟩) (SX.both trivial hs1.out) ?_
   rotate_left
   ·(intro w hSw; (try dsimp only at hSw); go_simp; try (with_reducible rfl))
   (try simp only [Act.put, lsA, lsZ, lsN])
   refine wpAnyX_one (j := 3) (by decide +kernel) rfl (fun K' hK => ?_)
   refine step_callX rfl 164 #[.pointer (some ⟨r, 0, none⟩), .int .i64 2147483647] _ (run_qint (v0 := .pointer (some ⟨r, 0, none⟩)) (v1 := .int .i64 2147483647) (by rfl) (by rfl) (by rfl) _) (qit (HR.out.later (by go_grown)) sa x1 y1 HX.out.1) ?_
   rintro e v2 ⟨rfl, hq', ho'⟩
   have Q2 : Hid (C.QInv v2 r ao cap zs x1 y1) := hq'
   have O2 : Hid (C.ROnly wr v2 r) := (C.ROnly.ofBelow (by go_grown)).trans ho'
   have B2 : Hid (v2.heap[w3.heap.size]? = some (.cells #[.slice ta gt.length tc, .slice na gn.length nc, .int .i64 gs, .slice pa K.length pc, .slice none 0 0] 26 (0, 0))) := (O2.out.block _ (lt_of_block HB.out) (by omega)).trans HB.out
   clear hq' ho'
   refine ⟨_, rfl, hK.out _ _ (SX.both trivial (box_cells B2.out).2.2.2.1) ?_⟩
   clear hK K'
   (try simp only [Act.put, lsA, lsZ, lsN])
   refine wpAnyX_one (j := 5) (by decide +kernel) rfl (fun K' hK => ?_)
   refine step_callX rfl 166 #[.pointer (some ⟨r, 0, none⟩)] _ (run_qsyms (v0 := .pointer (some ⟨r, 0, none⟩)) (by rfl) (by rfl) _) (ql_sym Q2.out HZ.out.2 (HGS.out _ (Nat.le_trans HSW.out O2.out.size)) HZ.out.1 sl x2 y2 HX.out.2.1) ?_
   rintro e v3 ⟨ra, rc, rfl, s', v', hq', ho'⟩
   have Q3 : Hid (C.QInv v3 r ao cap zs x2 y2) := hq'
   have O3 : Hid (C.ROnly wr v3 r) := O2.out.trans ho'
   have B3 : Hid (v3.heap[w3.heap.size]? = some (.cells #[.slice ta gt.length tc, .slice na gn.length nc, .int .i64 gs, .slice pa K.length pc, .slice none 0 0] 26 (0, 0))) := (ho'.block _ (lt_of_block B2.out) (by omega)).trans B2.out
   have Y3 : Hid (SY v3 (.slice ra sl.length rc) sl /\ ∀ k, (Value.slice ra sl.length rc).ownBlock = some k -> v2.heap.size <= k) := ⟨s', v'⟩
   clear hq' ho' s' v'
   refine ⟨_, rfl, hK.out _ _ (SX.both trivial (box_cells B3.out).2.2.2.1) ?_⟩
   clear hK K'
   (try simp only [Act.put, lsA, lsZ, lsN])
   refine wpAnyX_one (j := 7) (by decide +kernel) rfl (fun K' hK => ?_)
   refine step_callX rfl 167 #[.pointer (some ⟨r, 0, none⟩), .int .i64 2147483647] _ (run_qsg (v0 := .pointer (some ⟨r, 0, none⟩)) (v1 := .int .i64 2147483647) (by rfl) (by rfl) (by rfl) _) (qsg Q3.out sp x3 y3 HX.out.2.2) ?_
   rintro e v4 ⟨rfl, hq', ho'⟩
   have Q4 : Hid (C.QInv v4 r ao cap zs x3 y3) := hq'
   have O4' : Hid (C.ROnly wr v4 r) := O3.out.trans ho'
   have B4 : Hid (v4.heap[w3.heap.size]? = some (.cells #[.slice ta gt.length tc, .slice na gn.length nc, .int .i64 gs, .slice pa K.length pc, .slice none 0 0] 26 (0, 0))) := (ho'.block _ (lt_of_block B3.out) (by omega)).trans B3.out
   have Y4 : Hid (SY v4 (.slice ra sl.length rc) sl) := Y3.out.1.kept (fun k hk => ho'.block k (Y3.out.1.lt k hk) (fun e => by have := Y3.out.2 k hk; have := O2.out.size; have := HSW.out; omega))
   clear hq' ho'
   refine ⟨_, rfl, hK.out _ _ (SX.both trivial (box_cells B4.out).2.2.2.1) ?_⟩
   clear hK K'
   (try simp only [Act.put, lsA, lsZ, lsN])
   refine wtT (m := 12) (i := 8) (v := ?_) rfl (Or.inl ⟨by rfl, ?_⟩) (SX.both trivial (box_cells B4.out).2.2.2.1) ?_
   rotate_left
   ·(intro w hSw; (try dsimp only at hSw); go_simp; try (with_reducible rfl))
   (try simp only [Act.put, lsA, lsZ, lsN])
   refine wpAnyX_one (j := 9) (by decide +kernel) rfl (fun K' hK => ?_)
   go_simp
   have B5 : Hid ((v4.alloc (.cells #[.int .i64 sa, .slice ra sl.length rc, .int .i64 sp] 72)).heap[w3.heap.size]? = some (.cells #[.slice ta gt.length tc, .slice na gn.length nc, .int .i64 gs, .slice pa K.length pc, .slice none 0 0] 26 (0, 0))) := ((below_alloc v4 _).block _ (lt_of_block B4.out)).trans B4.out
   refine hK.out _ _ (SX.both trivial (box_cells B5.out).2.2.2.1) ?_
   clear hK K'
   (try simp only [Act.put, lsA, lsZ, lsN])
   have P5 : Hid (PO (w3.heap.size + 1) (v4.alloc (.cells #[.int .i64 sa, .slice ra sl.length rc, .int .i64 sp] 72)) (.slice pa K.length pc) K) := (HS_.out.kept fun j hj hjs => O4'.out.block j hjs (by omega)).later (below_alloc _ _)
   refine wpAnyX_one (j := 10) (by decide +kernel) rfl (fun K' hK => ?_)
   refine step_py_append (by rfl) _ _ (by rfl) (.slice pa K.length pc) K (by rfl) P5.out.row v4.heap.size 1 ⟨sa, ra, rc, sl, sp⟩ (by rfl) (new_cells3 v4 _ _ _ _) (Nat.le_trans HTL.out (by omega)) ?_
   intro a4 n4' c4 v5 hy5 hg5
   have P6 : Hid (PO (w3.heap.size + 1) v5 (.slice a4 n4' c4) (K ++ [⟨sa, ra, rc, sl, sp⟩])) := P5.out.append hy5 hg5 (Nat.le_trans HSZ.out (Nat.le_trans O4'.out.size (below_alloc _ _).size)) (Y4.out.later (below_alloc _ _)) (fun j hj => ⟨by have := Y3.out.2 j hj; have := O2.out.size; have := HSZ.out; omega, fun e => by have h1 := HS_.out.row.lt j e; have := Y3.out.2 j hj; have := O2.out.size; omega⟩)
   have B6 : Hid (v5.heap[w3.heap.size]? = some (.cells #[.slice ta gt.length tc, .slice na gn.length nc, .int .i64 gs, .slice pa K.length pc, .slice none 0 0] 26 (0, 0))) := (hg5.grown.block _ (lt_of_block B5.out) (fun e => by have := HS_.out.lo _ e.symm; omega)).trans B5.out
   have L6 : Hid (Below w3.heap.size v4 v5) := ((below_alloc v4 _).mono (Nat.le_trans (by have := HSZ.out; omega) O4'.out.size)).trans (grown_bel hg5 (Nat.le_trans (Nat.le_trans (by have := HSZ.out; omega) O4'.out.size) (below_alloc _ _).size) (fun k hk => by have := HS_.out.lo k hk; omega))
   refine hK.out _ _ (SX.both trivial (box_cells B6.out).2.2.2.1) ?_
   clear hK K' hy5 hg5
   (try simp only [Act.put, lsA, lsZ, lsN])
   refine wtT (m := 12) (i := 11) (v := ?_) rfl (Or.inl ⟨by rfl, ?_⟩) (SX.both trivial (box_cells B6.out).2.2.2.1) ?_
   rotate_left
   ·(intro w hSw; (try dsimp only at hSw); go_simp; try (with_reducible rfl))
   (try simp only [Act.put, lsA, lsZ, lsN])
   have c3' := (box_cells B6.out).2.2.2.1
   have f3' := (box_cells B6.out).2.2.2.2.2.1
   refine wpAnyX_one (j := 12) (by decide +kernel) rfl (fun K' hK => ?_)
   go_simp
   refine hK.out _ _ (SX.one trivial (by decide +kernel)) ?_
   clear hK K'
   (try simp only [Act.put, lsA, lsZ, lsN])
   refine wpAnyX_done (by decide +kernel) ?_
   clear c3' f3' hs1
   go_wp2
   go_roundw
   case rel =>
    obtain rfl : n4' = (K ++ [(⟨sa, ra, rc, sl, sp⟩ : PV)]).length := by obtain ⟨_, _, e⟩ := P6.out.len; simp at e; simp [e.2.1]
    refine ⟨m, K ++ [⟨sa, ra, rc, sl, sp⟩], x3, y3, a4, c4, by go_num, by simp; omega, ?_, ?_, ?_, ?_, ?_⟩
    ·have := heap_set B6.out 3 (.slice a4 (K ++ [(⟨sa, ra, rc, sl, sp⟩ : PV)]).length c4); exact this
    ·exact P6.out.kept fun k hk _ => Below.heap_setCell _ _ _ _ (show k ≠ w3.heap.size by omega)
    ·exact qinv_below Q4.out (L6.out.trans ((Below.refl _ _).setCell (p := ⟨w3.heap.size, 3, none⟩) (Nat.le_refl _) _)) HRW.out (fun b off eb hn => HGS.out w3 HZW.out b off eb hn)
    ·exact (HFr.out.ronly O4'.out HSZ.out).below (L6.out.trans ((Below.refl _ _).setCell (p := ⟨w3.heap.size, 3, none⟩) (Nat.le_refl _) _)) (fun k h1 h2 => by omega)
    ·rw [List.map_append]; exact HGO.out
   case measure => simp [intOf]
end Go.Proofs.YtmkakdfdfdcncaaGreatDoor
