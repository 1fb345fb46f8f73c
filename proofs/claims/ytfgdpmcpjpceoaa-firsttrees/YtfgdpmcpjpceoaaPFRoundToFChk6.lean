import Derived.Test.YtfgdpmcpjpceoaaPFChk1ToFOf
import Derived.Test.YtfgdpmcpjpceoaaPRegX
import Derived.Test.YtfgdpmcpjpceoaaPFBaseToFMem7
import Derived.Deep.QuietTactic
import Derived.BigQuiet
import Derived.Lib.SliceRun
namespace Go.Proofs.Ytfgdpmcpjpceoaa
set_option linter.unusedVariables false
set_option maxRecDepth 100000
set_option maxHeartbeats 16000000
open Go.RowKit
def rStep (N : List Bool) (F : List BS) (p : PV) : List BS := F.set p.left.toNat (withS (F.getD p.left.toNat (0, 0)) (ofS N F p.right (0, 0)))
def roundS (N : List Bool) (ps : List PV) (F : List BS) : List BS := ps.foldl (rStep N) F
theorem getD_setS {F : List BS} {i j : Nat} {v : BS} : (F.set i v).getD j (0, 0) = if i = j /\ j < F.length then v else F.getD j (0, 0) := by
 simp only [List.getD, List.getElem?_set]
 by_cases h1 : i = j
 ·subst h1
  by_cases h2 : i < F.length
  ·simp [h2]
  ·simp [h2]
 ·simp [h1]
theorem rStep_len (N : List Bool) (F : List BS) (p : PV) : (rStep N F p).length = F.length := by simp [rStep]
structure LWs (g : GV) (gb cb nb fb : Nat) (N : List Bool) (F : List BS) (n₀ : Nat) (w0 w : World) : Prop where
 gbx : w.heap[gb]? = some (gBox g)
 cbx : CellsAt w cb #[.slice (some ⟨nb, 0, none⟩) N.length N.length, .slice (some ⟨fb, 0, none⟩) N.length N.length] 67
 n : BB w nb N
 f : SBk w fb F
 ok : ∀ i, OkS (F.getD i (0, 0))
 len : F.length = N.length /\ N.length = g.ns.length
 bel : Below n₀ w0 w
theorem LWs.later {g : GV} {gb cb nb fb : Nat} {N : List Bool} {F : List BS} {n₀ : Nat} {w0 w w' : World} (h : LWs g gb cb nb fb N F n₀ w0 w) (hb : Below w.heap.size w w') (hn : n₀ <= w.heap.size) : LWs g gb cb nb fb N F n₀ w0 w' :=
 ⟨(hb.block _ (lt_of_block h.gbx)).trans h.gbx, (hb.block _ h.cbx.lt).trans h.cbx, h.n.later hb, h.f.later hb, h.ok, h.len, h.bel.trans (hb.mono hn)⟩
theorem run_of3 {o : Oper} {a : Act} {t0 t1 t2 : TypeId} {v0 v1 v2 : Value} {x0 x1 x2 : Operand} (hop : o.op = Op.call { callee := Callee.value (Operand.func 33), args := #[x0, x1, x2], argTypes := #[t0, t1, t2] }) (h0 : a.eval x0 = v0) (h1 : a.eval x1 = v1) (h2 : a.eval x2 = v2) (w : World) : (execOp a.eval o).run Try.prog w = .ok (.enter 33 #[v0, v1, v2]) w := by
 have hf : a.eval (Operand.func 33) = .func (.func 33) #[] #[] := rfl
 simp [execOp, hop, resolve, invoke, h0, h1, h2, hf, Deferred.ofValue]
theorem run_with2 {o : Oper} {a : Act} {t0 t1 : TypeId} {v0 v1 : Value} {x0 x1 : Operand} (hop : o.op = Op.call { callee := Callee.value (Operand.func 45), args := #[x0, x1], argTypes := #[t0, t1] }) (h0 : a.eval x0 = v0) (h1 : a.eval x1 = v1) (w : World) : (execOp a.eval o).run Try.prog w = .ok (.enter 45 #[v0, v1]) w := by
 have hf : a.eval (Operand.func 45) = .func (.func 45) #[] #[] := rfl
 simp [execOp, hop, resolve, invoke, h0, h1, hf, Deferred.ofValue]
set_option linter.unusedSimpArgs false in
theorem round_S (g : GV) (gb cb nb fb : Nat) (N : List Bool) (F : List BS) (n₀ : Nat) (w0 w : World) (hfg : FG w0 g) (hw0 : w0.heap.size = n₀) (h : LWs g gb cb nb fb N F n₀ w0 w) (hd : fb ≠ gb /\ fb ≠ cb /\ fb ≠ nb /\ n₀ <= fb) :
  Calls Try.prog 44 #[.pointer (some ⟨gb, 0, none⟩), .pointer (some ⟨cb, 0, none⟩)] w fun e w' => e = .returned (.tuple #[]) /\ LWs g gb cb nb fb N (roundS N g.ps F) n₀ w0 w' /\ w.heap.size <= w'.heap.size /\ ∀ j, j < w.heap.size -> j ≠ fb -> w'.heap[j]? = w.heap[j]? := by
 have HG : Hid (∀ w', Below n₀ w0 w' -> FG w' g) := fun w' hb => hfg.later (by rw [hw0]; exact hb)
 have H0 : Hid (LWs g gb cb nb fb N F n₀ w0 w) := h
 have HD : Hid (fb ≠ gb /\ fb ≠ cb /\ fb ≠ nb /\ n₀ <= fb) := hd
 have hpl := hfg.pl
 have HSY : Hid (∀ p ∈ g.ps, ∀ s ∈ p.right, SymIn g.ns.length s) := fun p hp s hs => by
  rcases hfg.sym p hp s hs with q | q
  ·exact .inl ⟨q.1, q.2.1, by have := hfg.tl; omega⟩
  ·exact .inr q
 obtain ⟨x0, x1, x2, x3, x4⟩ := gb_cells h.gbx
 clear h hd hfg
 go_enter Try.func44, Try.ntmps44
 go_wp2
 go_loopw [7] (fun z wr => ∃ j : Nat, j <= g.ps.length /\ z = .int .i64 j /\ LWs g gb cb nb fb N ((g.ps.take j).foldl (rStep N) F) n₀ w0 wr /\ w.heap.size <= wr.heap.size /\ ∀ i, i < w.heap.size -> i ≠ fb -> wr.heap[i]? = w.heap[i]?) (fun z _ => g.ps.length - (intOf z).toNat)
 case atStart => exact ⟨0, Nat.zero_le _, rfl, H0.out, Nat.le_refl _, fun _ _ _ => rfl⟩
 case round =>
  clear x0 x1 x2 x3 x4
  obtain ⟨j, hj, rfl, hL, hwz, hwk⟩ := hrel
  have HWK : Hid (w.heap.size <= wr.heap.size /\ ∀ i, i < w.heap.size -> i ≠ fb -> wr.heap[i]? = w.heap[i]?) := ⟨hwz, hwk⟩
  clear hwz hwk
  by_cases hjt : j < g.ps.length
  ·have hfg := HG.out _ hL.bel
   obtain ⟨b, o, hpa, hbl, hc⟩ := hfg.p.cells (by intro e; rw [e] at hjt; simp at hjt)
   obtain ⟨c0, c1, c2⟩ := hc j hjt
   have jlt : (j : Int) < (g.ps.length : Int) := by omega
   have hmem : g.ps.getD j .none ∈ g.ps := by simp [List.getD, hjt]
   obtain ⟨l0, l1⟩ := hfg.left _ hmem
   have hrow := hfg.p.rows _ hmem
   have hrl := hfg.rl _ hmem
   have hsy := HSY.out _ hmem
   have hstep := foldl_take_succ (rStep N) g.ps j F .none hjt
   generalize hFF : (g.ps.take j).foldl (rStep N) F = G at *
   generalize hp : g.ps.getD j .none = p at *
   obtain ⟨pl, pra, prc, pr, pp⟩ := p
   simp only at c0 c1 c2 l0 l1 hrow hrl hsy
   obtain ⟨m, rfl⟩ : ∃ m : Nat, pl = (m : Int) := ⟨pl.toNat, by omega⟩
   have hBA : Below wr.heap.size wr (wr.alloc (.cells #[.int .i64 (m : Int), .slice pra pr.length prc, .int .i64 pp] 46)) := below_alloc _ _
   have hn0 : n₀ <= wr.heap.size := by rw [<- hw0]; have := hL.bel.size; omega
   have hLA := hL.later hBA hn0
   have hmN : m < N.length := by rw [hL.len.2]; omega
   have hmG : m < G.length := by rw [hL.len.1]; exact hmN
   have HNP : Hid (wr.heap.size ≠ fb) := fun e => by have := hL.f.lt; omega
   have HLA : Hid (LWs g gb cb nb fb N G n₀ w0 (wr.alloc (.cells #[.int .i64 (m : Int), .slice pra pr.length prc, .int .i64 pp] 46)) /\ n₀ <= (wr.alloc (.cells #[.int .i64 (m : Int), .slice pra pr.length prc, .int .i64 pp] 46)).heap.size) := ⟨hLA, Nat.le_trans hn0 hBA.size⟩
   have HST : Hid ((g.ps.take (j + 1)).foldl (rStep N) F = G.set m (withS (G.getD m (0, 0)) (ofS N G pr (0, 0)))) := by
    show _ = _
    rw [hstep]
    simp [rStep]
   have HRW : Hid (SymRow (wr.alloc (.cells #[.int .i64 (m : Int), .slice pra pr.length prc, .int .i64 pp] 46)) pra pr) := hrow.later (Nat.le_refl _) hBA
   have HS2 : Hid (∀ s ∈ pr, SymIn N.length s) := by rw [hL.len.2]; exact hsy
   have OF : Hid (∀ w2, (wr.alloc (.cells #[.int .i64 (m : Int), .slice pra pr.length prc, .int .i64 pp] 46)).drew = w2 -> Calls Try.prog 33 #[.agg #[.slice (some ⟨nb, 0, none⟩) N.length N.length, .slice (some ⟨fb, 0, none⟩) N.length N.length], .slice pra pr.length prc, .agg #[.int .u64 0, .int .u64 0]] w2 fun e w' => e = .returned (sv (ofS N G pr (0, 0))) /\ Below w2.heap.size w2 w') := fun w2 e => by
    subst e
    have hdr : Below (wr.alloc (.cells #[.int .i64 (m : Int), .slice pra pr.length prc, .int .i64 pp] 46)).heap.size (wr.alloc (.cells #[.int .i64 (m : Int), .slice pra pr.length prc, .int .i64 pp] 46)) (wr.alloc (.cells #[.int .i64 (m : Int), .slice pra pr.length prc, .int .i64 pp] 46)).drew := (Below.refl _ _).drew
    exact of_S (some ⟨nb, 0, none⟩) N N.length fb N.length G pra prc pr (0, 0) _ ⟨(hLA.n.later hdr).row, hLA.f.later hdr, ⟨hL.len.1, by rw [hL.len.2]; exact (HG.out _ hL.bel).nl.2⟩, hL.ok⟩ (HRW.out.later (Nat.le_refl _) hdr) (by omega) HS2.out OkS.zero
   have OKO : Hid (OkS (ofS N G pr (0, 0))) := ofS_ok hL.ok pr _ HS2.out OkS.zero
   have OKG : Hid (OkS (G.getD m (0, 0))) := hL.ok m
   obtain ⟨y0, y1⟩ := hLA.f.cell hmG
   have z0 : (wr.alloc (.cells #[.int .i64 (m : Int), .slice pra pr.length prc, .int .i64 pp] 46)).cell? ⟨cb, 0, none⟩ = some (.slice (some ⟨nb, 0, none⟩) N.length N.length) := (cellq_any hLA.cbx).trans rfl
   have z1 : (wr.alloc (.cells #[.int .i64 (m : Int), .slice pra pr.length prc, .int .i64 pp] 46)).cell? ⟨cb, 1, none⟩ = some (.slice (some ⟨fb, 0, none⟩) N.length N.length) := (cellq_any hLA.cbx).trans rfl
   generalize hO : ofS N G pr (0, 0) = O at *
   generalize hGm : G.getD m (0, 0) = Q at *
   obtain ⟨o1, o2⟩ := O
   obtain ⟨q1, q2⟩ := Q
   have WC : Hid (∀ w', Calls Try.prog 45 #[sv (q1, q2), sv (o1, o2)] w' fun e w2 => e = .returned (sv (withS (q1, q2) (o1, o2))) /\ Below w'.heap.size w' w2) := fun w' => with_S _ _ w' OKG.out OKO.out
   rw [hpa]
   clear hL hLA hBA hc hmem hstep hFF hp hrow hsy hpa hfg
   have GM : Hid (G.getD m (0, 0) = (q1, q2)) := hGm
   have OKV : Hid (OkS (withS (q1, q2) (o1, o2))) := OKG.out.with OKO.out
   have PB : Hid ((wr.alloc (.cells #[.int .i64 (m : Int), .slice pra pr.length prc, .int .i64 pp] 46)).heap[wr.heap.size]? = some (.cells #[.int .i64 (m : Int), .slice pra pr.length prc, .int .i64 pp] 46 (0, 0))) := heap_alloc_new _ _
   clear hGm hO
   generalize hV : withS (q1, q2) (o1, o2) = V at *
   obtain ⟨v1, v2⟩ := V
   have KS0 : Hid (∀ w', LWs g gb cb nb fb N G n₀ w0 w' -> w'.heap[wr.heap.size]? = some (.cells #[.int .i64 (m : Int), .slice pra pr.length prc, .int .i64 pp] 46 (0, 0)) -> (fun w' : World => w'.cell? ⟨cb, 0, none⟩ = some (.slice (some ⟨nb, 0, none⟩) N.length N.length) /\ w'.cell? ⟨cb, 1, none⟩ = some (.slice (some ⟨fb, 0, none⟩) N.length N.length) /\ w'.cell? ⟨wr.heap.size, 0, none⟩ = some (.int .i64 (m : Int)) /\ w'.cell? ⟨wr.heap.size, 1, none⟩ = some (.slice pra pr.length prc)) w' /\ (fun w' : World => w'.cell? ⟨fb, m * 2, none⟩ = some (.int .u64 (q1 : Int)) /\ w'.cell? ⟨fb, m * 2 + 1, none⟩ = some (.int .u64 (q2 : Int))) w') := fun w' hL hP => by
    obtain ⟨a0, a1⟩ := hL.f.cell hmG
    rw [GM.out] at a0 a1
    exact ⟨⟨(cellq_any hL.cbx).trans rfl, (cellq_any hL.cbx).trans rfl, (cellq_any hP).trans rfl, (cellq_any hP).trans rfl⟩, a0, a1⟩
   have hs : Hid ((fun w' : World => w'.cell? ⟨cb, 0, none⟩ = some (.slice (some ⟨nb, 0, none⟩) N.length N.length) /\ w'.cell? ⟨cb, 1, none⟩ = some (.slice (some ⟨fb, 0, none⟩) N.length N.length) /\ w'.cell? ⟨wr.heap.size, 0, none⟩ = some (.int .i64 (m : Int)) /\ w'.cell? ⟨wr.heap.size, 1, none⟩ = some (.slice pra pr.length prc)) (wr.alloc (.cells #[.int .i64 (m : Int), .slice pra pr.length prc, .int .i64 pp] 46)).drew /\ (fun w' : World => w'.cell? ⟨fb, m * 2, none⟩ = some (.int .u64 (q1 : Int)) /\ w'.cell? ⟨fb, m * 2 + 1, none⟩ = some (.int .u64 (q2 : Int))) (wr.alloc (.cells #[.int .i64 (m : Int), .slice pra pr.length prc, .int .i64 pp] 46)).drew) := KS0.out _ (HLA.out.1.later (Below.refl _ _).drew HLA.out.2) PB.out
   go_wp2
   refine wp_region_x (S := SX 17 (fun w' : World => w'.cell? ⟨cb, 0, none⟩ = some (.slice (some ⟨nb, 0, none⟩) N.length N.length) /\ w'.cell? ⟨cb, 1, none⟩ = some (.slice (some ⟨fb, 0, none⟩) N.length N.length) /\ w'.cell? ⟨wr.heap.size, 0, none⟩ = some (.int .i64 (m : Int)) /\ w'.cell? ⟨wr.heap.size, 1, none⟩ = some (.slice pra pr.length prc)) (fun w' : World => w'.cell? ⟨fb, m * 2, none⟩ = some (.int .u64 (q1 : Int)) /\ w'.cell? ⟨fb, m * 2 + 1, none⟩ = some (.int .u64 (q2 : Int)))) (by kernel_rfl) ?_
   refine wtT (m := 17) (i := 0) (v := ?_) rfl (Or.inl ⟨by rfl, ?_⟩) (SX.both hs.out.1 hs.out.2) ?_
   rotate_left
   ·(intro w hSw; (try dsimp only at hSw); go_simp; try (with_reducible rfl))
   (try simp only [Act.put, lsA, lsZ, lsN])
   refine wtT (m := 17) (i := 1) (v := ?_) rfl (Or.inl ⟨by rfl, ?_⟩) (SX.both hs.out.1 hs.out.2) ?_
   rotate_left
   ·(intro w hSw; (try dsimp only at hSw); go_simp; try (with_reducible rfl))
   (try simp only [Act.put, lsA, lsZ, lsN])
   refine wtT (m := 17) (i := 2) (v := ?_) rfl (Or.inl ⟨by rfl, ?_⟩) (SX.both hs.out.1 hs.out.2) ?_
   rotate_left
   ·(intro w hSw; (try dsimp only at hSw); go_simp; try (with_reducible rfl))
   (try simp only [Act.put, lsA, lsZ, lsN])
   refine wtT (m := 17) (i := 3) (v := ?_) rfl (Or.inl ⟨by rfl, ?_⟩) (SX.both hs.out.1 hs.out.2) ?_
   rotate_left
   ·(intro w hSw; (try dsimp only at hSw); go_simp; try (with_reducible rfl))
   (try simp only [Act.put, lsA, lsZ, lsN])
   refine wtT (m := 17) (i := 4) (v := ?_) rfl (Or.inl ⟨by rfl, ?_⟩) (SX.both hs.out.1 hs.out.2) ?_
   rotate_left
   ·(intro w hSw; (try dsimp only at hSw); go_simp; try (with_reducible rfl))
   (try simp only [Act.put, lsA, lsZ, lsN])
   refine wtT (m := 17) (i := 5) (v := ?_) rfl (Or.inl ⟨by rfl, ?_⟩) (SX.both hs.out.1 hs.out.2) ?_
   rotate_left
   ·(intro w hSw; (try dsimp only at hSw); go_simp; try (with_reducible rfl))
   (try simp only [Act.put, lsA, lsZ, lsN])
   refine wtT (m := 17) (i := 6) (v := ?_) rfl (Or.inl ⟨by rfl, ?_⟩) (SX.both hs.out.1 hs.out.2) ?_
   rotate_left
   ·(intro w hSw; (try dsimp only at hSw); go_simp; try (with_reducible rfl))
   (try simp only [Act.put, lsA, lsZ, lsN])
   refine wtT (m := 17) (i := 7) (v := ?_) rfl (Or.inl ⟨by rfl, ?_⟩) (SX.both hs.out.1 hs.out.2) ?_
   rotate_left
   ·(intro w hSw; (try dsimp only at hSw); go_simp; try (with_reducible rfl))
   (try simp only [Act.put, lsA, lsZ, lsN])
   refine wtT (m := 17) (i := 8) (v := ?_) rfl (Or.inl ⟨by rfl, ?_⟩) (SX.both hs.out.1 hs.out.2) ?_
   rotate_left
   ·(intro w hSw; (try dsimp only at hSw); go_simp; try (with_reducible rfl))
   (try simp only [Act.put, lsA, lsZ, lsN])
   refine wtT (m := 17) (i := 9) (v := ?_) rfl (Or.inl ⟨by rfl, ?_⟩) (SX.both hs.out.1 hs.out.2) ?_
   rotate_left
   ·(intro w hSw; (try dsimp only at hSw); go_simp; try (with_reducible rfl))
   (try simp only [Act.put, lsA, lsZ, lsN])
   refine wtT (m := 17) (i := 10) (v := ?_) rfl (Or.inl ⟨by rfl, ?_⟩) (SX.both hs.out.1 hs.out.2) ?_
   rotate_left
   ·(intro w hSw; (try dsimp only at hSw); go_simp; try (with_reducible rfl))
   (try simp only [Act.put, lsA, lsZ, lsN])
   refine wtT (m := 17) (i := 11) (v := ?_) rfl (Or.inl ⟨by rfl, ?_⟩) (SX.both hs.out.1 hs.out.2) ?_
   rotate_left
   ·(intro w hSw; (try dsimp only at hSw); go_simp; try (with_reducible rfl))
   (try simp only [Act.put, lsA, lsZ, lsN])
   refine wtT (m := 17) (i := 12) (v := ?_) rfl (Or.inl ⟨by rfl, ?_⟩) (SX.both hs.out.1 hs.out.2) ?_
   rotate_left
   ·(intro w hSw; (try dsimp only at hSw); go_simp; try (with_reducible rfl))
   (try simp only [Act.put, lsA, lsZ, lsN])
   refine wtT (m := 17) (i := 13) (v := ?_) rfl (Or.inl ⟨by rfl, ?_⟩) (SX.both hs.out.1 hs.out.2) ?_
   rotate_left
   ·(intro w hSw; (try dsimp only at hSw); go_simp; try (with_reducible rfl))
   (try simp only [Act.put, lsA, lsZ, lsN])
   refine wpAnyX_one (j := 14) (by decide +kernel) rfl (fun K' hK => ?_)
   refine step_callX rfl 33 #[.agg #[.slice (some ⟨nb, 0, none⟩) N.length N.length, .slice (some ⟨fb, 0, none⟩) N.length N.length], .slice pra pr.length prc, .agg #[.int .u64 0, .int .u64 0]] _ (run_of3 (v0 := .agg #[.slice (some ⟨nb, 0, none⟩) N.length N.length, .slice (some ⟨fb, 0, none⟩) N.length N.length]) (v1 := .slice pra pr.length prc) (v2 := .agg #[.int .u64 0, .int .u64 0]) (by rfl) (by rfl) (by rfl) (by rfl) _) (OF.out _ rfl) ?_
   rintro e w2 ⟨rfl, b2⟩
   have L2 : Hid (LWs g gb cb nb fb N G n₀ w0 w2) := HLA.out.1.later ((Below.refl _ _).drew.trans b2) HLA.out.2
   have P2 : Hid (w2.heap[wr.heap.size]? = some (.cells #[.int .i64 (m : Int), .slice pra pr.length prc, .int .i64 pp] 46 (0, 0))) := (b2.block _ (lt_of_block PB.out)).trans PB.out
   have N2 : Hid (n₀ <= w2.heap.size) := Nat.le_trans HLA.out.2 b2.size
   have Q2 : Hid (∀ i, i < wr.heap.size -> w2.heap[i]? = wr.heap[i]?) := fun i hi => (b2.block _ (Nat.lt_of_lt_of_le hi (below_alloc wr _).size)).trans ((below_alloc wr _).block _ hi)
   have Z2 : Hid (wr.heap.size <= w2.heap.size) := Nat.le_trans (below_alloc wr _).size b2.size
   clear b2 hs
   have hs : Hid ((fun w' : World => w'.cell? ⟨cb, 0, none⟩ = some (.slice (some ⟨nb, 0, none⟩) N.length N.length) /\ w'.cell? ⟨cb, 1, none⟩ = some (.slice (some ⟨fb, 0, none⟩) N.length N.length) /\ w'.cell? ⟨wr.heap.size, 0, none⟩ = some (.int .i64 (m : Int)) /\ w'.cell? ⟨wr.heap.size, 1, none⟩ = some (.slice pra pr.length prc)) w2 /\ (fun w' : World => w'.cell? ⟨fb, m * 2, none⟩ = some (.int .u64 (q1 : Int)) /\ w'.cell? ⟨fb, m * 2 + 1, none⟩ = some (.int .u64 (q2 : Int))) w2) := KS0.out _ L2.out P2.out
   refine ⟨_, rfl, hK.out _ _ (SX.both hs.out.1 hs.out.2) ?_⟩
   clear hK K'
   (try simp only [Act.put, lsA, lsZ, lsN])
   refine wpAnyX_one (j := 15) (by decide +kernel) rfl (fun K' hK => ?_)
   refine step_callX rfl 45 #[sv (q1, q2), sv (o1, o2)] _ (run_with2 (v0 := sv (q1, q2)) (v1 := sv (o1, o2)) (by rfl) (by rfl) (by rfl) _) (WC.out _) ?_
   rintro e w3 ⟨rfl, b3⟩
   have L3 : Hid (LWs g gb cb nb fb N G n₀ w0 w3) := L2.out.later b3 N2.out
   have P3 : Hid (w3.heap[wr.heap.size]? = some (.cells #[.int .i64 (m : Int), .slice pra pr.length prc, .int .i64 pp] 46 (0, 0))) := (b3.block _ (lt_of_block P2.out)).trans P2.out
   have Q3 : Hid (∀ i, i < wr.heap.size -> w3.heap[i]? = wr.heap[i]?) := fun i hi => (b3.block _ (Nat.lt_of_lt_of_le hi Z2.out)).trans (Q2.out i hi)
   have Z3 : Hid (wr.heap.size <= w3.heap.size) := Nat.le_trans Z2.out b3.size
   clear b3 hs
   have hs : Hid ((fun w' : World => w'.cell? ⟨cb, 0, none⟩ = some (.slice (some ⟨nb, 0, none⟩) N.length N.length) /\ w'.cell? ⟨cb, 1, none⟩ = some (.slice (some ⟨fb, 0, none⟩) N.length N.length) /\ w'.cell? ⟨wr.heap.size, 0, none⟩ = some (.int .i64 (m : Int)) /\ w'.cell? ⟨wr.heap.size, 1, none⟩ = some (.slice pra pr.length prc)) w3 /\ (fun w' : World => w'.cell? ⟨fb, m * 2, none⟩ = some (.int .u64 (q1 : Int)) /\ w'.cell? ⟨fb, m * 2 + 1, none⟩ = some (.int .u64 (q2 : Int))) w3) := KS0.out _ L3.out P3.out
   refine ⟨_, rfl, hK.out _ _ (SX.both hs.out.1 hs.out.2) ?_⟩
   clear hK K'
   (try simp only [Act.put, lsA, lsZ, lsN])
   refine wtT (m := 17) (i := 16) (v := ?_) rfl (Or.inl ⟨by rfl, ?_⟩) (SX.both hs.out.1 hs.out.2) ?_
   rotate_left
   ·(intro w hSw; (try dsimp only at hSw); go_simp; try (with_reducible rfl))
   (try simp only [Act.put, lsA, lsZ, lsN])
   have f0 := L3.out.f.free (m * 2)
   have f1 := L3.out.f.free (m * 2 + 1)
   have hz := L3.out.f.lt
   obtain ⟨s0, s1⟩ := hs.out.2
   refine wpAnyX_one (j := 17) (by decide +kernel) rfl (fun K' hK => ?_)
   go_simp
   have off : ∀ j, j ≠ fb -> ((w3.setCell ⟨fb, m * 2, none⟩ (.int .u64 (v1 : Int))).setCell ⟨fb, m * 2 + 1, none⟩ (.int .u64 (v2 : Int))).heap[j]? = w3.heap[j]? := fun j hj => by rw [Below.heap_setCell _ _ _ _ hj, Below.heap_setCell _ _ _ _ hj]
   have hd := HD.out
   have L4 : Hid (LWs g gb cb nb fb N (G.set m (v1, v2)) n₀ w0 ((w3.setCell ⟨fb, m * 2, none⟩ (.int .u64 (v1 : Int))).setCell ⟨fb, m * 2 + 1, none⟩ (.int .u64 (v2 : Int)))) := ⟨(off _ (Ne.symm hd.1)).trans L3.out.gbx, (off _ (Ne.symm hd.2.1)).trans L3.out.cbx, L3.out.n.kept (off _ (Ne.symm hd.2.2.1)), L3.out.f.set hmG (v1, v2), fun i => by
    rw [getD_setS]
    split
    ·exact OKV.out
    ·exact L3.out.ok i, by rw [List.length_set]; exact L3.out.len, (L3.out.bel.setCell (p := ⟨fb, m * 2, none⟩) hd.2.2.2 _).setCell (p := ⟨fb, m * 2 + 1, none⟩) hd.2.2.2 _⟩
   refine hK.out _ _ (SX.one ⟨(cellq_any L4.out.cbx).trans rfl, (cellq_any L4.out.cbx).trans rfl, (cellq_any ((off _ HNP.out).trans P3.out)).trans rfl, (cellq_any ((off _ HNP.out).trans P3.out)).trans rfl⟩ (by decide +kernel)) ?_
   have K4 : Hid (w.heap.size <= ((w3.setCell ⟨fb, m * 2, none⟩ (.int .u64 (v1 : Int))).setCell ⟨fb, m * 2 + 1, none⟩ (.int .u64 (v2 : Int))).heap.size /\ ∀ i, i < w.heap.size -> i ≠ fb -> ((w3.setCell ⟨fb, m * 2, none⟩ (.int .u64 (v1 : Int))).setCell ⟨fb, m * 2 + 1, none⟩ (.int .u64 (v2 : Int))).heap[i]? = w.heap[i]?) := ⟨by simpa using Nat.le_trans HWK.out.1 Z3.out, fun i hi hne => (off i hne).trans ((Q3.out i (Nat.lt_of_lt_of_le hi HWK.out.1)).trans (HWK.out.2 i hi hne))⟩
   clear hK K' off
   (try simp only [Act.put, lsA, lsZ, lsN])
   refine wpAnyX_done (by decide +kernel) ?_
   clear hs s0 s1 f0 f1 hz
   go_wp2
   go_roundw
   case rel => exact ⟨j + 1, by omega, by go_num, by rw [HST.out]; exact L4.out, K4.out⟩
   case measure => simp [intOf]; omega
  ·obtain rfl : j = g.ps.length := by omega
   rw [List.take_length] at hL
   have HL : Hid (LWs g gb cb nb fb N (roundS N g.ps F) n₀ w0 wr) := hL
   clear hL
   go_wp2
   go_end0
   exact ⟨rfl, HL.out, HWK.out⟩
def SRd (w : World) (b : Nat) (F : List BS) : Prop := b < w.heap.size /\ ∀ i, i < F.length -> w.cell? ⟨b, i * 2, none⟩ = some (.int .u64 ((F.getD i (0, 0)).1 : Int)) /\ w.cell? ⟨b, i * 2 + 1, none⟩ = some (.int .u64 ((F.getD i (0, 0)).2 : Int))
theorem SRd.later {w w' : World} {b : Nat} {F : List BS} (h : SRd w b F) (hb : Below w.heap.size w w') : SRd w' b F :=
 ⟨Nat.lt_of_lt_of_le h.1 hb.size, fun i hi => ⟨(hb.cell (p := ⟨b, i * 2, none⟩) h.1).trans (h.2 i hi).1, (hb.cell (p := ⟨b, i * 2 + 1, none⟩) h.1).trans (h.2 i hi).2⟩⟩
theorem SBk.rd {w : World} {b : Nat} {F : List BS} (h : SBk w b F) : SRd w b F := ⟨h.lt, fun _ hi => h.cell hi⟩
theorem equal_S (a b ca cb : Nat) (F G : List BS) (w : World) (hF : SRd w a F) (hG : SRd w b G) (hl : G.length = F.length) (hn : F.length <= 1048576) :
  Calls Try.prog 59 #[.slice (some ⟨a, 0, none⟩) F.length ca, .slice (some ⟨b, 0, none⟩) G.length cb] w fun e w' => e = .returned (.bool (decide (F = G))) /\ Below w.heap.size w w' := by
 have HF : Hid (SRd w a F /\ SRd w b G) := ⟨hF, hG⟩
 have HE : Hid (∀ k, k < F.length -> F.getD k (0, 0) ≠ G.getD k (0, 0) -> F ≠ G) := fun k _ h e => h (by rw [e])
 have HY : Hid ((∀ k, k < F.length -> F.getD k (0, 0) = G.getD k (0, 0)) -> F = G) := fun h => by
  apply List.ext_getElem hl.symm
  intro i h1 h2
  have := h i h1
  simpa [List.getD, h1, h2] using this
 rw [hl]
 clear hF hG
 generalize hX : decide (F = G) = X at *
 have HX : Hid (decide (F = G) = X) := hX
 clear hX
 go_enter Try.func59, Try.ntmps59
 go_wp2
 go_loopw [13] (fun z wr => ∃ k : Nat, k <= F.length /\ z = .int .i64 k /\ (∀ j, j < k -> F.getD j (0, 0) = G.getD j (0, 0)) /\ Below w.heap.size w wr) (fun z _ => F.length - (intOf z).toNat)
 case atStart => exact ⟨0, Nat.zero_le _, rfl, fun j hj => absurd hj (Nat.not_lt_zero j), Below.refl _ _⟩
 case round =>
  obtain ⟨k, hk, rfl, hf, hb⟩ := hrel
  by_cases hlt : k < F.length
  ·obtain ⟨x0, x1⟩ := (HF.out.1.later hb).2 k hlt
   obtain ⟨y0, y1⟩ := (HF.out.2.later hb).2 k (by omega)
   have klt : (k : Int) < (F.length : Int) := by omega
   have HN : Hid (F.getD k (0, 0) ≠ G.getD k (0, 0) -> F ≠ G) := HE.out k hlt
   have HS : Hid (F.getD k (0, 0) = G.getD k (0, 0) -> ∀ j, j < k + 1 -> F.getD j (0, 0) = G.getD j (0, 0)) := fun h j hj => by
    by_cases e : j = k
    ·subst e; exact h
    ·exact hf j (by omega)
   have HB : Hid (Below w.heap.size w wr) := hb
   generalize F.getD k (0, 0) = p at *
   generalize G.getD k (0, 0) = q at *
   obtain ⟨p1, p2⟩ := p
   obtain ⟨q1, q2⟩ := q
   have hq := eq_S p1 p2 q1 q2
   simp only at x0 x1 y0 y1
   clear hb hf
   by_cases h : (p1, p2) = (q1, q2)
   ·have hd : decide ((p1, p2) = (q1, q2)) = true := by simpa using h
    simp only [hd] at hq
    have R : Hid (∀ j, j < k + 1 -> F.getD j (0, 0) = G.getD j (0, 0)) := HS.out h
    go_wp2
    go_quiet (fail)
    go_wp2
    go_roundw
    case rel => exact ⟨k + 1, by omega, by go_num, R.out, by first | exact HB.out.drew | exact below_drewN HB.out _⟩
    case measure => simp [intOf]; omega
   ·have hd : decide ((p1, p2) = (q1, q2)) = false := by simpa using h
    simp only [hd] at hq
    have R : Hid (X = false) := by show _ = _; rw [<- HX.out]; exact decide_eq_false (HN.out h)
    go_wp2
    go_quiet (fail)
    go_wp2
    go_ret
    exact ⟨by rw [R.out]; rfl, by first | exact HB.out.drew | exact below_drewN HB.out _⟩
  ·obtain rfl : k = F.length := by omega
   have R : Hid (X = true) := by show _ = _; rw [<- HX.out]; exact decide_eq_true (HY.out hf)
   have HB : Hid (Below w.heap.size w wr) := hb
   clear hb hf
   go_wp2
   go_ret
   exact ⟨by rw [R.out]; rfl, HB.out⟩
theorem infoSet_parts : ∃ i, Try.prog.info? 86 = some i /\ i.zero = some (.agg #[.int .u64 0, .int .u64 0]) /\ i.size = 2 /\ i.bytes = 16 := by
 have h : (Try.prog.info? 86).map (fun i => (i.zero, i.size, i.bytes)) = some (some (.agg #[.int .u64 0, .int .u64 0]), 2, 16) := by kernel_rfl
 cases e : Try.prog.info? 86 with
 | none => rw [e] at h; cases h
 | some i => rw [e] at h; simp at h; exact ⟨i, rfl, h⟩
theorem setCells_one (F : List BS) : ∀ u ∈ setCells F, u.oneCell' = true := by
 intro u hu
 unfold setCells at hu
 obtain ⟨s, _, hs⟩ := List.mem_flatMap.1 hu
 simp at hs
 rcases hs with rfl | rfl <;> rfl
theorem clone_set (b c : Nat) (F : List BS) (w : World) (hF : SRd w b F) (hn : F.length <= 1048576) (hne : F ≠ []) :
  Calls Try.prog 58 #[.slice (some ⟨b, 0, none⟩) F.length c] w fun e w' => ∃ b' c', e = .returned (.slice (some ⟨b', 0, none⟩) F.length c') /\ SRd w' b' F /\ w.heap.size <= b' /\ Below w.heap.size w w' := by
 have hnl := fun wx a n c => Lib.run_eql_slice_nil (P := Try.prog) (w := wx) 65 86 a n c 0 0 Try.underlying65
 have HH : Hid (∀ u ∈ setCells F, u.oneCell' = true) := setCells_one F
 have hcc : Hid (∀ j u, (setCells F)[j]? = some u -> (w.alloc (.cells #[] 86)).cell? ((⟨b, 0, none⟩ : Addr).add j) = some u) := fun j u hu => by
  rw [add_none, Nat.zero_add]
  have hj : j < F.length * 2 := by
   have := (List.getElem?_eq_some_iff.1 hu).1
   rwa [setCells_len] at this
  have h1 := hF.2 (j / 2) (by omega)
  have h2 := setCells_get F (j / 2) (by omega)
  refine ((below_alloc w _).cell (p := ⟨b, j, none⟩) hF.1).trans ?_
  rcases (show j = j / 2 * 2 ∨ j = j / 2 * 2 + 1 by omega) with e | e
  ·rw [e] at hu ⊢; rw [h2.1] at hu; rw [<- hu]; exact h1.1
  ·rw [e] at hu ⊢; rw [h2.2] at hu; rw [<- hu]; exact h1.2
 have HNE : Hid (F.length ≠ 0) := fun e => hne (List.eq_nil_of_length_eq_zero e)
 obtain ⟨i0, hi, hz0, hz1, hz2⟩ := infoSet_parts
 have hsl := setCells_len F
 clear hF hne
 go_enter Try.func58, Try.ntmps58
 go_wp2_with (at_builtin; refine wpList_append_own_at _ rfl _ _ 65 rfl w.heap.size 86 i0 _ 2 16 Try.underlying65 hi hz0 hz1 hz2 rfl (by decide) _ 0 [] rfl (World.ownsRow_made w #[] 0 (Nat.le_refl _) (Nat.zero_le _) rfl) ⟨b, 0, none⟩ F.length c (setCells F) rfl hsl hcc.out HH.out (by unfold maxLen; omega) (by omega) (by simp) ?_)
 intro v' w1 hown hgrow hnil _
 go_wp2
 go_ret
 obtain ⟨g, cap, cur, rfl, hb1, hblk, hcap, htk⟩ : ∃ g cap cur, v' = .slice (some ⟨g, 0, none⟩) F.length cap /\ w.heap.size <= g /\ w1.heap[g]? = some (.cells cur 86 (0, 0)) /\ cur.size = cap * 2 /\ cur.toList.take (F.length * 2) = setCells F := by
  rcases hown.2 with ⟨e, _⟩ | ⟨g, cap, cur, e, h1, h2, h3, h4, h5, h6⟩
  ·exact absurd e hnil
  ·exact ⟨g, cap, cur, by simpa using e, h1, h2, h5, by simpa using h6⟩
 refine ⟨g, cap, rfl, ⟨lt_of_block hblk, fun i hi => ?_⟩, hb1, (below_alloc w _).grown hgrow (by simp) (fun k e => by simp [Value.ownBlock] at e; omega)⟩
 obtain ⟨h1, h2⟩ := setCells_get F i hi
 rw [<- htk, List.getElem?_take_of_lt (by omega)] at h1 h2
 rw [cellq_any hblk, cellq_any hblk]
 exact ⟨by simpa using h1, by simpa using h2⟩
def iterS (N : List Bool) (ps : List PV) (F : List BS) : Nat -> List BS
 | 0 => F
 | k + 1 => roundS N ps (iterS N ps F k)
def LeF (F G : List BS) : Prop := G.length = F.length /\ ∀ i, (F.getD i (0, 0)).1 <= (G.getD i (0, 0)).1 /\ (F.getD i (0, 0)).2 <= (G.getD i (0, 0)).2
theorem LeF.refl (F : List BS) : LeF F F := ⟨rfl, fun _ => ⟨Nat.le_refl _, Nat.le_refl _⟩⟩
theorem LeF.trans {F G H : List BS} (h : LeF F G) (h' : LeF G H) : LeF F H := ⟨h'.1.trans h.1, fun i => ⟨Nat.le_trans (h.2 i).1 (h'.2 i).1, Nat.le_trans (h.2 i).2 (h'.2 i).2⟩⟩
theorem rStep_le (N : List Bool) (F : List BS) (p : PV) : LeF F (rStep N F p) := by
 refine ⟨rStep_len N F p, fun i => ?_⟩
 unfold rStep
 rw [getD_setS]
 split
 ·rename_i h
  rw [<- h.1]
  exact ⟨Nat.left_le_or, Nat.left_le_or⟩
 ·exact ⟨Nat.le_refl _, Nat.le_refl _⟩
theorem rFold_le (N : List Bool) : ∀ (ps : List PV) (F : List BS), LeF F (ps.foldl (rStep N) F)
 | [], F => LeF.refl F
 | p :: ps, F => (rStep_le N F p).trans (rFold_le N ps _)
def mesF : List BS -> Nat
 | [] => 0
 | s :: l => (18446744073709551616 - s.1) + (18446744073709551616 - s.2) + mesF l
theorem mesF_le : ∀ (F G : List BS), LeF F G -> mesF G <= mesF F
 | [], [], _ => Nat.le_refl _
 | [], b :: m, h => by simp [LeF] at h
 | a :: l, [], h => by simp [LeF] at h
 | a :: l, b :: m, h => by
  have h0 := h.2 0
  have ht : LeF l m := ⟨by simpa using h.1, fun i => by simpa using h.2 (i + 1)⟩
  have := mesF_le l m ht
  simp only [List.getD_cons_zero] at h0
  simp only [mesF]
  omega
theorem mesF_lt : ∀ (F G : List BS), LeF F G -> (∀ i, OkS (G.getD i (0, 0))) -> F ≠ G -> mesF G < mesF F
 | [], [], _, _, hne => absurd rfl hne
 | [], b :: m, h, _, _ => by simp [LeF] at h
 | a :: l, [], h, _, _ => by simp [LeF] at h
 | a :: l, b :: m, h, hk, hne => by
  have h0 := h.2 0
  have ht : LeF l m := ⟨by simpa using h.1, fun i => by simpa using h.2 (i + 1)⟩
  have hk0 := hk 0
  simp only [List.getD_cons_zero] at h0 hk0
  have hle := mesF_le l m ht
  by_cases e : a = b
  ·subst e
   have := mesF_lt l m ht (fun i => by simpa using hk (i + 1)) (fun e => hne (by rw [e]))
   simp only [mesF]
   omega
  ·simp only [mesF]
   obtain ⟨a1, a2⟩ := a
   obtain ⟨b1, b2⟩ := b
   have : a1 ≠ b1 ∨ a2 ≠ b2 := by
    by_cases q : a1 = b1
    ·exact .inr (fun q2 => e (by rw [q, q2]))
    ·exact .inl q
   have k1 := hk0.1
   have k2 := hk0.2
   simp only at h0 k1 k2 ⊢
   omega
theorem SRd.kept {w w' : World} {b : Nat} {F : List BS} (h : SRd w b F) (hb : w'.heap[b]? = w.heap[b]?) (hs : w.heap.size <= w'.heap.size) : SRd w' b F := by
 have hc : ∀ i, w'.cell? ⟨b, i, none⟩ = w.cell? ⟨b, i, none⟩ := fun i => by simp [World.cell?, hb]
 exact ⟨Nat.lt_of_lt_of_le h.1 hs, fun i hi => ⟨(hc _).trans (h.2 i hi).1, (hc _).trans (h.2 i hi).2⟩⟩
def mesC : List Value -> Nat
 | [] => 0
 | .int _ n :: l => (18446744073709551616 - n.toNat) + mesC l
 | _ :: l => mesC l
theorem mesC_set (F : List BS) : mesC (setCells F) = mesF F := by
 induction F with
 | nil => rfl
 | cons s l ih =>
  have e : setCells (s :: l) = .int .u64 (s.1 : Int) :: .int .u64 (s.2 : Int) :: setCells l := rfl
  rw [e]
  simp only [mesC, mesF, ih, Int.toNat_natCast]
  omega
def mesW (fb : Nat) (w : World) : Nat := match w.heap[fb]? with
 | some (.cells C _ _) => mesC C.toList
 | _ => 0
theorem mesW_of {w : World} {fb : Nat} {F : List BS} (h : SBk w fb F) : mesW fb w = mesF F := by
 unfold mesW
 rw [show w.heap[fb]? = _ from h]
 exact mesC_set F
theorem settle_S (g : GV) (gb cb nb fb : Nat) (N : List Bool) (F : List BS) (n₀ : Nat) (w0 w : World) (hfg : FG w0 g) (hw0 : w0.heap.size = n₀) (h : LWs g gb cb nb fb N F n₀ w0 w) (hd : fb ≠ gb /\ fb ≠ cb /\ fb ≠ nb /\ n₀ <= fb) :
  Calls Try.prog 43 #[.slice (some ⟨fb, 0, none⟩) N.length N.length, .func (.func 44) #[] #[.pointer (some ⟨gb, 0, none⟩), .pointer (some ⟨cb, 0, none⟩)]] w fun e w' => e = .returned (.tuple #[]) /\ ∃ k, LWs g gb cb nb fb N (iterS N g.ps F k) n₀ w0 w' /\ roundS N g.ps (iterS N g.ps F k) = iterS N g.ps F k := by
 have H0 : Hid (LWs g gb cb nb fb N F n₀ w0 w) := h
 have HRC : Hid (∀ G wr, LWs g gb cb nb fb N G n₀ w0 wr -> Calls Try.prog 44 #[.pointer (some ⟨gb, 0, none⟩), .pointer (some ⟨cb, 0, none⟩)] wr fun e w' => e = .returned (.tuple #[]) /\ LWs g gb cb nb fb N (roundS N g.ps G) n₀ w0 w' /\ wr.heap.size <= w'.heap.size /\ ∀ j, j < wr.heap.size -> j ≠ fb -> w'.heap[j]? = wr.heap[j]?) := fun G wr hL => round_S g gb cb nb fb N G n₀ w0 wr hfg hw0 hL hd
 have HNL : Hid (1 <= N.length /\ N.length <= 64) := by rw [h.len.2]; exact hfg.nl
 have HSZ : Hid (∀ wr, Below n₀ w0 wr -> n₀ <= wr.heap.size) := fun wr hb => by rw [<- hw0]; have := hb.size; omega
 clear h hfg hd
 go_enter Try.func43, Try.ntmps43
 go_wp2
 go_loopw [4] (fun _ wr => ∃ k : Nat, LWs g gb cb nb fb N (iterS N g.ps F k) n₀ w0 wr) (fun _ wr => mesW fb wr)
 case atStart => exact ⟨0, H0.out⟩
 case round =>
  obtain ⟨k, hL⟩ := hrel
  have HK : Hid (roundS N g.ps (iterS N g.ps F k) = iterS N g.ps F (k + 1)) := rfl
  have HM : Hid (mesW fb wr = mesF (iterS N g.ps F k)) := mesW_of hL.f
  generalize hG : iterS N g.ps F k = G at *
  have HL : Hid (LWs g gb cb nb fb N G n₀ w0 wr) := hL
  have CC : Hid (Calls Try.prog 58 #[.slice (some ⟨fb, 0, none⟩) N.length N.length] wr fun e w' => ∃ b' c', e = .returned (.slice (some ⟨b', 0, none⟩) N.length c') /\ SRd w' b' G /\ wr.heap.size <= b' /\ Below wr.heap.size wr w') := by
   have := clone_set fb N.length G wr hL.f.rd (by rw [hL.len.1]; have := HNL.out; omega) (fun e => by have := hL.len.1; rw [e] at this; have := HNL.out; simp at *; omega)
   rw [hL.len.1] at this
   exact this
  have HGL : Hid (G.length = N.length) := hL.len.1
  have HFL : Hid (fb < wr.heap.size) := hL.f.lt
  clear hL
  obtain ⟨X, hX⟩ : ∃ X, decide (G = roundS N g.ps G) = X := ⟨_, rfl⟩
  have HX : Hid (decide (G = roundS N g.ps G) = X) := hX
  cases X
  all_goals
   go_wp2_with (first
    | (go_at_call 58; refine CC.out.mono ?_; rintro e w2 ⟨ob, oc, rfl, o2, l2, b2⟩; have L2 : Hid (LWs g gb cb nb fb N G n₀ w0 w2) := HL.out.later b2 (HSZ.out _ HL.out.bel); have O2 : Hid (SRd w2 ob G /\ wr.heap.size <= ob) := ⟨o2, l2⟩; clear o2 l2 b2)
    | (go_at_call 44; refine (HRC.out G w2 L2.out).mono ?_; rintro e w3 ⟨rfl, L3', z3, k3⟩; have L3 : Hid (LWs g gb cb nb fb N (roundS N g.ps G) n₀ w0 w3) := L3'; have O3 : Hid (SRd w3 ob G) := O2.out.1.kept (k3 _ O2.out.1.1 (by have := HFL.out; have := O2.out.2; omega)) z3; have EC : Hid (Calls Try.prog 59 #[.slice (some ⟨ob, 0, none⟩) N.length oc, .slice (some ⟨fb, 0, none⟩) N.length N.length] w3 fun e w' => e = .returned (.bool (decide (G = roundS N g.ps G))) /\ Below w3.heap.size w3 w') := (by have q := equal_S ob fb oc N.length G (roundS N g.ps G) w3 O3.out L3.out.f.rd (by rw [L3.out.len.1, HGL.out]) (by rw [HGL.out]; have := HNL.out; omega); rw [L3.out.len.1, HGL.out] at q; exact q); clear L3' z3 k3)
    | (go_at_call 59; refine EC.out.mono ?_; rintro e w4 ⟨rfl, b4⟩; rw [HX.out]; have L4 : Hid (LWs g gb cb nb fb N (roundS N g.ps G) n₀ w0 w4) := L3.out.later b4 (HSZ.out _ L3.out.bel); clear b4))
  ·go_roundw
   case rel => exact ⟨k + 1, by rw [<- HK.out]; exact L4.out⟩
   case measure =>
    rw [HM.out, mesW_of L4.out.f]
    exact mesF_lt G _ (rFold_le N g.ps G) L4.out.ok (fun e => by have := HX.out; simp [<- e] at this)
  ·have hE : G = roundS N g.ps G := of_decide_eq_true HX.out
   have L5 : Hid (LWs g gb cb nb fb N G n₀ w0 w4) := by have := L4.out; rw [<- hE] at this; exact this
   have HE : Hid (roundS N g.ps G = G) := hE.symm
   clear hE
   refine bodyPost_ret (results_none rfl _ _ _) rfl ?_
   exact ⟨rfl, k, by rw [hG]; exact L5.out, by rw [hG]; exact HE.out⟩
def LsRow (w : World) (ao : Option Addr) (L : List (List Int)) : Prop := L ≠ [] -> ∃ b off, ao = some ⟨b, off, none⟩ /\ b < w.heap.size /\ ∀ i, i < L.length -> ∃ a c, w.cell? ⟨b, off + i, none⟩ = some (.slice a (L.getD i []).length c) /\ InRow w a (L.getD i [])
theorem LsRow.later {w w' : World} {ao : Option Addr} {L : List (List Int)} (h : LsRow w ao L) (hb : Below w.heap.size w w') : LsRow w' ao L := by
 intro hne
 obtain ⟨b, off, e, h1, h2⟩ := h hne
 refine ⟨b, off, e, Nat.lt_of_lt_of_le h1 hb.size, fun i hi => ?_⟩
 obtain ⟨a, c, h3, h4⟩ := h2 i hi
 exact ⟨a, c, (hb.cell (p := ⟨b, off + i, none⟩) h1).trans h3, h4.later hb⟩
def partG {α : Type} (d : α) (L : List α) (k : Nat) : List α := L.take k ++ List.replicate (L.length - k) d
theorem partG_len {α : Type} (d : α) (L : List α) {k : Nat} (h : k <= L.length) : (partG d L k).length = L.length := by simp [partG]; omega
theorem partG_succ {α : Type} (d : α) (L : List α) {k : Nat} (h : k < L.length) : partG d L (k + 1) = (partG d L k).set k (L.getD k d) := by
 unfold partG
 apply List.ext_getElem
 ·simp; omega
 ·intro i h1 h2
  simp only [List.getElem_set, List.getElem_append, List.length_take, List.getElem_replicate, List.getElem_take]
  simp only [List.length_append, List.length_take, List.length_replicate] at h1
  by_cases e : i = k
  ·subst e
   simp [List.getD, h, show i < min (i + 1) L.length by omega]
  ·by_cases e2 : i < k
   ·simp [show i < min (k + 1) L.length by omega, show i < min k L.length by omega, show ¬ k = i by omega]
   ·simp [show ¬ i < min (k + 1) L.length by omega, show ¬ i < min k L.length by omega, show ¬ k = i by omega]
theorem partG_all {α : Type} (d : α) (L : List α) : partG d L L.length = L := by simp [partG]
theorem make_setF (n : Nat) (hn : n <= 1048576) (w : World) : (Instr.makeSlice 65 (.int .i64 (n : Int)) (.int .i64 (n : Int))).run Try.prog w = .ok (.slice (some ⟨w.heap.size, 0, none⟩) n n) (w.alloc (.cells (madeCells #[.int .u64 0, .int .u64 0] (n * 2)) 86)) := by
 obtain ⟨i0, hi, hz0, hz1, hz2⟩ := infoSet_parts
 have := run_makeSlice w 65 86 i0 (.agg #[.int .u64 0, .int .u64 0]) Try.underlying65 hi hz0 .i64 .i64 (n : Int) (n : Int) (by omega) (by omega) (by rw [hz1]; simp; omega) (by rw [hz2]; omega) (by omega)
 rw [hz1] at this
 simpa [Value.cells] using this
theorem made_sets (n : Nat) : madeCells #[.int .u64 0, .int .u64 0] (n * 2) = (setCells (List.replicate n (0, 0))).toArray := by
 apply Array.toList_inj.1
 apply List.ext_getElem?
 intro i
 have hl : (madeCells #[Value.int .u64 0, Value.int .u64 0] (n * 2)).toList.length = n * 2 := by simp [madeCells]
 by_cases h : i < n * 2
 ·have h1 := setCells_get (List.replicate n (0, 0)) (i / 2) (by rw [List.length_replicate]; omega)
  have hz : (List.replicate n ((0, 0) : BS)).getD (i / 2) (0, 0) = (0, 0) := by simp [List.getD, show i / 2 < n by omega]
  rw [hz] at h1
  have e : (madeCells #[Value.int .u64 0, Value.int .u64 0] (n * 2)).toList[i]? = some (.int .u64 0) := by
   rw [Array.getElem?_toList]
   simp only [madeCells, Array.getElem?_map, Array.getElem?_range, h, if_true, Option.map_some]
   rcases (show i % 2 = 0 ∨ i % 2 = 1 by omega) with q | q <;> simp [q]
  rw [e]
  rcases (show i = i / 2 * 2 ∨ i = i / 2 * 2 + 1 by omega) with q | q
  ·rw [q]; simpa using h1.1.symm
  ·rw [q]; simpa using h1.2.symm
 ·rw [List.getElem?_eq_none (by omega), List.getElem?_eq_none (by simp [setCells_len]; omega)]
theorem SBk.made (w : World) (n : Nat) : SBk (w.alloc (.cells (madeCells #[.int .u64 0, .int .u64 0] (n * 2)) 86)) w.heap.size (List.replicate n (0, 0)) := by
 unfold SBk
 rw [heap_alloc_new, made_sets]
theorem setsOf_S (ao : Option Addr) (c : Nat) (L : List (List Int)) (w : World) (hL : LsRow w ao L) (hn : L.length <= 1048576) (hb : ∀ l ∈ L, (∀ x ∈ l, 0 <= x /\ x < 128) /\ l.length <= 140737488355328) :
  Calls Try.prog 49 #[.slice ao L.length c] w fun e w' => ∃ fb, e = .returned (.slice (some ⟨fb, 0, none⟩) L.length L.length) /\ SBk w' fb (L.map setS) /\ w.heap.size <= fb /\ Below w.heap.size w w' := by
 have hmk := make_setF L.length hn
 have HL : Hid (∀ w', Below w.heap.size w w' -> LsRow w' ao L) := fun w' hb => hL.later hb
 have HBD : Hid (∀ l ∈ L, (∀ x ∈ l, 0 <= x /\ x < 128) /\ l.length <= 140737488355328) := hb
 have S0 : Hid (SBk (w.alloc (.cells (madeCells #[.int .u64 0, .int .u64 0] (L.length * 2)) 86)) w.heap.size (partG (0, 0) (L.map setS) 0)) := by
  have := SBk.made w L.length
  show SBk _ _ _
  simpa [partG] using this
 clear hL hb
 go_enter Try.func49, Try.ntmps49
 go_wp2
 go_loopw [10] (fun z wr => ∃ k : Nat, k <= L.length /\ z = .int .i64 k /\ SBk wr w.heap.size (partG (0, 0) (L.map setS) k) /\ Below w.heap.size w wr) (fun z _ => L.length - (intOf z).toNat)
 case atStart => exact ⟨0, Nat.zero_le _, rfl, S0.out, below_alloc _ _⟩
 case round =>
  clear S0 hmk
  obtain ⟨k, hk, rfl, hS, hB⟩ := hrel
  have H : Hid (SBk wr w.heap.size (partG (0, 0) (L.map setS) k) /\ Below w.heap.size w wr) := ⟨hS, hB⟩
  by_cases hlt : k < L.length
  ·have klt : (k : Int) < (L.length : Int) := by omega
   obtain ⟨b, o, rfl, hbl, hc⟩ := HL.out wr hB (by intro e; rw [e] at hlt; simp at hlt)
   obtain ⟨la, lc, c0, hrow⟩ := hc k hlt
   have hm : L.getD k [] ∈ L := by simp [List.getD, hlt]
   obtain ⟨hbd, hll⟩ := HBD.out _ hm
   have SC : Hid (Calls Try.prog 65 #[.slice la (L.getD k []).length lc] wr fun e w' => e = .returned (sv (setS (L.getD k []))) /\ Below wr.heap.size wr w') := setOf_S la lc _ wr hrow hll hbd
   have HPS : Hid (partG (0, 0) (L.map setS) (k + 1) = (partG (0, 0) (L.map setS) k).set k (setS (L.getD k []))) := by
    show _ = _
    rw [partG_succ _ _ (by rw [List.length_map]; exact hlt)]
    congr 1
    simp [List.getD, hlt]
   have hpl : k < (partG (0, 0) (L.map setS) k).length := by rw [partG_len _ _ (by rw [List.length_map]; omega), List.length_map]; exact hlt
   generalize L.getD k [] = l at *
   generalize setS l = s at *
   obtain ⟨s1, s2⟩ := s
   clear hS hB hc hm hrow hbd
   go_wp2_with (go_at_call 65; refine SC.out.mono ?_; rintro e w2 ⟨rfl, b2⟩; have S2 : Hid (SBk w2 w.heap.size (partG (0, 0) (L.map setS) k) /\ Below w.heap.size w w2) := ⟨H.out.1.later b2, H.out.2.trans (b2.mono H.out.2.size)⟩; obtain ⟨y0, y1⟩ := S2.out.1.cell hpl; have f0 := S2.out.1.free (k * 2); have f1 := S2.out.1.free (k * 2 + 1); have hz := S2.out.1.lt; clear b2)
   go_roundw
   case rel =>
    refine ⟨k + 1, by omega, by go_num, ?_, ?_⟩
    ·rw [HPS.out]; exact S2.out.1.set hpl (s1, s2)
    ·exact (S2.out.2.setCell (p := ⟨w.heap.size, k * 2, none⟩) (Nat.le_refl _) _).setCell (p := ⟨w.heap.size, k * 2 + 1, none⟩) (Nat.le_refl _) _
   case measure => simp [intOf]; omega
  ·obtain rfl : k = L.length := by omega
   clear hS hB
   go_wp2
   go_ret
   refine ⟨w.heap.size, rfl, ?_, Nat.le_refl _, H.out.2⟩
   have := H.out.1
   rwa [show L.length = (L.map setS).length by simp, partG_all] at this
def violN (N : List Bool) (p : PV) : Bool := !N.getD p.left.toNat false && allN N p.right
def firstV (v : PV -> Bool) (er : Int) (ps : List PV) : Nat -> Int × Int
 | 0 => (0, 0)
 | k + 1 => if v (ps.getD (ps.length - (k + 1)) .none) = true then (er, ((ps.length - (k + 1) : Nat) : Int)) else firstV v er ps k
theorem firstV_hit {v : PV -> Bool} {er : Int} {ps : List PV} {k : Nat} (hk : k < ps.length) (h : v (ps.getD k .none) = true) (hb : ∀ j, j < k -> v (ps.getD j .none) = false) : ∀ d, d <= k -> firstV v er ps (ps.length - d) = firstV v er ps ps.length -> firstV v er ps ps.length = (er, (k : Int)) := by
 intro d hd hd2
 have key : ∀ n d, k - d = n -> d <= k -> firstV v er ps (ps.length - d) = (er, (k : Int)) := by
  intro n
  induction n with
  | zero =>
   intro d e hd
   have : d = k := by omega
   subst this
   obtain ⟨q, hq⟩ : ∃ q, ps.length - d = q + 1 := ⟨ps.length - d - 1, by omega⟩
   rw [hq, firstV]
   have e2 : ps.length - (q + 1) = d := by omega
   rw [e2, if_pos h]
  | succ n ih =>
   intro d e hd
   obtain ⟨q, hq⟩ : ∃ q, ps.length - d = q + 1 := ⟨ps.length - d - 1, by omega⟩
   rw [hq, firstV]
   have e2 : ps.length - (q + 1) = d := by omega
   rw [e2, if_neg (by rw [hb d (by omega)]; simp)]
   have := ih (d + 1) (by omega) (by omega)
   rwa [show ps.length - (d + 1) = q by omega] at this
 exact (hd2.symm).trans (key (k - d) d rfl hd)
theorem firstV_none {v : PV -> Bool} {er : Int} {ps : List PV} (h : ∀ j, j < ps.length -> v (ps.getD j .none) = false) : ∀ k, k <= ps.length -> firstV v er ps k = (0, 0)
 | 0, _ => rfl
 | k + 1, hk => by rw [firstV, if_neg (by rw [h _ (by omega)]; simp), firstV_none h k (by omega)]
def chkN (N : List Bool) (ps : List PV) : Int × Int := firstV (violN N) 61 ps ps.length
theorem chkNull_ok (g : GV) (na : Option Addr) (nc : Nat) (N : List Bool) (w : World) (h : GAt 140737488355328 w g) (hpc : g.ps.length <= g.pc) (at_ : Int) (hE : checkG g (checkF g.ts g.ns) = (0, at_)) (hN : BRow w na N) (hl : N.length = g.ns.length) :
  Calls Try.prog 11 #[g.val, .slice na N.length nc] w fun e w' => e = .returned (.tuple #[.int .i64 (chkN N g.ps).1, .int .i64 (chkN N g.ps).2]) /\ Below w.heap.size w w' := by
 have ok : OkC g := OkC.of (by rw [hE])
 have X0 : Hid ((w.alloc (gBox g)).heap[w.heap.size]? = some (gBox g)) := heap_alloc_new _ _
 have CK : Hid (Calls Try.prog 27 #[g.val, .slice na N.length nc] (w.alloc (gBox g)) fun e w' => e = .returned (.int .i64 0) /\ Below (w.alloc (gBox g)).heap.size (w.alloc (gBox g)) w') := by
  have := askNull_S g na N.length nc _ (h.later (below_alloc w (gBox g))) hpc 0 at_ hE
  rwa [show askU g N.length 0 = 0 by simp [askU, hl]] at this
 have HFG : Hid (∀ w', Below w.heap.size w w' -> FG w' g /\ BRow w' na N) := fun w' hb => ⟨ok.fg (h.later hb), hN.later hb⟩
 have HN64 : Hid (N.length <= 64 /\ 1 <= N.length /\ N.length = g.ns.length) := ⟨by rw [hl]; exact ok.nl.2, by rw [hl]; exact ok.nl.1, hl⟩
 have HIT : Hid (∀ k, k < g.ps.length -> violN N (g.ps.getD k .none) = true -> (∀ j, j < k -> violN N (g.ps.getD j .none) = false) -> chkN N g.ps = (61, (k : Int))) := fun k hk h hb => firstV_hit hk h hb 0 (Nat.zero_le _) rfl
 have NON : Hid ((∀ j, j < g.ps.length -> violN N (g.ps.getD j .none) = false) -> chkN N g.ps = (0, 0)) := fun h => firstV_none h _ (Nat.le_refl _)
 obtain ⟨x0, x1, x2, x3, x4⟩ := gb_cells X0.out
 have hpl := ok.pl.2
 have t1 : ((0 : Int) != 0) = false := by decide
 generalize hX : chkN N g.ps = X at *
 obtain ⟨X1, X2⟩ := X
 clear h hE ok hN hX hl
 go_enter Try.func11, Try.ntmps11
 go_wp2_with (go_at_call 27; refine CK.out.mono ?_; rintro e w2 ⟨rfl, b2⟩; have B2 : Hid (Below w.heap.size w w2 /\ w2.heap[w.heap.size]? = some (gBox g)) := ⟨(below_alloc w _).trans (b2.mono (below_alloc w _).size), (b2.block _ (lt_of_block X0.out)).trans X0.out⟩; clear b2 x0 x1 x2 x3 x4; obtain ⟨x0, x1, x2, x3, x4⟩ := gb_cells B2.out.2)
 go_loopw [18] (fun z wr => ∃ k : Nat, k <= g.ps.length /\ z = .int .i64 k /\ (∀ j, j < k -> violN N (g.ps.getD j .none) = false) /\ Below w.heap.size w wr) (fun z _ => g.ps.length - (intOf z).toNat)
 case atStart => exact ⟨0, Nat.zero_le _, rfl, fun j hj => absurd hj (Nat.not_lt_zero j), B2.out.1⟩
 case round =>
  clear x0 x1 x2 x3 x4
  obtain ⟨k, hk, rfl, hf, hb⟩ := hrel
  by_cases hlt : k < g.ps.length
  ·obtain ⟨b, o, hpa, hbl, hc⟩ := (HFG.out _ hb).1.p.cells (by intro e; rw [e] at hlt; simp at hlt)
   obtain ⟨c0, c1, c2⟩ := hc k hlt
   have klt : (k : Int) < (g.ps.length : Int) := by omega
   have hmem : g.ps.getD k .none ∈ g.ps := by simp [List.getD, hlt]
   obtain ⟨l0, l1⟩ := (HFG.out _ hb).1.left _ hmem
   have hrow := (HFG.out _ hb).1.p.rows _ hmem
   have hrl := (HFG.out _ hb).1.rl _ hmem
   have hsy := (HFG.out _ hb).1.sym _ hmem
   have HH : Hid (violN N (g.ps.getD k .none) = true -> X1 = 61 /\ X2 = (k : Int)) := fun h => by
    have := HIT.out k hlt h hf
    simpa using this
   have HS : Hid (violN N (g.ps.getD k .none) = false -> ∀ j, j < k + 1 -> violN N (g.ps.getD j .none) = false) := fun h j hj => by
    by_cases q : j = k
    ·subst q; exact h
    ·exact hf j (by omega)
   have HB : Hid (Below w.heap.size w wr) := hb
   generalize g.ps.getD k .none = p at *
   obtain ⟨pl, pra, prc, pr, pp⟩ := p
   simp only at c0 c1 c2 l0 l1 hrow hrl hsy
   obtain ⟨m, rfl⟩ : ∃ m : Nat, pl = (m : Int) := ⟨pl.toNat, by omega⟩
   have hBA : Below wr.heap.size wr (wr.alloc (.cells #[.int .i64 (m : Int), .slice pra pr.length prc, .int .i64 pp] 46)) := below_alloc _ _
   have hmN : m < N.length := by have := HN64.out; omega
   have hNW := ((HFG.out _ hb).2.later hBA)
   obtain ⟨nb, no, hna, hnb, hnc⟩ := hNW (by intro e; rw [e] at hmN; simp at hmN)
   have n0 := hnc m hmN
   have V : Hid (violN N ⟨(m : Int), pra, prc, pr, pp⟩ = (!N.getD m false && allN N pr)) := by show _ = _; simp [violN]
   have FC : Hid (Calls Try.prog 28 #[.slice na N.length nc, .slice pra pr.length prc] (wr.alloc (.cells #[.int .i64 (m : Int), .slice pra pr.length prc, .int .i64 pp] 46)) fun e w' => e = .returned (.bool (allN N pr)) /\ Below (wr.alloc (.cells #[.int .i64 (m : Int), .slice pra pr.length prc, .int .i64 pp] 46)).heap.size (wr.alloc (.cells #[.int .i64 (m : Int), .slice pra pr.length prc, .int .i64 pp] 46)) w') :=
    areNull_S na nc N pra prc pr _ hNW (hrow.later (Nat.le_refl _) hBA) (by omega) (by have := HN64.out; omega) (fun s hs e => by
     rcases hsy s hs with q | q
     ·omega
     ·rw [HN64.out.2.2]; exact q.2)
   have HBA : Hid (Below w.heap.size w (wr.alloc (.cells #[.int .i64 (m : Int), .slice pra pr.length prc, .int .i64 pp] 46))) := HB.out.trans (hBA.mono HB.out.size)
   rw [hpa]
   rw [hna] at FC ⊢
   generalize N.getD m false = v at *
   generalize allN N pr = z at *
   clear hb hf hc hmem hrow hsy hBA hNW hnc hpa hna
   cases v
   ·cases z
    ·have R : Hid _ := HS.out (by rw [V.out]; rfl)
     go_wp2_with (go_at_call 28; refine FC.out.mono ?_; rintro e w3 ⟨rfl, b3⟩; have B3 : Hid (Below w.heap.size w w3) := HBA.out.trans (b3.mono HBA.out.size); clear b3)
     go_roundw
     case rel => exact ⟨k + 1, by omega, by go_num, R.out, B3.out⟩
     case measure => simp [intOf]; omega
    ·obtain ⟨r1, r2⟩ := HH.out (by rw [V.out]; rfl)
     have R : Hid (X1 = 61 /\ X2 = (k : Int)) := ⟨r1, r2⟩
     clear r1 r2
     go_wp2_with (go_at_call 28; refine FC.out.mono ?_; rintro e w3 ⟨rfl, b3⟩; have B3 : Hid (Below w.heap.size w w3) := HBA.out.trans (b3.mono HBA.out.size); clear b3)
     refine bodyPost_ret (results_tmp2 rfl _ _ _) rfl ?_
     exact ⟨by rw [R.out.1, R.out.2]; rfl, B3.out⟩
   ·have R : Hid _ := HS.out (by rw [V.out]; rfl)
    go_wp2
    go_roundw
    case rel => exact ⟨k + 1, by omega, by go_num, R.out, HBA.out⟩
    case measure => simp [intOf]; omega
  ·obtain rfl : k = g.ps.length := by omega
   have R : Hid (X1 = 0 /\ X2 = 0) := by have := NON.out hf; show _ /\ _; simpa using this
   have HB : Hid (Below w.heap.size w wr) := hb
   clear hf hb
   go_wp2
   refine bodyPost_ret (results_tmp2 rfl _ _ _) rfl ?_
   exact ⟨by rw [R.out.1, R.out.2]; rfl, HB.out⟩
def LLk (w : World) (b : Nat) (T : List (List Int)) (k : Nat) : Prop := ∃ C : Array Value, w.heap[b]? = some (.cells C 52 (0, 0)) /\ C.size = T.length /\ ∀ i, i < k -> ∃ a c, C[i]? = some (.slice a (T.getD i []).length c) /\ IL w (.slice a (T.getD i []).length c) (T.getD i []) /\ (∀ j, (Value.slice a (T.getD i []).length c).ownBlock = some j -> b < j)
theorem LLk.lt {w : World} {b : Nat} {T : List (List Int)} {k : Nat} (h : LLk w b T k) : b < w.heap.size := by
 obtain ⟨C, h1, _⟩ := h
 exact lt_of_block h1
theorem LLk.later {w w' : World} {b : Nat} {T : List (List Int)} {k : Nat} (h : LLk w b T k) (hb : Below w.heap.size w w') : LLk w' b T k := by
 have hl := h.lt
 obtain ⟨C, h1, h2, h3⟩ := h
 refine ⟨C, (hb.block _ hl).trans h1, h2, fun i hi => ?_⟩
 obtain ⟨a, c, q1, q2, q3⟩ := h3 i hi
 exact ⟨a, c, q1, q2.later hb, q3⟩
theorem LLk.free {w : World} {b : Nat} {T : List (List Int)} {k : Nat} (h : LLk w b T k) (i : Nat) : w.frozen? ⟨b, i, none⟩ = false := by
 obtain ⟨C, h1, _⟩ := h
 simp [World.frozen?, h1]
theorem LLk.some {w : World} {b : Nat} {T : List (List Int)} {k : Nat} (h : LLk w b T k) (i : Nat) (hi : i < T.length) : ∃ v, w.cell? ⟨b, i, none⟩ = .some v := by
 obtain ⟨C, h1, h2, _⟩ := h
 exact ⟨C[i]'(by omega), by rw [cellq_any h1]; simp [show i < C.size by omega]⟩
theorem LLk.set {w : World} {b : Nat} {T : List (List Int)} {k : Nat} (h : LLk w b T k) (hk : k < T.length) {a : Option Addr} {c : Nat} (hI : IL w (.slice a (T.getD k []).length c) (T.getD k [])) (hb : ∀ j, (Value.slice a (T.getD k []).length c).ownBlock = .some j -> b < j) :
  LLk (w.setCell ⟨b, k, none⟩ (.slice a (T.getD k []).length c)) b T (k + 1) := by
 obtain ⟨C, h1, h2, h3⟩ := h
 have hkeep : ∀ {v : Value} {l : List Int}, IL w v l -> (∀ j, v.ownBlock = .some j -> b < j) -> IL (w.setCell ⟨b, k, none⟩ (.slice a (T.getD k []).length c)) v l := fun hI hj => hI.kept fun j e => Below.heap_setCell w ⟨b, k, none⟩ _ _ (show j ≠ b by have := hj j e; omega)
 refine ⟨_, heap_set h1 k _, by simpa using h2, fun i hi => ?_⟩
 by_cases e : i = k
 ·subst e
  exact ⟨a, c, by simp [show i < C.size by omega], hkeep hI hb, hb⟩
 ·obtain ⟨a', c', q1, q2, q3⟩ := h3 i (by omega)
  exact ⟨a', c', by rw [Array.getElem?_setIfInBounds]; simp [show ¬ k = i by omega, q1], hkeep q2 q3, q3⟩
theorem LLk.row {w : World} {b : Nat} {T : List (List Int)} (h : LLk w b T T.length) : LsRow w (.some ⟨b, 0, none⟩) T := by
 have hl := h.lt
 obtain ⟨C, h1, h2, h3⟩ := h
 intro _
 refine ⟨b, 0, rfl, hl, fun i hi => ?_⟩
 obtain ⟨a, c, q1, q2, _⟩ := h3 i hi
 exact ⟨a, c, by rw [cellq_any h1, Nat.zero_add, q1], q2.inrow⟩
theorem infoInts_parts : ∃ i, Try.prog.info? 52 = some i /\ i.zero = some (.slice none 0 0) /\ i.size = 1 /\ i.bytes = 24 := by
 have h : (Try.prog.info? 52).map (fun i => (i.zero, i.size, i.bytes)) = some (some (.slice none 0 0), 1, 24) := by kernel_rfl
 cases e : Try.prog.info? 52 with
 | none => rw [e] at h; cases h
 | some i => rw [e] at h; simp at h; exact ⟨i, rfl, h⟩
theorem make_intsF (n : Nat) (hn : n <= 1048576) (w : World) : (Instr.makeSlice 33 (.int .i64 (n : Int)) (.int .i64 (n : Int))).run Try.prog w = .ok (.slice (some ⟨w.heap.size, 0, none⟩) n n) (w.alloc (.cells (madeCells #[.slice none 0 0] n) 52)) := by
 obtain ⟨i0, hi, hz0, hz1, hz2⟩ := infoInts_parts
 have := run_makeSlice w 33 52 i0 (.slice none 0 0) Try.underlying33 hi hz0 .i64 .i64 (n : Int) (n : Int) (by omega) (by omega) (by rw [hz1]; simp; omega) (by rw [hz2]; omega) (by omega)
 rw [hz1] at this
 simpa [Value.cells] using this
theorem LLk.made (w : World) (T : List (List Int)) : LLk (w.alloc (.cells (madeCells #[.slice none 0 0] T.length) 52)) w.heap.size T 0 := ⟨_, heap_alloc_new _ _, by simp [madeCells], fun i hi => absurd hi (Nat.not_lt_zero i)⟩
def listsU (F : List BS) : List (List Int) := F.map fun s => listS s 128
theorem listsOf_S (fb c : Nat) (F : List BS) (w : World) (hF : SBk w fb F) (hn : F.length <= 1048576) (hok : ∀ i, OkS (F.getD i (0, 0))) :
  Calls Try.prog 21 #[.slice (some ⟨fb, 0, none⟩) F.length c] w fun e w' => ∃ b, e = .returned (.slice (some ⟨b, 0, none⟩) F.length F.length) /\ LLk w' b (listsU F) F.length /\ w.heap.size <= b /\ Below w.heap.size w w' := by
 have hmk := make_intsF F.length hn
 have HL : Hid (∀ w', Below w.heap.size w w' -> SBk w' fb F) := fun w' hb => hF.later hb
 have HOK : Hid (∀ i, OkS (F.getD i (0, 0))) := hok
 have HTL : Hid ((listsU F).length = F.length) := by simp [listsU, Hid]
 have HTG : Hid (∀ k, k < F.length -> (listsU F).getD k [] = listS (F.getD k (0, 0)) 128) := fun k hk => by simp [listsU, List.getD, hk]
 have S0 : Hid (LLk (w.alloc (.cells (madeCells #[.slice none 0 0] F.length) 52)) w.heap.size (listsU F) 0) := by
  have := LLk.made w (listsU F)
  rwa [HTL.out] at this
 generalize listsU F = T at *
 clear hF hok
 go_enter Try.func21, Try.ntmps21
 go_wp2
 go_loopw [10] (fun z wr => ∃ k : Nat, k <= F.length /\ z = .int .i64 k /\ LLk wr w.heap.size T k /\ Below w.heap.size w wr) (fun z _ => F.length - (intOf z).toNat)
 case atStart => exact ⟨0, Nat.zero_le _, rfl, S0.out, below_alloc _ _⟩
 case round =>
  clear S0 hmk
  obtain ⟨k, hk, rfl, hS, hB⟩ := hrel
  have H : Hid (LLk wr w.heap.size T k /\ Below w.heap.size w wr) := ⟨hS, hB⟩
  by_cases hlt : k < F.length
  ·have klt : (k : Int) < (F.length : Int) := by omega
   obtain ⟨y0, y1⟩ := (HL.out wr hB).cell hlt
   have SC : Hid (Calls Try.prog 42 #[sv (F.getD k (0, 0))] wr fun e w' => ∃ a c, e = .returned (.slice a (T.getD k []).length c) /\ IL w' (.slice a (T.getD k []).length c) (T.getD k []) /\ (∀ j, (Value.slice a (T.getD k []).length c).ownBlock = some j -> wr.heap.size <= j) /\ Below wr.heap.size wr w') := by
    have := list_S (F.getD k (0, 0)) (HOK.out k) wr
    rwa [<- HTG.out k hlt] at this
   generalize F.getD k (0, 0) = s at *
   obtain ⟨s1, s2⟩ := s
   clear hS hB
   go_wp2_with (go_at_call 42; refine SC.out.mono ?_; rintro e w2 ⟨la, lc, rfl, i2, j2, b2⟩; have S2 : Hid (LLk w2 w.heap.size T k /\ Below w.heap.size w w2 /\ IL w2 (.slice la (T.getD k []).length lc) (T.getD k []) /\ (∀ j, (Value.slice la (T.getD k []).length lc).ownBlock = some j -> w.heap.size < j)) := ⟨H.out.1.later b2, H.out.2.trans (b2.mono H.out.2.size), i2, fun j hj => Nat.lt_of_lt_of_le H.out.1.lt (j2 j hj)⟩; obtain ⟨v0, y2⟩ := S2.out.1.some k (by rw [HTL.out]; exact hlt); have f0 := S2.out.1.free k; have hz := S2.out.1.lt; clear i2 j2 b2)
   go_roundw
   case rel =>
    refine ⟨k + 1, by omega, by go_num, ?_, ?_⟩
    ·exact S2.out.1.set (by rw [HTL.out]; exact hlt) S2.out.2.2.1 S2.out.2.2.2
    ·exact S2.out.2.1.setCell (p := ⟨w.heap.size, k, none⟩) (Nat.le_refl _) _
   case measure => simp [intOf]; omega
  ·obtain rfl : k = F.length := by omega
   clear hS hB
   go_wp2
   go_ret
   exact ⟨w.heap.size, rfl, H.out.1, Nat.le_refl _, H.out.2⟩
theorem claimOf_S (na ao : Option Addr) (n nc c : Nat) (L : List (List Int)) (w : World) (hL : LsRow w ao L) (hn : L.length <= 1048576) (hb : ∀ l ∈ L, (∀ x ∈ l, 0 <= x /\ x < 128) /\ l.length <= 140737488355328) :
  Calls Try.prog 32 #[.slice na n nc, .slice ao L.length c] w fun e w' => ∃ fb, e = .returned (.agg #[.slice na n nc, .slice (some ⟨fb, 0, none⟩) L.length L.length]) /\ SBk w' fb (L.map setS) /\ w.heap.size <= fb /\ Below w.heap.size w w' := by
 have X0 : Hid ((w.alloc (.cells #[.slice none 0 0, .slice none 0 0] 67)).heap[w.heap.size]? = some (.cells #[.slice none 0 0, .slice none 0 0] 67)) := heap_alloc_new _ _
 have SC : Hid (Calls Try.prog 49 #[.slice ao L.length c] (w.alloc (.cells #[.slice none 0 0, .slice none 0 0] 67)) fun e w' => ∃ fb, e = .returned (.slice (some ⟨fb, 0, none⟩) L.length L.length) /\ SBk w' fb (L.map setS) /\ (w.alloc (.cells #[.slice none 0 0, .slice none 0 0] 67)).heap.size <= fb /\ Below (w.alloc (.cells #[.slice none 0 0, .slice none 0 0] 67)).heap.size (w.alloc (.cells #[.slice none 0 0, .slice none 0 0] 67)) w') := setsOf_S ao c L _ (hL.later (below_alloc _ _)) hn hb
 have hz0 : (w.alloc (.cells #[.slice none 0 0, .slice none 0 0] 67)).heap.size = w.heap.size + 1 := alZ _ _
 have HZ : Hid _ := hz0
 clear hL hb hz0
 go_enter Try.func32, Try.ntmps32
 go_wp2_with (go_at_call 49; refine SC.out.mono ?_; rintro e w2 ⟨fb, rfl, s2, l2, b2⟩; have S2 : Hid (SBk w2 fb (L.map setS) /\ w.heap.size < fb /\ Below w.heap.size w w2) := ⟨s2, (by rw [HZ.out] at l2; omega), (below_alloc w _).trans (b2.mono (below_alloc w _).size)⟩; have x2 : w2.heap[w.heap.size]? = some (.cells #[.slice none 0 0, .slice none 0 0] 67) := (b2.block _ (lt_of_block X0.out)).trans X0.out; have c0 : w2.cell? ⟨w.heap.size, 0, none⟩ = some (.slice none 0 0) := (cellq_any x2).trans rfl; have c1 : w2.cell? ⟨w.heap.size, 1, none⟩ = some (.slice none 0 0) := (cellq_any x2).trans rfl; have f0 := frostS x2 0; have f1 := frostS x2 1; have hz2 := lt_of_block x2; clear b2 s2 l2 x2)
 refine bodyPost_ret (v := .agg #[.slice na n nc, .slice (some ⟨fb, 0, none⟩) L.length L.length]) (by simp [results, Try.results32, go_sem, c0, c1]) rfl ?_
 obtain ⟨h1, h2, h3⟩ := S2.out
 refine ⟨fb, rfl, ?_, Nat.le_of_lt h2, (h3.setCell (p := ⟨w.heap.size, 0, none⟩) (Nat.le_refl _) _).setCell (p := ⟨w.heap.size, 1, none⟩) (Nat.le_refl _) _⟩
 exact (h1.kept (Below.heap_setCell w2 ⟨w.heap.size, 0, none⟩ _ _ (show fb ≠ w.heap.size by omega))).kept (Below.heap_setCell _ ⟨w.heap.size, 1, none⟩ _ _ (show fb ≠ w.heap.size by omega))
end Go.Proofs.Ytfgdpmcpjpceoaa
