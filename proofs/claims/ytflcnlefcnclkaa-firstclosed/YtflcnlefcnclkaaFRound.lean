import Derived.Test.YtflcnlefcnclkaaFOf
import Derived.Test.YtflcnlefcnclkaaRegX
import Derived.Test.YtflcnlefcnclkaaFMem4
namespace Go.Proofs.Ytflcnlefcnclkaa
set_option linter.unusedVariables false
open Go.RowKit

/-- One production of a round; a round. -/
def rStep (N : List Bool) (F : List BS) (p : PV) : List BS := F.set p.left.toNat (withS (F.getD p.left.toNat (0, 0)) (ofS N F p.right (0, 0)))
def roundS (N : List Bool) (ps : List PV) (F : List BS) : List BS := ps.foldl (rStep N) F
theorem getD_setS {F : List BS} {i j : Nat} {v : BS} : (F.set i v).getD j (0, 0) = if i = j ∧ j < F.length then v else F.getD j (0, 0) := by
  simp only [List.getD, List.getElem?_set]
  by_cases h1 : i = j
  · subst h1
    by_cases h2 : i < F.length
    · simp [h2]
    · simp [h2]
  · simp [h1]
theorem rStep_len (N : List Bool) (F : List BS) (p : PV) : (rStep N F p).length = F.length := by simp [rStep]
theorem rFold_len (N : List Bool) : ∀ (ps : List PV) (F : List BS), (ps.foldl (rStep N) F).length = F.length
  | [], _ => rfl
  | p :: ps, F => by rw [List.foldl_cons, rFold_len N ps, rStep_len]
theorem rStep_ok {N : List Bool} {F : List BS} {p : PV} (hF : ∀ i, OkS (F.getD i (0, 0))) (hp : ∀ s ∈ p.right, SymIn N.length s) : ∀ i, OkS ((rStep N F p).getD i (0, 0)) := fun i => by
  unfold rStep
  rw [getD_setS]
  split
  · exact (hF _).with (ofS_ok hF _ _ hp OkS.zero)
  · exact hF i
/-- What lasts through a round: the boxes of g and of the claim, and what lies in them. -/
structure LWs (g : GV) (gb cb nb fb : Nat) (N : List Bool) (F : List BS) (n₀ : Nat) (w0 w : World) : Prop where
  gbx : w.heap[gb]? = some (gBox g)
  cbx : CellsAt w cb #[.slice (some ⟨nb, 0, none⟩) N.length N.length, .slice (some ⟨fb, 0, none⟩) N.length N.length] 50
  n : BB w nb N
  f : SBk w fb F
  ok : ∀ i, OkS (F.getD i (0, 0))
  len : F.length = N.length ∧ N.length = g.ns.length
  bel : Below n₀ w0 w
theorem LWs.later {g : GV} {gb cb nb fb : Nat} {N : List Bool} {F : List BS} {n₀ : Nat} {w0 w w' : World} (h : LWs g gb cb nb fb N F n₀ w0 w) (hb : Below w.heap.size w w') (hn : n₀ ≤ w.heap.size) : LWs g gb cb nb fb N F n₀ w0 w' :=
  ⟨(hb.block _ (lt_of_block h.gbx)).trans h.gbx, (hb.block _ h.cbx.lt).trans h.cbx, h.n.later hb, h.f.later hb, h.ok, h.len, h.bel.trans (hb.mono hn)⟩
theorem run_of3 {o : Oper} {a : Act} {t0 t1 t2 : TypeId} {v0 v1 v2 : Value} {x0 x1 x2 : Operand} (hop : o.op = Op.call { callee := Callee.value (Operand.func 24), args := #[x0, x1, x2], argTypes := #[t0, t1, t2] }) (h0 : a.eval x0 = v0) (h1 : a.eval x1 = v1) (h2 : a.eval x2 = v2) (w : World) : (execOp a.eval o).run Try.prog w = .ok (.enter 24 #[v0, v1, v2]) w := by
  have hf : a.eval (Operand.func 24) = .func (.func 24) #[] #[] := rfl
  simp [execOp, hop, resolve, invoke, h0, h1, h2, hf, Deferred.ofValue]
theorem run_with2 {o : Oper} {a : Act} {t0 t1 : TypeId} {v0 v1 : Value} {x0 x1 : Operand} (hop : o.op = Op.call { callee := Callee.value (Operand.func 37), args := #[x0, x1], argTypes := #[t0, t1] }) (h0 : a.eval x0 = v0) (h1 : a.eval x1 = v1) (w : World) : (execOp a.eval o).run Try.prog w = .ok (.enter 37 #[v0, v1]) w := by
  have hf : a.eval (Operand.func 37) = .func (.func 37) #[] #[] := rfl
  simp [execOp, hop, resolve, invoke, h0, h1, hf, Deferred.ofValue]
set_option linter.unusedSimpArgs false in
set_option maxRecDepth 100000 in
set_option maxHeartbeats 8000000 in
theorem round_S (g : GV) (gb cb nb fb : Nat) (N : List Bool) (F : List BS) (n₀ : Nat) (w0 w : World) (hfg : FG w0 g) (hw0 : w0.heap.size = n₀) (h : LWs g gb cb nb fb N F n₀ w0 w) (hd : fb ≠ gb ∧ fb ≠ cb ∧ fb ≠ nb ∧ n₀ ≤ fb) :
    Calls Try.prog 36 #[.pointer (some ⟨gb, 0, none⟩), .pointer (some ⟨cb, 0, none⟩)] w fun e w' => e = .returned (.tuple #[]) ∧ LWs g gb cb nb fb N (roundS N g.ps F) n₀ w0 w' ∧ w.heap.size ≤ w'.heap.size ∧ ∀ j, j < w.heap.size → j ≠ fb → w'.heap[j]? = w.heap[j]? := by
  have HG : Hid (∀ w', Below n₀ w0 w' → FG w' g) := fun w' hb => hfg.later (by rw [hw0]; exact hb)
  have H0 : Hid (LWs g gb cb nb fb N F n₀ w0 w) := h
  have HD : Hid (fb ≠ gb ∧ fb ≠ cb ∧ fb ≠ nb ∧ n₀ ≤ fb) := hd
  have hpl := hfg.pl
  have HSY : Hid (∀ p ∈ g.ps, ∀ s ∈ p.right, SymIn g.ns.length s) := fun p hp s hs => by
    rcases hfg.sym p hp s hs with q | q
    · exact .inl ⟨q.1, q.2.1, by have := hfg.tl; omega⟩
    · exact .inr q
  obtain ⟨x0, x1, x2, x3, x4⟩ := gb_cells h.gbx
  clear h hd hfg
  go_enter Try.func36, Try.ntmps36
  go_wp2
  go_loopw [7] (fun z wr => ∃ j : Nat, j ≤ g.ps.length ∧ z = .int .i64 j ∧ LWs g gb cb nb fb N ((g.ps.take j).foldl (rStep N) F) n₀ w0 wr ∧ w.heap.size ≤ wr.heap.size ∧ ∀ i, i < w.heap.size → i ≠ fb → wr.heap[i]? = w.heap[i]?) (fun z _ => g.ps.length - (intOf z).toNat)
  case atStart => exact ⟨0, Nat.zero_le _, rfl, H0.out, Nat.le_refl _, fun _ _ _ => rfl⟩
  case round =>
    clear x0 x1 x2 x3 x4
    obtain ⟨j, hj, rfl, hL, hwz, hwk⟩ := hrel
    have HWK : Hid (w.heap.size ≤ wr.heap.size ∧ ∀ i, i < w.heap.size → i ≠ fb → wr.heap[i]? = w.heap[i]?) := ⟨hwz, hwk⟩
    clear hwz hwk
    by_cases hjt : j < g.ps.length
    · have hfg := HG.out _ hL.bel
      obtain ⟨b, o, hpa, hbl, hc⟩ := hfg.p.cells (by intro e; rw [e] at hjt; simp at hjt)
      obtain ⟨c0, c1, c2⟩ := hc j hjt
      have jlt : (j : Int) < (g.ps.length : Int) := by omega
      have hmem : g.ps.getD j .none ∈ g.ps := by simp [List.getD, hjt]
      obtain ⟨l0, l1⟩ := hfg.left _ hmem
      have hrow := hfg.p.rows _ hmem
      have hrl := hfg.rl _ hmem
      have hsy := HSY.out _ hmem
      have hstep := foldl_take_succ (rStep N) g.ps j F .none hjt
      generalize hFF : (g.ps.take j).foldl (rStep N) F = G at *
      generalize hp : g.ps.getD j .none = p at *
      obtain ⟨pl, pra, prc, pr, pp⟩ := p
      simp only at c0 c1 c2 l0 l1 hrow hrl hsy
      obtain ⟨m, rfl⟩ : ∃ m : Nat, pl = (m : Int) := ⟨pl.toNat, by omega⟩
      have hBA : Below wr.heap.size wr (wr.alloc (.cells #[.int .i64 (m : Int), .slice pra pr.length prc, .int .i64 pp] 55)) := below_alloc _ _
      have hn0 : n₀ ≤ wr.heap.size := by rw [← hw0]; have := hL.bel.size; omega
      have hLA := hL.later hBA hn0
      have hmN : m < N.length := by rw [hL.len.2]; omega
      have hmG : m < G.length := by rw [hL.len.1]; exact hmN
      have HNP : Hid (wr.heap.size ≠ fb) := fun e => by have := hL.f.lt; omega
      have HLA : Hid (LWs g gb cb nb fb N G n₀ w0 (wr.alloc (.cells #[.int .i64 (m : Int), .slice pra pr.length prc, .int .i64 pp] 55)) ∧ n₀ ≤ (wr.alloc (.cells #[.int .i64 (m : Int), .slice pra pr.length prc, .int .i64 pp] 55)).heap.size) := ⟨hLA, Nat.le_trans hn0 hBA.size⟩
      have HST : Hid ((g.ps.take (j + 1)).foldl (rStep N) F = G.set m (withS (G.getD m (0, 0)) (ofS N G pr (0, 0)))) := by
        show _ = _
        rw [hstep]
        simp [rStep]
      have HRW : Hid (SymRow (wr.alloc (.cells #[.int .i64 (m : Int), .slice pra pr.length prc, .int .i64 pp] 55)) pra pr) := hrow.later (Nat.le_refl _) hBA
      have HS2 : Hid (∀ s ∈ pr, SymIn N.length s) := by rw [hL.len.2]; exact hsy
      have OF : Hid (∀ w2, (wr.alloc (.cells #[.int .i64 (m : Int), .slice pra pr.length prc, .int .i64 pp] 55)).drew = w2 → Calls Try.prog 24 #[.agg #[.slice (some ⟨nb, 0, none⟩) N.length N.length, .slice (some ⟨fb, 0, none⟩) N.length N.length], .slice pra pr.length prc, .agg #[.int .u64 0, .int .u64 0]] w2 fun e w' => e = .returned (sv (ofS N G pr (0, 0))) ∧ Below w2.heap.size w2 w') := fun w2 e => by
        subst e
        have hdr : Below (wr.alloc (.cells #[.int .i64 (m : Int), .slice pra pr.length prc, .int .i64 pp] 55)).heap.size (wr.alloc (.cells #[.int .i64 (m : Int), .slice pra pr.length prc, .int .i64 pp] 55)) (wr.alloc (.cells #[.int .i64 (m : Int), .slice pra pr.length prc, .int .i64 pp] 55)).drew := (Below.refl _ _).drew
        exact of_S (some ⟨nb, 0, none⟩) N N.length fb N.length G pra prc pr (0, 0) _ ⟨(hLA.n.later hdr).row, hLA.f.later hdr, ⟨hL.len.1, by rw [hL.len.2]; exact (HG.out _ hL.bel).nl.2⟩, hL.ok⟩ (HRW.out.later (Nat.le_refl _) hdr) (by omega) HS2.out OkS.zero
      have OKO : Hid (OkS (ofS N G pr (0, 0))) := ofS_ok hL.ok pr _ HS2.out OkS.zero
      have OKG : Hid (OkS (G.getD m (0, 0))) := hL.ok m
      obtain ⟨y0, y1⟩ := hLA.f.cell hmG
      have z0 : (wr.alloc (.cells #[.int .i64 (m : Int), .slice pra pr.length prc, .int .i64 pp] 55)).cell? ⟨cb, 0, none⟩ = some (.slice (some ⟨nb, 0, none⟩) N.length N.length) := (cellq_any hLA.cbx).trans rfl
      have z1 : (wr.alloc (.cells #[.int .i64 (m : Int), .slice pra pr.length prc, .int .i64 pp] 55)).cell? ⟨cb, 1, none⟩ = some (.slice (some ⟨fb, 0, none⟩) N.length N.length) := (cellq_any hLA.cbx).trans rfl
      generalize hO : ofS N G pr (0, 0) = O at *
      generalize hGm : G.getD m (0, 0) = Q at *
      obtain ⟨o1, o2⟩ := O
      obtain ⟨q1, q2⟩ := Q
      have WC : Hid (∀ w', Calls Try.prog 37 #[sv (q1, q2), sv (o1, o2)] w' fun e w2 => e = .returned (sv (withS (q1, q2) (o1, o2))) ∧ Below w'.heap.size w' w2) := fun w' => with_S _ _ w' OKG.out OKO.out
      rw [hpa]
      clear hL hLA hBA hc hmem hstep hFF hp hrow hsy hpa hfg
      have GM : Hid (G.getD m (0, 0) = (q1, q2)) := hGm
      have OKV : Hid (OkS (withS (q1, q2) (o1, o2))) := OKG.out.with OKO.out
      have PB : Hid ((wr.alloc (.cells #[.int .i64 (m : Int), .slice pra pr.length prc, .int .i64 pp] 55)).heap[wr.heap.size]? = some (.cells #[.int .i64 (m : Int), .slice pra pr.length prc, .int .i64 pp] 55 (0, 0))) := heap_alloc_new _ _
      clear hGm hO
      generalize hV : withS (q1, q2) (o1, o2) = V at *
      obtain ⟨v1, v2⟩ := V
      have KS0 : Hid (∀ w', LWs g gb cb nb fb N G n₀ w0 w' → w'.heap[wr.heap.size]? = some (.cells #[.int .i64 (m : Int), .slice pra pr.length prc, .int .i64 pp] 55 (0, 0)) → (fun w' : World => w'.cell? ⟨cb, 0, none⟩ = some (.slice (some ⟨nb, 0, none⟩) N.length N.length) ∧ w'.cell? ⟨cb, 1, none⟩ = some (.slice (some ⟨fb, 0, none⟩) N.length N.length) ∧ w'.cell? ⟨wr.heap.size, 0, none⟩ = some (.int .i64 (m : Int)) ∧ w'.cell? ⟨wr.heap.size, 1, none⟩ = some (.slice pra pr.length prc)) w' ∧ (fun w' : World => w'.cell? ⟨fb, m * 2, none⟩ = some (.int .u64 (q1 : Int)) ∧ w'.cell? ⟨fb, m * 2 + 1, none⟩ = some (.int .u64 (q2 : Int))) w') := fun w' hL hP => by
        obtain ⟨a0, a1⟩ := hL.f.cell hmG
        rw [GM.out] at a0 a1
        exact ⟨⟨(cellq_any hL.cbx).trans rfl, (cellq_any hL.cbx).trans rfl, (cellq_any hP).trans rfl, (cellq_any hP).trans rfl⟩, a0, a1⟩
      have hs : Hid ((fun w' : World => w'.cell? ⟨cb, 0, none⟩ = some (.slice (some ⟨nb, 0, none⟩) N.length N.length) ∧ w'.cell? ⟨cb, 1, none⟩ = some (.slice (some ⟨fb, 0, none⟩) N.length N.length) ∧ w'.cell? ⟨wr.heap.size, 0, none⟩ = some (.int .i64 (m : Int)) ∧ w'.cell? ⟨wr.heap.size, 1, none⟩ = some (.slice pra pr.length prc)) (wr.alloc (.cells #[.int .i64 (m : Int), .slice pra pr.length prc, .int .i64 pp] 55)).drew ∧ (fun w' : World => w'.cell? ⟨fb, m * 2, none⟩ = some (.int .u64 (q1 : Int)) ∧ w'.cell? ⟨fb, m * 2 + 1, none⟩ = some (.int .u64 (q2 : Int))) (wr.alloc (.cells #[.int .i64 (m : Int), .slice pra pr.length prc, .int .i64 pp] 55)).drew) := KS0.out _ (HLA.out.1.later (Below.refl _ _).drew HLA.out.2) PB.out
      go_wp2
      refine wp_region_x (S := SX 17 (fun w' : World => w'.cell? ⟨cb, 0, none⟩ = some (.slice (some ⟨nb, 0, none⟩) N.length N.length) ∧ w'.cell? ⟨cb, 1, none⟩ = some (.slice (some ⟨fb, 0, none⟩) N.length N.length) ∧ w'.cell? ⟨wr.heap.size, 0, none⟩ = some (.int .i64 (m : Int)) ∧ w'.cell? ⟨wr.heap.size, 1, none⟩ = some (.slice pra pr.length prc)) (fun w' : World => w'.cell? ⟨fb, m * 2, none⟩ = some (.int .u64 (q1 : Int)) ∧ w'.cell? ⟨fb, m * 2 + 1, none⟩ = some (.int .u64 (q2 : Int)))) (by kernel_rfl) ?_
      refine wpAnyX_take (m := 17) (i := 0) (v := ?_) rfl (by kernel_rfl) (by kernel_rfl) (by decide) (by decide +kernel) (by decide +kernel) (fun _ _ _ h => h) (by kernel_rfl) (Or.inl ⟨by rfl, ?_⟩) (SX.both hs.out.1 hs.out.2) ?_
      rotate_left
      · (intro w hSw; (try dsimp only at hSw); go_simp; try (with_reducible rfl))
      (try simp only [Act.put, List.setIfInBounds_toArray, List.set_cons_zero, List.set_cons_succ])
      refine wpAnyX_take (m := 17) (i := 1) (v := ?_) rfl (by kernel_rfl) (by kernel_rfl) (by decide) (by decide +kernel) (by decide +kernel) (fun _ _ _ h => h) (by kernel_rfl) (Or.inl ⟨by rfl, ?_⟩) (SX.both hs.out.1 hs.out.2) ?_
      rotate_left
      · (intro w hSw; (try dsimp only at hSw); go_simp; try (with_reducible rfl))
      (try simp only [Act.put, List.setIfInBounds_toArray, List.set_cons_zero, List.set_cons_succ])
      refine wpAnyX_take (m := 17) (i := 2) (v := ?_) rfl (by kernel_rfl) (by kernel_rfl) (by decide) (by decide +kernel) (by decide +kernel) (fun _ _ _ h => h) (by kernel_rfl) (Or.inl ⟨by rfl, ?_⟩) (SX.both hs.out.1 hs.out.2) ?_
      rotate_left
      · (intro w hSw; (try dsimp only at hSw); go_simp; try (with_reducible rfl))
      (try simp only [Act.put, List.setIfInBounds_toArray, List.set_cons_zero, List.set_cons_succ])
      refine wpAnyX_take (m := 17) (i := 3) (v := ?_) rfl (by kernel_rfl) (by kernel_rfl) (by decide) (by decide +kernel) (by decide +kernel) (fun _ _ _ h => h) (by kernel_rfl) (Or.inl ⟨by rfl, ?_⟩) (SX.both hs.out.1 hs.out.2) ?_
      rotate_left
      · (intro w hSw; (try dsimp only at hSw); go_simp; try (with_reducible rfl))
      (try simp only [Act.put, List.setIfInBounds_toArray, List.set_cons_zero, List.set_cons_succ])
      refine wpAnyX_take (m := 17) (i := 4) (v := ?_) rfl (by kernel_rfl) (by kernel_rfl) (by decide) (by decide +kernel) (by decide +kernel) (fun _ _ _ h => h) (by kernel_rfl) (Or.inl ⟨by rfl, ?_⟩) (SX.both hs.out.1 hs.out.2) ?_
      rotate_left
      · (intro w hSw; (try dsimp only at hSw); go_simp; try (with_reducible rfl))
      (try simp only [Act.put, List.setIfInBounds_toArray, List.set_cons_zero, List.set_cons_succ])
      refine wpAnyX_take (m := 17) (i := 5) (v := ?_) rfl (by kernel_rfl) (by kernel_rfl) (by decide) (by decide +kernel) (by decide +kernel) (fun _ _ _ h => h) (by kernel_rfl) (Or.inl ⟨by rfl, ?_⟩) (SX.both hs.out.1 hs.out.2) ?_
      rotate_left
      · (intro w hSw; (try dsimp only at hSw); go_simp; try (with_reducible rfl))
      (try simp only [Act.put, List.setIfInBounds_toArray, List.set_cons_zero, List.set_cons_succ])
      refine wpAnyX_take (m := 17) (i := 6) (v := ?_) rfl (by kernel_rfl) (by kernel_rfl) (by decide) (by decide +kernel) (by decide +kernel) (fun _ _ _ h => h) (by kernel_rfl) (Or.inl ⟨by rfl, ?_⟩) (SX.both hs.out.1 hs.out.2) ?_
      rotate_left
      · (intro w hSw; (try dsimp only at hSw); go_simp; try (with_reducible rfl))
      (try simp only [Act.put, List.setIfInBounds_toArray, List.set_cons_zero, List.set_cons_succ])
      refine wpAnyX_take (m := 17) (i := 7) (v := ?_) rfl (by kernel_rfl) (by kernel_rfl) (by decide) (by decide +kernel) (by decide +kernel) (fun _ _ _ h => h) (by kernel_rfl) (Or.inl ⟨by rfl, ?_⟩) (SX.both hs.out.1 hs.out.2) ?_
      rotate_left
      · (intro w hSw; (try dsimp only at hSw); go_simp; try (with_reducible rfl))
      (try simp only [Act.put, List.setIfInBounds_toArray, List.set_cons_zero, List.set_cons_succ])
      refine wpAnyX_take (m := 17) (i := 8) (v := ?_) rfl (by kernel_rfl) (by kernel_rfl) (by decide) (by decide +kernel) (by decide +kernel) (fun _ _ _ h => h) (by kernel_rfl) (Or.inl ⟨by rfl, ?_⟩) (SX.both hs.out.1 hs.out.2) ?_
      rotate_left
      · (intro w hSw; (try dsimp only at hSw); go_simp; try (with_reducible rfl))
      (try simp only [Act.put, List.setIfInBounds_toArray, List.set_cons_zero, List.set_cons_succ])
      refine wpAnyX_take (m := 17) (i := 9) (v := ?_) rfl (by kernel_rfl) (by kernel_rfl) (by decide) (by decide +kernel) (by decide +kernel) (fun _ _ _ h => h) (by kernel_rfl) (Or.inl ⟨by rfl, ?_⟩) (SX.both hs.out.1 hs.out.2) ?_
      rotate_left
      · (intro w hSw; (try dsimp only at hSw); go_simp; try (with_reducible rfl))
      (try simp only [Act.put, List.setIfInBounds_toArray, List.set_cons_zero, List.set_cons_succ])
      refine wpAnyX_take (m := 17) (i := 10) (v := ?_) rfl (by kernel_rfl) (by kernel_rfl) (by decide) (by decide +kernel) (by decide +kernel) (fun _ _ _ h => h) (by kernel_rfl) (Or.inl ⟨by rfl, ?_⟩) (SX.both hs.out.1 hs.out.2) ?_
      rotate_left
      · (intro w hSw; (try dsimp only at hSw); go_simp; try (with_reducible rfl))
      (try simp only [Act.put, List.setIfInBounds_toArray, List.set_cons_zero, List.set_cons_succ])
      refine wpAnyX_take (m := 17) (i := 11) (v := ?_) rfl (by kernel_rfl) (by kernel_rfl) (by decide) (by decide +kernel) (by decide +kernel) (fun _ _ _ h => h) (by kernel_rfl) (Or.inl ⟨by rfl, ?_⟩) (SX.both hs.out.1 hs.out.2) ?_
      rotate_left
      · (intro w hSw; (try dsimp only at hSw); go_simp; try (with_reducible rfl))
      (try simp only [Act.put, List.setIfInBounds_toArray, List.set_cons_zero, List.set_cons_succ])
      refine wpAnyX_take (m := 17) (i := 12) (v := ?_) rfl (by kernel_rfl) (by kernel_rfl) (by decide) (by decide +kernel) (by decide +kernel) (fun _ _ _ h => h) (by kernel_rfl) (Or.inl ⟨by rfl, ?_⟩) (SX.both hs.out.1 hs.out.2) ?_
      rotate_left
      · (intro w hSw; (try dsimp only at hSw); go_simp; try (with_reducible rfl))
      (try simp only [Act.put, List.setIfInBounds_toArray, List.set_cons_zero, List.set_cons_succ])
      refine wpAnyX_take (m := 17) (i := 13) (v := ?_) rfl (by kernel_rfl) (by kernel_rfl) (by decide) (by decide +kernel) (by decide +kernel) (fun _ _ _ h => h) (by kernel_rfl) (Or.inl ⟨by rfl, ?_⟩) (SX.both hs.out.1 hs.out.2) ?_
      rotate_left
      · (intro w hSw; (try dsimp only at hSw); go_simp; try (with_reducible rfl))
      (try simp only [Act.put, List.setIfInBounds_toArray, List.set_cons_zero, List.set_cons_succ])
      refine wpAnyX_one (j := 14) (by decide +kernel) rfl (fun K' hK => ?_)
      refine step_callX rfl 24 #[.agg #[.slice (some ⟨nb, 0, none⟩) N.length N.length, .slice (some ⟨fb, 0, none⟩) N.length N.length], .slice pra pr.length prc, .agg #[.int .u64 0, .int .u64 0]] _ (run_of3 (v0 := .agg #[.slice (some ⟨nb, 0, none⟩) N.length N.length, .slice (some ⟨fb, 0, none⟩) N.length N.length]) (v1 := .slice pra pr.length prc) (v2 := .agg #[.int .u64 0, .int .u64 0]) (by rfl) (by rfl) (by rfl) (by rfl) _) (OF.out _ rfl) ?_
      rintro e w2 ⟨rfl, b2⟩
      have L2 : Hid (LWs g gb cb nb fb N G n₀ w0 w2) := HLA.out.1.later ((Below.refl _ _).drew.trans b2) HLA.out.2
      have P2 : Hid (w2.heap[wr.heap.size]? = some (.cells #[.int .i64 (m : Int), .slice pra pr.length prc, .int .i64 pp] 55 (0, 0))) := (b2.block _ (lt_of_block PB.out)).trans PB.out
      have N2 : Hid (n₀ ≤ w2.heap.size) := Nat.le_trans HLA.out.2 b2.size
      have Q2 : Hid (∀ i, i < wr.heap.size → w2.heap[i]? = wr.heap[i]?) := fun i hi => (b2.block _ (Nat.lt_of_lt_of_le hi (below_alloc wr _).size)).trans ((below_alloc wr _).block _ hi)
      have Z2 : Hid (wr.heap.size ≤ w2.heap.size) := Nat.le_trans (below_alloc wr _).size b2.size
      clear b2 hs
      have hs : Hid ((fun w' : World => w'.cell? ⟨cb, 0, none⟩ = some (.slice (some ⟨nb, 0, none⟩) N.length N.length) ∧ w'.cell? ⟨cb, 1, none⟩ = some (.slice (some ⟨fb, 0, none⟩) N.length N.length) ∧ w'.cell? ⟨wr.heap.size, 0, none⟩ = some (.int .i64 (m : Int)) ∧ w'.cell? ⟨wr.heap.size, 1, none⟩ = some (.slice pra pr.length prc)) w2 ∧ (fun w' : World => w'.cell? ⟨fb, m * 2, none⟩ = some (.int .u64 (q1 : Int)) ∧ w'.cell? ⟨fb, m * 2 + 1, none⟩ = some (.int .u64 (q2 : Int))) w2) := KS0.out _ L2.out P2.out
      refine ⟨_, rfl, hK.out _ _ (SX.both hs.out.1 hs.out.2) ?_⟩
      clear hK K'
      (try simp only [Act.put, List.setIfInBounds_toArray, List.set_cons_zero, List.set_cons_succ])
      refine wpAnyX_one (j := 15) (by decide +kernel) rfl (fun K' hK => ?_)
      refine step_callX rfl 37 #[sv (q1, q2), sv (o1, o2)] _ (run_with2 (v0 := sv (q1, q2)) (v1 := sv (o1, o2)) (by rfl) (by rfl) (by rfl) _) (WC.out _) ?_
      rintro e w3 ⟨rfl, b3⟩
      have L3 : Hid (LWs g gb cb nb fb N G n₀ w0 w3) := L2.out.later b3 N2.out
      have P3 : Hid (w3.heap[wr.heap.size]? = some (.cells #[.int .i64 (m : Int), .slice pra pr.length prc, .int .i64 pp] 55 (0, 0))) := (b3.block _ (lt_of_block P2.out)).trans P2.out
      have Q3 : Hid (∀ i, i < wr.heap.size → w3.heap[i]? = wr.heap[i]?) := fun i hi => (b3.block _ (Nat.lt_of_lt_of_le hi Z2.out)).trans (Q2.out i hi)
      have Z3 : Hid (wr.heap.size ≤ w3.heap.size) := Nat.le_trans Z2.out b3.size
      clear b3 hs
      have hs : Hid ((fun w' : World => w'.cell? ⟨cb, 0, none⟩ = some (.slice (some ⟨nb, 0, none⟩) N.length N.length) ∧ w'.cell? ⟨cb, 1, none⟩ = some (.slice (some ⟨fb, 0, none⟩) N.length N.length) ∧ w'.cell? ⟨wr.heap.size, 0, none⟩ = some (.int .i64 (m : Int)) ∧ w'.cell? ⟨wr.heap.size, 1, none⟩ = some (.slice pra pr.length prc)) w3 ∧ (fun w' : World => w'.cell? ⟨fb, m * 2, none⟩ = some (.int .u64 (q1 : Int)) ∧ w'.cell? ⟨fb, m * 2 + 1, none⟩ = some (.int .u64 (q2 : Int))) w3) := KS0.out _ L3.out P3.out
      refine ⟨_, rfl, hK.out _ _ (SX.both hs.out.1 hs.out.2) ?_⟩
      clear hK K'
      (try simp only [Act.put, List.setIfInBounds_toArray, List.set_cons_zero, List.set_cons_succ])
      refine wpAnyX_take (m := 17) (i := 16) (v := ?_) rfl (by kernel_rfl) (by kernel_rfl) (by decide) (by decide +kernel) (by decide +kernel) (fun _ _ _ h => h) (by kernel_rfl) (Or.inl ⟨by rfl, ?_⟩) (SX.both hs.out.1 hs.out.2) ?_
      rotate_left
      · (intro w hSw; (try dsimp only at hSw); go_simp; try (with_reducible rfl))
      (try simp only [Act.put, List.setIfInBounds_toArray, List.set_cons_zero, List.set_cons_succ])
      have f0 := L3.out.f.free (m * 2)
      have f1 := L3.out.f.free (m * 2 + 1)
      have hz := L3.out.f.lt
      obtain ⟨s0, s1⟩ := hs.out.2
      refine wpAnyX_one (j := 17) (by decide +kernel) rfl (fun K' hK => ?_)
      go_simp
      have off : ∀ j, j ≠ fb → ((w3.setCell ⟨fb, m * 2, none⟩ (.int .u64 (v1 : Int))).setCell ⟨fb, m * 2 + 1, none⟩ (.int .u64 (v2 : Int))).heap[j]? = w3.heap[j]? := fun j hj => by rw [Below.heap_setCell _ _ _ _ hj, Below.heap_setCell _ _ _ _ hj]
      have hd := HD.out
      have L4 : Hid (LWs g gb cb nb fb N (G.set m (v1, v2)) n₀ w0 ((w3.setCell ⟨fb, m * 2, none⟩ (.int .u64 (v1 : Int))).setCell ⟨fb, m * 2 + 1, none⟩ (.int .u64 (v2 : Int)))) := ⟨(off _ (Ne.symm hd.1)).trans L3.out.gbx, (off _ (Ne.symm hd.2.1)).trans L3.out.cbx, L3.out.n.kept (off _ (Ne.symm hd.2.2.1)), L3.out.f.set hmG (v1, v2), fun i => by
        rw [getD_setS]
        split
        · exact OKV.out
        · exact L3.out.ok i, by rw [List.length_set]; exact L3.out.len, (L3.out.bel.setCell (p := ⟨fb, m * 2, none⟩) hd.2.2.2 _).setCell (p := ⟨fb, m * 2 + 1, none⟩) hd.2.2.2 _⟩
      refine hK.out _ _ (SX.one ⟨(cellq_any L4.out.cbx).trans rfl, (cellq_any L4.out.cbx).trans rfl, (cellq_any ((off _ HNP.out).trans P3.out)).trans rfl, (cellq_any ((off _ HNP.out).trans P3.out)).trans rfl⟩ (by decide +kernel)) ?_
      have K4 : Hid (w.heap.size ≤ ((w3.setCell ⟨fb, m * 2, none⟩ (.int .u64 (v1 : Int))).setCell ⟨fb, m * 2 + 1, none⟩ (.int .u64 (v2 : Int))).heap.size ∧ ∀ i, i < w.heap.size → i ≠ fb → ((w3.setCell ⟨fb, m * 2, none⟩ (.int .u64 (v1 : Int))).setCell ⟨fb, m * 2 + 1, none⟩ (.int .u64 (v2 : Int))).heap[i]? = w.heap[i]?) := ⟨by simpa using Nat.le_trans HWK.out.1 Z3.out, fun i hi hne => (off i hne).trans ((Q3.out i (Nat.lt_of_lt_of_le hi HWK.out.1)).trans (HWK.out.2 i hi hne))⟩
      clear hK K' off
      (try simp only [Act.put, List.setIfInBounds_toArray, List.set_cons_zero, List.set_cons_succ])
      refine wpAnyX_done (by decide +kernel) ?_
      clear hs s0 s1 f0 f1 hz
      go_wp2
      go_roundw
      case rel => exact ⟨j + 1, by omega, by go_num, by rw [HST.out]; exact L4.out, K4.out⟩
      case measure => simp [intOf]; omega
    · obtain rfl : j = g.ps.length := by omega
      rw [List.take_length] at hL
      have HL : Hid (LWs g gb cb nb fb N (roundS N g.ps F) n₀ w0 wr) := hL
      clear hL
      go_wp2
      go_end0
      exact ⟨rfl, HL.out, HWK.out⟩
end Go.Proofs.Ytflcnlefcnclkaa
