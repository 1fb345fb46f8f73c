import Derived.Test.YtflcnlefcnclkaaFMem3
namespace Go.Proofs.Ytflcnlefcnclkaa
set_option linter.unusedVariables false
open Go.RowKit

/-- What the walks want of a grammar that may be. -/
structure FG (w : World) (g : GV) : Prop where
  p : PrRow w g.pa g.ps
  nl : 1 ≤ g.ns.length ∧ g.ns.length ≤ 64
  pl : g.ps.length ≤ 256
  left : ∀ p ∈ g.ps, 0 ≤ p.left ∧ p.left < g.ns.length
  rl : ∀ p ∈ g.ps, p.right.length ≤ 16
  sym : ∀ p ∈ g.ps, ∀ s ∈ p.right, (s.1 = 1 ∧ 0 ≤ s.2 ∧ s.2 < g.ts.length) ∨ (s.1 = 2 ∧ 0 ≤ s.2 ∧ s.2 < g.ns.length)
  tl : 1 ≤ g.ts.length ∧ g.ts.length ≤ 64
theorem FG.later {w w' : World} {g : GV} (h : FG w g) (hb : Below w.heap.size w w') : FG w' g := ⟨h.p.later hb, h.nl, h.pl, h.left, h.rl, h.sym, h.tl⟩
theorem foldl_take_succ {α β : Type} (f : β → α → β) (l : List α) (k : Nat) (b : β) (d : α) (hk : k < l.length) : (l.take (k + 1)).foldl f b = f ((l.take k).foldl f b) (l.getD k d) := by
  rw [List.take_succ_eq_append_getElem hk, List.foldl_append]
  simp [List.getD, hk]
set_option maxRecDepth 100000 in
set_option maxHeartbeats 4000000 in
theorem heights_S (g : GV) (w : World) (h : FG w g) :
    Calls Try.prog 33 #[g.val] w fun e w' => ∃ kb, e = .returned (.slice (some ⟨kb, 0, none⟩) g.ns.length g.ns.length) ∧ KB w' kb (htU g.ps g.ns.length g.ns.length) ∧ w.heap.size ≤ kb ∧ Below w.heap.size w w' := by
  have hmk := make_intF g.ns.length (by have := h.nl; omega)
  have HG : Hid (∀ w', Below w.heap.size w w' → FG w' g) := fun w' hb => h.later hb
  have X0 : Hid ((w.alloc (gBox g)).heap[w.heap.size]? = some (gBox g)) := heap_alloc_new _ _
  have K0 : Hid (KB ((w.alloc (gBox g)).alloc (.cells (madeCells #[.int .i64 0] g.ns.length) 3)) (w.heap.size + 1) (htU g.ps g.ns.length 0)) := by
    have := KB.made (w.alloc (gBox g)) g.ns.length
    rwa [show (w.alloc (gBox g)).heap.size = w.heap.size + 1 by simp] at this
  have B0 : Hid (Below w.heap.size w ((w.alloc (gBox g)).alloc (.cells (madeCells #[.int .i64 0] g.ns.length) 3)) ∧ ((w.alloc (gBox g)).alloc (.cells (madeCells #[.int .i64 0] g.ns.length) 3)).heap[w.heap.size]? = some (gBox g)) :=
    ⟨(below_alloc w _).trans ((below_alloc _ _).mono (below_alloc w _).size), ((below_alloc _ _).block _ (lt_of_block X0.out)).trans X0.out⟩
  have hnl := h.nl
  have hpl := h.pl
  obtain ⟨x0, x1, x2, x3, x4⟩ := gb_cells X0.out
  obtain ⟨y0, y1, y2, y3, y4⟩ := gb_cells B0.out.2
  clear h
  go_enter Try.func33, Try.ntmps33
  go_wp2
  go_loopw [14] (fun z wr => ∃ k : Nat, k ≤ g.ns.length ∧ z = .int .i64 k ∧ KB wr (w.heap.size + 1) (htU g.ps g.ns.length k) ∧ wr.heap[w.heap.size]? = some (gBox g) ∧ Below w.heap.size w wr) (fun z _ => g.ns.length - (intOf z).toNat)
  case atStart => exact ⟨0, Nat.zero_le _, rfl, K0.out, B0.out.2, B0.out.1⟩
  case round =>
    clear x0 x1 x2 x3 x4 y0 y1 y2 y3 y4 hmk K0 X0 B0
    obtain ⟨k, hk, rfl, hK, hX, hb⟩ := hrel
    by_cases hlt : k < g.ns.length
    · have klt : (k : Int) < (g.ns.length : Int) := by omega
      obtain ⟨x0, x1, x2, x3, x4⟩ := gb_cells hX
      have H1 : Hid (KB wr (w.heap.size + 1) (htU g.ps g.ns.length k) ∧ wr.heap[w.heap.size]? = some (gBox g) ∧ Below w.heap.size w wr) := ⟨hK, hX, hb⟩
      clear hK hX hb
      go_wp2
      go_loopw [20] (fun z wi => ∃ j : Nat, j ≤ g.ps.length ∧ z = .int .i64 j ∧ KB wi (w.heap.size + 1) ((g.ps.take j).foldl (hStep k) (htU g.ps g.ns.length k)) ∧ wi.heap[w.heap.size]? = some (gBox g) ∧ Below w.heap.size w wi) (fun z _ => g.ps.length - (intOf z).toNat)
      case atStart => exact ⟨0, Nat.zero_le _, rfl, H1.out.1, H1.out.2.1, H1.out.2.2⟩
      case round =>
        clear H1 x0 x1 x2 x3 x4
        obtain ⟨j, hj, rfl, hK, hX, hb⟩ := hrel
        by_cases hjt : j < g.ps.length
        · obtain ⟨b, o, hpa, hbl, hc⟩ := ((HG.out _ hb).p).cells (by intro e; rw [e] at hjt; simp at hjt)
          obtain ⟨c0, c1, c2⟩ := hc j hjt
          have jlt : (j : Int) < (g.ps.length : Int) := by omega
          have hmem : g.ps.getD j .none ∈ g.ps := by simp [List.getD, hjt]
          obtain ⟨l0, l1⟩ := (HG.out _ hb).left _ hmem
          have hrow := ((HG.out _ hb).p).rows _ hmem
          have hrl := (HG.out _ hb).rl _ hmem
          have hsy := (HG.out _ hb).sym _ hmem
          have hstep := foldl_take_succ (hStep k) g.ps j (htU g.ps g.ns.length k) .none hjt
          have hKl : ((g.ps.take j).foldl (hStep k) (htU g.ps g.ns.length k)).length = g.ns.length := by rw [(hFold_go k _ _).len, htU_len]
          have H2 : Hid (KB wr (w.heap.size + 1) ((g.ps.take j).foldl (hStep k) (htU g.ps g.ns.length k)) ∧ wr.heap[w.heap.size]? = some (gBox g) ∧ Below w.heap.size w wr) := ⟨hK, hX, hb⟩
          generalize hKK : (g.ps.take j).foldl (hStep k) (htU g.ps g.ns.length k) = K at *
          generalize hp : g.ps.getD j .none = p at *
          obtain ⟨pl, pra, prc, pr, pp⟩ := p
          simp only at c0 c1 c2 l0 l1 hrow hrl hsy
          obtain ⟨m, rfl⟩ : ∃ m : Nat, pl = (m : Int) := ⟨pl.toNat, by omega⟩
          have hBA : Below wr.heap.size wr (wr.alloc (.cells #[.int .i64 (m : Int), .slice pra pr.length prc, .int .i64 pp] 55)) := below_alloc _ _
          have hKA := hK.later hBA
          have kc := hKA.cell (i := m) (by omega)
          have hml : m < K.length := by omega
          have HA : Hid (KB (wr.alloc (.cells #[.int .i64 (m : Int), .slice pra pr.length prc, .int .i64 pp] 55)) (w.heap.size + 1) K ∧ (wr.alloc (.cells #[.int .i64 (m : Int), .slice pra pr.length prc, .int .i64 pp] 55)).heap[w.heap.size]? = some (gBox g) ∧ Below w.heap.size w (wr.alloc (.cells #[.int .i64 (m : Int), .slice pra pr.length prc, .int .i64 pp] 55))) := ⟨hKA, (hBA.block _ (lt_of_block hX)).trans hX, hb.trans (hBA.mono hb.size)⟩
          have HRW : Hid (SymRow (wr.alloc (.cells #[.int .i64 (m : Int), .slice pra pr.length prc, .int .i64 pp] 55)) pra pr) := hrow.later (Nat.le_refl _) hBA
          have HSY : Hid (∀ s ∈ pr, s.1 = 2 → 0 ≤ s.2 ∧ s.2 < K.length) := fun s hs e => by
            rcases hsy s hs with q | q
            · omega
            · rw [hKl]; exact q.2
          have HST : Hid ((g.ps.take (j + 1)).foldl (hStep k) (htU g.ps g.ns.length k) = if K.getD m 0 = 0 ∧ fitU K pr k = true then K.set m ((k : Int) + 1) else K) := by
            show _ = _
            rw [hstep]
            simp [hStep]
          have HKL : Hid (K.length = g.ns.length) := hKl
          rw [hpa]
          generalize hv : K.getD m 0 = v at *
          by_cases h0 : v = 0
          · have e0 : (v == 0) = true := by simp [h0]
            obtain ⟨F, hF⟩ : ∃ F, fitU K pr k = F := ⟨_, rfl⟩
            have HF : Hid (fitU K pr k = F) := hF
            have H0 : Hid (v = 0) := h0
            have FC : Hid (Calls Try.prog 45 #[.slice (some ⟨w.heap.size + 1, 0, none⟩) g.ns.length g.ns.length, .slice pra pr.length prc, .int .i64 k] (wr.alloc (.cells #[.int .i64 (m : Int), .slice pra pr.length prc, .int .i64 pp] 55)) fun e w' => e = .returned (.bool F) ∧ Below (wr.alloc (.cells #[.int .i64 (m : Int), .slice pra pr.length prc, .int .i64 pp] 55)).heap.size (wr.alloc (.cells #[.int .i64 (m : Int), .slice pra pr.length prc, .int .i64 pp] 55)) w') := by
              have := fit_S (w.heap.size + 1) g.ns.length K pra prc pr k _ HA.out.1 HRW.out (by omega) HSY.out
              rw [HKL.out, HF.out] at this
              exact this
            clear hK hX hb hc hmem hstep hKl hKK hp hrow hsy hBA hKA hpa hF hv
            cases F
            · go_wp2_with (go_at_call 45; refine FC.out.mono ?_; rintro e w2 ⟨rfl, b2⟩; have B2 : Hid (KB w2 (w.heap.size + 1) K ∧ w2.heap[w.heap.size]? = some (gBox g) ∧ Below w.heap.size w w2 ∧ w2.heap[wr.heap.size]? = some (.cells #[.int .i64 (m : Int), .slice pra pr.length prc, .int .i64 pp] 55)) := ⟨HA.out.1.later b2, (b2.block _ (lt_of_block HA.out.2.1)).trans HA.out.2.1, HA.out.2.2.trans (b2.mono HA.out.2.2.size), (b2.block _ (lt_of_block (heap_alloc_new _ _))).trans (heap_alloc_new _ _)⟩; have r0 : w2.cell? ⟨wr.heap.size, 0, none⟩ = some (.int .i64 (m : Int)) := (cellq_any B2.out.2.2.2).trans rfl; have r1 := B2.out.1.cell hml; have r2 := B2.out.1.free m; have r3 := B2.out.1.lt; clear b2)
              go_roundw
              case rel =>
                refine ⟨j + 1, by omega, by go_num, ?_, B2.out.2.1, B2.out.2.2.1⟩
                rw [HST.out, if_neg (fun q => by rw [HF.out] at q; exact absurd q.2 (by decide))]
                exact B2.out.1
              case measure => simp [intOf]; omega
            · go_wp2_with (go_at_call 45; refine FC.out.mono ?_; rintro e w2 ⟨rfl, b2⟩; have B2 : Hid (KB w2 (w.heap.size + 1) K ∧ w2.heap[w.heap.size]? = some (gBox g) ∧ Below w.heap.size w w2 ∧ w2.heap[wr.heap.size]? = some (.cells #[.int .i64 (m : Int), .slice pra pr.length prc, .int .i64 pp] 55)) := ⟨HA.out.1.later b2, (b2.block _ (lt_of_block HA.out.2.1)).trans HA.out.2.1, HA.out.2.2.trans (b2.mono HA.out.2.2.size), (b2.block _ (lt_of_block (heap_alloc_new _ _))).trans (heap_alloc_new _ _)⟩; have r0 : w2.cell? ⟨wr.heap.size, 0, none⟩ = some (.int .i64 (m : Int)) := (cellq_any B2.out.2.2.2).trans rfl; have r1 := B2.out.1.cell hml; have r2 := B2.out.1.free m; have r3 := B2.out.1.lt; clear b2)
              go_roundw
              case rel =>
                refine ⟨j + 1, by omega, by go_num, ?_, ?_, ?_⟩
                · rw [HST.out, if_pos ⟨H0.out, HF.out⟩]
                  exact B2.out.1.set m _
                · exact (Below.heap_setCell w2 ⟨w.heap.size + 1, m, none⟩ _ _ (show w.heap.size ≠ w.heap.size + 1 by omega)).trans B2.out.2.1
                · exact B2.out.2.2.1.setCell (p := ⟨w.heap.size + 1, m, none⟩) (by show w.heap.size ≤ w.heap.size + 1; omega) _
              case measure => simp [intOf]; omega
          · have e0 : (v == 0) = false := by simp [h0]
            have H0 : Hid (v ≠ 0) := h0
            clear hK hX hb hc hmem hstep hKl hKK hp hrow hsy hBA hKA hpa hv
            go_wp2
            go_roundw
            case rel =>
              refine ⟨j + 1, by omega, by go_num, ?_, HA.out.2.1, HA.out.2.2⟩
              rw [HST.out, if_neg (fun q => H0.out q.1)]
              exact HA.out.1
            case measure => simp [intOf]; omega
        · obtain rfl : j = g.ps.length := by omega
          rw [List.take_length] at hK
          have H2 : Hid (KB wr (w.heap.size + 1) (htU g.ps g.ns.length (k + 1)) ∧ wr.heap[w.heap.size]? = some (gBox g) ∧ Below w.heap.size w wr) := ⟨hK, hX, hb⟩
          clear hK hX hb
          go_wp2
          go_roundw
          case rel => exact ⟨k + 1, by omega, by go_num, H2.out⟩
          case measure => simp [intOf]; omega
    · obtain rfl : k = g.ns.length := by omega
      have H2 : Hid (KB wr (w.heap.size + 1) (htU g.ps g.ns.length g.ns.length) ∧ Below w.heap.size w wr) := ⟨hK, hb⟩
      clear hK hX hb
      go_wp2
      go_ret
      exact ⟨w.heap.size + 1, rfl, H2.out.1, by omega, H2.out.2⟩
end Go.Proofs.Ytflcnlefcnclkaa
