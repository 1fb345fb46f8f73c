import Derived.Test.YtaiebnppfabfgaaPFW1
namespace Go.Proofs.Ytaiebnppfabfgaa
set_option linter.unusedVariables false
set_option maxRecDepth 100000
set_option maxHeartbeats 16000000
open Go.RowKit
theorem topU_snoc (K : List Int) (l : List (Int × Int)) (s : Int × Int) : topU K (l ++ [s]) = if topU K l < K.getD s.2.toNat 0 then K.getD s.2.toNat 0 else topU K l := by simp [topU, List.foldl_append]
theorem all_snoc {α : Type} (p : α -> Bool) (l : List α) (s : α) : (l ++ [s]).all p = (l.all p && p s) := by simp [List.all_append]
theorem take_snocF {α : Type} (l : List α) (d : α) {k : Nat} (hk : k < l.length) : l.take (k + 1) = l.take k ++ [l.getD k d] := by
 rw [List.take_succ_eq_append_getElem hk]
 simp [List.getD, hk]
theorem all_take {α : Type} {p : α -> Bool} {l : List α} {k : Nat} (h : (l.take k).all p = false) : l.all p = false := by
 rw [<- List.take_append_drop k l, List.all_append, h, Bool.false_and]
theorem InRow.get0 {w : World} {nb k : Nat} {K : List Int} (h : InRow w (some ⟨nb, 0, none⟩) K) (hk : k < K.length) : w.cell? ⟨nb, k, none⟩ = some (.int .i64 (K.getD k 0)) := by
 obtain ⟨b, off, e, _, hc⟩ := h (by intro q; rw [q] at hk; simp at hk)
 simp only [Option.some.injEq, Addr.mk.injEq] at e
 obtain ⟨rfl, rfl, _⟩ := e
 have := hc k hk
 rwa [Nat.zero_add] at this
theorem made_S (g : GV) (kb : Nat) (K : List Int) (a : Nat) (w : World) (hfg : FG w g) (hK : InRow w (some ⟨kb, 0, none⟩) K) (hKl : K.length = g.ns.length) (hbd : ∀ i, 0 <= K.getD i 0 /\ K.getD i 0 <= 64) (ha : a < g.ns.length) (hex : ∃ i, i < g.ps.length /\ madeP K (a : Int) (g.ps.getD i .none) = true) :
  Calls Try.prog 10 #[g.val, .slice (some ⟨kb, 0, none⟩) g.ns.length g.ns.length, .int .i64 (a : Int)] w fun e w' => e = .returned (.bool true) /\ Below w.heap.size w w' := by
 have X0 : Hid ((w.alloc (gBox g)).heap[w.heap.size]? = some (gBox g)) := heap_alloc_new _ _
 have HFG : Hid (∀ w', Below w.heap.size w w' -> FG w' g /\ InRow w' (some ⟨kb, 0, none⟩) K) := fun w' hb => ⟨hfg.later hb, hK.later hb⟩
 have HKL : Hid (K.length = g.ns.length) := hKl
 have HBD : Hid (∀ i, 0 <= K.getD i 0 /\ K.getD i 0 <= 64) := hbd
 have HEX : Hid (∃ i, i < g.ps.length /\ madeP K (a : Int) (g.ps.getD i .none) = true) := hex
 have hpl := hfg.pl
 have hnl := hfg.nl.2
 have hA0 := hbd a
 have alt : (a : Int) < (g.ns.length : Int) := by omega
 obtain ⟨x0, x1, x2, x3, x4⟩ := gb_cells X0.out
 have HKA : Hid (∀ w', Below w.heap.size w w' -> w'.cell? ⟨kb, a, none⟩ = some (.int .i64 (K.getD a 0))) := fun w' hb => (hK.later hb).get0 (by omega)
 have VM : Hid (∀ p : PV, madeP K (a : Int) p = (decide (p.left = (a : Int)) && p.right.all (fit0 K) && decide (topU K p.right + 1 = K.getD a 0))) := fun p => by simp [madeP]
 clear hfg hK hKl hbd hex ha
 generalize K.getD a 0 = KA at *
 go_enter Try.func10, Try.ntmps10
 go_wp2
 go_loopw [7] (fun z wr => ∃ k : Nat, k <= g.ps.length /\ z = .int .i64 k /\ (∀ j, j < k -> madeP K (a : Int) (g.ps.getD j .none) = false) /\ Below w.heap.size w wr /\ wr.heap[w.heap.size]? = some (gBox g)) (fun z _ => g.ps.length - (intOf z).toNat)
 case atStart => exact ⟨0, Nat.zero_le _, rfl, fun j hj => absurd hj (Nat.not_lt_zero j), below_alloc w _, X0.out⟩
 case round =>
  clear x0 x1 x2 x3 x4
  obtain ⟨k, hk, rfl, hf, hb, hg⟩ := hrel
  have HB : Hid (Below w.heap.size w wr /\ wr.heap[w.heap.size]? = some (gBox g)) := ⟨hb, hg⟩
  have HF : Hid (∀ j, j < k -> madeP K (a : Int) (g.ps.getD j .none) = false) := hf
  by_cases hlt : k < g.ps.length
  ·obtain ⟨b, o, hpa, hbl, hc⟩ := (HFG.out _ hb).1.p.cells (by intro e; rw [e] at hlt; simp at hlt)
   obtain ⟨c0, c1, c2⟩ := hc k hlt
   obtain ⟨x0, x1, x2, x3, x4⟩ := gb_cells hg
   have klt : (k : Int) < (g.ps.length : Int) := by omega
   have hmem : g.ps.getD k .none ∈ g.ps := by simp [List.getD, hlt]
   have hrow := (HFG.out _ hb).1.p.rows _ hmem
   have hrl := (HFG.out _ hb).1.rl _ hmem
   have hsy := (HFG.out _ hb).1.sym _ hmem
   have HS : Hid (madeP K (a : Int) (g.ps.getD k .none) = false -> ∀ j, j < k + 1 -> madeP K (a : Int) (g.ps.getD j .none) = false) := fun h j hj => by
    by_cases q : j = k
    ·subst q; exact h
    ·exact hf j (by omega)
   have VP := VM.out (g.ps.getD k .none)
   generalize g.ps.getD k .none = p at *
   obtain ⟨pl, pra, prc, pr, pp⟩ := p
   simp only at c0 c1 c2 hrow hrl hsy VP
   have HV : Hid (madeP K (a : Int) ⟨pl, pra, prc, pr, pp⟩ = (decide (pl = (a : Int)) && pr.all (fit0 K) && decide (topU K pr + 1 = KA))) := VP
   rw [hpa] at x3
   have HA : Hid (Below wr.heap.size wr (wr.alloc (.cells #[.int .i64 pl, .slice pra pr.length prc, .int .i64 pp] 65))) := below_alloc _ _
   have HW : Hid (Below w.heap.size w (wr.alloc (.cells #[.int .i64 pl, .slice pra pr.length prc, .int .i64 pp] 65)) /\ (wr.alloc (.cells #[.int .i64 pl, .slice pra pr.length prc, .int .i64 pp] 65)).heap[w.heap.size]? = some (gBox g)) := ⟨HB.out.1.trans (HA.out.mono HB.out.1.size), (HA.out.block _ (lt_of_block HB.out.2)).trans HB.out.2⟩
   have HRW : Hid (SymRow (wr.alloc (.cells #[.int .i64 pl, .slice pra pr.length prc, .int .i64 pp] 65)) pra pr) := hrow.later (Nat.le_refl _) HA.out
   have HSY : Hid (∀ s ∈ pr, s.1 = 2 -> 0 <= s.2 /\ s.2 < g.ns.length) := fun s hs e => by
    rcases hsy s hs with q | q
    ·omega
    ·exact q.2
   have HKC : Hid (∀ m, m < g.ns.length -> (wr.alloc (.cells #[.int .i64 pl, .slice pra pr.length prc, .int .i64 pp] 65)).cell? ⟨kb, m, none⟩ = some (.int .i64 (K.getD m 0))) := fun m hm => (HFG.out _ HW.out.1).2.get0 (by rw [HKL.out]; exact hm)
   have ca := HKA.out _ HW.out.1
   obtain ⟨B0, hB0⟩ : ∃ B0 : Bool, decide (pl = (a : Int)) = B0 := ⟨_, rfl⟩
   have TB : (pl == (a : Int)) = B0 := by rw [<- hB0]; rfl
   have HB0 : Hid (decide (pl = (a : Int)) = B0) := hB0
   clear hc hmem hrow hsy hb hf hg VP hB0
   go_wp2
   go_loopw [9, 10, 11] (fun t ok z wr2 => ∃ (j : Nat) (bo : Bool) (tt : Int), j <= pr.length /\ t = .int .i64 tt /\ ok = .bool bo /\ z = .int .i64 j /\ 0 <= tt /\ tt <= 64 /\ bo = (B0 && (pr.take j).all (fit0 K)) /\ (bo = true -> tt = topU K (pr.take j)) /\ (wr.alloc (.cells #[.int .i64 pl, .slice pra pr.length prc, .int .i64 pp] 65)) = wr2) (fun _ _ z _ => pr.length - (intOf z).toNat)
   case atStart => exact ⟨0, B0, 0, Nat.zero_le _, rfl, rfl, rfl, by omega, by omega, by simp, fun _ => rfl, rfl⟩
   case round =>
    obtain ⟨j, bo, tt, hj, rfl, rfl, rfl, ht0, ht1, hbo, htt, rfl⟩ := hrel
    have HBO : Hid (bo = (B0 && (pr.take j).all (fit0 K)) /\ (bo = true -> tt = topU K (pr.take j))) := ⟨hbo, htt⟩
    clear hbo htt
    by_cases hjl : j < pr.length
    ·have jlt : (j : Int) < (pr.length : Int) := by omega
     cases bo
     ·have Q : madeP K (a : Int) ⟨pl, pra, prc, pr, pp⟩ = false := by
       rw [HV.out, HB0.out]
       have e := HBO.out.1
       cases B0
       ·rfl
       ·rw [Bool.true_and] at e
        rw [all_take e.symm]; simp
      have R : Hid (∀ j, j < k + 1 -> madeP K (a : Int) (g.ps.getD j .none) = false) := HS.out Q
      clear Q HBO
      go_wp2
      go_roundw
      case rel => exact ⟨k + 1, by omega, by go_num, R.out, HW.out⟩
      case measure => simp [intOf]; omega
     ·obtain ⟨rb, ro, rfl, hrb, hrc⟩ := HRW.out (by intro e; rw [e] at hjl; simp at hjl)
      obtain ⟨s0, s1⟩ := hrc j hjl
      have hsm := HSY.out (pr.getD j (0, 0)) (by simp [List.getD, hjl])
      have E1 : Hid (B0 = true /\ (pr.take j).all (fit0 K) = true /\ tt = topU K (pr.take j)) := by
       have e := HBO.out.1
       have e2 := HBO.out.2 rfl
       cases B0
       ·cases e
       ·exact ⟨rfl, by simpa using e.symm, e2⟩
      have N1 : Hid ((pr.take (j + 1)).all (fit0 K) = fit0 K (pr.getD j (0, 0))) := by show _ = _; rw [take_snocF pr (0, 0) hjl, all_snoc, E1.out.2.1, Bool.true_and]
      have N2 : Hid (topU K (pr.take (j + 1)) = if tt < K.getD (pr.getD j (0, 0)).2.toNat 0 then K.getD (pr.getD j (0, 0)).2.toNat 0 else tt) := by show _ = _; rw [take_snocF pr (0, 0) hjl, topU_snoc, E1.out.2.2]
      have FV : Hid (fit0 K (pr.getD j (0, 0)) = (decide ((pr.getD j (0, 0)).1 = 2) && decide (0 < K.getD (pr.getD j (0, 0)).2.toNat 0))) := rfl
      generalize pr.getD j (0, 0) = x at *
      obtain ⟨y1, y2⟩ := x
      simp only at s0 s1 hsm
      clear hrc HBO
      by_cases h2 : y1 = 2
      ·obtain ⟨i0, i1⟩ := hsm h2
       obtain ⟨m, rfl⟩ : ∃ m : Nat, y2 = (m : Int) := ⟨y2.toNat, by omega⟩
       have km := HKC.out m (by omega)
       have bm := HBD.out m
       have mlt : (m : Int) < (g.ns.length : Int) := by omega
       have e2 : (y1 == 2) = true := by simpa using h2
       have N2' : Hid (topU K (pr.take (j + 1)) = if tt < K.getD m 0 then K.getD m 0 else tt) := by show _ = _; have := N2.out; simpa using this
       have FV' : Hid (fit0 K (y1, (m : Int)) = decide (0 < K.getD m 0)) := by show _ = _; rw [FV.out, decide_eq_true h2]; simp
       generalize K.getD m 0 = km0 at *
       clear h2 N2 FV hsm
       by_cases q1 : 0 < km0
       ·have E3 : Hid (true = (B0 && (pr.take (j + 1)).all (fit0 K))) := by show _ = _; rw [E1.out.1, N1.out, FV'.out, decide_eq_true q1]; rfl
        by_cases q2 : tt < km0
        ·have E4 : Hid (km0 = topU K (pr.take (j + 1))) := by show _ = _; rw [N2'.out, if_pos q2]
         go_wp2
         go_roundw
         case rel => exact ⟨j + 1, true, km0, by omega, rfl, rfl, by go_num, by omega, by omega, E3.out, fun _ => E4.out, by first | rfl | trivial⟩
         case measure => simp [intOf]; omega
        ·have E4 : Hid (tt = topU K (pr.take (j + 1))) := by show _ = _; rw [N2'.out, if_neg q2]
         go_wp2
         go_roundw
         case rel => exact ⟨j + 1, true, tt, by omega, rfl, rfl, by go_num, by omega, by omega, E3.out, fun _ => E4.out, by first | rfl | trivial⟩
         case measure => simp [intOf]; omega
       ·have E3 : Hid (false = (B0 && (pr.take (j + 1)).all (fit0 K))) := by show _ = _; rw [N1.out, FV'.out, decide_eq_false q1]; simp
        go_wp2
        go_roundw
        case rel => exact ⟨j + 1, false, tt, by omega, rfl, rfl, by go_num, by omega, by omega, E3.out, (fun h => by cases h), by first | rfl | trivial⟩
        case measure => simp [intOf]; omega
      ·have e2 : (y1 == 2) = false := by simpa using h2
       have E3 : Hid (false = (B0 && (pr.take (j + 1)).all (fit0 K))) := by show _ = _; rw [N1.out, FV.out, decide_eq_false h2]; simp
       clear h2 N2 FV hsm
       go_wp2
       go_roundw
       case rel => exact ⟨j + 1, false, tt, by omega, rfl, rfl, by go_num, by omega, by omega, E3.out, (fun h => by cases h), by first | rfl | trivial⟩
       case measure => simp [intOf]; omega
    ·have e : j = pr.length := by omega
     have jlt : ¬ (j : Int) < (pr.length : Int) := by omega
     have HT : Hid ((pr.take j).all (fit0 K) = pr.all (fit0 K) /\ topU K (pr.take j) = topU K pr) := ⟨by rw [e, List.take_length], by rw [e, List.take_length]⟩
     clear e
     cases bo
     ·have Q : madeP K (a : Int) ⟨pl, pra, prc, pr, pp⟩ = false := by
       rw [HV.out, HB0.out, <- HT.out.1, <- HBO.out.1]; rfl
      have R : Hid (∀ j, j < k + 1 -> madeP K (a : Int) (g.ps.getD j .none) = false) := HS.out Q
      clear Q HBO
      go_wp2
      go_roundw
      case rel => exact ⟨k + 1, by omega, by go_num, R.out, HW.out⟩
      case measure => simp [intOf]; omega
     ·have ET : Hid (tt = topU K pr) := (HBO.out.2 rfl).trans HT.out.2
      by_cases q : tt + 1 = KA
      ·have t1 : (tt + 1 == KA) = true := by simpa using q
       clear q HBO
       go_wp2
       go_ret
       exact ⟨rfl, HW.out.1⟩
      ·have t1 : (tt + 1 == KA) = false := by simpa using q
       have Q : madeP K (a : Int) ⟨pl, pra, prc, pr, pp⟩ = false := by
        rw [HV.out, <- ET.out, decide_eq_false q, Bool.and_false]
       have R : Hid (∀ j, j < k + 1 -> madeP K (a : Int) (g.ps.getD j .none) = false) := HS.out Q
       clear q Q HBO
       go_wp2
       go_roundw
       case rel => exact ⟨k + 1, by omega, by go_num, R.out, HW.out⟩
       case measure => simp [intOf]; omega
  ·exfalso
   obtain ⟨i, hi, q⟩ := HEX.out
   rw [hf i (by omega)] at q
   cases q
end Go.Proofs.Ytaiebnppfabfgaa
