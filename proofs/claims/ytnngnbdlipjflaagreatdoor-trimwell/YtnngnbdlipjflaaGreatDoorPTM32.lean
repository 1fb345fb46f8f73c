import Derived.Test.YtnngnbdlipjflaaGreatDoorPTM30ToTM31
namespace Go.Proofs.YtnngnbdlipjflaaGreatDoor
set_option linter.unusedVariables false
open Go.RowKit Go.Shelf

theorem well_none {B : List Int} {Y : List (Int × Int)} {O : List Int} {s : Int × Int} (h : ((0 : Int), s) = wellU B Y O) : B = [] ∧ Y = [] ∧ O = [] := by
  unfold wellU at h
  rcases B with _ | ⟨b, B⟩
  · rcases Y with _ | ⟨y, Y⟩
    · rcases O with _ | ⟨o, O⟩
      · exact ⟨rfl, rfl, rfl⟩
      · simp at h
    · simp at h
  · simp at h
theorem offU_none {v : Bool} {M : List Bool} {n : Nat} (h : offU v M n = []) {i : Nat} (hi : i < n) : M.getD i false ≠ v := by
  unfold offU at h
  have h1 := List.map_eq_nil_iff.1 h
  have h2 := List.filter_eq_nil_iff.1 h1 i (List.mem_range.2 hi)
  simpa using h2
/-- Where nothing is barren, all have a length. -/
theorem all_long {g : GV} {L : List Int} (hb : BrL g []) (hc : ClK g L g.ps.length) : ∀ i, i < g.ns.length → 0 ≤ L.getD i 0 := by
  obtain ⟨M, hM, he⟩ := hb
  intro i hi
  have h1 := offU_none he.symm hi
  have h2 : M.getD i false = true := by
    cases hv : M.getD i false with
    | true => rfl
    | false => exact absurd hv h1
  refine hM.lst (fun i => 0 ≤ L.getD i 0) (fun p hp hs => ?_) i h2
  obtain ⟨j, hj, rfl⟩ := List.getElem_of_mem hp
  have e : g.ps.getD j .none = g.ps[j] := by simp [List.getD, hj]
  have := hc j hj
  rw [e] at this
  exact this fun s hs' q => (hs s hs').1 q
/-- Where nothing is circular, no production is one nonterminal of itself. -/
theorem no_self {g : GV} (hl : ∀ p ∈ g.ps, 0 ≤ p.left ∧ p.left < g.ns.length) (hO : CiL g []) {p : PV} (hp : p ∈ g.ps) (h : p.right = [(2, p.left)]) : False := by
  obtain ⟨M, NU, h1, h2, he⟩ := hO
  obtain ⟨l0, l1⟩ := hl p hp
  obtain ⟨m, hm⟩ : ∃ m : Nat, p.left = (m : Int) := ⟨p.left.toNat, by omega⟩
  have hml : m < g.ns.length := by omega
  refine offU_none he.symm hml ((h2 m hml).2 (Relation.TransGen.single ?_))
  show ((m : Int), (m : Int)) ∈ alU NU g.ps
  refine mem_alU.2 ⟨p, hp, 0, by rw [h]; simp, by rw [h]; rfl, by rw [h]; rfl, by rw [h]; rfl, by rw [h, hm]; rfl⟩
set_option linter.unusedSimpArgs false in
set_option maxRecDepth 100000 in
set_option maxHeartbeats 8000000 in
/-- The law holds of every grammar. -/
theorem well_walk (g : GV) (w : World) (h : GAt 140737488355328 w g) (hpc : g.ps.length ≤ g.pc) (hcap : ∀ p ∈ g.ps, p.right.length ≤ p.rc) (hT : TabB w) :
    Calls Tryz.prog 6 #[g.val] w fun e w' => e = .returned (.bool true) ∧ Below w.heap.size w w' := by
  obtain ⟨er, at_, hE⟩ : ∃ er at_, checkG g (checkF g.ts g.ns) = (er, at_) := ⟨_, _, rfl⟩
  have X0 : Hid ((w.alloc (gBox g)).heap[w.heap.size]? = some (gBox g)) := heap_alloc_new _ _
  have AL : Hid (Calls Tryz.prog 20 #[] (w.alloc (gBox g)) fun e w' => e = .returned (.bool true) ∧ Below (w.alloc (gBox g)).heap.size (w.alloc (gBox g)) w') := alive_T _ (hT.later (below_alloc _ _))
  have WE : Hid (∀ wr, Below w.heap.size w wr → Calls Tryz.prog 14 #[g.val] wr fun e w' => ∃ k s, e = .returned (.tuple #[.int .i64 k, .agg #[.int .i64 s.1, .int .i64 s.2]]) ∧ WeE g er k s ∧ Below wr.heap.size wr w') := fun wr hb => Well_P2 g wr (h.later hb) hpc er at_ hE hcap (hT.later hb)
  have LN : Hid (er = 0 → ∀ wr, Below w.heap.size w wr → Calls Tryz.prog 27 #[g.val] wr fun e w' => ∃ b c L, e = .returned (.tuple #[.slice (some ⟨b, 0, none⟩) g.ns.length c, .int .i64 0]) ∧ LG w' b c L ∧ L.length = g.ns.length ∧ ClK g L g.ps.length ∧ Below wr.heap.size wr w') := fun e wr hb => by
    subst e
    exact lengths_Y g wr (h.later hb) at_ hE
  have FGH : Hid (er = 0 → ∀ w', Below w.heap.size w w' → FG w' g) := fun e w' hb => by
    subst e
    exact (OkC.of (by rw [hE])).fg (h.later hb)
  obtain ⟨x0, x1, x2, x3, x4⟩ := gb_cells X0.out
  clear h hE hcap hT hpc
  go_enter Tryz.func6, Tryz.ntmps6
  go_wp2_with (first
    | (go_at_call 20; refine AL.out.mono ?_; rintro e w1 ⟨rfl, b1⟩; have A1 : Hid (Below w.heap.size w w1 ∧ w1.heap[w.heap.size]? = some (gBox g)) := ⟨(below_alloc w _).trans (b1.mono (below_alloc w _).size), (b1.block _ (lt_of_block X0.out)).trans X0.out⟩; clear b1 x0 x1 x2 x3 x4; obtain ⟨x0, x1, x2, x3, x4⟩ := gb_cells A1.out.2)
    | (go_at_call 14; refine (WE.out _ A1.out.1).mono ?_))
  rintro e w2 ⟨k, ⟨s1, s2⟩, rfl, we, b2⟩
  have A2 : Hid (Below w.heap.size w (w2.alloc (.cells #[.int .i64 s1, .int .i64 s2] 54)) ∧ (w2.alloc (.cells #[.int .i64 s1, .int .i64 s2] 54)).heap[w.heap.size]? = some (gBox g)) := by
    have q1 := A1.out.1.trans (b2.mono A1.out.1.size)
    have q2 := (b2.block _ (lt_of_block A1.out.2)).trans A1.out.2
    exact ⟨q1.trans ((below_alloc _ _).mono q1.size), ((below_alloc _ _).block _ (lt_of_block q2)).trans q2⟩
  have HWE : Hid (WeE g er k (s1, s2)) := we
  clear b2 we x0 x1 x2 x3 x4
  by_cases hk : k = 0
  · subst hk
    have her : er = 0 := by
      by_cases e : er = 0
      · exact e
      · exact ((HWE.out.2 e).1).symm
    have LST : Hid (BrL g [] ∧ CiL g []) := by
      obtain ⟨B, Y, O, hB, _, hO, hw⟩ := HWE.out.1 her
      obtain ⟨rfl, rfl, rfl⟩ := well_none hw
      exact ⟨hB, hO⟩
    have LN2 : Hid _ := LN.out her
    have FG2 : Hid _ := FGH.out her
    obtain ⟨x0, x1, x2, x3, x4⟩ := gb_cells A2.out.2
    have t1 : ((0 : Int) != 0) = false := by decide
    have hnl := (FG2.out _ A2.out.1).nl.2
    have hpl := (FG2.out _ A2.out.1).pl
    clear LN FGH HWE
    go_wp2_with (first
      | (go_at_call 17; refine (num07_P _ _).mono ?_; rintro e w9' ⟨rfl, rfl⟩)
      | (go_at_call 27; refine (LN2.out _ A2.out.1).mono ?_; rintro e w3 ⟨lb, lc, L, rfl, l3, n3, c3, b3⟩; have A3 : Hid (LG w3 lb lc L ∧ L.length = g.ns.length ∧ ClK g L g.ps.length ∧ Below w.heap.size w w3 ∧ w3.heap[w.heap.size]? = some (gBox g)) := ⟨l3, n3, c3, A2.out.1.trans (b3.mono A2.out.1.size), (b3.block _ (lt_of_block A2.out.2)).trans A2.out.2⟩; clear l3 n3 c3 b3 x0 x1 x2 x3 x4; obtain ⟨x0, x1, x2, x3, x4⟩ := gb_cells A3.out.2.2.2.2))
    have ALL : Hid (∀ i, i < g.ns.length → 0 ≤ L.getD i 0) := all_long LST.out.1 A3.out.2.2.1
    have NOS : Hid (∀ p ∈ g.ps, p.right = [(2, p.left)] → False) := fun p hp e => no_self (fun p hp => (FG2.out _ A3.out.2.2.2.1).left p hp) LST.out.2 hp e
    clear LST x0 x1 x2 x3 x4
    go_loopw [7] (fun i wr => ∃ k : Nat, k ≤ g.ns.length ∧ i = .int .i64 k ∧ Below w3.heap.size w3 wr) (fun i _ => g.ns.length - (intOf i).toNat)
    case atStart => exact ⟨0, Nat.zero_le _, rfl, Below.refl _ _⟩
    case round =>
      obtain ⟨k, hk, rfl, hB⟩ := hrel
      have BX : Hid (wr.heap[w.heap.size]? = some (gBox g)) := (hB.block _ (lt_of_block A3.out.2.2.2.2)).trans A3.out.2.2.2.2
      obtain ⟨x0, x1, x2, x3, x4⟩ := gb_cells BX.out
      have HB : Hid (Below w3.heap.size w3 wr) := hB
      by_cases hlt : k < g.ns.length
      · have klt : (k : Int) < (g.ns.length : Int) := by omega
        have cl := (A3.out.1.later hB).cell (i := k) (by rw [A3.out.2.1]; exact hlt)
        have hge := ALL.out k hlt
        generalize L.getD k 0 = y at *
        have y0 : decide (y < 0) = false := by simpa using hge
        obtain ⟨wy, rfl⟩ : ∃ wy : World, wy = wr := ⟨_, rfl⟩
        clear hB
        go_wp2
        clear x0 x1 x2 x3 x4 cl
        go_loopw [8] (fun i wr => ∃ j : Nat, j ≤ g.ps.length ∧ i = .int .i64 j ∧ Below w3.heap.size w3 wr) (fun i _ => g.ps.length - (intOf i).toNat)
        case atStart => exact ⟨0, Nat.zero_le _, rfl, HB.out⟩
        case round =>
          obtain ⟨j, hj, rfl, hB2⟩ := hrel
          have BX2 : Hid (wr.heap[w.heap.size]? = some (gBox g)) := (hB2.block _ (lt_of_block A3.out.2.2.2.2)).trans A3.out.2.2.2.2
          obtain ⟨x0, x1, x2, x3, x4⟩ := gb_cells BX2.out
          have HB2 : Hid (Below w3.heap.size w3 wr) := hB2
          by_cases hjl : j < g.ps.length
          · have jlt : (j : Int) < (g.ps.length : Int) := by omega
            have hmem : g.ps.getD j .none ∈ g.ps := by simp [List.getD, hjl]
            have bw : Below w.heap.size w wr := A3.out.2.2.2.1.trans (hB2.mono A3.out.2.2.2.1.size)
            obtain ⟨pb, po, hpa, hbl, hc⟩ := (FG2.out _ bw).p.cells (by intro e; rw [e] at hjl; simp at hjl)
            obtain ⟨c0, c1, c2⟩ := hc j hjl
            have hrow := (FG2.out _ bw).p.rows _ hmem
            have hrl := (FG2.out _ bw).rl _ hmem
            have hno := NOS.out _ hmem
            generalize g.ps.getD j .none = p at *
            have BQ : Hid (∀ wq, Below wr.heap.size wr wq → Below w3.heap.size w3 wq) := fun wq hq => hB2.trans (hq.mono hB2.size)
            have XQ : Hid (∀ wq, Below wr.heap.size wr wq → wq.heap[w.heap.size]? = some (gBox g)) := fun wq hq => (hq.block _ (lt_of_block BX2.out)).trans BX2.out
            have CQ : Hid (∀ wq, Below wr.heap.size wr wq → wq.cell? ⟨pb, po + j * 3, none⟩ = some (.int .i64 p.left) ∧ wq.cell? ⟨pb, po + j * 3 + 1, none⟩ = some (.slice p.ra p.right.length p.rc)) := fun wq hq => ⟨cellT c0 hq, cellT c1 hq⟩
            have BR : Hid (Below wr.heap.size wr wr.drew) := (Below.refl _ _).drew
            have CN : Hid (∀ wq, Below wr.heap.size wr wq → Calls Tryz.prog 28 #[.int .i64 (k : Int)] wq fun e w' => e = .returned (.agg #[.int .i64 2, .int .i64 (k : Int)]) ∧ Below wr.heap.size wr w') := fun wq hq => (n7_R _ wq).mono fun e w' ⟨q1, q2⟩ => ⟨q1, hq.trans (q2.mono hq.size)⟩
            rw [hpa] at x3
            have PAQ : Hid (g.pa = some ⟨pb, po, none⟩) := hpa
            clear hc hbl hmem bw hB2 hpa
            by_cases hle : p.left = (k : Int)
            · have e1 : (p.left == (k : Int)) = true := by simpa using hle
              by_cases hln : p.right.length = 1
              · have e2 : ((p.right.length : Int) == 1) = true := by simp [hln]
                obtain ⟨z, hz⟩ : ∃ z, p.right = [z] := List.length_eq_one_iff.1 hln
                obtain ⟨sb, so, hra, hsl, hsc⟩ := hrow (by rw [hz]; simp)
                obtain ⟨s0, s1'⟩ := hsc 0 (by omega)
                have hz0 : p.right.getD 0 (0, 0) = z := by rw [hz]; rfl
                rw [hz0] at s0 s1'
                have hne : z ≠ (2, p.left) := fun e => hno (by rw [hz, e])
                obtain ⟨z1, z2⟩ := z
                simp only [Nat.zero_mul, Nat.add_zero] at s0 s1'
                rw [hra] at c1 CQ
                have FX : Hid (∀ wq, Below wr.heap.size wr wq → wq.cell? ⟨w.heap.size, 3, none⟩ = some (.slice (some ⟨pb, po, none⟩) g.ps.length g.pc) ∧ wq.cell? ⟨pb, po + j * 3, none⟩ = some (.int .i64 p.left) ∧ wq.cell? ⟨pb, po + j * 3 + 1, none⟩ = some (.slice (some ⟨sb, so, none⟩) p.right.length p.rc) ∧ wq.cell? ⟨sb, so, none⟩ = some (.int .i64 z1) ∧ wq.cell? ⟨sb, so + 1, none⟩ = some (.int .i64 z2)) := fun wq hq => ⟨by have := (gb_cells (XQ.out wq hq)).2.2.2.1; rw [PAQ.out] at this; exact this, (CQ.out wq hq).1, (CQ.out wq hq).2, cellT s0 hq, cellT s1' hq⟩
                clear hsc
                have ln : p.right.length = 1 := hln
                by_cases hz1 : z1 = 2
                · have hz2 : z2 ≠ (k : Int) := fun e => hne (by rw [hz1, e, hle])
                  subst hz1
                  have d1 : (z2 == (k : Int)) = false := by simpa using hz2
                  go_wp2
                  refine wp_region_q (C := fun wq => Below wr.heap.size wr wq) (by kernel_rfl) (by kernel_rfl) BR.out ?_
                  iterate 18 (refine qt_yes (v := ?_) (by rfl) ?_ ?_; rotate_left; (· (intro wq hSw; obtain ⟨f0, f1, f2, f3, f4⟩ := FX.out wq hSw; clear hSw; go_simp; with_reducible rfl)); (try simp only [Act.put, List.setIfInBounds_toArray, List.set_cons_zero, List.set_cons_succ]))
                  refine qt_call (v := .agg #[.int .i64 2, .int .i64 (k : Int)]) 28 #[.int .i64 (k : Int)] (by rfl) ?_ (fun wq hq => CN.out wq hq) ?_
                  · intro wq hSw
                    clear hSw
                    go_simp
                    try with_reducible rfl
                  (try simp only [Act.put, List.setIfInBounds_toArray, List.set_cons_zero, List.set_cons_succ])
                  iterate 2 (refine qt_yes (v := ?_) (by rfl) ?_ ?_; rotate_left; (· (intro wq hSw; obtain ⟨f0, f1, f2, f3, f4⟩ := FX.out wq hSw; clear hSw; go_simp; with_reducible rfl)); (try simp only [Act.put, List.setIfInBounds_toArray, List.set_cons_zero, List.set_cons_succ]))
                  refine qt_nil ?_
                  intro wq hSw
                  have R : Hid (Below w3.heap.size w3 wq) := BQ.out wq hSw
                  clear hSw
                  go_wp2
                  go_roundw
                  case rel => exact ⟨j + 1, by omega, by go_num, R.out⟩
                  case measure => simp [intOf]; omega
                · have d1 : (z1 == 2) = false := by simpa using hz1
                  go_wp2
                  refine wp_region_q (C := fun wq => Below wr.heap.size wr wq) (by kernel_rfl) (by kernel_rfl) BR.out ?_
                  iterate 18 (refine qt_yes (v := ?_) (by rfl) ?_ ?_; rotate_left; (· (intro wq hSw; obtain ⟨f0, f1, f2, f3, f4⟩ := FX.out wq hSw; clear hSw; go_simp; with_reducible rfl)); (try simp only [Act.put, List.setIfInBounds_toArray, List.set_cons_zero, List.set_cons_succ]))
                  refine qt_call (v := .agg #[.int .i64 2, .int .i64 (k : Int)]) 28 #[.int .i64 (k : Int)] (by rfl) ?_ (fun wq hq => CN.out wq hq) ?_
                  · intro wq hSw
                    clear hSw
                    go_simp
                    try with_reducible rfl
                  (try simp only [Act.put, List.setIfInBounds_toArray, List.set_cons_zero, List.set_cons_succ])
                  iterate 2 (refine qt_yes (v := ?_) (by rfl) ?_ ?_; rotate_left; (· (intro wq hSw; obtain ⟨f0, f1, f2, f3, f4⟩ := FX.out wq hSw; clear hSw; go_simp; with_reducible rfl)); (try simp only [Act.put, List.setIfInBounds_toArray, List.set_cons_zero, List.set_cons_succ]))
                  refine qt_nil ?_
                  intro wq hSw
                  have R : Hid (Below w3.heap.size w3 wq) := BQ.out wq hSw
                  clear hSw
                  go_wp2
                  go_roundw
                  case rel => exact ⟨j + 1, by omega, by go_num, R.out⟩
                  case measure => simp [intOf]; omega
              · have e2 : ((p.right.length : Int) == 1) = false := by simp; omega
                have FX : Hid (∀ wq, Below wr.heap.size wr wq → wq.cell? ⟨w.heap.size, 3, none⟩ = some (.slice (some ⟨pb, po, none⟩) g.ps.length g.pc) ∧ wq.cell? ⟨pb, po + j * 3, none⟩ = some (.int .i64 p.left) ∧ wq.cell? ⟨pb, po + j * 3 + 1, none⟩ = some (.slice p.ra p.right.length p.rc) ∧ True ∧ True) := fun wq hq => ⟨by have := (gb_cells (XQ.out wq hq)).2.2.2.1; rw [PAQ.out] at this; exact this, (CQ.out wq hq).1, (CQ.out wq hq).2, trivial, trivial⟩
                go_wp2
                refine wp_region_q (C := fun wq => Below wr.heap.size wr wq) (by kernel_rfl) (by kernel_rfl) BR.out ?_
                iterate 14 (refine qt_yes (v := ?_) (by rfl) ?_ ?_; rotate_left; (· (intro wq hSw; obtain ⟨f0, f1, f2, f3, f4⟩ := FX.out wq hSw; clear hSw; go_simp; with_reducible rfl)); (try simp only [Act.put, List.setIfInBounds_toArray, List.set_cons_zero, List.set_cons_succ]))
                iterate 6 (refine qt_no (by rfl) ?_; (try simp only [Act.put, List.setIfInBounds_toArray, List.set_cons_zero, List.set_cons_succ]))
                (refine qt_yes (v := ?_) (by rfl) ?_ ?_; rotate_left; (· (intro wq hSw; obtain ⟨f0, f1, f2, f3, f4⟩ := FX.out wq hSw; clear hSw; go_simp; with_reducible rfl)); (try simp only [Act.put, List.setIfInBounds_toArray, List.set_cons_zero, List.set_cons_succ]))
                refine qt_nil ?_
                intro wq hSw
                have R : Hid (Below w3.heap.size w3 wq) := BQ.out wq hSw
                clear hSw
                go_wp2
                go_roundw
                case rel => exact ⟨j + 1, by omega, by go_num, R.out⟩
                case measure => simp [intOf]; omega
            · have e1 : (p.left == (k : Int)) = false := by simpa using hle
              have FX : Hid (∀ wq, Below wr.heap.size wr wq → wq.cell? ⟨w.heap.size, 3, none⟩ = some (.slice (some ⟨pb, po, none⟩) g.ps.length g.pc) ∧ wq.cell? ⟨pb, po + j * 3, none⟩ = some (.int .i64 p.left) ∧ wq.cell? ⟨pb, po + j * 3 + 1, none⟩ = some (.slice p.ra p.right.length p.rc) ∧ True ∧ True) := fun wq hq => ⟨by have := (gb_cells (XQ.out wq hq)).2.2.2.1; rw [PAQ.out] at this; exact this, (CQ.out wq hq).1, (CQ.out wq hq).2, trivial, trivial⟩
              go_wp2
              refine wp_region_q (C := fun wq => Below wr.heap.size wr wq) (by kernel_rfl) (by kernel_rfl) BR.out ?_
              iterate 9 (refine qt_yes (v := ?_) (by rfl) ?_ ?_; rotate_left; (· (intro wq hSw; obtain ⟨f0, f1, f2, f3, f4⟩ := FX.out wq hSw; clear hSw; go_simp; with_reducible rfl)); (try simp only [Act.put, List.setIfInBounds_toArray, List.set_cons_zero, List.set_cons_succ]))
              iterate 3 (refine qt_no (by rfl) ?_; (try simp only [Act.put, List.setIfInBounds_toArray, List.set_cons_zero, List.set_cons_succ]))
              iterate 2 (refine qt_yes (v := ?_) (by rfl) ?_ ?_; rotate_left; (· (intro wq hSw; obtain ⟨f0, f1, f2, f3, f4⟩ := FX.out wq hSw; clear hSw; go_simp; with_reducible rfl)); (try simp only [Act.put, List.setIfInBounds_toArray, List.set_cons_zero, List.set_cons_succ]))
              iterate 6 (refine qt_no (by rfl) ?_; (try simp only [Act.put, List.setIfInBounds_toArray, List.set_cons_zero, List.set_cons_succ]))
              (refine qt_yes (v := ?_) (by rfl) ?_ ?_; rotate_left; (· (intro wq hSw; obtain ⟨f0, f1, f2, f3, f4⟩ := FX.out wq hSw; clear hSw; go_simp; with_reducible rfl)); (try simp only [Act.put, List.setIfInBounds_toArray, List.set_cons_zero, List.set_cons_succ]))
              refine qt_nil ?_
              intro wq hSw
              have R : Hid (Below w3.heap.size w3 wq) := BQ.out wq hSw
              clear hSw
              go_wp2
              go_roundw
              case rel => exact ⟨j + 1, by omega, by go_num, R.out⟩
              case measure => simp [intOf]; omega
          · have jlt : ¬ (j : Int) < (g.ps.length : Int) := by omega
            clear hB2
            go_wp2
            go_roundw
            case rel => exact ⟨k + 1, by omega, by go_num, HB2.out⟩
            case measure => simp [intOf]; omega
      · have klt : ¬ (k : Int) < (g.ns.length : Int) := by omega
        have R : Hid (Below w.heap.size w wr) := A3.out.2.2.2.1.trans (hB.mono A3.out.2.2.2.1.size)
        clear hB
        go_wp2
        go_ret
        exact ⟨rfl, R.out⟩
  · have t1 : (k != 0) = true := by simpa using hk
    have R : Hid (Below w.heap.size w (w2.alloc (.cells #[.int .i64 s1, .int .i64 s2] 54))) := A2.out.1
    clear hk HWE
    go_wp2_with (go_at_call 17; refine (num07_P _ _).mono ?_; rintro e w9' ⟨rfl, rfl⟩)
    go_ret
    exact ⟨rfl, R.out⟩
end Go.Proofs.YtnngnbdlipjflaaGreatDoor
