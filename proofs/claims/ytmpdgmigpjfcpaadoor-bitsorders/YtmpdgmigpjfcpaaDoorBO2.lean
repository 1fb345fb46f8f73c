import Derived.Test.YtmpdgmigpjfcpaaDoorBO1
namespace Go.Proofs.YtmpdgmigpjfcpaaDoor
set_option linter.unusedVariables false
open Go.RowKit Go.Shelf

/-- Places told so far. -/
structure AtK (P : List Nat) (k i : Nat) (K : List Nat) : Prop where
  len : K.length = k
  yes : ∀ j, j < i → j < P.length → K.getD (P.getD j 0) 0 = j + 1
  no : ∀ x, x ∉ P.take i → K.getD x 0 = 0
theorem AtK.next {P : List Nat} {k i : Nat} {K : List Nat} (h : AtK P k i K) (hnd : P.Nodup) (hi : i < P.length) (hlt : P.getD i 0 < k) : AtK P k (i + 1) (K.set (P.getD i 0) (i + 1)) := by
  have inj : ∀ j, j < P.length → P.getD j 0 = P.getD i 0 → j = i := fun j hj e => by
    have h1 : P.getD j 0 = P[j] := by rw [List.getD_eq_getElem?_getD, List.getElem?_eq_getElem hj]; rfl
    have h2 : P.getD i 0 = P[i] := by rw [List.getD_eq_getElem?_getD, List.getElem?_eq_getElem hi]; rfl
    rw [h1, h2] at e
    exact (List.getElem_inj hnd).1 e
  refine ⟨by rw [List.length_set]; exact h.len, fun j hj hjl => ?_, fun x hx => ?_⟩
  · rw [getD_setV]
    by_cases e : j = i
    · subst e
      rw [if_pos ⟨rfl, by rw [h.len]; exact hlt⟩]
    · rw [if_neg (fun q => e (inj j hjl q.1.symm))]
      exact h.yes j (by omega) hjl
  · rw [take_memB hi] at hx
    rw [getD_setV, if_neg (fun q => hx (.inr q.1.symm))]
    exact h.no x (fun q => hx (.inl q))
set_option maxRecDepth 100000 in
set_option maxHeartbeats 16000000 in
theorem orders_walk {w : World} (hT : TabB w) (n : Int) (ea : Option Addr) (E : List (Int × Int)) (hE : PrsB w ea E) (hEl : E.length ≤ 140737488355328) (ec : Nat) :
    Calls Tryd.prog 6 #[.int .i64 n, .slice ea E.length ec] w fun e w' => e = .returned (.bool true) ∧ Below w.heap.size w w' := by
  have HE : Hid (PrsB w ea E) := hE
  have HT : Hid (TabB w) := hT
  have AL : Hid (Calls Tryd.prog 24 #[] w fun e w' => e = .returned (.bool true) ∧ Below w.heap.size w w') := alive_SB hT
  have NU : Hid (∀ (e : Int) (w : World), Calls Tryd.prog 8 #[.int .i64 e] w fun x w' => x = .returned (.int .i64 e) ∧ w' = w) := num_SB
  have OR : Hid (∀ w1, Below w.heap.size w w1 → Calls Tryd.prog 33 #[.int .i64 n, .slice ea E.length ec] w1 (OrA w1 n E)) := fun w1 b1 => order_any n w1 ea ec E (hE.later b1) hEl (hT.later b1)
  clear hE hT
  go_enter Tryd.func6, Tryd.ntmps6
  go_wp2_with (go_at_call 24; refine AL.out.mono ?_)
  rintro e w1 ⟨rfl, b1⟩
  have B1 : Hid (Below w.heap.size w w1) := b1
  clear b1 AL
  go_wp2_with (go_at_call 33; refine (OR.out _ B1.out).mono ?_)
  rintro e w2 ⟨b2, h2⟩
  have B2 : Hid (Below w.heap.size w w2) := B1.out.trans (b2.mono B1.out.size)
  clear b2 OR
  rcases h2 with ⟨_, rfl⟩ | ⟨k, rfl, hk, h2⟩
  · go_wp2_with (go_at_call 8; refine (NU.out _ _).mono ?_; rintro e w9 ⟨rfl, hz⟩; rw [hz]; clear hz w9)
    go_ret
    exact ⟨rfl, B2.out⟩
  · rcases h2 with ⟨_, rfl⟩ | ⟨hok, Ns, hN, h2⟩
    · go_wp2_with (go_at_call 8; refine (NU.out _ _).mono ?_; rintro e w9 ⟨rfl, hz⟩; rw [hz]; clear hz w9)
      go_ret
      exact ⟨rfl, B2.out⟩
    · rcases h2 with ⟨hfull, v, rfl, hl⟩ | ⟨_, v, Cy, rfl, hl, hc⟩
      · -- an order
        obtain ⟨Q, hQ, _⟩ := place_is Ns k
        have HOD : Hid (∀ A x B, placeU Ns k = A ++ x :: B → ∀ y, EdB Ns k x y → y ∈ A) := hQ.od
        have HND : Hid ((placeU Ns k).Nodup ∧ (∀ z ∈ placeU Ns k, z < k)) := ⟨hQ.nd, hQ.lt⟩
        have HAL : Hid (∀ z, z < k → z ∈ placeU Ns k) := nodup_all hQ.nd hQ.lt hfull
        obtain ⟨la, lc, rfl⟩ := il_lenB hl.il
        have HIL : Hid (IL w2 (.slice la (placeU Ns k).length lc) (nI (placeU Ns k))) := hl.il
        generalize placeU Ns k = P at *
        have HOK : Hid (E.all (okE k) = true ∧ RelB E k Ns) := ⟨hok, hN⟩
        have HPL : Hid (P.length = k) := hfull
        rw [hfull] at HIL ⊢
        have hmk := make_iB k (by omega) w2
        have K0 : Hid (KbB (w2.alloc (.cells (madeCells #[.int .i64 0] k) 3)) w2.heap.size (List.replicate k 0) ∧ Below w2.heap.size w2 (w2.alloc (.cells (madeCells #[.int .i64 0] k) 3))) := ⟨KbB.made w2 k, below_alloc w2 _⟩
        have A0 : Hid (AtK P k 0 (List.replicate k 0)) := ⟨by simp, fun j hj => absurd hj (Nat.not_lt_zero j), fun x _ => repl_get k x⟩
        clear hQ hl hok hN hfull
        go_wp2_with (go_at_call 8; refine (NU.out _ _).mono ?_; rintro e w9 ⟨rfl, hz⟩; rw [hz]; clear hz w9)
        clear hmk
        go_loopw [9] (fun z wr => ∃ (i : Nat) (K : List Nat), i ≤ k ∧ z = .int .i64 (i : Int) ∧ KbB wr w2.heap.size K ∧ AtK P k i K ∧ Below w2.heap.size w2 wr) (fun z _ => k - (intOf z).toNat)
        case atStart => exact ⟨0, _, Nat.zero_le _, rfl, K0.out.1, A0.out, K0.out.2⟩
        case round =>
          clear K0 A0
          obtain ⟨i, K, hi, rfl, hK, hA, hB⟩ := hrel
          by_cases hlt : i < k
          · have ilt : (i : Int) < (k : Int) := by omega
            have hiP : i < P.length := by rw [HPL.out]; exact hlt
            have hI := HIL.out.later hB
            have hI2 : IL wr (.slice la P.length lc) (nI P) := by rw [HPL.out]; exact hI
            obtain ⟨lb, lc', he, cl⟩ := IL.atB hI2 hiP
            simp only [Value.slice.injEq, true_and] at he
            obtain ⟨rfl, rfl⟩ := he
            have hxk := HND.out.2 _ (getD_memN hiP)
            have hnx := hA.next HND.out.1 hiP hxk
            have hz0 := hA.no (P.getD i 0) (fun q => by
              have hnd := HND.out.1
              rw [← List.take_append_drop i P, List.nodup_append] at hnd
              refine hnd.2.2 _ q _ ?_ rfl
              rw [nat_get hiP]
              exact List.mem_cons_self)
            obtain ⟨x, hx⟩ : ∃ x, P.getD i 0 = x := ⟨_, rfl⟩
            rw [hx] at cl hxk hnx hz0
            have xlt : (x : Int) < (k : Int) := by omega
            have xge : ¬ ((x : Int) ≥ (k : Int)) := by omega
            have x0 : ¬ ((x : Int) < 0) := by omega
            have cx := hK.cell (i := x) (by rw [hA.len]; exact hxk)
            rw [hz0] at cx
            have fx := hK.free x
            have HN2 : Hid (KbB (wr.setCell ⟨w2.heap.size, x, none⟩ (.int .i64 ((i : Int) + 1))) w2.heap.size (K.set x (i + 1)) ∧ AtK P k (i + 1) (K.set x (i + 1)) ∧ Below w2.heap.size w2 (wr.setCell ⟨w2.heap.size, x, none⟩ (.int .i64 ((i : Int) + 1)))) := ⟨hK.set x (i + 1), hnx, hB.setCell (p := ⟨w2.heap.size, x, none⟩) (Nat.le_refl _) _⟩
            clear hK hA hB hI hI2 hnx hz0 hx
            go_wp2
            go_roundw
            case rel => exact ⟨i + 1, _, by omega, by go_num, HN2.out.1, HN2.out.2.1, HN2.out.2.2⟩
            case measure => simp [intOf]; omega
          · obtain rfl : i = k := by omega
            have ilt : ¬ (i : Int) < (i : Int) := by omega
            have HW : Hid (KbB wr w2.heap.size K ∧ AtK P i i K ∧ Below w2.heap.size w2 wr) := ⟨hK, hA, hB⟩
            have HLT : Hid (∀ x y, EdB Ns i x y → K.getD y 0 < K.getD x 0) := fun x y ed => by
              have hxP := HAL.out x ed.1
              obtain ⟨j, hj⟩ := List.getElem?_of_mem hxP
              obtain ⟨hjl, hjv⟩ := List.getElem?_eq_some_iff.1 hj
              have hspl : P = P.take j ++ x :: P.drop (j + 1) := by
                rw [← hjv, ← List.drop_eq_getElem_cons hjl, List.take_append_drop]
              have hyA := HOD.out _ _ _ hspl y ed
              obtain ⟨j', hj'⟩ := List.getElem?_of_mem hyA
              obtain ⟨hjl', hjv'⟩ := List.getElem?_eq_some_iff.1 hj'
              have hl2 : j' < j := by
                have := hjl'
                simp at this
                omega
              have g1 : P.getD j 0 = x := by rw [List.getD_eq_getElem?_getD, hj]; rfl
              have g2 : P.getD j' 0 = y := by
                rw [List.getElem?_take_of_lt hl2] at hj'
                rw [List.getD_eq_getElem?_getD, hj']; rfl
              have h1 := hA.yes j (by rw [← HPL.out]; exact hjl) hjl
              have h2 := hA.yes j' (by have := HPL.out; omega) (by omega)
              rw [g1] at h1
              rw [g2] at h2
              omega
            clear hK hA hB
            go_wp2
            go_loopw [10] (fun z wr => ∃ (q : Nat), q ≤ E.length ∧ z = .int .i64 (q : Int) ∧ KbB wr w2.heap.size K ∧ Below w2.heap.size w2 wr) (fun z _ => E.length - (intOf z).toNat)
            case atStart => exact ⟨0, Nat.zero_le _, rfl, HW.out.1, HW.out.2.2⟩
            case round =>
              obtain ⟨q, hq, rfl, hK, hB⟩ := hrel
              have hB0 : Below w.heap.size w wr := B2.out.trans (hB.mono B2.out.size)
              by_cases hlt : q < E.length
              · have qlt : (q : Int) < (E.length : Int) := by omega
                obtain ⟨eb, eo, hea, c0, c1⟩ := (HE.out.later hB0).at hlt
                have hmem : E.getD q (0, 0) ∈ E := by
                  rw [List.getD_eq_getElem?_getD, List.getElem?_eq_getElem hlt]
                  exact List.getElem_mem hlt
                obtain ⟨pa, pb, hpe⟩ : ∃ pa pb, E.getD q (0, 0) = (pa, pb) := ⟨_, _, rfl⟩
                rw [hpe] at c0 c1 hmem
                have hoe := List.all_eq_true.1 HOK.out.1 _ hmem
                unfold okE at hoe
                simp only [Bool.and_eq_true, decide_eq_true_iff] at hoe
                obtain ⟨x, rfl⟩ : ∃ x : Nat, pa = (x : Int) := ⟨pa.toNat, by omega⟩
                obtain ⟨y, rfl⟩ : ∃ y : Nat, pb = (y : Int) := ⟨pb.toNat, by omega⟩
                have hxi : x < i := by omega
                have hyi : y < i := by omega
                have ed : EdB Ns i x y := ⟨hxi, hyi, by
                  rw [HOK.out.2.bit x y hxi hyi]
                  unfold hasE
                  rw [List.any_eq_true]
                  exact ⟨_, hmem, by simp⟩⟩
                have hlt2 := HLT.out x y ed
                have xlt : (x : Int) < (i : Int) := by omega
                have ylt : (y : Int) < (i : Int) := by omega
                have cx := hK.cell (i := x) (by rw [HW.out.2.1.len]; exact hxi)
                have cy := hK.cell (i := y) (by rw [HW.out.2.1.len]; exact hyi)
                generalize K.getD x 0 = kx at *
                generalize K.getD y 0 = ky at *
                have g1 : decide (kx ≤ ky) = false := decide_eq_false (by omega)
                have g2 : decide ((kx : Int) ≤ (ky : Int)) = false := decide_eq_false (by omega)
                have HW2 : Hid (KbB wr w2.heap.size K ∧ Below w2.heap.size w2 wr) := ⟨hK, hB⟩
                subst hea
                clear hK hB hB0 hmem hpe hoe ed
                go_wp2
                go_quiet (fail)
                go_wp2
                go_roundw
                case rel => exact ⟨q + 1, by omega, by go_num, HW2.out.1.later (belN _ _), HW2.out.2.trans ((belN wr _).mono HW2.out.2.size)⟩
                case measure => simp [intOf]; omega
              · obtain rfl : q = E.length := by omega
                have qlt : ¬ (E.length : Int) < (E.length : Int) := by omega
                have HB0 : Hid (Below w.heap.size w wr) := hB0
                clear hK hB hB0
                go_wp2
                go_ret
                exact ⟨rfl, HB0.out⟩
      · -- a cycle
        obtain ⟨ca, cc, rfl⟩ := il_lenB hl.il
        have HIL : Hid (IL w2 (.slice ca Cy.length cc) (nI Cy)) := hl.il
        have HC : Hid (CyP Ns k Cy ∧ RelB E k Ns) := ⟨hc, hN⟩
        have hcl : Cy.length ≤ 4096 := by have := hc.le; omega
        have hcp := hc.pos
        have cpos : (Cy.length : Int) > 0 := by omega
        have HAS : Hid (∀ w3, Below w.heap.size w w3 → ∀ a b : Int, Calls Tryd.prog 31 #[.slice ea E.length ec, .agg #[.int .i64 a, .int .i64 b]] w3 fun e w' => e = .returned (.bool (hasP E a b)) ∧ Below w3.heap.size w3 w') := fun w3 b3 a b => has_B (HE.out.later b3) hEl ec a b
        clear hl hc hok hN
        go_wp2_with (go_at_call 8; refine (NU.out _ _).mono ?_; rintro e w9 ⟨rfl, hz⟩; rw [hz]; clear hz w9)
        go_loopw [11] (fun z wr => ∃ (i : Nat), i ≤ Cy.length ∧ z = .int .i64 (i : Int) ∧ Below w2.heap.size w2 wr) (fun z _ => Cy.length - (intOf z).toNat)
        case atStart => exact ⟨0, Nat.zero_le _, rfl, Below.refl _ _⟩
        case round =>
          obtain ⟨i, hi, rfl, hB⟩ := hrel
          by_cases hlt : i < Cy.length
          · have ilt : (i : Int) < (Cy.length : Int) := by omega
            have hj : (i + 1) % Cy.length < Cy.length := Nat.mod_lt _ hcp
            obtain ⟨cb, cc', he, _⟩ := IL.atB HIL.out hlt
            simp only [Value.slice.injEq, true_and] at he
            obtain ⟨rfl, rfl⟩ := he
            have cell : ∀ wq, Below wr.heap.size wr wq → ∀ j, j < Cy.length → wq.cell? ⟨cb, j, none⟩ = some (.int .i64 (Cy.getD j 0 : Int)) := fun wq bq j hjl => by
              obtain ⟨cb2, cc2, he2, hc2⟩ := IL.atB HIL.out hjl
              simp only [Value.slice.injEq, Option.some.injEq, Addr.mk.injEq, and_true, true_and] at he2
              rw [he2.1]
              exact cellL (cellL hc2 hB) bq
            have CI : Hid (∀ wq, Below wr.heap.size wr wq → wq.cell? ⟨cb, i, none⟩ = some (.int .i64 (Cy.getD i 0 : Int))) := fun wq bq => cell wq bq i hlt
            have CJ : Hid (∀ wq, Below wr.heap.size wr wq → wq.cell? ⟨cb, (i + 1) % Cy.length, none⟩ = some (.int .i64 (Cy.getD ((i + 1) % Cy.length) 0 : Int))) := fun wq bq => cell wq bq _ hj
            have C0 : Hid (∀ wq, Below wr.heap.size wr wq → wq.cell? ⟨cb, 0, none⟩ = some (.int .i64 (Cy.getD 0 0 : Int))) := fun wq bq => cell wq bq 0 hcp
            have hed := HC.out.1.ed i hlt
            have hlo := HC.out.1.low i hlt
            have hhas : hasP E (Cy.getD i 0 : Int) (Cy.getD ((i + 1) % Cy.length) 0 : Int) = true := by
              rw [hasP_nat, ← HC.out.2.bit _ _ hed.1 hed.2.1]
              exact hed.2.2
            have HB0 : Hid (∀ wq, Below wr.heap.size wr wq → Below w.heap.size w wq ∧ Below w2.heap.size w2 wq) := fun wq bq => by
              have b1 := hB.trans (bq.mono hB.size)
              exact ⟨B2.out.trans (b1.mono B2.out.size), b1⟩
            have CA : Hid (∀ wq, Below wr.heap.size wr wq → Calls Tryd.prog 31 #[.slice ea E.length ec, .agg #[.int .i64 (Cy.getD i 0 : Int), .int .i64 (Cy.getD ((i + 1) % Cy.length) 0 : Int)]] wq fun e w' => e = .returned (.bool true) ∧ Below wr.heap.size wr w') := fun wq bq => (HAS.out wq (HB0.out wq bq).1 _ _).mono fun e w' ⟨q1, q2⟩ => by
              rw [hhas] at q1
              exact ⟨q1, bq.trans (q2.mono bq.size)⟩
            have hmod : ((i : Int) + 1) % (Cy.length : Int) = (((i + 1) % Cy.length : Nat) : Int) := by
              rw [Int.natCast_emod]
              rfl
            have htmod : Int.tmod ((i : Int) + 1) (Cy.length : Int) = (((i + 1) % Cy.length : Nat) : Int) := by
              rw [Int.tmod_eq_emod_of_nonneg (by omega)]
              exact hmod
            generalize (i + 1) % Cy.length = j at *
            generalize Cy.getD i 0 = ci at *
            generalize Cy.getD j 0 = cj at *
            generalize Cy.getD 0 0 = c0 at *
            have jlt : (j : Int) < (Cy.length : Int) := by omega
            have l0 : (0 : Int) < (Cy.length : Int) := by omega
            have g1 : decide (ci < c0) = false := decide_eq_false (by omega)
            have g2 : decide ((ci : Int) < (c0 : Int)) = false := decide_eq_false (by omega)
            have hcy : ¬ Cy = [] := fun q => by rw [q] at hcp; simp at hcp
            have wi : IntKind.i64.wrap ((i : Int) + 1) = (i : Int) + 1 := by rw [IntKind.wrap_i64]; omega
            have BR : Hid (Below wr.heap.size wr wr.drew) := (Below.refl _ _).drew
            clear cell hed hlo hhas hj hB
            go_wp2
            refine wp_region_q (C := fun wq => Below wr.heap.size wr wq) (by kernel_rfl) (by kernel_rfl) BR.out ?_
            iterate 14 (refine qt_yes (v := ?_) (by rfl) ?_ ?_; rotate_left; (· (intro wq hSw; have f1 := CI.out wq hSw; have f2 := CJ.out wq hSw; have f3 := C0.out wq hSw; clear hSw; go_simp; with_reducible rfl)); (try simp only [Act.put, List.setIfInBounds_toArray, List.set_cons_zero, List.set_cons_succ]))
            refine qt_call (v := .bool true) 31 #[.slice ea E.length ec, .agg #[.int .i64 (ci : Int), .int .i64 (cj : Int)]] (by rfl) ?_ (fun wq hq => CA.out wq hq) ?_
            · intro wq hSw
              clear hSw
              go_simp
              try with_reducible rfl
            (try simp only [Act.put, List.setIfInBounds_toArray, List.set_cons_zero, List.set_cons_succ])
            iterate 11 (refine qt_yes (v := ?_) (by rfl) ?_ ?_; rotate_left; (· (intro wq hSw; have f1 := CI.out wq hSw; have f2 := CJ.out wq hSw; have f3 := C0.out wq hSw; clear hSw; go_simp; with_reducible rfl)); (try simp only [Act.put, List.setIfInBounds_toArray, List.set_cons_zero, List.set_cons_succ]))
            refine qt_nil ?_
            intro wq hSw
            have HQ : Hid (Below w2.heap.size w2 wq) := (HB0.out wq hSw).2
            clear hSw
            go_wp2
            go_roundw
            case rel => exact ⟨i + 1, by omega, by go_num, HQ.out⟩
            case measure => simp [intOf]; omega
          · obtain rfl : i = Cy.length := by omega
            have ilt : ¬ (Cy.length : Int) < (Cy.length : Int) := by omega
            have HB0 : Hid (Below w.heap.size w wr) := B2.out.trans (hB.mono B2.out.size)
            clear hB
            go_wp2
            go_ret
            exact ⟨rfl, HB0.out⟩
end Go.Proofs.YtmpdgmigpjfcpaaDoor
