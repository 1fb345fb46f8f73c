import Derived.Test.YtmpdgmigpjfcpaaDoorBL2
namespace Go.Proofs.YtmpdgmigpjfcpaaDoor
set_option linter.unusedVariables false
open Go.RowKit Go.Shelf

theorem RelB.uniq {E : List (Int × Int)} {n : Nat} {Ns Ms : List Nat} (h : RelB E n Ns) (h' : RelB E n Ms) : Ns = Ms := by
  rw [rowN_ext (f := fun y x => hasE E y x) h.len h.lt (fun y x hy hx => h.bit y x hy hx), rowN_ext (f := fun y x => hasE E y x) h'.len h'.lt (fun y x hy hx => h'.bit y x hy hx)]
theorem PRo.read {w : World} {v : Value} {l : List (Int × Int)} (h : PRo w v l) : ∃ a c, v = .slice a l.length c ∧ PrsB w a l := by
  obtain ⟨a, c, rfl, _⟩ := h.len
  refine ⟨a, c, rfl, fun hne => ?_⟩
  have h0 : 0 < l.length := List.length_pos_iff.2 hne
  obtain ⟨b, c', he, _, _⟩ := h.cell rkPr.len h0
  simp only [Value.slice.injEq, true_and] at he
  obtain ⟨rfl, rfl⟩ := he
  refine ⟨b, 0, rfl, h.lt b rfl, fun i hi => ?_⟩
  obtain ⟨b', c2, he2, _, hc⟩ := h.cell rkPr.len hi
  simp only [Value.slice.injEq, true_and, Option.some.injEq, Addr.mk.injEq] at he2
  obtain ⟨⟨rfl, -⟩, -⟩ := he2
  have e : l.getD i (0, 0) = l[i] := by rw [List.getD_eq_getElem?_getD, List.getElem?_eq_getElem hi]; rfl
  have h1 := hc 0 (by decide)
  have h2 := hc 1 (by decide)
  rw [Nat.add_zero] at h1
  rw [Nat.zero_add, h1, h2, e]
  exact ⟨rfl, rfl⟩
def lexP (p q : Int × Int) : Prop := p.1 < q.1 ∨ p.1 = q.1 ∧ p.2 < q.2
theorem prU_rise (Ms : List Nat) (m : Nat) : ∀ n, (prU Ms m n).Pairwise lexP
  | 0 => by simp [prU]
  | n + 1 => by
    rw [prU_next, List.pairwise_append]
    refine ⟨prU_rise Ms m n, ?_, fun p hp q hq => ?_⟩
    · unfold prR
      rw [List.pairwise_map]
      have : (bitsU (Ms.getD n 0) m).Pairwise (· < ·) := List.Pairwise.filter _ List.pairwise_lt_range
      exact this.imp (fun h => .inr ⟨rfl, by simp only; omega⟩)
    · obtain ⟨x, y, hx, _, _, rfl⟩ := prU_mem.1 hp
      unfold prR at hq
      obtain ⟨z, _, rfl⟩ := List.mem_map.1 hq
      exact .inl (by simp only; omega)
theorem tc_trans {Ns Ms : List Nat} {k : Nat} (hM : SolB Ns Ns k Ms) : clP (prU Ms k k) (prU Ms k k) = true := by
  unfold clP clR
  rw [List.all_eq_true]
  intro p hp
  rw [List.all_eq_true]
  intro q hq
  obtain ⟨x, y, hx, hy, h1, rfl⟩ := prU_mem.1 hp
  obtain ⟨y', z, hy', hz, h2, rfl⟩ := prU_mem.1 hq
  simp only
  by_cases e : (y : Int) = (y' : Int)
  · have e2 : y = y' := by omega
    subst e2
    rw [decide_eq_true e, hasP_pr hx hz]
    have h3 := (tc_rch hM hx hy).1 h1
    have h4 := (tc_rch hM hy hz).1 h2
    rw [(tc_rch hM hx hz).2 (h3.trans h4)]
    rfl
  · rw [decide_eq_false e]
    rfl
theorem ed_has {Ns : List Nat} {E : List (Int × Int)} {k : Nat} (hN : RelB E k Ns) {x y : Nat} (e : EdB Ns k x y) : hasP E (x : Int) (y : Int) = true := by
  rw [hasP_nat, ← hN.bit x y e.1 e.2.1]
  exact e.2.2
theorem has_ed {Ns : List Nat} {E : List (Int × Int)} {k : Nat} (hN : RelB E k Ns) (hok : E.all (okE k) = true) {p : Int × Int} (hp : p ∈ E) : ∃ x y : Nat, p = ((x : Int), (y : Int)) ∧ EdB Ns k x y := by
  obtain ⟨pa, pb⟩ := p
  have hoe := List.all_eq_true.1 hok _ hp
  unfold okE at hoe
  simp only [Bool.and_eq_true, decide_eq_true_iff] at hoe
  refine ⟨pa.toNat, pb.toNat, Prod.ext (by simp only; omega) (by simp only; omega), by omega, by omega, ?_⟩
  rw [hN.bit _ _ (by omega) (by omega), ← hasP_nat, hasP_mem]
  have e1 : ((pa.toNat : Nat) : Int) = pa := by omega
  have e2 : ((pb.toNat : Nat) : Int) = pb := by omega
  rw [e1, e2]
  exact hp
theorem above_all {Ns Ms : List Nat} {E O : List (Int × Int)} {k : Nat} (hN : RelB E k Ns) (hM : SolB Ns Ns k Ms) (hcl : clP O O = true) (hE : E.all (fun p => hasP O p.1 p.2) = true) : ∀ p ∈ prU Ms k k, hasP O p.1 p.2 = true := by
  intro p hp
  obtain ⟨x, y, hx, hy, h1, rfl⟩ := prU_mem.1 hp
  have ht := (tc_rch hM hx hy).1 h1
  have edO : ∀ a b, EdB Ns k a b → hasP O (a : Int) (b : Int) = true := fun a b e => List.all_eq_true.1 hE _ (hasP_mem.1 (ed_has hN e))
  simp only
  clear h1 hp hy
  induction ht with
  | single e => exact edO _ _ e
  | tail _ e ih =>
    have h2 := edO _ _ e
    unfold clP clR at hcl
    have h3 := List.all_eq_true.1 (List.all_eq_true.1 hcl _ (hasP_mem.1 ih)) _ (hasP_mem.1 h2)
    simpa using h3
set_option maxRecDepth 100000 in
set_option maxHeartbeats 32000000 in
theorem least_walk {w : World} (hT : TabB w) (n : Int) (ea : Option Addr) (E : List (Int × Int)) (hE : PrsB w ea E) (hEl : E.length ≤ 140737488355328) (ec : Nat) (oa : Option Addr) (O : List (Int × Int)) (hO : PrsB w oa O) (hOl : O.length ≤ 140737488355328) (oc : Nat) :
    Calls Tryd.prog 5 #[.int .i64 n, .slice ea E.length ec, .slice oa O.length oc] w fun e w' => e = .returned (.bool true) ∧ Below w.heap.size w w' := by
  have HE : Hid (PrsB w ea E) := hE
  have HO : Hid (PrsB w oa O) := hO
  have HT : Hid (TabB w) := hT
  have AL : Hid (Calls Tryd.prog 24 #[] w fun e w' => e = .returned (.bool true) ∧ Below w.heap.size w w') := alive_SB hT
  have NU : Hid (∀ (e : Int) (w : World), Calls Tryd.prog 8 #[.int .i64 e] w fun x w' => x = .returned (.int .i64 e) ∧ w' = w) := num_SB
  have CL : Hid (∀ w1, Below w.heap.size w w1 → Calls Tryd.prog 28 #[.int .i64 n, .slice ea E.length ec] w1 (ClA w1 n E)) := fun w1 b1 => closure_any n w1 ea ec E (hE.later b1) hEl (hT.later b1)
  have CM : Hid (∀ w1, Below w.heap.size w w1 → Calls Tryd.prog 29 #[.int .i64 n, .slice ea E.length ec] w1 (CoA w1 n E)) := fun w1 b1 => components_any n w1 ea ec E (hE.later b1) hEl (hT.later b1)
  clear hE hT hO
  go_enter Tryd.func5, Tryd.ntmps5
  go_wp2_with (go_at_call 24; refine AL.out.mono ?_)
  rintro e w1 ⟨rfl, b1⟩
  have B1 : Hid (Below w.heap.size w w1) := b1
  clear b1 AL
  go_wp2_with (go_at_call 28; refine (CL.out _ B1.out).mono ?_)
  rintro e w2 ⟨b2, h2⟩
  have B2 : Hid (Below w.heap.size w w2) := B1.out.trans (b2.mono B1.out.size)
  clear b2 CL
  rcases h2 with ⟨hn, rfl⟩ | ⟨k, rfl, hk, h2⟩
  · have HN : Hid ((decide (0 ≤ n) && decide (n ≤ 4096)) = false) := hn
    clear hn
    go_wp2_with (go_at_call 29; refine (CM.out _ B2.out).mono ?_)
    rintro e w3 ⟨b3, h3⟩
    have B3 : Hid (Below w.heap.size w w3) := B2.out.trans (b3.mono B2.out.size)
    clear b3 CM
    rcases h3 with ⟨_, rfl⟩ | ⟨k, hkn, hk, _⟩
    · clear HN
      go_wp2_with (go_at_call 8; refine (NU.out _ _).mono ?_; rintro e w9 ⟨rfl, hz⟩; rw [hz]; clear hz w9)
      go_ret
      exact ⟨rfl, B3.out⟩
    · exfalso
      have := HN.out
      rw [hkn] at this
      simp at this
      omega
  · rcases h2 with ⟨hbad, rfl⟩ | ⟨hok, v2, Ns, Ms, rfl, hN, hM, hp⟩
    · have HBD : Hid (E.all (okE k) = false) := hbad
      clear hbad
      go_wp2_with (go_at_call 29; refine (CM.out _ B2.out).mono ?_)
      rintro e w3 ⟨b3, h3⟩
      have B3 : Hid (Below w.heap.size w w3) := B2.out.trans (b3.mono B2.out.size)
      clear b3 CM
      rcases h3 with ⟨hn, _⟩ | ⟨k', hkn, hk', h3⟩
      · exfalso
        simp at hn
        omega
      · have e1 : k' = k := by omega
        subst e1
        rcases h3 with ⟨_, rfl⟩ | ⟨hok, _⟩
        · clear HBD
          go_wp2_with (go_at_call 8; refine (NU.out _ _).mono ?_; rintro e w9 ⟨rfl, hz⟩; rw [hz]; clear hz w9)
          go_ret
          exact ⟨rfl, B3.out⟩
        · exfalso
          rw [HBD.out] at hok
          cases hok
    · have HOK : Hid (E.all (okE k) = true ∧ RelB E k Ns ∧ SolB Ns Ns k Ms) := ⟨hok, hN, hM⟩
      obtain ⟨la, lc, rfl, hrd⟩ := hp.ro.read
      obtain ⟨L, hLe⟩ : ∃ L, prU Ms k k = L := ⟨_, rfl⟩
      have HLE : Hid (L = prU Ms k k) := hLe.symm
      rw [hLe] at hrd ⊢
      have HL2 : Hid (PrsB w2 la L) := hrd
      have hLl : L.length ≤ 140737488355328 := by
        rw [← hLe]
        have := prU_len Ms k hk k
        omega
      clear hok hN hM hp hrd hLe
      go_wp2_with (go_at_call 29; refine (CM.out _ B2.out).mono ?_)
      rintro e w3 ⟨b3, h3⟩
      have B3 : Hid (Below w.heap.size w w3) := B2.out.trans (b3.mono B2.out.size)
      have HL : Hid (PrsB w3 la L) := HL2.out.later b3
      clear b3 CM HL2
      rcases h3 with ⟨hn, _⟩ | ⟨k', hkn, hk', h3⟩
      · exfalso
        simp at hn
        omega
      · have e1 : k' = k := by omega
        subst e1
        rcases h3 with ⟨hbad, _⟩ | ⟨_, v3, V, D, Ns2, wx, rfl, hN2, hwx, hcm⟩
        · exfalso
          rw [HOK.out.1] at hbad
          cases hbad
        · obtain rfl : Ns2 = Ns := hN2.uniq HOK.out.2.1
          obtain ⟨da, dc, rfl, hdr⟩ := hcm.ls.read
          have HD : Hid (CoB Ns2 k' D ∧ (∀ T ∈ D, T.Pairwise (· < ·)) ∧ LrB w3 da V D) := ⟨hcm.co, hcm.rise, hdr⟩
          have PA : Hid (∀ w4, Below w3.heap.size w3 w4 → Calls Tryd.prog 32 #[.int .i64 (k' : Int), .slice la L.length lc, .slice da D.length dc] w4 fun e w' => e = .returned (.bool true) ∧ Below w4.heap.size w4 w') := fun w4 b4 => partition_B hk HOK.out.2.2 HD.out.1 HD.out.2.1 L HLE.out (HL.out.later b4) (HD.out.2.2.later b4) lc dc
          have CO : Hid (∀ w4, Below w3.heap.size w3 w4 → Calls Tryd.prog 30 #[.slice oa O.length oc] w4 fun e w' => e = .returned (.bool (clP O O)) ∧ Below w4.heap.size w4 w') := fun w4 b4 => closed_B (HO.out.later (B3.out.trans (b4.mono B3.out.size))) hOl oc
          have CLL : Hid (∀ w4, Below w3.heap.size w3 w4 → Calls Tryd.prog 30 #[.slice la L.length lc] w4 fun e w' => e = .returned (.bool true) ∧ Below w4.heap.size w4 w') := fun w4 b4 => by
            have := closed_B (HL.out.later b4) hLl lc
            rw [HLE.out, tc_trans HOK.out.2.2, ← HLE.out] at this
            exact this
          have HAL : Hid (∀ w4, Below w3.heap.size w3 w4 → ∀ a b : Int, Calls Tryd.prog 31 #[.slice la L.length lc, .agg #[.int .i64 a, .int .i64 b]] w4 fun e w' => e = .returned (.bool (hasP L a b)) ∧ Below w4.heap.size w4 w') := fun w4 b4 a b => has_B (HL.out.later b4) hLl lc a b
          have HAO : Hid (∀ w4, Below w3.heap.size w3 w4 → ∀ a b : Int, Calls Tryd.prog 31 #[.slice oa O.length oc, .agg #[.int .i64 a, .int .i64 b]] w4 fun e w' => e = .returned (.bool (hasP O a b)) ∧ Below w4.heap.size w4 w') := fun w4 b4 a b => has_B (HO.out.later (B3.out.trans (b4.mono B3.out.size))) hOl oc a b
          have HEL : Hid (∀ p ∈ E, hasP L p.1 p.2 = true) := fun p hp => by
            obtain ⟨x, y, rfl, ed⟩ := has_ed HOK.out.2.1 HOK.out.1 hp
            rw [HLE.out, hasP_pr ed.1 ed.2.1]
            exact (tc_rch HOK.out.2.2 ed.1 ed.2.1).2 (.single ed)
          have HIN0 : Hid ((clP O O && E.all (fun p => hasP O p.1 p.2)) = true → ∀ a b, (a, b) ∈ L → hasP O a b = true) := fun h a b hab => by
            rw [Bool.and_eq_true] at h
            rw [HLE.out] at hab
            exact above_all HOK.out.2.1 HOK.out.2.2 h.1 h.2 _ hab
          have HLX : Hid (∀ i, 0 < i → i < L.length → lexP (L.getD (i - 1) (0, 0)) (L.getD i (0, 0))) := fun i h0 hi => by
            have hpw := prU_rise Ms k' k'
            rw [← HLE.out] at hpw
            have := (List.pairwise_iff_getElem.1 hpw) (i - 1) i (by omega) hi (by omega)
            rw [List.getD_eq_getElem?_getD, List.getD_eq_getElem?_getD, List.getElem?_eq_getElem (show i - 1 < L.length by omega), List.getElem?_eq_getElem hi]
            exact this
          clear hN2 hcm hdr hwx
          generalize clP O O = b0 at *
          go_wp2_with (first
            | (go_at_call 8; refine (NU.out _ _).mono ?_; rintro e w9 ⟨rfl, hz⟩; rw [hz]; clear hz w9)
            | (go_at_call 30; refine (CO.out _ (Below.refl _ _)).mono ?_; rintro e w4 ⟨rfl, b4⟩; have B4 : Hid (Below w3.heap.size w3 w4) := b4; clear b4))
          go_loopw [11, 12] (fun av z wr => ∃ (i : Nat), i ≤ E.length ∧ z = .int .i64 (i : Int) ∧ av = .bool (b0 && (E.take i).all (fun p => hasP O p.1 p.2)) ∧ Below w3.heap.size w3 wr) (fun _ z _ => E.length - (intOf z).toNat)
          case atStart => exact ⟨0, Nat.zero_le _, rfl, by simp, B4.out⟩
          case round =>
            clear B4
            obtain ⟨i, hi, rfl, rfl, hB⟩ := hrel
            by_cases hil : i < E.length
            · have ilt : (i : Int) < (E.length : Int) := by omega
              obtain ⟨eb, eo, hea, c0, c1⟩ := (HE.out.later (B3.out.trans (hB.mono B3.out.size))).at hil
              have hmem : E.getD i (0, 0) ∈ E := by
                rw [List.getD_eq_getElem?_getD, List.getElem?_eq_getElem hil]
                exact List.getElem_mem hil
              have htk : (E.take (i + 1)).all (fun p => hasP O p.1 p.2) = ((E.take i).all (fun p => hasP O p.1 p.2) && hasP O (E.getD i (0, 0)).1 (E.getD i (0, 0)).2) := by
                rw [List.take_add_one, List.getElem?_eq_getElem hil, List.getD_eq_getElem?_getD, List.getElem?_eq_getElem hil, List.all_append]
                simp
              obtain ⟨pa, pb, hpe⟩ : ∃ pa pb, E.getD i (0, 0) = (pa, pb) := ⟨_, _, rfl⟩
              rw [hpe] at c0 c1 hmem htk
              have hin := HEL.out _ hmem
              simp only at hin htk
              have CI : Hid (∀ wq, Below wr.heap.size wr wq → wq.cell? ⟨eb, eo + i * 2, none⟩ = some (.int .i64 pa) ∧ wq.cell? ⟨eb, eo + i * 2 + 1, none⟩ = some (.int .i64 pb)) := fun wq b => ⟨cellL c0 b, cellL c1 b⟩
              have HA1 : Hid (Calls Tryd.prog 31 #[.slice la L.length lc, .agg #[.int .i64 pa, .int .i64 pb]] wr fun e w' => e = .returned (.bool true) ∧ Below wr.heap.size wr w') := by
                have := HAL.out wr hB pa pb
                rw [hin] at this
                exact this
              have HTK : Hid ((E.take (i + 1)).all (fun p => hasP O p.1 p.2) = ((E.take i).all (fun p => hasP O p.1 p.2) && hasP O pa pb)) := htk
              have HB : Hid (Below w3.heap.size w3 wr) := hB
              obtain ⟨A, hAe⟩ : ∃ A, (b0 && (E.take i).all (fun p => hasP O p.1 p.2)) = A := ⟨_, rfl⟩
              have HAE : Hid ((b0 && (E.take i).all (fun p => hasP O p.1 p.2)) = A) := hAe
              rw [hAe]
              subst hea
              clear hB hmem htk hin hpe hAe
              cases A with
              | false =>
                go_wp2_with (go_at_call 31; refine HA1.out.mono ?_; rintro e w5 ⟨rfl, b5⟩; have B5 : Hid (Below w3.heap.size w3 w5) := HB.out.trans (b5.mono HB.out.size); clear b5)
                go_roundw
                case rel => exact ⟨i + 1, by omega, by go_num, by rw [HTK.out, ← Bool.and_assoc, HAE.out]; rfl, B5.out⟩
                case measure => simp [intOf]; omega
              | true =>
                go_wp2_with (go_at_call 31; refine HA1.out.mono ?_)
                rintro e w5 rfl b5
                obtain ⟨d0, d1⟩ := CI.out w5 b5
                have B5 : Hid (Below w3.heap.size w3 w5) := HB.out.trans (b5.mono HB.out.size)
                have HA2 : Hid (Calls Tryd.prog 31 #[.slice oa O.length oc, .agg #[.int .i64 pa, .int .i64 pb]] w5 fun e w' => e = .returned (.bool (hasP O pa pb)) ∧ Below w5.heap.size w5 w') := HAO.out w5 B5.out pa pb
                clear b5 c0 c1
                go_wp2_with (go_at_call 31; refine HA2.out.mono ?_; rintro e w6 ⟨rfl, b6⟩; have B6 : Hid (Below w3.heap.size w3 w6) := B5.out.trans (b6.mono B5.out.size); clear b6)
                go_roundw
                case rel => exact ⟨i + 1, by omega, by go_num, by rw [HTK.out, ← Bool.and_assoc, HAE.out]; simp, B6.out⟩
                case measure => simp [intOf]; omega
            · obtain rfl : i = E.length := by omega
              have ilt : ¬ (E.length : Int) < (E.length : Int) := by omega
              rw [List.take_length]
              have HIN : Hid ((b0 && E.all (fun p => hasP O p.1 p.2)) = true → ∀ a b, (a, b) ∈ L → hasP O a b = true) := HIN0.out
              have HB : Hid (Below w3.heap.size w3 wr) := hB
              generalize (b0 && E.all (fun p => hasP O p.1 p.2)) = A at *
              clear hB HIN0
              go_wp2
              go_loopw [13] (fun z wr => ∃ (i : Nat), i ≤ L.length ∧ z = .int .i64 (i : Int) ∧ Below w3.heap.size w3 wr) (fun z _ => L.length - (intOf z).toNat)
              case atStart => exact ⟨0, Nat.zero_le _, rfl, HB.out⟩
              case round =>
                clear HB
                obtain ⟨i, hi, rfl, hB⟩ := hrel
                by_cases hil : i < L.length
                · have ilt : (i : Int) < (L.length : Int) := by omega
                  obtain ⟨lb, lo, hla, _, hcell⟩ := HL.out (fun q => by rw [q] at hil; simp at hil)
                  obtain ⟨c1, c2⟩ := hcell i hil
                  have hmem : L.getD i (0, 0) ∈ L := by
                    rw [List.getD_eq_getElem?_getD, List.getElem?_eq_getElem hil]
                    exact List.getElem_mem hil
                  have HBQ : Hid (∀ wq, Below wr.heap.size wr wq → Below w3.heap.size w3 wq) := fun wq b => hB.trans (b.mono hB.size)
                  have HBW : Hid (∀ wq, Below wr.heap.size wr wq → Below w3.heap.size w3 wq) := fun wq b => hB.trans (b.mono hB.size)
                  have BR : Hid (Below wr.heap.size wr wr.drew) := (Below.refl _ _).drew
                  by_cases hi0 : i = 0
                  · subst hi0
                    obtain ⟨pa, pb, hpe⟩ : ∃ pa pb, L.getD 0 (0, 0) = (pa, pb) := ⟨_, _, rfl⟩
                    rw [hpe] at c1 c2 hmem
                    rw [Nat.zero_mul] at c1 c2
                    rw [Nat.add_zero] at c1 c2
                    have C1 : Hid (∀ wq, Below wr.heap.size wr wq → wq.cell? ⟨lb, lo, none⟩ = some (.int .i64 pa)) := fun wq b => cellL (cellL c1 hB) b
                    have C2 : Hid (∀ wq, Below wr.heap.size wr wq → wq.cell? ⟨lb, lo + 1, none⟩ = some (.int .i64 pb)) := fun wq b => cellL (cellL c2 hB) b
                    have C3 := C1
                    have C4 := C2
                    have HME : Hid ((pa, pb) ∈ L) := hmem
                    subst hla
                    clear hB hcell c1 c2 hpe hmem
                    cases A with
                    | true =>
                      have CA : Hid (∀ wq, Below wr.heap.size wr wq → Calls Tryd.prog 31 #[.slice oa O.length oc, .agg #[.int .i64 pa, .int .i64 pb]] wq fun e w' => e = .returned (.bool true) ∧ Below wr.heap.size wr w') := fun wq bq => by
                        have := HAO.out wq (HBW.out wq bq) pa pb
                        rw [HIN.out rfl pa pb HME.out] at this
                        exact this.mono fun e w' ⟨q1, q2⟩ => ⟨q1, bq.trans (q2.mono bq.size)⟩
                      go_wp2
                      refine wp_region_q (C := fun wq => Below wr.heap.size wr wq) (by kernel_rfl) (by kernel_rfl) BR.out ?_
                      iterate 3 (refine qt_yes (v := ?_) (by rfl) ?_ ?_; rotate_left; (· (intro wq hSw; have f1 := C1.out wq hSw; have f2 := C2.out wq hSw; have f3 := C3.out wq hSw; have f4 := C4.out wq hSw; clear hSw; go_simp; with_reducible rfl)); (try simp only [Act.put, List.setIfInBounds_toArray, List.set_cons_zero, List.set_cons_succ]))
                      iterate 40 (refine qt_no (by rfl) ?_; (try simp only [Act.put, List.setIfInBounds_toArray, List.set_cons_zero, List.set_cons_succ]))
                      iterate 2 (refine qt_yes (v := ?_) (by rfl) ?_ ?_; rotate_left; (· (intro wq hSw; have f1 := C1.out wq hSw; have f2 := C2.out wq hSw; have f3 := C3.out wq hSw; have f4 := C4.out wq hSw; clear hSw; go_simp; with_reducible rfl)); (try simp only [Act.put, List.setIfInBounds_toArray, List.set_cons_zero, List.set_cons_succ]))
                      iterate 2 (refine qt_yes (v := ?_) (by rfl) ?_ ?_; rotate_left; (· (intro wq hSw; have f1 := C1.out wq hSw; have f2 := C2.out wq hSw; have f3 := C3.out wq hSw; have f4 := C4.out wq hSw; clear hSw; go_simp; with_reducible rfl)); (try simp only [Act.put, List.setIfInBounds_toArray, List.set_cons_zero, List.set_cons_succ]))
                      iterate 5 (refine qt_yes (v := ?_) (by rfl) ?_ ?_; rotate_left; (· (intro wq hSw; have f1 := C1.out wq hSw; have f2 := C2.out wq hSw; have f3 := C3.out wq hSw; have f4 := C4.out wq hSw; clear hSw; go_simp; with_reducible rfl)); (try simp only [Act.put, List.setIfInBounds_toArray, List.set_cons_zero, List.set_cons_succ]))
                      refine qt_call (v := .bool true) 31 #[.slice oa O.length oc, .agg #[.int .i64 pa, .int .i64 pb]] (by rfl) ?_ (fun wq hq => CA.out wq hq) ?_
                      · intro wq hSw
                        clear hSw
                        go_simp
                        try with_reducible rfl
                      (try simp only [Act.put, List.setIfInBounds_toArray, List.set_cons_zero, List.set_cons_succ])
                      iterate 3 (refine qt_yes (v := ?_) (by rfl) ?_ ?_; rotate_left; (· (intro wq hSw; have f1 := C1.out wq hSw; have f2 := C2.out wq hSw; have f3 := C3.out wq hSw; have f4 := C4.out wq hSw; clear hSw; go_simp; with_reducible rfl)); (try simp only [Act.put, List.setIfInBounds_toArray, List.set_cons_zero, List.set_cons_succ]))
                      refine qt_nil ?_
                      intro wq hSw
                      have HQ : Hid (Below w3.heap.size w3 wq) := HBQ.out wq hSw
                      clear hSw
                      go_wp2
                      go_roundw
                      case rel => exact ⟨1, by omega, by go_num, HQ.out⟩
                      case measure => simp [intOf]; omega
                    | false =>
                      go_wp2
                      refine wp_region_q (C := fun wq => Below wr.heap.size wr wq) (by kernel_rfl) (by kernel_rfl) BR.out ?_
                      iterate 3 (refine qt_yes (v := ?_) (by rfl) ?_ ?_; rotate_left; (· (intro wq hSw; have f1 := C1.out wq hSw; have f2 := C2.out wq hSw; have f3 := C3.out wq hSw; have f4 := C4.out wq hSw; clear hSw; go_simp; with_reducible rfl)); (try simp only [Act.put, List.setIfInBounds_toArray, List.set_cons_zero, List.set_cons_succ]))
                      iterate 40 (refine qt_no (by rfl) ?_; (try simp only [Act.put, List.setIfInBounds_toArray, List.set_cons_zero, List.set_cons_succ]))
                      iterate 2 (refine qt_yes (v := ?_) (by rfl) ?_ ?_; rotate_left; (· (intro wq hSw; have f1 := C1.out wq hSw; have f2 := C2.out wq hSw; have f3 := C3.out wq hSw; have f4 := C4.out wq hSw; clear hSw; go_simp; with_reducible rfl)); (try simp only [Act.put, List.setIfInBounds_toArray, List.set_cons_zero, List.set_cons_succ]))
                      iterate 2 (refine qt_yes (v := ?_) (by rfl) ?_ ?_; rotate_left; (· (intro wq hSw; have f1 := C1.out wq hSw; have f2 := C2.out wq hSw; have f3 := C3.out wq hSw; have f4 := C4.out wq hSw; clear hSw; go_simp; with_reducible rfl)); (try simp only [Act.put, List.setIfInBounds_toArray, List.set_cons_zero, List.set_cons_succ]))
                      iterate 7 (refine qt_no (by rfl) ?_; (try simp only [Act.put, List.setIfInBounds_toArray, List.set_cons_zero, List.set_cons_succ]))
                      iterate 2 (refine qt_yes (v := ?_) (by rfl) ?_ ?_; rotate_left; (· (intro wq hSw; have f1 := C1.out wq hSw; have f2 := C2.out wq hSw; have f3 := C3.out wq hSw; have f4 := C4.out wq hSw; clear hSw; go_simp; with_reducible rfl)); (try simp only [Act.put, List.setIfInBounds_toArray, List.set_cons_zero, List.set_cons_succ]))
                      refine qt_nil ?_
                      intro wq hSw
                      have HQ : Hid (Below w3.heap.size w3 wq) := HBQ.out wq hSw
                      clear hSw
                      go_wp2
                      go_roundw
                      case rel => exact ⟨1, by omega, by go_num, HQ.out⟩
                      case measure => simp [intOf]; omega
                  · obtain ⟨p, rfl⟩ : ∃ p, i = p + 1 := ⟨i - 1, by omega⟩
                    have hlx := HLX.out (p + 1) (by omega) hil
                    rw [Nat.add_sub_cancel] at hlx
                    obtain ⟨c3, c4⟩ := hcell p (by omega)
                    obtain ⟨pa, pb, hpe⟩ : ∃ pa pb, L.getD (p + 1) (0, 0) = (pa, pb) := ⟨_, _, rfl⟩
                    obtain ⟨qa, qb, hqe⟩ : ∃ qa qb, L.getD p (0, 0) = (qa, qb) := ⟨_, _, rfl⟩
                    rw [hpe] at c1 c2 hmem hlx
                    rw [hqe] at c3 c4 hlx
                    have C1 : Hid (∀ wq, Below wr.heap.size wr wq → wq.cell? ⟨lb, lo + (p + 1) * 2, none⟩ = some (.int .i64 pa)) := fun wq b => cellL (cellL c1 hB) b
                    have C2 : Hid (∀ wq, Below wr.heap.size wr wq → wq.cell? ⟨lb, lo + (p + 1) * 2 + 1, none⟩ = some (.int .i64 pb)) := fun wq b => cellL (cellL c2 hB) b
                    have C3 : Hid (∀ wq, Below wr.heap.size wr wq → wq.cell? ⟨lb, lo + p * 2, none⟩ = some (.int .i64 qa)) := fun wq b => cellL (cellL c3 hB) b
                    have C4 : Hid (∀ wq, Below wr.heap.size wr wq → wq.cell? ⟨lb, lo + p * 2 + 1, none⟩ = some (.int .i64 qb)) := fun wq b => cellL (cellL c4 hB) b
                    have HME : Hid ((pa, pb) ∈ L) := hmem
                    have plt : (p : Int) < (L.length : Int) := by omega
                    have wp : IntKind.i64.wrap (p : Int) = (p : Int) := by rw [IntKind.wrap_i64]; omega
                    have p00 : (0 : Int) ≤ (p : Int) := by omega
                    have ppos : (p : Int) + 1 > 0 := by omega
                    have pp0 : (0 : Int) ≤ (p : Int) + 1 := by omega
                    have p1 : (p : Int) + 1 - 1 = (p : Int) := by omega
                    have hpl : p ≤ 140737488355328 := by omega
                    subst hla
                    clear hB hcell c1 c2 c3 c4 hpe hqe hmem hi0
                    rcases hlx with hl1 | ⟨hl1, hl2⟩
                    · simp only at hl1
                      have g1 : ¬ (pa < qa) := by omega
                      have g2 : decide (pa < qa) = false := decide_eq_false g1
                      have g3 : (pa == qa) = false := by rw [beq_eq_false_iff_ne]; omega
                      clear hl1
                      cases A with
                      | true =>
                        have CA : Hid (∀ wq, Below wr.heap.size wr wq → Calls Tryd.prog 31 #[.slice oa O.length oc, .agg #[.int .i64 pa, .int .i64 pb]] wq fun e w' => e = .returned (.bool true) ∧ Below wr.heap.size wr w') := fun wq bq => by
                          have := HAO.out wq (HBW.out wq bq) pa pb
                          rw [HIN.out rfl pa pb HME.out] at this
                          exact this.mono fun e w' ⟨q1, q2⟩ => ⟨q1, bq.trans (q2.mono bq.size)⟩
                        go_wp2
                        refine wp_region_q (C := fun wq => Below wr.heap.size wr wq) (by kernel_rfl) (by kernel_rfl) BR.out ?_
                        iterate 29 (refine qt_yes (v := ?_) (by rfl) ?_ ?_; rotate_left; (· (intro wq hSw; have f1 := C1.out wq hSw; have f2 := C2.out wq hSw; have f3 := C3.out wq hSw; have f4 := C4.out wq hSw; clear hSw; go_simp; with_reducible rfl)); (try simp only [Act.put, List.setIfInBounds_toArray, List.set_cons_zero, List.set_cons_succ]))
                        iterate 12 (refine qt_no (by rfl) ?_; (try simp only [Act.put, List.setIfInBounds_toArray, List.set_cons_zero, List.set_cons_succ]))
                        iterate 4 (refine qt_yes (v := ?_) (by rfl) ?_ ?_; rotate_left; (· (intro wq hSw; have f1 := C1.out wq hSw; have f2 := C2.out wq hSw; have f3 := C3.out wq hSw; have f4 := C4.out wq hSw; clear hSw; go_simp; with_reducible rfl)); (try simp only [Act.put, List.setIfInBounds_toArray, List.set_cons_zero, List.set_cons_succ]))
                        iterate 2 (refine qt_yes (v := ?_) (by rfl) ?_ ?_; rotate_left; (· (intro wq hSw; have f1 := C1.out wq hSw; have f2 := C2.out wq hSw; have f3 := C3.out wq hSw; have f4 := C4.out wq hSw; clear hSw; go_simp; with_reducible rfl)); (try simp only [Act.put, List.setIfInBounds_toArray, List.set_cons_zero, List.set_cons_succ]))
                        iterate 5 (refine qt_yes (v := ?_) (by rfl) ?_ ?_; rotate_left; (· (intro wq hSw; have f1 := C1.out wq hSw; have f2 := C2.out wq hSw; have f3 := C3.out wq hSw; have f4 := C4.out wq hSw; clear hSw; go_simp; with_reducible rfl)); (try simp only [Act.put, List.setIfInBounds_toArray, List.set_cons_zero, List.set_cons_succ]))
                        refine qt_call (v := .bool true) 31 #[.slice oa O.length oc, .agg #[.int .i64 pa, .int .i64 pb]] (by rfl) ?_ (fun wq hq => CA.out wq hq) ?_
                        · intro wq hSw
                          clear hSw
                          go_simp
                          try with_reducible rfl
                        (try simp only [Act.put, List.setIfInBounds_toArray, List.set_cons_zero, List.set_cons_succ])
                        iterate 3 (refine qt_yes (v := ?_) (by rfl) ?_ ?_; rotate_left; (· (intro wq hSw; have f1 := C1.out wq hSw; have f2 := C2.out wq hSw; have f3 := C3.out wq hSw; have f4 := C4.out wq hSw; clear hSw; go_simp; with_reducible rfl)); (try simp only [Act.put, List.setIfInBounds_toArray, List.set_cons_zero, List.set_cons_succ]))
                        refine qt_nil ?_
                        intro wq hSw
                        have HQ : Hid (Below w3.heap.size w3 wq) := HBQ.out wq hSw
                        clear hSw
                        go_wp2
                        go_roundw
                        case rel => exact ⟨p + 1 + 1, by omega, by go_num, HQ.out⟩
                        case measure => simp [intOf]; omega
                      | false =>
                        go_wp2
                        refine wp_region_q (C := fun wq => Below wr.heap.size wr wq) (by kernel_rfl) (by kernel_rfl) BR.out ?_
                        iterate 29 (refine qt_yes (v := ?_) (by rfl) ?_ ?_; rotate_left; (· (intro wq hSw; have f1 := C1.out wq hSw; have f2 := C2.out wq hSw; have f3 := C3.out wq hSw; have f4 := C4.out wq hSw; clear hSw; go_simp; with_reducible rfl)); (try simp only [Act.put, List.setIfInBounds_toArray, List.set_cons_zero, List.set_cons_succ]))
                        iterate 12 (refine qt_no (by rfl) ?_; (try simp only [Act.put, List.setIfInBounds_toArray, List.set_cons_zero, List.set_cons_succ]))
                        iterate 4 (refine qt_yes (v := ?_) (by rfl) ?_ ?_; rotate_left; (· (intro wq hSw; have f1 := C1.out wq hSw; have f2 := C2.out wq hSw; have f3 := C3.out wq hSw; have f4 := C4.out wq hSw; clear hSw; go_simp; with_reducible rfl)); (try simp only [Act.put, List.setIfInBounds_toArray, List.set_cons_zero, List.set_cons_succ]))
                        iterate 2 (refine qt_yes (v := ?_) (by rfl) ?_ ?_; rotate_left; (· (intro wq hSw; have f1 := C1.out wq hSw; have f2 := C2.out wq hSw; have f3 := C3.out wq hSw; have f4 := C4.out wq hSw; clear hSw; go_simp; with_reducible rfl)); (try simp only [Act.put, List.setIfInBounds_toArray, List.set_cons_zero, List.set_cons_succ]))
                        iterate 7 (refine qt_no (by rfl) ?_; (try simp only [Act.put, List.setIfInBounds_toArray, List.set_cons_zero, List.set_cons_succ]))
                        iterate 2 (refine qt_yes (v := ?_) (by rfl) ?_ ?_; rotate_left; (· (intro wq hSw; have f1 := C1.out wq hSw; have f2 := C2.out wq hSw; have f3 := C3.out wq hSw; have f4 := C4.out wq hSw; clear hSw; go_simp; with_reducible rfl)); (try simp only [Act.put, List.setIfInBounds_toArray, List.set_cons_zero, List.set_cons_succ]))
                        refine qt_nil ?_
                        intro wq hSw
                        have HQ : Hid (Below w3.heap.size w3 wq) := HBQ.out wq hSw
                        clear hSw
                        go_wp2
                        go_roundw
                        case rel => exact ⟨p + 1 + 1, by omega, by go_num, HQ.out⟩
                        case measure => simp [intOf]; omega
                    · simp only at hl1 hl2
                      subst hl1
                      have g1 : ¬ (pb ≤ qb) := by omega
                      have g2 : decide (pb ≤ qb) = false := decide_eq_false g1
                      have g3 : ¬ (qa < qa) := by omega
                      clear hl2
                      cases A with
                      | true =>
                        have CA : Hid (∀ wq, Below wr.heap.size wr wq → Calls Tryd.prog 31 #[.slice oa O.length oc, .agg #[.int .i64 qa, .int .i64 pb]] wq fun e w' => e = .returned (.bool true) ∧ Below wr.heap.size wr w') := fun wq bq => by
                          have := HAO.out wq (HBW.out wq bq) qa pb
                          rw [HIN.out rfl qa pb HME.out] at this
                          exact this.mono fun e w' ⟨q1, q2⟩ => ⟨q1, bq.trans (q2.mono bq.size)⟩
                        go_wp2
                        refine wp_region_q (C := fun wq => Below wr.heap.size wr wq) (by kernel_rfl) (by kernel_rfl) BR.out ?_
                        iterate 45 (refine qt_yes (v := ?_) (by rfl) ?_ ?_; rotate_left; (· (intro wq hSw; have f1 := C1.out wq hSw; have f2 := C2.out wq hSw; have f3 := C3.out wq hSw; have f4 := C4.out wq hSw; clear hSw; go_simp; with_reducible rfl)); (try simp only [Act.put, List.setIfInBounds_toArray, List.set_cons_zero, List.set_cons_succ]))
                        iterate 2 (refine qt_yes (v := ?_) (by rfl) ?_ ?_; rotate_left; (· (intro wq hSw; have f1 := C1.out wq hSw; have f2 := C2.out wq hSw; have f3 := C3.out wq hSw; have f4 := C4.out wq hSw; clear hSw; go_simp; with_reducible rfl)); (try simp only [Act.put, List.setIfInBounds_toArray, List.set_cons_zero, List.set_cons_succ]))
                        iterate 5 (refine qt_yes (v := ?_) (by rfl) ?_ ?_; rotate_left; (· (intro wq hSw; have f1 := C1.out wq hSw; have f2 := C2.out wq hSw; have f3 := C3.out wq hSw; have f4 := C4.out wq hSw; clear hSw; go_simp; with_reducible rfl)); (try simp only [Act.put, List.setIfInBounds_toArray, List.set_cons_zero, List.set_cons_succ]))
                        refine qt_call (v := .bool true) 31 #[.slice oa O.length oc, .agg #[.int .i64 qa, .int .i64 pb]] (by rfl) ?_ (fun wq hq => CA.out wq hq) ?_
                        · intro wq hSw
                          clear hSw
                          go_simp
                          try with_reducible rfl
                        (try simp only [Act.put, List.setIfInBounds_toArray, List.set_cons_zero, List.set_cons_succ])
                        iterate 3 (refine qt_yes (v := ?_) (by rfl) ?_ ?_; rotate_left; (· (intro wq hSw; have f1 := C1.out wq hSw; have f2 := C2.out wq hSw; have f3 := C3.out wq hSw; have f4 := C4.out wq hSw; clear hSw; go_simp; with_reducible rfl)); (try simp only [Act.put, List.setIfInBounds_toArray, List.set_cons_zero, List.set_cons_succ]))
                        refine qt_nil ?_
                        intro wq hSw
                        have HQ : Hid (Below w3.heap.size w3 wq) := HBQ.out wq hSw
                        clear hSw
                        go_wp2
                        go_roundw
                        case rel => exact ⟨p + 1 + 1, by omega, by go_num, HQ.out⟩
                        case measure => simp [intOf]; omega
                      | false =>
                        go_wp2
                        refine wp_region_q (C := fun wq => Below wr.heap.size wr wq) (by kernel_rfl) (by kernel_rfl) BR.out ?_
                        iterate 45 (refine qt_yes (v := ?_) (by rfl) ?_ ?_; rotate_left; (· (intro wq hSw; have f1 := C1.out wq hSw; have f2 := C2.out wq hSw; have f3 := C3.out wq hSw; have f4 := C4.out wq hSw; clear hSw; go_simp; with_reducible rfl)); (try simp only [Act.put, List.setIfInBounds_toArray, List.set_cons_zero, List.set_cons_succ]))
                        iterate 2 (refine qt_yes (v := ?_) (by rfl) ?_ ?_; rotate_left; (· (intro wq hSw; have f1 := C1.out wq hSw; have f2 := C2.out wq hSw; have f3 := C3.out wq hSw; have f4 := C4.out wq hSw; clear hSw; go_simp; with_reducible rfl)); (try simp only [Act.put, List.setIfInBounds_toArray, List.set_cons_zero, List.set_cons_succ]))
                        iterate 7 (refine qt_no (by rfl) ?_; (try simp only [Act.put, List.setIfInBounds_toArray, List.set_cons_zero, List.set_cons_succ]))
                        iterate 2 (refine qt_yes (v := ?_) (by rfl) ?_ ?_; rotate_left; (· (intro wq hSw; have f1 := C1.out wq hSw; have f2 := C2.out wq hSw; have f3 := C3.out wq hSw; have f4 := C4.out wq hSw; clear hSw; go_simp; with_reducible rfl)); (try simp only [Act.put, List.setIfInBounds_toArray, List.set_cons_zero, List.set_cons_succ]))
                        refine qt_nil ?_
                        intro wq hSw
                        have HQ : Hid (Below w3.heap.size w3 wq) := HBQ.out wq hSw
                        clear hSw
                        go_wp2
                        go_roundw
                        case rel => exact ⟨p + 1 + 1, by omega, by go_num, HQ.out⟩
                        case measure => simp [intOf]; omega
                · obtain rfl : i = L.length := by omega
                  have ilt : ¬ (L.length : Int) < (L.length : Int) := by omega
                  have HB : Hid (Below w3.heap.size w3 wr) := hB
                  clear hB
                  go_wp2_with (first
                    | (go_at_call 30; refine (CLL.out _ HB.out).mono ?_; rintro e w5 ⟨rfl, b5⟩; have B5 : Hid (Below w3.heap.size w3 w5) := HB.out.trans (b5.mono HB.out.size); clear b5)
                    | (go_at_call 32; refine (PA.out _ B5.out).mono ?_; rintro e w6 ⟨rfl, b6⟩; have B6 : Hid (Below w3.heap.size w3 w6) := B5.out.trans (b6.mono B5.out.size); clear b6))
                  go_ret
                  exact ⟨rfl, B3.out.trans (B6.out.mono B3.out.size)⟩
end Go.Proofs.YtmpdgmigpjfcpaaDoor
