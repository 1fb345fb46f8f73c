import Derived.Test.YtcgghlaifmlpiaaGreatDoorBZ11ToBZ13
namespace Go.Proofs.YtcgghlaifmlpiaaGreatDoor
set_option linter.unusedVariables false
open Go.RowKit Go.Shelf

/-- A cycle that is there. -/
structure CyP (Ns : List Nat) (n : Nat) (Cy : List Nat) : Prop where
  pos : 0 < Cy.length
  ed : ∀ i, i < Cy.length → EdB Ns n (Cy.getD i 0) (Cy.getD ((i + 1) % Cy.length) 0)
  low : ∀ i, i < Cy.length → Cy.getD 0 0 ≤ Cy.getD i 0
  nd : Cy.Nodup
  le : Cy.length ≤ n
  is : ∃ (Ms : List Nat) (s : Nat × Nat × List Nat), (∀ x y, x < n → y < n → (Ms.getD y 0).testBit x = (Ns.getD x 0).testBit y) ∧ cyF Ms n (List.range n) (0, 0, []) = s ∧ Cy = arU Ns s.2.2 n s.1
/-- On the way round the steps fall by one. -/
theorem arF_st {Ns R : List Nat} {n x A : Nat} (hR : BfR Ns n x A R) : ∀ (f : Nat) (l : List Nat), l ≠ [] → (∀ i, i < l.length → R.getD (l.getD i 0) 0 = l.length - i + f) → (∀ z ∈ l, z < n) → (∀ i, i < (arF Ns R n f l).length → R.getD ((arF Ns R n f l).getD i 0) 0 = (arF Ns R n f l).length - i) ∧ ∀ z ∈ arF Ns R n f l, z < n
  | 0, l, _, hs, hz => ⟨fun i hi => by
    have := hs i hi
    rw [Nat.add_zero] at this
    exact this, hz⟩
  | f + 1, l, hl, hs, hz => by
    have h0 : 0 < l.length := List.length_pos_iff.2 hl
    have hlast : R.getD (l.getLastD 0) 0 = f + 2 := by
      rw [last_get hl, hs (l.length - 1) (by omega)]
      omega
    obtain ⟨_, h⟩ := hR.one (l.getLastD 0) (by omega)
    rcases h with h | ⟨v, _, hv, h1, h2⟩
    · omega
    · have hmem : v ∈ bitsU (Ns.getD (l.getLastD 0) 0) n := bitsU_mem.2 ⟨hv.2.1, hv.2.2⟩
      cases e : (bitsU (Ns.getD (l.getLastD 0) 0) n).find? (fun y => decide (R.getD y 0 = f + 1)) with
      | none =>
        have := List.find?_eq_none.1 e v hmem
        simp only [decide_eq_true_iff] at this
        omega
      | some y =>
        have hs' : arS Ns R n (f + 1) l = l ++ [y] := by unfold arS; rw [e]
        have hy1 : R.getD y 0 = f + 1 := by simpa using List.find?_some e
        have hy2 := bitsU_mem.1 (List.mem_of_find?_eq_some e)
        have ih := arF_st hR f (l ++ [y]) (by simp) (fun i hi => by
          rw [List.length_append, List.length_singleton] at hi ⊢
          rcases Nat.lt_or_ge i l.length with q | q
          · have g1 : (l ++ [y]).getD i 0 = l.getD i 0 := by
              rw [List.getD_eq_getElem?_getD, List.getD_eq_getElem?_getD, List.getElem?_append_left q]
            rw [g1, hs i q]
            omega
          · have e1 : i = l.length := by omega
            subst e1
            have g2 : (l ++ [y]).getD l.length 0 = y := by
              rw [List.getD_eq_getElem?_getD, List.getElem?_append_right (Nat.le_refl _), Nat.sub_self]
              rfl
            rw [g2, hy1]
            omega) (fun z hzm => by
          rcases List.mem_append.1 hzm with q | q
          · exact hz z q
          · rw [List.mem_singleton.1 q]; exact hy2.1)
        show (∀ i, i < (arF Ns R n f (arS Ns R n (f + 1) l)).length → R.getD ((arF Ns R n f (arS Ns R n (f + 1) l)).getD i 0) 0 = (arF Ns R n f (arS Ns R n (f + 1) l)).length - i) ∧ ∀ z ∈ arF Ns R n f (arS Ns R n (f + 1) l), z < n
        rw [hs']
        exact ih
theorem ar_nd {Ns R : List Nat} {n x A : Nat} (hR : BfR Ns n x A R) (hx : x < n) (hp : 0 < R.getD x 0) : (arU Ns R n x).Nodup ∧ (arU Ns R n x).length ≤ n := by
  have h := arF_st hR (R.getD x 0 - 1) [x] (by simp) (fun i hi => by
    have : i = 0 := by simp at hi; omega
    subst this
    show R.getD x 0 = 1 - 0 + (R.getD x 0 - 1)
    omega) (fun z hz => by rw [List.mem_singleton.1 hz]; exact hx)
  have hnd : (arU Ns R n x).Nodup := by
    rw [List.nodup_iff_pairwise_ne, List.pairwise_iff_getElem]
    intro i j hi hj hij e
    have h1 : (arU Ns R n x).getD i 0 = (arU Ns R n x)[i] := by rw [List.getD_eq_getElem?_getD, List.getElem?_eq_getElem hi]; rfl
    have h2 : (arU Ns R n x).getD j 0 = (arU Ns R n x)[j] := by rw [List.getD_eq_getElem?_getD, List.getElem?_eq_getElem hj]; rfl
    have h3 : R.getD ((arU Ns R n x).getD i 0) 0 = (arU Ns R n x).length - i := h.1 i hi
    have h4 : R.getD ((arU Ns R n x).getD j 0) 0 = (arU Ns R n x).length - j := h.1 j hj
    rw [h1, e, ← h2, h4] at h3
    omega
  exact ⟨hnd, nodup_le hnd h.2⟩
theorem StM.later {wr w' : World} {n : Nat} {v : Value} {st : List Nat} (h : StM wr n v st) (hb : Below wr.heap.size wr w') : StM w' n v st := by
  rcases h with q | ⟨sb, h1, h2, h3⟩
  · exact .inl q
  · exact .inr ⟨sb, h1, h2.later hb, h3⟩
theorem StM.frB {wr w' : World} {n k m N : Nat} {v : Value} {st : List Nat} (h : StM wr n v st) (hs : SB wr k m N) (hf : FrB (· = k) wr w') : StM w' n v st := by
  rcases h with q | ⟨sb, h1, h2, h3⟩
  · exact .inl q
  · exact .inr ⟨sb, h1, h2.frB hf (h2.ne hs), h3⟩
/-- A cycle being looked for. -/
structure CkB (w w1 : World) (n x : Nat) (s : Nat × Nat × List Nat) (v : Value) (wr : World) : Prop where
  sb : SB wr w1.heap.size n (loN x)
  st : StM wr n v s.2.2
  bel : Below w1.heap.size w1 wr
  le : s.2.1 ≤ 100000
set_option maxRecDepth 100000 in
set_option maxHeartbeats 16000000 in
theorem cycle_SB {w : World} {rb n : Nat} {ks Ns : List Nat} (hR : RwB w rb n ks Ns) (hn : Ns.length = n) (hm : n ≤ 4096) (hT : TabB w) (hshort : (placeU Ns n).length < n) (c : Nat) :
    Calls Tryz.prog 38 #[.slice (some ⟨rb, 0, none⟩) n c] w fun e w' => ∃ v Cy, e = .returned v ∧ LBs w (nI Cy) v w' ∧ CyP Ns n Cy := by
  have HR : Hid (RwB w rb n ks Ns) := hR
  have HT : Hid (TabB w) := hT
  have HNL : Hid (Ns.length = n) := hn
  have HSH : Hid ((placeU Ns n).length < n) := hshort
  have TU : Hid (Calls Tryz.prog 89 #[.slice (some ⟨rb, 0, none⟩) n c] w fun e w' => ∃ Ms, e = .returned (.slice (some ⟨w.heap.size, 0, none⟩) n n) ∧ TuB w n Ms w' ∧ ∀ x y, x < n → y < n → (Ms.getD y 0).testBit x = (Ns.getD x 0).testBit y) := turned_SB hR hn hm hT c
  clear hR hT hn hshort
  go_enter Tryz.func38, Tryz.ntmps38
  go_wp2_with (go_at_call 89; refine TU.out.mono ?_)
  rintro e w1 ⟨Ms, rfl, t1, hMs⟩
  have T1 : Hid (TuB w n Ms w1) := t1
  have EM : Hid (Calls Tryz.prog 87 #[.int .i64 (n : Int)] w1 fun e w' => e = .returned (.pointer (some ⟨w1.heap.size + 1, 0, none⟩)) ∧ SB w' w1.heap.size n 0 ∧ Below w1.heap.size w1 w' ∧ w'.heap.size = w1.heap.size + 2) := empty_SB n hm w1
  obtain ⟨s, hse, hs1, hs2, hs3, hs4⟩ := cycle_found hMs HSH.out
  have HSE : Hid (cyF Ms n (List.range' 0 n) (0, 0, []) = s) := by
    rw [← List.range_eq_range']
    exact hse
  have HSP : Hid (s.1 < n ∧ 0 < s.2.1 ∧ s.2.2.getD s.1 0 = s.2.1 ∧ BfR Ns n s.1 (loN s.1) s.2.2) := ⟨hs1, hs2, hs3, hs4⟩
  have HMS : Hid (∀ x y, x < n → y < n → (Ms.getD y 0).testBit x = (Ns.getD x 0).testBit y) := hMs
  clear t1 hMs TU hse hs1 hs2 hs3 hs4
  go_wp2_with (go_at_call 87; refine EM.out.mono ?_; rintro e w2 ⟨rfl, s2, b2, z2⟩; have W2 : Hid (CkB w w1 n 0 (0, 0, []) (.slice none 0 0) w2) := ⟨s2, .inl ⟨rfl, rfl⟩, b2, Nat.zero_le _⟩; clear s2 b2 z2)
  clear EM
  go_loopw [5, 6, 7, 17] (fun v5 v6 v7 z wr => ∃ (x : Nat) (t : Nat × Nat × List Nat), x ≤ n ∧ z = .int .i64 (x : Int) ∧ v5 = .int .i64 (t.1 : Int) ∧ v6 = .int .i64 (t.2.1 : Int) ∧ CkB w w1 n x t v7 wr ∧ cyF Ms n (List.range' x (n - x)) t = s) (fun _ _ _ z _ => n - (intOf z).toNat)
  case atStart => exact ⟨0, (0, 0, []), Nat.zero_le _, rfl, rfl, rfl, W2.out, HSE.out⟩
  case round =>
    clear W2
    obtain ⟨x, ⟨t1, t2, t3⟩, hx, rfl, rfl, rfl, hC, hF⟩ := hrel
    by_cases hlt : x < n
    · have xlt : (x : Int) < (n : Int) := by omega
      have hle : t2 ≤ 100000 := hC.le
      have hrg : List.range' x (n - x) = x :: List.range' (x + 1) (n - (x + 1)) := by
        rw [show n - x = (n - (x + 1)) + 1 by omega, List.range'_succ]
      rw [hrg] at hF
      unfold cyF at hF
      have hRle := bfU_le (Ms := Ms) (n := n) (x := x) (most := t2) _ (bfS n x) (Nat.le_refl _) (fun z => by simp only [bfS]; rw [repl_get]; exact Nat.zero_le _)
      have CP : Hid (Calls Tryz.prog 78 #[.pointer (some ⟨w1.heap.size + 1, 0, none⟩)] wr fun e w' => e = .returned (.pointer (some ⟨wr.heap.size + 1, 0, none⟩)) ∧ SB w' wr.heap.size n (loN x) ∧ Below wr.heap.size wr w') := copy_SB hC.sb
      have hw1 := T1.out.bel.size
      have hwr := hC.bel.size
      have hsz := hC.sb.size
      have ST : Hid (∀ w3, SB w3 wr.heap.size n (loN x) → Below wr.heap.size wr w3 → Calls Tryz.prog 90 #[.int .i64 (x : Int), .int .i64 (t2 : Int), .slice (some ⟨w.heap.size, 0, none⟩) n n, .pointer (some ⟨wr.heap.size + 1, 0, none⟩)] w3 fun e w' => e = .returned (.slice (some ⟨w3.heap.size, 0, none⟩) n n) ∧ KbB w' w3.heap.size (bfU Ms n x t2 (bfS n x)) ∧ FrB (· = wr.heap.size) w3 w') := fun w3 s3 b3 => by
        have b13 : Below w1.heap.size w1 w3 := hC.bel.trans (b3.mono hC.bel.size)
        have rw3 := T1.out.rw.later b13
        exact stepsTo_SB rw3 T1.out.len hm ((HT.out.later T1.out.bel).later b13) s3 hlt (fun k hk => by have := T1.out.kin k hk; omega) (by have := HT.out.lt; omega) hle n
      obtain ⟨R, hRR⟩ : ∃ R, bfU Ms n x t2 (bfS n x) = R := ⟨_, rfl⟩
      simp only [hRR] at hF hRle ST
      have hRx := hRle x
      have HRL : Hid (R.length = n) := by
        show _ = _
        rw [← hRR]
        exact (BfI.run (Ns := Ns) (most := t2) HMS.out _ _ (Nat.le_refl _) (BfI.first hlt)).1.len
      have HC : Hid (CkB w w1 n x (t1, t2, t3) u7 wr) := hC
      -- behind the search
      have H4 : Hid (∀ w3 w4, SB w3 wr.heap.size n (loN x) → Below wr.heap.size wr w3 → KbB w4 w3.heap.size R → FrB (· = wr.heap.size) w3 w4 → CkB w w1 n x (t1, t2, t3) u7 w4 ∧ w4.cell? ⟨w3.heap.size, x, none⟩ = some (.int .i64 (R.getD x 0 : Int))) := fun w3 w4 s3 b3 k4 f4 => by
        have bA := HC.out.bel.trans (b3.mono HC.out.bel.size)
        exact ⟨⟨(HC.out.sb.later b3).frB f4 (by omega) (by omega), (HC.out.st.later b3).frB s3 f4, f4.below bA bA.size (fun j q => by have q2 : j = wr.heap.size := q; omega), hle⟩, k4.cell (by rw [HRL.out]; exact hlt)⟩
      have AD : Hid (∀ w4 w4' t' v', CkB w w1 n x (t1, t2, t3) u7 w4 → Below w4.heap.size w4 w4' → StM w4' n v' t'.2.2 → t'.2.1 ≤ 100000 → Calls Tryz.prog 50 #[.pointer (some ⟨w1.heap.size + 1, 0, none⟩), .int .i64 (x : Int)] w4' fun e w' => ∃ bv, e = .returned (.bool bv) ∧ CkB w w1 n (x + 1) t' v' w') := fun w4 w4' t' v' h4 b4 st4 hl4 => (add_SB (h4.sb.later b4) (x : Int)).mono fun e w' ⟨q1, q2, q3⟩ => by
        have e2 : addX (loN x) n (x : Int) = loN (x + 1) := by unfold addX; rw [if_pos ⟨by omega, by omega⟩]; rfl
        rw [e2] at q2
        have bB := h4.bel.trans (b4.mono h4.bel.size)
        exact ⟨_, q1, q2, st4.frB (h4.sb.later b4) q3, q3.below bB bB.size (fun j q => by have q2 : j = w1.heap.size := q; omega), hl4⟩
      by_cases hpos : 0 < R.getD x 0
      · rw [if_pos hpos] at hF
        have ppos : (R.getD x 0 : Int) > 0 := by omega
        have HF : Hid (cyF Ms n (List.range' (x + 1) (n - (x + 1))) (x, R.getD x 0, R) = s) := hF
        have HSM : Hid (∀ w3 w4, KbB w4 w3 R → StM w4 n (.slice (some ⟨w3, 0, none⟩) n n) R) := fun w3 w4 k4 => .inr ⟨w3, rfl, k4, HRL.out⟩
        generalize R.getD x 0 = rx at *
        clear hC hF hRR hRle hrg hw1 hwr hsz HC hpos
        go_wp2_with (first
          | (go_at_call 78; refine CP.out.mono ?_; rintro e w3 ⟨rfl, s3, b3⟩; have W3 : Hid (SB w3 wr.heap.size n (loN x) ∧ Below wr.heap.size wr w3) := ⟨s3, b3⟩; clear s3 b3)
          | (go_at_call 90; refine (ST.out _ W3.out.1 W3.out.2).mono ?_; rintro e w4 ⟨rfl, k4, f4⟩; have K4 : Hid (KbB w4 w3.heap.size R) := k4; obtain ⟨h4, c4⟩ := H4.out w3 w4 W3.out.1 W3.out.2 k4 f4; have C4 : Hid (CkB w w1 n x (t1, t2, t3) u7 w4) := h4; clear h4 k4 f4))
        go_quiet (fail)
        have AD2 : Hid (Calls Tryz.prog 50 #[.pointer (some ⟨w1.heap.size + 1, 0, none⟩), .int .i64 (x : Int)] (w4.drewN nq) fun e w' => ∃ bv, e = .returned (.bool bv) ∧ CkB w w1 n (x + 1) (x, rx, R) (.slice (some ⟨w3.heap.size, 0, none⟩) n n) w') := AD.out w4 _ (x, rx, R) _ C4.out (belN _ _) (HSM.out _ _ (K4.out.later (belN _ _))) (by show rx ≤ 100000; omega)
        generalize w4.drewN nq = w5 at *
        clear c4 AD
        go_wp2_with (go_at_call 50; refine AD2.out.mono ?_; rintro e w6 ⟨bv, rfl, h6⟩; have H6 : Hid (CkB w w1 n (x + 1) (x, rx, R) (.slice (some ⟨w3.heap.size, 0, none⟩) n n) w6) := h6; clear h6)
        go_roundw
        case rel => exact ⟨x + 1, (x, rx, R), by omega, by go_num, rfl, rfl, H6.out, HF.out⟩
        case measure => simp [intOf]; omega
      · rw [if_neg hpos] at hF
        have hr0 : R.getD x 0 = 0 := by omega
        rw [hr0] at H4
        have HF : Hid (cyF Ms n (List.range' (x + 1) (n - (x + 1))) (t1, t2, t3) = s) := hF
        clear hC hF hRR hRle hrg hw1 hwr hsz hpos hr0 hRx
        go_wp2_with (first
          | (go_at_call 78; refine CP.out.mono ?_; rintro e w3 ⟨rfl, s3, b3⟩; have W3 : Hid (SB w3 wr.heap.size n (loN x) ∧ Below wr.heap.size wr w3) := ⟨s3, b3⟩; clear s3 b3)
          | (go_at_call 90; refine (ST.out _ W3.out.1 W3.out.2).mono ?_; rintro e w4 ⟨rfl, k4, f4⟩; obtain ⟨h4, c4⟩ := H4.out w3 w4 W3.out.1 W3.out.2 k4 f4; have C4 : Hid (CkB w w1 n x (t1, t2, t3) u7 w4) := h4; clear h4 k4 f4)
          | (go_at_call 50; refine (AD.out w4 w4 (t1, t2, t3) u7 C4.out (Below.refl _ _) C4.out.st hle).mono ?_; rintro e w6 ⟨bv, rfl, h6⟩; have H6 : Hid (CkB w w1 n (x + 1) (t1, t2, t3) u7 w6) := h6; clear h6 c4))
        go_roundw
        case rel => exact ⟨x + 1, (t1, t2, t3), by omega, by go_num, rfl, rfl, H6.out, HF.out⟩
        case measure => simp [intOf]; omega
    · obtain rfl : x = n := by omega
      have xlt : ¬ (x : Int) < (x : Int) := by omega
      rw [Nat.sub_self] at hF
      have hF' : (t1, t2, t3) = s := hF
      subst hF'
      obtain ⟨hs1, hs2, hs3, hs4⟩ := HSP.out
      simp only at hs1 hs2 hs3 hs4
      have hst := hC.st
      simp only at hst
      rcases hst with ⟨_, e0⟩ | ⟨sb, rfl, hk, hkl⟩
      · rw [e0] at hs3
        simp at hs3
        omega
      · have b0 : Below w.heap.size w wr := T1.out.bel.trans (hC.bel.mono T1.out.bel.size)
        have AR : Hid (Calls Tryz.prog 91 #[.int .i64 (t1 : Int), .slice (some ⟨rb, 0, none⟩) x c, .slice (some ⟨sb, 0, none⟩) x x] wr fun e w' => ∃ v Cy, e = .returned v ∧ LBs w (nI Cy) v w' ∧ CyP Ns x Cy) := (around_SB (HR.out.later b0) HNL.out hm (HT.out.later b0) hk hkl hs1 (by omega) (by have := hC.le; simp only at this; omega) c x).mono fun e w' ⟨v, q1, q2⟩ => by
          obtain ⟨h1, h2, h3⟩ := ar_ok hs4 (by omega)
          obtain ⟨h4, h5⟩ := ar_nd hs4 hs1 (by omega)
          refine ⟨v, _, q1, ⟨q2.il, fun j hj => Nat.le_trans b0.size (q2.own j hj), b0.trans (q2.bel.mono b0.size)⟩, h1, fun i hi => (h3 i hi).1, fun i hi => ?_, h4, h5, Ms, (t1, t2, t3), HMS.out, (by rw [List.range_eq_range']; exact HSE.out), rfl⟩
          rw [h2]
          exact (h3 i hi).2
        clear hC hF hs1 hs2 hs3 hs4 hk hkl b0
        go_wp2_with (go_at_call 91; refine AR.out.mono ?_; rintro e w4 ⟨v4, Cy, rfl, l4, p4⟩; have L4 : Hid (LBs w (nI Cy) v4 w4 ∧ CyP Ns x Cy) := ⟨l4, p4⟩; clear l4 p4)
        go_ret
        first | exact ⟨_, Cy, rfl, L4.out.1, L4.out.2⟩ | exact ⟨_, rfl, Cy, L4.out.1, L4.out.2⟩ | exact ⟨Cy, L4.out.1, L4.out.2⟩
end Go.Proofs.YtcgghlaifmlpiaaGreatDoor
namespace Go.Proofs.YtcgghlaifmlpiaaGreatDoor
set_option linter.unusedVariables false
open Go.RowKit Go.Shelf

/-- What Order answers. -/
def OrA (w : World) (n : Int) (E : List (Int × Int)) (e : Ending) (w' : World) : Prop :=
  Below w.heap.size w w' ∧ (((decide (0 ≤ n) && decide (n ≤ 4096)) = false ∧ e = .returned (.tuple #[.slice none 0 0, .slice none 0 0, .int .i64 4])) ∨ ∃ k : Nat, n = (k : Int) ∧ k ≤ 4096 ∧
    ((E.all (okE k) = false ∧ e = .returned (.tuple #[.slice none 0 0, .slice none 0 0, .int .i64 51])) ∨ (E.all (okE k) = true ∧ ∃ Ns, RelB E k Ns ∧
      (((placeU Ns k).length = k ∧ ∃ v, e = .returned (.tuple #[v, .slice none 0 0, .int .i64 0]) ∧ LBs w (nI (placeU Ns k)) v w') ∨
       ((placeU Ns k).length < k ∧ ∃ v Cy, e = .returned (.tuple #[.slice none 0 0, v, .int .i64 73]) ∧ LBs w (nI Cy) v w' ∧ CyP Ns k Cy)))))
set_option maxRecDepth 100000 in
set_option maxHeartbeats 8000000 in
theorem order_any (n : Int) (w : World) (ea : Option Addr) (ec : Nat) (E : List (Int × Int)) (hE : PrsB w ea E) (hEl : E.length ≤ 140737488355328) (hT : TabB w) : Calls Tryz.prog 11 #[.int .i64 n, .slice ea E.length ec] w (OrA w n E) := by
  by_cases hn : (decide (0 ≤ n) && decide (n ≤ 4096)) = false
  · have RF : Hid (Calls Tryz.prog 31 #[.int .i64 n, .slice ea E.length ec] w fun e w' => e = .returned (.tuple #[.slice none 0 0, .int .i64 4]) ∧ w' = w) := rows_far n hn ea E.length ec w
    have HN : Hid ((decide (0 ≤ n) && decide (n ≤ 4096)) = false) := hn
    clear hE hT hn
    generalize E.length = el at *
    go_enter Tryz.func11, Tryz.ntmps11
    go_wp2_with (go_at_call 31; refine RF.out.mono ?_; rintro e w1 ⟨rfl, hz⟩; rw [hz]; clear hz w1)
    refine bodyPost_ret (v := .tuple #[.slice none 0 0, .slice none 0 0, .int .i64 4]) (by simp [results, Tryz.results11, go_sem]) rfl ?_
    exact ⟨Below.refl _ _, .inl ⟨HN.out, rfl⟩⟩
  · obtain ⟨k, rfl⟩ : ∃ k : Nat, n = (k : Int) := ⟨n.toNat, by simp at hn; omega⟩
    have hk : k ≤ 4096 := by simp at hn; omega
    have RF : Hid (Calls Tryz.prog 31 #[.int .i64 (k : Int), .slice ea E.length ec] w (RoA w k E)) := rows_SB hk ea ec E hE hEl
    have HT : Hid (TabB w) := hT
    clear hE hT hn
    generalize hel : E.length = el at *
    clear hel
    go_enter Tryz.func11, Tryz.ntmps11
    go_wp2_with (go_at_call 31; refine RF.out.mono ?_)
    rintro e w1 (⟨hE, rfl, b1⟩ | ⟨hE, Ns, rfl, t1, hb1⟩)
    · have HE : Hid (E.all (okE k) = false ∧ Below w.heap.size w w1) := ⟨hE, b1⟩
      clear hE b1
      go_wp2
      refine bodyPost_ret (v := .tuple #[.slice none 0 0, .slice none 0 0, .int .i64 51]) (by simp [results, Tryz.results11, go_sem]) rfl ?_
      exact ⟨HE.out.2, .inr ⟨k, rfl, hk, .inl ⟨HE.out.1, rfl⟩⟩⟩
    · have HE : Hid (E.all (okE k) = true ∧ RelB E k Ns ∧ Below w.heap.size w w1) := ⟨hE, t1.rel hb1, t1.bel⟩
      have T1 : Hid (TuB w k Ns w1) := t1
      have PL : Hid (Calls Tryz.prog 37 #[.slice (some ⟨w.heap.size, 0, none⟩) k k] w1 fun e w' => ∃ v, e = .returned v ∧ IL w' v (nI (placeU Ns k)) ∧ (∀ j, v.ownBlock = some j → w1.heap.size ≤ j) ∧ Below w1.heap.size w1 w') := place_SB t1.rw t1.len hk (HT.out.later t1.bel) k
      obtain ⟨P, _, hP2⟩ := place_is Ns k
      clear hE t1 hb1
      go_wp2_with (go_at_call 37; refine PL.out.mono ?_)
      rintro e w2 ⟨v2, rfl, i2, o2, b2⟩
      obtain ⟨pa, pc, rfl⟩ := il_lenB i2
      have B2 : Hid (Below w.heap.size w w2) := HE.out.2.2.trans (b2.mono HE.out.2.2.size)
      rcases hP2 with hfull | ⟨hshort, _⟩
      · have L2 : Hid (LBs w (nI (placeU Ns k)) (.slice pa k pc) w2) := by
          rw [hfull] at i2 o2
          exact ⟨i2, fun j hj => Nat.le_trans HE.out.2.2.size (o2 j hj), B2.out⟩
        have HFU : Hid ((placeU Ns k).length = k) := hfull
        rw [hfull]
        have klt : ¬ (k : Int) < (k : Int) := by omega
        clear i2 o2 b2 PL hfull
        go_wp2
        refine bodyPost_ret (v := .tuple #[.slice pa k pc, .slice none 0 0, .int .i64 0]) (by simp [results, Tryz.results11, go_sem]) rfl ?_
        exact ⟨B2.out, .inr ⟨k, rfl, hk, .inr ⟨HE.out.1, Ns, HE.out.2.1, .inl ⟨HFU.out, _, rfl, L2.out⟩⟩⟩⟩
      · have HSH : Hid ((placeU Ns k).length < k) := hshort
        have CY : Hid (Calls Tryz.prog 38 #[.slice (some ⟨w.heap.size, 0, none⟩) k k] w2 fun e w' => ∃ v Cy, e = .returned v ∧ LBs w (nI Cy) v w' ∧ CyP Ns k Cy) := (cycle_SB (T1.out.rw.later b2) T1.out.len hk ((HT.out.later T1.out.bel).later b2) hshort k).mono fun e w' ⟨v, Cy, q1, q2, q3⟩ => ⟨v, Cy, q1, ⟨q2.il, fun j hj => Nat.le_trans B2.out.size (q2.own j hj), B2.out.trans (q2.bel.mono B2.out.size)⟩, q3⟩
        have klt : ((placeU Ns k).length : Int) < (k : Int) := by omega
        generalize hpl : (placeU Ns k).length = pl at *
        clear i2 o2 b2 PL hshort
        go_wp2_with (go_at_call 38; refine CY.out.mono ?_; rintro e w3 ⟨v3, Cy, rfl, l3, p3⟩; have L3 : Hid (LBs w (nI Cy) v3 w3 ∧ CyP Ns k Cy) := ⟨l3, p3⟩; clear l3 p3)
        refine bodyPost_ret (v := .tuple #[.slice none 0 0, v3, .int .i64 73]) (by simp [results, Tryz.results11, go_sem]) rfl ?_
        exact ⟨L3.out.1.bel, .inr ⟨k, rfl, hk, .inr ⟨HE.out.1, Ns, HE.out.2.1, .inr ⟨by rw [hpl]; exact HSH.out, v3, Cy, rfl, L3.out.1, L3.out.2⟩⟩⟩⟩
end Go.Proofs.YtcgghlaifmlpiaaGreatDoor
namespace Go.Proofs.YtcgghlaifmlpiaaGreatDoor
set_option linter.unusedVariables false
open Go.RowKit Go.Shelf

theorem num_SB (e : Int) (w : World) : Calls Tryz.prog 14 #[.int .i64 e] w fun x w' => x = .returned (.int .i64 e) ∧ w' = w := by
  go_enter Tryz.func14, Tryz.ntmps14
  go_wp2
  go_ret
  exact ⟨rfl, rfl⟩
theorem ed_two {Ns : List Nat} (hN : RelB [(0, 1)] 2 Ns) {x y : Nat} (h : EdB Ns 2 x y) : x = 0 ∧ y = 1 := by
  obtain ⟨hx, hy, hb⟩ := h
  rw [hN.bit x y hx hy] at hb
  unfold hasE at hb
  simp at hb
  omega
theorem closure_two {w : World} {ea : Option Addr} (ec : Nat) (hE : PrsB w ea [(0, 1)]) (hT : TabB w) : Calls Tryz.prog 7 #[.int .i64 2, .slice ea 1 ec] w fun e w' => ∃ a c, e = .returned (.tuple #[.slice a 1 c, .int .i64 0]) ∧ Below w.heap.size w w' := by
  have h := closure_any 2 w ea ec [(0, 1)] hE (by simp) hT
  refine h.mono ?_
  rintro e w' ⟨hb, (⟨h1, _⟩ | ⟨k, hk, _, hh⟩)⟩
  · exact absurd h1 (by decide)
  · obtain rfl : k = 2 := by omega
    rcases hh with ⟨h1, _⟩ | ⟨_, v, Ns, Ms, rfl, hN, hM, hp⟩
    · exact absurd h1 (by decide)
    · have e2 : ∀ x y, x < 2 → y < 2 → ((Ns.getD x 0).testBit y = true ↔ x = 0 ∧ y = 1) := fun x y hx hy => ⟨fun q => ed_two hN ⟨hx, hy, q⟩, fun q => by
        rw [hN.bit x y hx hy, q.1, q.2]
        rfl⟩
      have m0 : popB (Ms.getD 0 0) 2 = 1 := by
        have b0 : (Ms.getD 0 0).testBit 0 = false := by
          cases e : (Ms.getD 0 0).testBit 0 with
          | false => rfl
          | true =>
            obtain ⟨y, hy, hyb⟩ := (hM.bit 0 (by decide) 0).1 e
            have := (e2 y 0 (hy.lt (by decide)) (by decide)).1 hyb
            omega
        have b1 : (Ms.getD 0 0).testBit 1 = true := (hM.bit 0 (by decide) 1).2 ⟨0, .refl 0, (e2 0 1 (by decide) (by decide)).2 ⟨rfl, rfl⟩⟩
        show 0 + ((Ms.getD 0 0).testBit 0).toNat + ((Ms.getD 0 0).testBit 1).toNat = 1
        rw [b0, b1]
        rfl
      have m1 : popB (Ms.getD 1 0) 2 = 0 := by
        have bb : ∀ b, b < 2 → (Ms.getD 1 0).testBit b = false := fun b hb2 => by
          cases e : (Ms.getD 1 0).testBit b with
          | false => rfl
          | true =>
            obtain ⟨y, hy, hyb⟩ := (hM.bit 1 (by decide) b).1 e
            have hy1 : y = 1 := hy.fwd (fun u => u = 1) (fun u v hu ed => by
              have := ed_two hN ed
              omega) rfl
            have := (e2 y b (by omega) hb2).1 hyb
            omega
        show 0 + ((Ms.getD 1 0).testBit 0).toNat + ((Ms.getD 1 0).testBit 1).toNat = 0
        rw [bb 0 (by decide), bb 1 (by decide)]
        rfl
      have hl : (prU Ms 2 2).length = 1 := by
        have h0 := prU_pop Ms 2 0
        have h1 := prU_pop Ms 2 1
        have hz : (prU Ms 2 0).length = 0 := by simp [prU]
        rw [m0, hz] at h0
        rw [m1, h0] at h1
        exact h1
      obtain ⟨a, c, rfl, _⟩ := hp.ro.len
      rw [hl]
      exact ⟨a, c, rfl, hb⟩
theorem order_one {w : World} {ea : Option Addr} (ec : Nat) (hE : PrsB w ea [(0, 0)]) (hT : TabB w) : Calls Tryz.prog 11 #[.int .i64 1, .slice ea 1 ec] w fun e w' => ∃ a c, e = .returned (.tuple #[.slice none 0 0, .slice a 1 c, .int .i64 73]) ∧ Below w.heap.size w w' := by
  have h := order_any 1 w ea ec [(0, 0)] hE (by simp) hT
  refine h.mono ?_
  rintro e w' ⟨hb, (⟨h1, _⟩ | ⟨k, hk, _, hh⟩)⟩
  · exact absurd h1 (by decide)
  · obtain rfl : k = 1 := by omega
    rcases hh with ⟨h1, _⟩ | ⟨_, Ns, hN, hor⟩
    · exact absurd h1 (by decide)
    · have e0 : EdB Ns 1 0 0 := ⟨by decide, by decide, by rw [hN.bit 0 0 (by decide) (by decide)]; rfl⟩
      rcases hor with ⟨hfull, _⟩ | ⟨_, v, Cy, rfl, hl, hc⟩
      · exfalso
        obtain ⟨P, hP, _⟩ := place_is Ns 1
        cases hp : placeU Ns 1 with
        | nil => rw [hp] at hfull; simp at hfull
        | cons x l =>
          have hx := hP.lt x (by rw [hp]; exact List.mem_cons_self)
          obtain rfl : x = 0 := by omega
          have := hP.od [] 0 l (by rw [hp]; rfl) 0 e0
          cases this
      · obtain ⟨a, c, rfl⟩ := il_lenB hl.il
        have h1 := hc.pos
        have h2 := hc.le
        have h3 : Cy.length = 1 := by omega
        rw [h3]
        exact ⟨a, c, rfl, hb⟩
theorem prs_one (w : World) (x y : Int) : PrsB (w.alloc (.cells #[.int .i64 x, .int .i64 y] 82)) (some ⟨w.heap.size, 0, none⟩) [(x, y)] := fun _ => ⟨w.heap.size, 0, rfl, by simp, fun i hi => by
  have : i = 0 := by simp at hi; omega
  subst this
  exact ⟨(cellq_any (heap_alloc_new w _)).trans rfl, (cellq_any (heap_alloc_new w _)).trans rfl⟩⟩
set_option maxRecDepth 100000 in
set_option maxHeartbeats 8000000 in
theorem alive_SB {w : World} (hT : TabB w) : Calls Tryz.prog 18 #[] w fun e w' => e = .returned (.bool true) ∧ Below w.heap.size w w' := by
  have HT : Hid (TabB w) := hT
  have NS : Hid (Calls Tryz.prog 49 #[.int .i64 9] w fun e w' => e = .returned (.tuple #[.pointer (some ⟨w.heap.size + 1, 0, none⟩), .int .i64 0]) ∧ SB w' w.heap.size 9 0 ∧ Below w.heap.size w w') := newset_SB 9 (by decide) w
  have NU : Hid (∀ (e : Int) (w : World), Calls Tryz.prog 14 #[.int .i64 e] w fun x w' => x = .returned (.int .i64 e) ∧ w' = w) := num_SB
  have A8 : Hid (∀ w1, SB w1 w.heap.size 9 0 → Below w.heap.size w w1 → Calls Tryz.prog 50 #[.pointer (some ⟨w.heap.size + 1, 0, none⟩), .int .i64 8] w1 fun e w' => e = .returned (.bool true) ∧ SB w' w.heap.size 9 256 ∧ Below w.heap.size w w') := fun w1 s1 b1 => (add_SB s1 8).mono fun e w' ⟨q1, q2, q3⟩ => ⟨q1, q2, q3.below b1 b1.size (fun j hj => by have h2 : j = w.heap.size := hj; omega)⟩
  have A9 : Hid (∀ w1, SB w1 w.heap.size 9 256 → Below w.heap.size w w1 → Calls Tryz.prog 50 #[.pointer (some ⟨w.heap.size + 1, 0, none⟩), .int .i64 9] w1 fun e w' => e = .returned (.bool false) ∧ SB w' w.heap.size 9 256 ∧ Below w.heap.size w w') := fun w1 s1 b1 => (add_SB s1 9).mono fun e w' ⟨q1, q2, q3⟩ => ⟨q1, q2, q3.below b1 b1.size (fun j hj => by have h2 : j = w.heap.size := hj; omega)⟩
  have CL : Hid (∀ w1 : World, Below w.heap.size w w1 → Calls Tryz.prog 7 #[.int .i64 2, .slice (some ⟨w1.heap.size, 0, none⟩) 1 1] (w1.alloc (.cells #[.int .i64 0, .int .i64 1] 82)) fun e w' => ∃ a c, e = .returned (.tuple #[.slice a 1 c, .int .i64 0]) ∧ Below w1.heap.size w1 w') := fun w1 b1 => (closure_two 1 (prs_one w1 0 1) ((HT.out.later b1).later (below_alloc _ _))).mono fun e w' ⟨a, c, q1, q2⟩ => ⟨a, c, q1, (below_alloc w1 _).trans (q2.mono (below_alloc w1 _).size)⟩
  have OR : Hid (∀ w1 : World, Below w.heap.size w w1 → Calls Tryz.prog 11 #[.int .i64 1, .slice (some ⟨w1.heap.size, 0, none⟩) 1 1] (w1.alloc (.cells #[.int .i64 0, .int .i64 0] 82)) fun e w' => ∃ a c, e = .returned (.tuple #[.slice none 0 0, .slice a 1 c, .int .i64 73]) ∧ Below w1.heap.size w1 w') := fun w1 b1 => (order_one 1 (prs_one w1 0 0) ((HT.out.later b1).later (below_alloc _ _))).mono fun e w' ⟨a, c, q1, q2⟩ => ⟨a, c, q1, (below_alloc w1 _).trans (q2.mono (below_alloc w1 _).size)⟩
  have HA : Hid (∀ w1, SB w1 w.heap.size 9 256 → Calls Tryz.prog 51 #[.pointer (some ⟨w.heap.size + 1, 0, none⟩), .int .i64 8] w1 fun e w' => e = .returned (.bool true) ∧ Below w1.heap.size w1 w') := fun w1 s1 => has_yes s1 8 (by decide)
  have CO : Hid (∀ w1, SB w1 w.heap.size 9 256 → Calls Tryz.prog 52 #[.pointer (some ⟨w.heap.size + 1, 0, none⟩)] w1 fun e w' => e = .returned (.int .i64 1) ∧ w' = w1) := fun w1 s1 => count_SB s1
  clear hT
  go_enter Tryz.func18, Tryz.ntmps18
  go_wp2_with (first
    | (go_at_call 49; refine NS.out.mono ?_; rintro e w1 ⟨rfl, s1, b1⟩; have W1 : Hid (SB w1 w.heap.size 9 0 ∧ Below w.heap.size w w1) := ⟨s1, b1⟩; clear s1 b1)
    | (go_at_call 14; refine (NU.out _ _).mono ?_; rintro e w9 ⟨rfl, hz⟩; rw [hz]; clear hz w9)
    | (go_at_call 50; refine (A8.out _ W1.out.1 W1.out.2).mono ?_))
  rintro e w2 ⟨rfl, s2, b2⟩
  have W2 : Hid (SB w2 w.heap.size 9 256 ∧ Below w.heap.size w w2) := ⟨s2, b2⟩
  clear s2 b2 W1 NS A8
  go_wp2_with (go_at_call 50; refine (A9.out _ W2.out.1 W2.out.2).mono ?_)
  rintro e w3 ⟨rfl, s3, b3⟩
  have W3 : Hid (SB w3 w.heap.size 9 256 ∧ Below w.heap.size w w3) := ⟨s3, b3⟩
  clear s3 b3 W2 A9
  go_wp2_with (go_at_call 7; refine (CL.out _ W3.out.2).mono ?_)
  rintro e w4 ⟨a4, c4, rfl, b4⟩
  have W4 : Hid (SB w4 w.heap.size 9 256 ∧ Below w.heap.size w w4) := ⟨W3.out.1.later b4, W3.out.2.trans (b4.mono W3.out.2.size)⟩
  clear b4 W3 CL
  go_wp2_with (go_at_call 11; refine (OR.out _ W4.out.2).mono ?_)
  rintro e w5 ⟨a5, c5, rfl, b5⟩
  have W5 : Hid (SB w5 w.heap.size 9 256 ∧ Below w.heap.size w w5) := ⟨W4.out.1.later b5, W4.out.2.trans (b5.mono W4.out.2.size)⟩
  clear b5 W4 OR
  go_wp2_with (first
    | (go_at_call 14; refine (NU.out _ _).mono ?_; rintro e w9 ⟨rfl, hz⟩; rw [hz]; clear hz w9)
    | (go_at_call 51; refine (HA.out _ W5.out.1).mono ?_; rintro e w6 ⟨rfl, b6⟩; have W6 : Hid (SB w6 w.heap.size 9 256 ∧ Below w.heap.size w w6) := ⟨W5.out.1.later b6, W5.out.2.trans (b6.mono W5.out.2.size)⟩; clear b6)
    | (go_at_call 52; refine (CO.out _ W6.out.1).mono ?_; rintro e w9 ⟨rfl, hz⟩; rw [hz]; clear hz w9))
  go_ret
  exact ⟨rfl, W6.out.2⟩
end Go.Proofs.YtcgghlaifmlpiaaGreatDoor
